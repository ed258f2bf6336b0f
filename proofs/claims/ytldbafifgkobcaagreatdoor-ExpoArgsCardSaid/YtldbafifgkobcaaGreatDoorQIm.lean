/-
 Contract of the statements' own same of layer 5, at this translation. Condition: the slices read as limbs, the table of math/bits reads as its text lays it.
-/
import Derived.Test.YtldbafifgkobcaaGreatDoorQIi
import Derived.Test.YtldbafifgkobcaaGreatDoorQRc
set_option maxHeartbeats 8000000
set_option maxRecDepth 100000
namespace Go.Proofs.YtldbafifgkobcaaGreatDoor
open Go.RowKit

theorem rmayi_any {w : World} {K : Nat} {x : Iv} {A1 : Option Addr} {n1 c1 : Nat} {A2 : Option Addr} {n2 c2 : Nat} (hK : 4194304 ≤ K) (h1 : Rd w .u64 Go.Proofs.YtldbafifgkobcaaGreatDoor.W A1 n1 c1 x.lo.l) (h2 : Rd w .u64 Go.Proofs.YtldbafifgkobcaaGreatDoor.W A2 n2 c2 x.hi.l) :
  Calls Tryz.prog 18 #[.agg #[.bool x.lo.s, .slice A1 n1 c1, .int .i64 x.lo.e, .bool x.hi.s, .slice A2 n2 c2, .int .i64 x.hi.e]] w (Bools (mayI K x) w) := by
 have BB := below_alloc w (.cells #[.bool x.lo.s, .slice A1 n1 c1, .int .i64 x.lo.e, .bool x.hi.s, .slice A2 n2 c2, .int .i64 x.hi.e] 33)
 obtain ⟨a0, a1, a2, a3, a4, a5⟩ := (Ibx.new w x.lo.s A1 n1 c1 x.lo.e x.hi.s A2 n2 c2 x.hi.e).held
 have G := mv BB rfl <| And.intro h1 <| h2
 clear h1 h2
 obtain ⟨h1, h2⟩ := G
 obtain ⟨p1, hp1⟩ : ∃ p, p = x.lo.may := ⟨_, rfl⟩
 obtain ⟨p2, hp2⟩ : ∃ p, p = x.hi.may := ⟨_, rfl⟩
 obtain ⟨p3, hp3⟩ : ∃ p, p = decide (cmpQ K x.lo x.hi ≤ 0) := ⟨_, rfl⟩
 have HP1 := Lib.hid hp1
 have HP2 := Lib.hid hp2
 have HP3 := Lib.hid hp3
 unfold mayI
 rw [← hp1, ← hp2, ← hp3]
 clear hp1 hp2 hp3
 go_enter Tryz.func18, Tryz.ntmps18
 go_wp2_with fail
 refine (rmayd_any (s := x.lo.s) (e := x.lo.e) h1).mono ?_
 rintro en w1 ⟨rfl, b⟩
 have e1 : mayD x.lo.s x.lo.l x.lo.e = p1 := HP1.out.symm
 rw [e1]
 clear e1 HP1
 replace BB := bnx BB b
 have G := mv b rfl (J8 a0 a1 a2 a3 a4 a5 h1 h2)
 clear b a0 a1 a2 a3 a4 a5 h1 h2
 obtain ⟨a0, a1, a2, a3, a4, a5, h1, h2⟩ := G
 cases p1
 ·go_wp2
  go_ret
  exact ⟨by first | rfl | simp, BB⟩
 go_wp2_with fail
 refine (rmayd_any (s := x.hi.s) (e := x.hi.e) h2).mono ?_
 rintro en w2 ⟨rfl, b⟩
 have e1 : mayD x.hi.s x.hi.l x.hi.e = p2 := HP2.out.symm
 rw [e1]
 clear e1 HP2
 replace BB := bnx BB b
 have G := mv b rfl (J8 a0 a1 a2 a3 a4 a5 h1 h2)
 clear b a0 a1 a2 a3 a4 a5 h1 h2
 obtain ⟨a0, a1, a2, a3, a4, a5, h1, h2⟩ := G
 cases p2
 ·go_wp2
  go_ret
  exact ⟨by first | rfl | simp, BB⟩
 go_wp2_with fail
 refine (rcmpd_raw (K := K) (s1 := x.lo.s) (e1 := x.lo.e) (s2 := x.hi.s) (e2 := x.hi.e) hK h1 h2).mono ?_
 rintro en w3 ⟨rfl, b⟩
 replace BB := bnx BB b
 have G := mv b rfl (J8 a0 a1 a2 a3 a4 a5 h1 h2)
 clear b a0 a1 a2 a3 a4 a5 h1 h2
 obtain ⟨a0, a1, a2, a3, a4, a5, h1, h2⟩ := G
 have e1 : cmpR K x.lo.s x.lo.l x.lo.e x.hi.s x.hi.l x.hi.e = cmpQ K x.lo x.hi := rfl
 rw [e1]
 clear e1
 generalize cmpQ K x.lo x.hi = z at HP3
 have f1 : decide (z ≤ 0) = p3 := HP3.out.symm
 clear HP3
 go_wp2
 go_ret
 exact ⟨by first | rfl | simp, BB⟩

end Go.Proofs.YtldbafifgkobcaaGreatDoor

namespace Go.Proofs.YtldbafifgkobcaaGreatDoor
open Go.RowKit

end Go.Proofs.YtldbafifgkobcaaGreatDoor

namespace Go.Proofs.YtldbafifgkobcaaGreatDoor
open Go.RowKit

end Go.Proofs.YtldbafifgkobcaaGreatDoor
