/-
  Contracts of ival's Width and Mid with an answer that is known, and of the statements' own Few and same, at this translation. Condition: the slices read as limbs, the table of math/bits reads as its text lays it.
-/
import Derived.Test.YtkpcmgfpmekkjaaDoorQIi
import Derived.Test.YtkpcmgfpmekkjaaDoorQRj
namespace Go.Proofs.YtkpcmgfpmekkjaaDoor
open Go.RowKit

/-- a known answer -/
def IsD (s : Bool) (m : Nat) (e : Int) (k' : Int) (s' : Bool) (m' : Nat) (e' : Int) : Prop := k' = 0 ∧ s' = s ∧ m' = m ∧ e' = e
def Rw.of (s : Bool) (m : Nat) (e : Int) : Rw := ⟨s, dig Go.Proofs.YtkpcmgfpmekkjaaDoor.W m, e, (can_dig W_two m).1⟩
theorem Rw.of_may {s : Bool} {m : Nat} {e : Int} (h : OkD s m e) : (Rw.of s m e).may = true := mayD_ok h
theorem Rw.of_v {K : Nat} {s : Bool} {m : Nat} {e : Int} : (Rw.of s m e).v K = vz K s m e := by
  unfold Rw.of Rw.v
  rw [val_dig W_two]
theorem okd_1 : OkD false 1 0 := okd_small rfl (by omega) (by decide) (by decide)
theorem okd_3 : OkD false 3 0 := okd_small rfl (by omega) (by decide) (by decide)
/-- 1, 3, and the interval from 1 to 3 -/
def q1 : Rw := Rw.of false 1 0
def q3 : Rw := Rw.of false 3 0
theorem q1_may : q1.may = true := Rw.of_may okd_1
theorem q3_may : q3.may = true := Rw.of_may okd_3
theorem told_is' {f : FuncId} {args : Array Value} {P : Int → Bool → Nat → Int → Prop} {w : World} {s : Bool} {m : Nat} {e k : Int} (h : Calls Tryd.prog f args w (Tells P w)) (hP : ∀ k1 s1 m1 e1, P k1 s1 m1 e1 → k1 = k ∧ s1 = s ∧ m1 = m ∧ e1 = e) : Calls Tryd.prog f args w (ToldIs s m e k w) := h.mono fun _ _ h => told_is h hP

set_option maxRecDepth 100000 in
set_option maxHeartbeats 8000000 in
theorem half_ok {w : World} {A1 : Option Addr} {n1 c1 m : Nat} {s : Bool} {e : Int} (hT : Tab w) (h1 : Nt w A1 n1 c1 m) (hd : OkD s m e) (hx : m ≠ 0) (he : -1048576 ≤ -1 + e) (he' : -1 + e ≤ 1048576) :
    Calls Tryd.prog 62 #[.agg #[.bool s, .slice A1 n1 c1, .int .i64 e]] w (Goods s m (-1 + e) w) := by
  have BB := two_below w (.cells #[.bool s, .slice A1 n1 c1, .int .i64 e] 28) (.cells #[.bool false, .slice none 0 0, .int .i64 0] 28)
  obtain ⟨a10, a11, a12⟩ := ((Box.new w s A1 n1 c1 e).alloc (.cells #[.bool false, .slice none 0 0, .int .i64 0] 28)).held
  have r := box_one w (.cells #[.bool s, .slice A1 n1 c1, .int .i64 e] 28) false none 0 0 0
  have G := mv BB rfl <| And.intro hT <| h1
  clear hT h1
  obtain ⟨hT, h1⟩ := G
  have HD := Lib.hid hd
  have HX := Lib.hid hx
  have HE := Lib.hid (And.intro he he')
  clear hd hx he he'
  go_enter Tryd.func62, Tryd.ntmps62
  go_wp2_with fail
  refine (told_is' (dshift_ok (p := -1) hT h1 HD.out) (fun k s' m' e' hs => by
    rcases hs with ⟨h, _⟩ | ⟨_, _, h1, h2, h3, h4⟩ | ⟨_, h, _⟩
    · exact absurd h HX.out
    · exact ⟨h1, h2, h3, h4⟩
    · exact absurd (And.intro HE.out.1 HE.out.2) h)).mono ?_
  rintro en w1 ⟨A3, n3, c3, rfl, h3, b⟩
  clear h1
  replace BB := bnx BB b rfl rfl rfl rfl
  have G := mv b rfl (J5 a10 a11 a12 hT r)
  clear b a10 a11 a12 hT r
  obtain ⟨a10, a11, a12, hT, r⟩ := G
  go_wp2_with fail
  refine (must_ok h3).mono ?_
  rintro en w2 ⟨A5, n5, c5, rfl, h5, b⟩
  clear h3
  replace BB := bnx BB b rfl rfl rfl rfl
  have G := mv b rfl (J5 a10 a11 a12 hT r)
  clear b a10 a11 a12 hT r
  obtain ⟨a10, a11, a12, hT, r⟩ := G
  obtain ⟨f0, f1, f2⟩ := r.open
  obtain ⟨z0, z1, z2⟩ := r.held
  go_wp2
  have qq := r.put s A5 n5 c5 (-1 + e)
  have hN := h5.put3 r (.bool s) (.slice A5 n5 c5) (.int .i64 (-1 + e))
  have HB3 := below_put3 (g := w.heap.size + 1) BB (by omega) (.bool s) (.slice A5 n5 c5) (.int .i64 (-1 + e))
  obtain ⟨z0, z1, z2⟩ := qq.held
  exact bodyPost_ret (v := .agg #[.bool s, .slice A5 n5 c5, .int .i64 (-1 + e)]) (by simp [results, Tryd.results62, go_sem, z0, z1, z2]) rfl ⟨_, _, _, rfl, hN, HB3⟩

set_option maxRecDepth 100000 in
set_option maxHeartbeats 8000000 in
theorem mid1_is {w : World} {K g : Nat} {x : Iv} {A1 : Option Addr} {n1 c1 : Nat} {A2 : Option Addr} {n2 c2 : Nat} {s0 : Bool} {m0 : Nat} {e0 : Int} (hK : 4194304 ≤ K) (hT : Tab w) (h1 : Rd w .u64 Go.Proofs.YtkpcmgfpmekkjaaDoor.W A1 n1 c1 x.lo.l) (h2 : Rd w .u64 Go.Proofs.YtkpcmgfpmekkjaaDoor.W A2 n2 c2 x.hi.l) (hm : mayI K x = true) (xa : Ibx w g x.lo.s A1 n1 c1 x.lo.e x.hi.s A2 n2 c2 x.hi.e) {e1 : Int} (hs : ∀ k s m e, addR K x.lo.s x.lo.l x.lo.e x.hi.s x.hi.l x.hi.e k s m e → k = 0 ∧ s = s0 ∧ m = m0 ∧ e = e1) (hd : OkD s0 m0 e1) (hx : m0 ≠ 0) (he0 : -1 + e1 = e0) (he : -1048576 ≤ e0) (he' : e0 ≤ 1048576) :
    Calls Tryd.prog 58 #[.pointer (some ⟨g, 0, none⟩)] w (Ran (IsD s0 m0 e0) w) := by
  have HD := Lib.hid hd
  have HX := Lib.hid hx
  have HE := Lib.hid (And.intro he0 <| And.intro he he')
  clear hd hx he0 he he'
  have BB := below_alloc w (.cells #[.bool false, .slice none 0 0, .int .i64 0] 28)
  have la := xa.gl
  have r := Box.new w false none 0 0 0
  have G := mv BB rfl (J4 hT h1 h2 xa)
  clear hT h1 h2 xa
  obtain ⟨hT, h1, h2, xa⟩ := G
  obtain ⟨a0, a1, a2, a3, a4, a5⟩ := xa.held
  have rw1 := rows_one (w := (w.alloc (.cells #[.bool false, .slice none 0 0, .int .i64 0] 28))) (g := w.heap.size + 1) (by simp) h1 h2
  have b := below_alloc (w.alloc (.cells #[.bool false, .slice none 0 0, .int .i64 0] 28)) (.cells #[.bool x.lo.s, .slice A1 n1 c1, .int .i64 x.lo.e, .bool x.hi.s, .slice A2 n2 c2, .int .i64 x.hi.e] 35)
  replace BB := bnx BB b rfl rfl rfl rfl
  have G := mv b rfl (J5 hT h1 h2 xa r)
  clear b hT h1 h2 xa r
  obtain ⟨hT, h1, h2, xa, r⟩ := G
  have HM := Lib.hid hm
  have HK := Lib.hid hK
  have HS := Lib.hid hs
  clear hm hK hs
  go_enter Tryd.func58, Tryd.ntmps58
  go_wp2_with fail
  refine (icheck_all HK.out hT rw1 (by omega) (one_may.2 HM.out)).mono ?_
  rintro en w1 ⟨rfl, b⟩
  clear rw1
  clear a0 a1 a2 a3 a4 a5
  replace BB := bnx BB b rfl rfl rfl rfl
  have G := mv b rfl (J5 hT h1 h2 xa r)
  clear b hT h1 h2 xa r
  obtain ⟨hT, h1, h2, xa, r⟩ := G
  obtain ⟨a0, a1, a2, a3, a4, a5⟩ := xa.held
  clear xa HM
  go_wp2_with fail
  refine (told_is' (dadd_raw (K := K) (s1 := x.lo.s) (e1 := x.lo.e) (s2 := x.hi.s) (e2 := x.hi.e) HK.out hT h1 h2) HS.out).mono ?_
  rintro en w2 ⟨A3, n3, c3, rfl, h3, b⟩
  clear h1 h2
  replace BB := bnx BB b rfl rfl rfl rfl
  have G := mv b rfl (J8 hT r a0 a1 a2 a3 a4 a5)
  clear b hT r a0 a1 a2 a3 a4 a5
  obtain ⟨hT, r, a0, a1, a2, a3, a4, a5⟩ := G
  clear HK HS
  obtain ⟨b0, b1, b2⟩ := (Box.new w2 s0 A3 n3 c3 e1).held
  have b := below_alloc w2 (.cells #[.bool s0, .slice A3 n3 c3, .int .i64 e1] 28)
  replace BB := bnx BB b rfl rfl rfl rfl
  have G := mv b rfl (J9 hT r a0 a1 a2 a3 a4 a5 h3)
  clear b hT r a0 a1 a2 a3 a4 a5 h3
  obtain ⟨hT, r, a0, a1, a2, a3, a4, a5, h3⟩ := G
  go_wp2_with fail
  refine (must_ok h3).mono ?_
  rintro en w3 ⟨A4, n4, c4, rfl, h4, b⟩
  clear h3
  replace BB := bnx BB b rfl rfl rfl rfl
  have G := mv b rfl (J11 hT r a0 a1 a2 a3 a4 a5 b0 b1 b2)
  clear b hT r a0 a1 a2 a3 a4 a5 b0 b1 b2
  obtain ⟨hT, r, a0, a1, a2, a3, a4, a5, b0, b1, b2⟩ := G
  go_wp2_with fail
  refine (half_ok hT h4 HD.out HX.out (by rw [HE.out.1]; exact HE.out.2.1) (by rw [HE.out.1]; exact HE.out.2.2)).mono ?_
  rintro en w4 ⟨A5, n5, c5, rfl, h5, b⟩
  rw [HE.out.1]
  clear h4
  replace BB := bnx BB b rfl rfl rfl rfl
  have G := mv b rfl (J11 hT r a0 a1 a2 a3 a4 a5 b0 b1 b2)
  clear b hT r a0 a1 a2 a3 a4 a5 b0 b1 b2
  obtain ⟨hT, r, a0, a1, a2, a3, a4, a5, b0, b1, b2⟩ := G
  obtain ⟨f0, f1, f2⟩ := r.open
  obtain ⟨z0, z1, z2⟩ := r.held
  go_wp2
  have qq := r.put s0 A5 n5 c5 e0
  have hN := h5.put3 r (.bool s0) (.slice A5 n5 c5) (.int .i64 e0)
  have HB3 := below_put3 (g := w.heap.size) BB (by omega) (.bool s0) (.slice A5 n5 c5) (.int .i64 e0)
  obtain ⟨z0, z1, z2⟩ := qq.held
  exact bodyPost_ret (v := .agg #[.bool s0, .slice A5 n5 c5, .int .i64 e0]) (by simp [results, Tryd.results58, go_sem, z0, z1, z2]) rfl (.inl ⟨_, _, _, _, _, _, rfl, ⟨rfl, rfl, rfl, rfl⟩, hN, HB3⟩)

set_option maxRecDepth 100000 in
set_option maxHeartbeats 8000000 in
theorem imid_is {w : World} {K : Nat} {x : Iv} {A1 : Option Addr} {n1 c1 : Nat} {A2 : Option Addr} {n2 c2 : Nat} {s0 : Bool} {m0 : Nat} {e0 : Int} (hK : 4194304 ≤ K) (hT : Tab w) (h1 : Rd w .u64 Go.Proofs.YtkpcmgfpmekkjaaDoor.W A1 n1 c1 x.lo.l) (h2 : Rd w .u64 Go.Proofs.YtkpcmgfpmekkjaaDoor.W A2 n2 c2 x.hi.l) (hm : mayI K x = true) {e1 : Int} (hs : ∀ k s m e, addR K x.lo.s x.lo.l x.lo.e x.hi.s x.hi.l x.hi.e k s m e → k = 0 ∧ s = s0 ∧ m = m0 ∧ e = e1) (hd : OkD s0 m0 e1) (hx : m0 ≠ 0) (he0 : -1 + e1 = e0) (he : -1048576 ≤ e0) (he' : e0 ≤ 1048576) :
    Calls Tryd.prog 42 #[.agg #[.bool x.lo.s, .slice A1 n1 c1, .int .i64 x.lo.e, .bool x.hi.s, .slice A2 n2 c2, .int .i64 x.hi.e]] w (ToldIs s0 m0 e0 0 w) := by
  have BB := two_below w (.cells #[.bool x.lo.s, .slice A1 n1 c1, .int .i64 x.lo.e, .bool x.hi.s, .slice A2 n2 c2, .int .i64 x.hi.e] 35) (.cells #[.bool false, .slice none 0 0, .int .i64 0] 28)
  have xa := (Ibx.new w x.lo.s A1 n1 c1 x.lo.e x.hi.s A2 n2 c2 x.hi.e).alloc (.cells #[.bool false, .slice none 0 0, .int .i64 0] 28)
  have r := box_one w (.cells #[.bool x.lo.s, .slice A1 n1 c1, .int .i64 x.lo.e, .bool x.hi.s, .slice A2 n2 c2, .int .i64 x.hi.e] 35) false none 0 0 0
  have hmf := make_func
  have G := mv BB rfl (J3 hT h1 h2)
  clear hT h1 h2
  obtain ⟨hT, h1, h2⟩ := G
  go_enter Tryd.func42, Tryd.ntmps42
  go_wp2_with fail
  refine (told_face (P := IsD s0 m0 e0) (fun _ => by kernel_rfl) (fun W2 hw => ?_)).mono ?_
  · subst hw
    have b2 := two_below ((w.alloc (.cells #[.bool x.lo.s, .slice A1 n1 c1, .int .i64 x.lo.e, .bool x.hi.s, .slice A2 n2 c2, .int .i64 x.hi.e] 35)).alloc (.cells #[.bool false, .slice none 0 0, .int .i64 0] 28)) (.cells #[.bool false, .slice none 0 0, .int .i64 0] 28) (.cells #[.int .i64 0] 3)
    exact mid1_is hK (mv b2 rfl hT) (mv b2 rfl h1) (mv b2 rfl h2) hm (mv b2 rfl xa) hs hd hx he0 he he'
  rintro en w5 ⟨k, s', A5, n5, c5, m', e', rfl, ⟨rfl, rfl, rfl, rfl⟩, h5, b⟩
  clear hT h1 h2 xa
  replace BB := bnx BB b rfl rfl rfl rfl
  replace r := mv b rfl r
  clear b
  obtain ⟨f0, f1, f2⟩ := r.open
  obtain ⟨z0, z1, z2⟩ := r.held
  go_wp2
  have qq := r.put s' A5 n5 c5 e'
  have hN := h5.put3 r (.bool s') (.slice A5 n5 c5) (.int .i64 e')
  have HB3 := below_put3 (g := w.heap.size + 1) BB (by omega) (.bool s') (.slice A5 n5 c5) (.int .i64 e')
  obtain ⟨z0, z1, z2⟩ := qq.held
  exact bodyPost_ret (v := .tuple #[.agg #[.bool s', .slice A5 n5 c5, .int .i64 e'], .int .i64 0]) (by simp [results, Tryd.results42, go_sem, z0, z1, z2]) rfl ⟨_, _, _, rfl, hN, HB3⟩

end Go.Proofs.YtkpcmgfpmekkjaaDoor
