/-
 Contract of round's check, at this translation: it panics as ErrArg just if a number of bits or one of the Dyads may not be. Condition: the slices read as limbs, the table of math/bits reads as its text lays it.
-/
import Derived.Test.YteagjlcmgiknmaaGreatDoorQDy3
import Derived.Test.YteagjlcmgiknmaaGreatDoorQRb
import Derived.Test.YteagjlcmgiknmaaGreatDoorQRd
import Derived.Test.YteagjlcmgiknmaaGreatDoorQRo
set_option maxHeartbeats 1000000
set_option maxRecDepth 100000
namespace Go.Proofs.YteagjlcmgiknmaaGreatDoor
open Go.RowKit

/-- the Dyads that a slice holds -/
structure Dys (w : World) (g k : Nat) (S : Nat → Bool) (A : Nat → Option Addr) (N C : Nat → Nat) (E : Nat → Int) (L : Nat → List Nat) : Prop where
 c0 : ∀ i, i < k → w.cell? ⟨g, i * 3, none⟩ = some (.bool (S i))
 c1 : ∀ i, i < k → w.cell? ⟨g, i * 3 + 1, none⟩ = some (.slice (A i) (N i) (C i))
 c2 : ∀ i, i < k → w.cell? ⟨g, i * 3 + 2, none⟩ = some (.int .i64 (E i))
 rd : ∀ i, i < k → Rd w .u64 W (A i) (N i) (C i) (L i)
theorem Dys.next {w X w2 : World} {g k : Nat} {S : Nat → Bool} {A : Nat → Option Addr} {N C : Nat → Nat} {E : Nat → Int} {L : Nat → List Nat} (h : Dys w g k S A N C E L) (b : Below X.heap.size X w2) (e : X.heap = w.heap) : Dys w2 g k S A N C E L := by
 have key : ∀ (x : Addr) (v : Value), w.cell? x = some v → w2.cell? x = some v := fun x v h => by
  have h1 : X.cell? x = some v := by rw [← h]; unfold World.cell?; rw [e]
  exact (b.cell (World.block_lt_of_cell? X _ h1)).trans h1
 exact ⟨fun i hi => key _ _ (h.c0 i hi), fun i hi => key _ _ (h.c1 i hi), fun i hi => key _ _ (h.c2 i hi), fun i hi => (h.rd i hi).next b e⟩

theorem check_all {w : World} {g k p : Nat} {S : Nat → Bool} {A : Nat → Option Addr} {N C : Nat → Nat} {E : Nat → Int} {L : Nat → List Nat} (hT : Tab w) (h : Dys w g k S A N C E L) (hk : k ≤ 1000) (hp : 1 ≤ p) (hp' : p ≤ 2000) (hd : ∀ i, i < k → mayD (S i) (L i) (E i) = true) :
  Calls Tryz.prog 139 #[.int .i64 (p : Int), .slice (some ⟨g, 0, none⟩) k k] w fun en w' => en = .returned (.tuple #[]) ∧ Below w.heap.size w w' := by
 have d1 : decide ((p : Int) < 1) = false := decide_eq_false (by omega)
 have d2 : decide ((2000 : Int) < (p : Int)) = false := decide_eq_false (by omega)
 have HD := Lib.hid hd
 clear hd
 go_enter Tryz.func139, Tryz.ntmps139
 go_wp2
 go_loopg [15] k (fun q v wr => ∃ i : Nat, i + q = k ∧ v = .int .i64 i ∧ Below w.heap.size w wr)
 case atStart => exact ⟨0, by omega, rfl, Below.refl _ _⟩
 case round =>
  obtain ⟨i, hg, rfl, hb⟩ := hrel
  have HG := Lib.hid hg
  clear hg
  by_cases hi : i < k
  ·have h1 := h.next hb rfl
   have hT1 := hT.next hb rfl
   have r0 := h1.c0 i hi
   have r1 := h1.c1 i hi
   have r2 := h1.c2 i hi
   have hr := h1.rd i hi
   have HM := Lib.hid (HD.out i hi)
   generalize S i = s at *
   generalize A i = B at *
   generalize N i = n at *
   generalize C i = c at *
   generalize E i = e at *
   generalize L i = l at *
   have hp2 : (i : Int) < k := by omega
   have hp3 : (0 : Int) ≤ i := by omega
   have b1 := below_alloc wr (.cells #[.bool s, .slice B n c, .int .i64 e] 25)
   obtain ⟨z0, z1, z2⟩ := (Box.new wr s B n c e).held
   replace hr := hr.next b1 rfl
   replace hT1 := hT1.next b1 rfl
   clear h1 HD
   go_wp2_with fail
   refine (dmay_any (s := s) (e := e) hT1 hr).mono ?_
   rintro en w2 ⟨rfl, b⟩
   rw [HM.out]
   have hb2 := below_next (below_next hb hb.size b1 rfl rfl rfl rfl) (by have := hb.size; have := b1.size; omega) b rfl rfl rfl rfl
   clear b r0 r1 r2 z0 z1 z2 hr hT1 b1 HM
   go_wp2
   go_roundg (gk - 1)
   case measure => have := HG.out; omega
   case rel => exact ⟨i + 1, by have := HG.out; omega, by go_num, hb2⟩
  ·have : i = k := by have := HG.out; omega
   subst this
   go_wp2
   simp [bodyPost, results, Tryz.results139, hb]
theorem check_some {w : World} {g k p : Nat} {S : Nat → Bool} {A : Nat → Option Addr} {N C : Nat → Nat} {E : Nat → Int} {L : Nat → List Nat} (hT : Tab w) (h : Dys w g k S A N C E L) (hk : k ≤ 1000) (hp : 1 ≤ p) (hp' : p ≤ 2000) {j : Nat} (hj : j < k) (hd : ∀ i, i < j → mayD (S i) (L i) (E i) = true) (hd' : mayD (S j) (L j) (E j) = false) :
  Calls Tryz.prog 139 #[.int .i64 (p : Int), .slice (some ⟨g, 0, none⟩) k k] w (Faults 1 w) := by
 have d1 : decide ((p : Int) < 1) = false := decide_eq_false (by omega)
 have d2 : decide ((2000 : Int) < (p : Int)) = false := decide_eq_false (by omega)
 have HD := Lib.hid hd
 have HD' := Lib.hid hd'
 clear hd hd'
 go_enter Tryz.func139, Tryz.ntmps139
 go_wp2
 go_loopg [15] k (fun q v wr => ∃ i : Nat, i + q = k ∧ i ≤ j ∧ v = .int .i64 i ∧ Below w.heap.size w wr)
 case atStart => exact ⟨0, by omega, by omega, rfl, Below.refl _ _⟩
 case round =>
  obtain ⟨i, hg, hij, rfl, hb⟩ := hrel
  have HG := Lib.hid (And.intro hg hij)
  clear hg hij
  have hi : i < k := by have := HG.out; omega
  by_cases hij : i < j
  ·have h1 := h.next hb rfl
   have hT1 := hT.next hb rfl
   have r0 := h1.c0 i hi
   have r1 := h1.c1 i hi
   have r2 := h1.c2 i hi
   have hr := h1.rd i hi
   have HM := Lib.hid (HD.out i hij)
   generalize S i = s at *
   generalize A i = B at *
   generalize N i = n at *
   generalize C i = c at *
   generalize E i = e at *
   generalize L i = l at *
   have hp2 : (i : Int) < k := by omega
   have hp3 : (0 : Int) ≤ i := by omega
   have b1 := below_alloc wr (.cells #[.bool s, .slice B n c, .int .i64 e] 25)
   obtain ⟨z0, z1, z2⟩ := (Box.new wr s B n c e).held
   replace hr := hr.next b1 rfl
   replace hT1 := hT1.next b1 rfl
   clear h1 HD HD'
   go_wp2_with fail
   refine (dmay_any (s := s) (e := e) hT1 hr).mono ?_
   rintro en w2 ⟨rfl, b⟩
   rw [HM.out]
   have hb2 := below_next (below_next hb hb.size b1 rfl rfl rfl rfl) (by have := hb.size; have := b1.size; omega) b rfl rfl rfl rfl
   clear b r0 r1 r2 z0 z1 z2 hr hT1 b1 HM
   go_wp2
   go_roundg (gk - 1)
   case measure => have := HG.out; omega
   case rel => exact ⟨i + 1, by have := HG.out; omega, by have := HG.out; omega, by go_num, hb2⟩
  ·obtain rfl : i = j := by have := HG.out; omega
   have h1 := h.next hb rfl
   have hT1 := hT.next hb rfl
   have r0 := h1.c0 i hi
   have r1 := h1.c1 i hi
   have r2 := h1.c2 i hi
   have hr := h1.rd i hi
   have HM := Lib.hid HD'.out
   generalize S i = s at *
   generalize A i = B at *
   generalize N i = n at *
   generalize C i = c at *
   generalize E i = e at *
   generalize L i = l at *
   have hp2 : (i : Int) < k := by omega
   have hp3 : (0 : Int) ≤ i := by omega
   have b1 := below_alloc wr (.cells #[.bool s, .slice B n c, .int .i64 e] 25)
   obtain ⟨z0, z1, z2⟩ := (Box.new wr s B n c e).held
   replace hr := hr.next b1 rfl
   replace hT1 := hT1.next b1 rfl
   clear h1 HD HD'
   go_wp2_with fail
   refine (dmay_any (s := s) (e := e) hT1 hr).mono ?_
   rintro en w2 ⟨rfl, b⟩
   rw [HM.out]
   have hb2 := below_next (below_next hb hb.size b1 rfl rfl rfl rfl) (by have := hb.size; have := b1.size; omega) b rfl rfl rfl rfl
   clear b r0 r1 r2 z0 z1 z2 hr hT1 b1 HM
   go_wp2
   exact ⟨rfl, rfl, hb2⟩
theorem check_p {w : World} {g k : Nat} {p : Int} (hp : p < 1 ∨ 2000 < p) :
  Calls Tryz.prog 139 #[.int .i64 p, .slice (some ⟨g, 0, none⟩) k k] w (Faults 1 w) := by
 by_cases h : p < 1
 ·have d1 : decide (p < 1) = true := decide_eq_true h
  clear hp
  go_enter Tryz.func139, Tryz.ntmps139
  go_wp2
  exact ⟨rfl, rfl, Below.refl _ _⟩
 ·have d1 : decide (p < 1) = false := decide_eq_false h
  have d2 : decide ((2000 : Int) < p) = true := decide_eq_true (by omega)
  clear hp
  go_enter Tryz.func139, Tryz.ntmps139
  go_wp2
  exact ⟨rfl, rfl, Below.refl _ _⟩
end Go.Proofs.YteagjlcmgiknmaaGreatDoor
set_option maxHeartbeats 8000000
set_option maxRecDepth 100000
namespace Go.Proofs.YteagjlcmgiknmaaGreatDoor
open Go.RowKit

theorem dys_one {w : World} {g : Nat} {s : Bool} {A : Option Addr} {n c : Nat} {e : Int} {l : List Nat} (h : Box w g s A n c e) (hr : Rd w .u64 W A n c l) : Dys w g 1 (fun _ => s) (fun _ => A) (fun _ => n) (fun _ => c) (fun _ => e) (fun _ => l) :=
 ⟨fun i hi => by obtain rfl : i = 0 := by omega
                 exact h.c0,
  fun i hi => by obtain rfl : i = 0 := by omega
                 exact h.c1,
  fun i hi => by obtain rfl : i = 0 := by omega
                 exact h.c2, fun _ _ => hr⟩
theorem dys_two {w : World} {s1 s2 : Bool} {A1 A2 : Option Addr} {n1 c1 n2 c2 : Nat} {e1 e2 : Int} {l1 l2 : List Nat} (h1 : Rd w .u64 W A1 n1 c1 l1) (h2 : Rd w .u64 W A2 n2 c2 l2) :
  Dys (w.alloc (.cells #[.bool s1, .slice A1 n1 c1, .int .i64 e1, .bool s2, .slice A2 n2 c2, .int .i64 e2] 25)) w.heap.size 2 (fun i => if i = 0 then s1 else s2) (fun i => if i = 0 then A1 else A2) (fun i => if i = 0 then n1 else n2) (fun i => if i = 0 then c1 else c2) (fun i => if i = 0 then e1 else e2) (fun i => if i = 0 then l1 else l2) := by
 have b := below_alloc w (.cells #[.bool s1, .slice A1 n1 c1, .int .i64 e1, .bool s2, .slice A2 n2 c2, .int .i64 e2] 25)
 refine ⟨fun i hi => ?_, fun i hi => ?_, fun i hi => ?_, fun i hi => ?_⟩
 all_goals
  rcases (show i = 0 ∨ i = 1 by omega) with rfl | rfl
 ·exact new_cell w _ _ 0
 ·exact new_cell w _ _ 3
 ·exact new_cell w _ _ 1
 ·exact new_cell w _ _ 4
 ·exact new_cell w _ _ 2
 ·exact new_cell w _ _ 5
 ·exact h1.next b rfl
 ·exact h2.next b rfl
/-- what is told of a number rounded to p bits -/
def RdTold (s : Bool) (x : Nat) (e : Int) (p : Nat) (up : Bool) : Int → Bool → Nat → Int → Prop := Nm s (rdN p x (up != s)) e
theorem rd_told {s : Bool} {x : Nat} {e : Int} {p : Nat} {u : Bool} {k : Int} {s' : Bool} {m' : Nat} {e' : Int} (he : -1048576 ≤ e) (h : Nm s (cutR p x false u) (e + ((blen x - p : Nat) : Int)) k s' m' e') : Nm s (rdN p x u) e k s' m' e' := by
 obtain ⟨K, hK⟩ := scale_has
 rw [cutR_false] at h
 refine nm_congr (K := K) (by omega) (by omega) ?_ h
 rw [vz_up (by omega)]
 rfl

theorem rounded_ok {w : World} {x p : Nat} {up : Bool} {A1 : Option Addr} {n1 c1 : Nat} {s1 : Bool} {e1 : Int} (hT : Tab w) (h1 : Nt w A1 n1 c1 x) (hd : OkD s1 x e1) (hp1 : 1 ≤ p) (hp : p ≤ 2000) :
  Calls Tryz.prog 109 #[.agg #[.bool s1, .slice A1 n1 c1, .int .i64 e1], .int .i64 (p : Int), .bool up] w (Ran (RdTold s1 x e1 p up) w) := by
 have re := okd_ge (K := 4194304) (Nat.le_refl _) hd
 have r1 := re.1
 have r2 := re.2.1
 have O1 := Lib.hid hd
 clear re hd
 have BB := two_below w (.cells #[.bool s1, .slice A1 n1 c1, .int .i64 e1] 25) (.cells #[.bool false, .slice none 0 0, .int .i64 0] 25)
 obtain ⟨a10, a11, a12⟩ := ((Box.new w s1 A1 n1 c1 e1).alloc (.cells #[.bool false, .slice none 0 0, .int .i64 0] 25)).held
 have r := box_one w (.cells #[.bool s1, .slice A1 n1 c1, .int .i64 e1] 25) false none 0 0 0
 have G := mv BB rfl <| And.intro h1 <| hT
 clear h1 hT
 obtain ⟨h1, hT⟩ := G
 go_enter Tryz.func109, Tryz.ntmps109
 go_wp2_with fail
 have xs := box_two w (.cells #[.bool s1, .slice A1 n1 c1, .int .i64 e1] 25) (.cells #[.bool false, .slice none 0 0, .int .i64 0] 25) s1 A1 n1 c1 e1
 have b := below_alloc ((w.alloc (.cells #[.bool s1, .slice A1 n1 c1, .int .i64 e1] 25)).alloc (.cells #[.bool false, .slice none 0 0, .int .i64 0] 25)) (.cells #[.bool s1, .slice A1 n1 c1, .int .i64 e1] 25)
 replace BB := bnx BB b
 have G := mv b rfl (J6 a10 a11 a12 h1 hT r)
 clear b a10 a11 a12 h1 hT r
 obtain ⟨a10, a11, a12, h1, hT, r⟩ := G
 refine (check_all hT (dys_one xs h1.rd) (by omega) hp1 hp (fun _ _ => mayD_ok O1.out)).mono ?_
 rintro en w1 ⟨rfl, b⟩
 clear xs
 replace BB := bnx BB b
 have G := mv b rfl (J6 a10 a11 a12 h1 hT r)
 clear b a10 a11 a12 h1 hT r
 obtain ⟨a10, a11, a12, h1, hT, r⟩ := G
 go_wp2_with fail
 refine (cut_any (p := p) (x := x) (rest := false) (neg := s1) (up := up) (e := e1) hT h1 hp (by omega) (by omega)).mono ?_
 rintro en w2 (⟨s3, A3, n3, c3, m3, e3, rfl, hP, h3, b⟩ | ⟨k, rfl, hk, hP, b⟩)
 ·have HP := Lib.hid (rd_told r1 hP)
  clear hP
  replace BB := bnx BB b
  replace r := mv b rfl r
  clear b
  obtain ⟨f0, f1, f2⟩ := r.open
  obtain ⟨z0, z1, z2⟩ := r.held
  go_wp2
  have q := r.put s3 A3 n3 c3 e3
  have hN := h3.put3 r (.bool s3) (.slice A3 n3 c3) (.int .i64 e3)
  have HB3 := below_put3 (g := w.heap.size + 1) BB (by omega) (.bool s3) (.slice A3 n3 c3) (.int .i64 e3)
  obtain ⟨z0, z1, z2⟩ := q.held
  exact bodyPost_ret (v := .agg #[.bool s3, .slice A3 n3 c3, .int .i64 e3]) (by simp [results, Tryz.results109, go_sem, z0, z1, z2]) rfl (.inl ⟨_, _, _, _, _, _, rfl, HP.out, hN, HB3⟩)
 ·have HP := Lib.hid (rd_told r1 hP)
  have HK := Lib.hid hk
  replace BB := bnx BB b
  clear b hP hk
  go_wp2
  exact ⟨rfl, .inr ⟨k, rfl, HK.out, HP.out, BB⟩⟩

theorem check_no {w : World} {g : Nat} {p : Int} {s : Bool} {A : Option Addr} {n c : Nat} {e : Int} {l : List Nat} (hT : Tab w) (h : Dys w g 1 (fun _ => s) (fun _ => A) (fun _ => n) (fun _ => c) (fun _ => e) (fun _ => l)) (hd : p < 1 ∨ 2000 < p ∨ mayD s l e = false) :
  Calls Tryz.prog 139 #[.int .i64 p, .slice (some ⟨g, 0, none⟩) 1 1] w (Faults 1 w) := by
 by_cases hp : p < 1 ∨ 2000 < p
 ·exact check_p (k := 1) hp
 ·obtain ⟨q, rfl⟩ := Int.eq_ofNat_of_zero_le (show 0 ≤ p by omega)
  have hm : mayD s l e = false := by rcases hd with h1 | h1 | h1 <;> first | exact h1 | (exfalso; omega)
  exact check_some hT h (by omega) (by omega) (by omega) (j := 0) (by omega) (fun i hi => absurd hi (by omega)) hm

theorem rounded_no {w : World} {p : Int} {up : Bool} {l1 : List Nat} {A1 : Option Addr} {n1 c1 : Nat} {s1 : Bool} {e1 : Int} (hT : Tab w) (h1 : Rd w .u64 W A1 n1 c1 l1) (hd : p < 1 ∨ 2000 < p ∨ mayD s1 l1 e1 = false) :
  Calls Tryz.prog 109 #[.agg #[.bool s1, .slice A1 n1 c1, .int .i64 e1], .int .i64 p, .bool up] w (Faults 1 w) := by
 have BB := three_below w (.cells #[.bool s1, .slice A1 n1 c1, .int .i64 e1] 25) (.cells #[.bool false, .slice none 0 0, .int .i64 0] 25) (.cells #[.bool s1, .slice A1 n1 c1, .int .i64 e1] 25)
 have xs := box_two w (.cells #[.bool s1, .slice A1 n1 c1, .int .i64 e1] 25) (.cells #[.bool false, .slice none 0 0, .int .i64 0] 25) s1 A1 n1 c1 e1
 have G := mv BB rfl <| And.intro h1 <| hT
 clear h1 hT
 obtain ⟨h1, hT⟩ := G
 have hc := fun W2 : World => fun b : Below W2.heap.size W2 W2 => b
 clear hc
 have HC := Lib.hid (check_no hT (dys_one xs h1) hd)
 clear hd
 go_enter Tryz.func109, Tryz.ntmps109
 go_wp2_with fail
 refine HC.out.mono ?_
 rintro en w1 ⟨rfl, b⟩
 replace BB := bnx BB b
 clear b h1 hT xs HC
 go_wp2
 exact ⟨rfl, rfl, BB⟩

theorem down1_any {P : Int → Bool → Nat → Int → Prop} {w : World} {v : Nat} {p : Int} {A1 : Option Addr} {n1 c1 : Nat} {s1 : Bool} {e1 : Int} (g : Box w v s1 A1 n1 c1 e1) (gp : Cel w (v + 1) p)
  (hc : ∀ W2 : World, Below w.heap.size w W2 → Calls Tryz.prog 109 #[.agg #[.bool s1, .slice A1 n1 c1, .int .i64 e1], .int .i64 p, .bool false] W2 (Ran P W2)) :
  Calls Tryz.prog 110 #[.pointer (some ⟨v, 0, none⟩), .pointer (some ⟨v + 1, 0, none⟩)] w (Ran P w) := by
 have BB := below_alloc w (.cells #[.bool false, .slice none 0 0, .int .i64 0] 25)
 obtain ⟨a10, a11, a12⟩ := (g.alloc (.cells #[.bool false, .slice none 0 0, .int .i64 0] 25)).held
 have p0 := (gp.alloc (.cells #[.bool false, .slice none 0 0, .int .i64 0] 25)).c0
 have r := Box.new w false none 0 0 0
 have vl := gp.gl
 have HC := Lib.hid hc
 clear hc g gp
 go_enter Tryz.func110, Tryz.ntmps110
 go_wp2_with fail
 refine (HC.out _ BB).mono ?_
 rintro en w2 (⟨s3, A3, n3, c3, m3, e3, rfl, hP, h3, b⟩ | ⟨k, rfl, hk, hP, b⟩)
 ·have HP := Lib.hid hP
  clear hP HC a10 a11 a12 p0
  replace BB := bnx BB b
  replace r := mv b rfl r
  clear b
  obtain ⟨f0, f1, f2⟩ := r.open
  obtain ⟨z0, z1, z2⟩ := r.held
  go_wp2
  have q := r.put s3 A3 n3 c3 e3
  have hN := h3.put3 r (.bool s3) (.slice A3 n3 c3) (.int .i64 e3)
  have HB3 := below_put3 (g := w.heap.size) BB (by omega) (.bool s3) (.slice A3 n3 c3) (.int .i64 e3)
  obtain ⟨z0, z1, z2⟩ := q.held
  exact bodyPost_ret (v := .agg #[.bool s3, .slice A3 n3 c3, .int .i64 e3]) (by simp [results, Tryz.results110, go_sem, z0, z1, z2]) rfl (.inl ⟨_, _, _, _, _, _, rfl, HP.out, hN, HB3⟩)
 ·have HP := Lib.hid hP
  have HK := Lib.hid hk
  replace BB := bnx BB b
  clear b hP hk HC
  go_wp2
  exact ⟨rfl, .inr ⟨k, rfl, HK.out, HP.out, BB⟩⟩

theorem face_down {P : Int → Bool → Nat → Int → Prop} {w : World} {A : Option Addr} {n c : Nat} {s : Bool} {e p : Int}
  (hc : ∀ W2 : World, Below w.heap.size w W2 → Box W2 w.heap.size s A n c e → Cel W2 (w.heap.size + 1) p → Calls Tryz.prog 110 #[.pointer (some ⟨w.heap.size, 0, none⟩), .pointer (some ⟨w.heap.size + 1, 0, none⟩)] W2 (Ran P W2)) :
  Calls Tryz.prog 78 #[.agg #[.bool s, .slice A n c, .int .i64 e], .int .i64 p] w (Tells P w) := by
 have HC := Lib.hid hc
 clear hc
 have hmf := make_func
 have BB := three_below w (.cells #[.bool s, .slice A n c, .int .i64 e] 25) (.cells #[.int .i64 p] 3) (.cells #[.bool false, .slice none 0 0, .int .i64 0] 25)
 have g := ((Box.new w s A n c e).alloc (.cells #[.int .i64 p] 3)).alloc (.cells #[.bool false, .slice none 0 0, .int .i64 0] 25)
 have gp := (Cel.new1 w (.cells #[.bool s, .slice A n c, .int .i64 e] 25) p).alloc (.cells #[.bool false, .slice none 0 0, .int .i64 0] 25)
 have r := box_two w (.cells #[.bool s, .slice A n c, .int .i64 e] 25) (.cells #[.int .i64 p] 3) false none 0 0 0
 go_enter Tryz.func78, Tryz.ntmps78
 go_wp2_with fail
 refine (told_any2 (P := P) (fun _ => by kernel_rfl) (fun W2 h2 => ?_)).mono ?_
 ·subst h2
  exact HC.out _ four_below ((g.alloc _).alloc _) ((gp.alloc _).alloc _)
 rintro en w5 ⟨k, s', A5, n5, c5, m', e', rfl, hP, h5, b⟩
 have HP := Lib.hid hP
 replace r := r.next b rfl
 replace BB := bnx BB b
 obtain ⟨f0, f1, f2⟩ := r.open
 obtain ⟨z0, z1, z2⟩ := r.held
 clear b hP g gp HC
 go_wp2
 have q := r.put s' A5 n5 c5 e'
 have hN5 := h5.put3 r (.bool s') (.slice A5 n5 c5) (.int .i64 e')
 have HB3 := below_put3 (g := w.heap.size + 2) BB (by omega) (.bool s') (.slice A5 n5 c5) (.int .i64 e')
 obtain ⟨z0, z1, z2⟩ := q.held
 exact bodyPost_ret (v := .tuple #[.agg #[.bool s', .slice A5 n5 c5, .int .i64 e'], .int .i64 k]) (by simp [results, Tryz.results78, go_sem, z0, z1, z2]) rfl ⟨_, _, _, _, _, _, _, rfl, HP.out, hN5, HB3⟩
theorem rdown_ok {w : World} {x p : Nat} {A1 : Option Addr} {n1 c1 : Nat} {s1 : Bool} {e1 : Int} (hT : Tab w) (h1 : Nt w A1 n1 c1 x) (hd : OkD s1 x e1) (hp1 : 1 ≤ p) (hp : p ≤ 2000) :
  Calls Tryz.prog 78 #[.agg #[.bool s1, .slice A1 n1 c1, .int .i64 e1], .int .i64 (p : Int)] w (Tells (RdTold s1 x e1 p false) w) :=
 face_down fun _ b g gp => down1_any g gp fun _ b2 => rounded_ok ((hT.below b).below b2) ((h1.below b).below b2) hd hp1 hp
theorem rdown_no {w : World} {p : Int} {l1 : List Nat} {A1 : Option Addr} {n1 c1 : Nat} {s1 : Bool} {e1 : Int} (hT : Tab w) (h1 : Rd w .u64 W A1 n1 c1 l1) (hd : p < 1 ∨ 2000 < p ∨ mayD s1 l1 e1 = false) :
  Calls Tryz.prog 78 #[.agg #[.bool s1, .slice A1 n1 c1, .int .i64 e1], .int .i64 p] w (Tells Wrong w) :=
 face_down fun _ b g gp => down1_any g gp fun _ b2 => (rounded_no ((hT.below b).below b2) ((h1.below b).below b2) hd).mono fun _ _ hg => ran_fault hg (by decide) ⟨rfl, rfl, rfl, rfl⟩

theorem up1_any {P : Int → Bool → Nat → Int → Prop} {w : World} {v : Nat} {p : Int} {A1 : Option Addr} {n1 c1 : Nat} {s1 : Bool} {e1 : Int} (g : Box w v s1 A1 n1 c1 e1) (gp : Cel w (v + 1) p)
  (hc : ∀ W2 : World, Below w.heap.size w W2 → Calls Tryz.prog 109 #[.agg #[.bool s1, .slice A1 n1 c1, .int .i64 e1], .int .i64 p, .bool true] W2 (Ran P W2)) :
  Calls Tryz.prog 108 #[.pointer (some ⟨v, 0, none⟩), .pointer (some ⟨v + 1, 0, none⟩)] w (Ran P w) := by
 have BB := below_alloc w (.cells #[.bool false, .slice none 0 0, .int .i64 0] 25)
 obtain ⟨a10, a11, a12⟩ := (g.alloc (.cells #[.bool false, .slice none 0 0, .int .i64 0] 25)).held
 have p0 := (gp.alloc (.cells #[.bool false, .slice none 0 0, .int .i64 0] 25)).c0
 have r := Box.new w false none 0 0 0
 have vl := gp.gl
 have HC := Lib.hid hc
 clear hc g gp
 go_enter Tryz.func108, Tryz.ntmps108
 go_wp2_with fail
 refine (HC.out _ BB).mono ?_
 rintro en w2 (⟨s3, A3, n3, c3, m3, e3, rfl, hP, h3, b⟩ | ⟨k, rfl, hk, hP, b⟩)
 ·have HP := Lib.hid hP
  clear hP HC a10 a11 a12 p0
  replace BB := bnx BB b
  replace r := mv b rfl r
  clear b
  obtain ⟨f0, f1, f2⟩ := r.open
  obtain ⟨z0, z1, z2⟩ := r.held
  go_wp2
  have q := r.put s3 A3 n3 c3 e3
  have hN := h3.put3 r (.bool s3) (.slice A3 n3 c3) (.int .i64 e3)
  have HB3 := below_put3 (g := w.heap.size) BB (by omega) (.bool s3) (.slice A3 n3 c3) (.int .i64 e3)
  obtain ⟨z0, z1, z2⟩ := q.held
  exact bodyPost_ret (v := .agg #[.bool s3, .slice A3 n3 c3, .int .i64 e3]) (by simp [results, Tryz.results108, go_sem, z0, z1, z2]) rfl (.inl ⟨_, _, _, _, _, _, rfl, HP.out, hN, HB3⟩)
 ·have HP := Lib.hid hP
  have HK := Lib.hid hk
  replace BB := bnx BB b
  clear b hP hk HC
  go_wp2
  exact ⟨rfl, .inr ⟨k, rfl, HK.out, HP.out, BB⟩⟩

theorem face_up {P : Int → Bool → Nat → Int → Prop} {w : World} {A : Option Addr} {n c : Nat} {s : Bool} {e p : Int}
  (hc : ∀ W2 : World, Below w.heap.size w W2 → Box W2 w.heap.size s A n c e → Cel W2 (w.heap.size + 1) p → Calls Tryz.prog 108 #[.pointer (some ⟨w.heap.size, 0, none⟩), .pointer (some ⟨w.heap.size + 1, 0, none⟩)] W2 (Ran P W2)) :
  Calls Tryz.prog 77 #[.agg #[.bool s, .slice A n c, .int .i64 e], .int .i64 p] w (Tells P w) := by
 have HC := Lib.hid hc
 clear hc
 have hmf := make_func
 have BB := three_below w (.cells #[.bool s, .slice A n c, .int .i64 e] 25) (.cells #[.int .i64 p] 3) (.cells #[.bool false, .slice none 0 0, .int .i64 0] 25)
 have g := ((Box.new w s A n c e).alloc (.cells #[.int .i64 p] 3)).alloc (.cells #[.bool false, .slice none 0 0, .int .i64 0] 25)
 have gp := (Cel.new1 w (.cells #[.bool s, .slice A n c, .int .i64 e] 25) p).alloc (.cells #[.bool false, .slice none 0 0, .int .i64 0] 25)
 have r := box_two w (.cells #[.bool s, .slice A n c, .int .i64 e] 25) (.cells #[.int .i64 p] 3) false none 0 0 0
 go_enter Tryz.func77, Tryz.ntmps77
 go_wp2_with fail
 refine (told_any2 (P := P) (fun _ => by kernel_rfl) (fun W2 h2 => ?_)).mono ?_
 ·subst h2
  exact HC.out _ four_below ((g.alloc _).alloc _) ((gp.alloc _).alloc _)
 rintro en w5 ⟨k, s', A5, n5, c5, m', e', rfl, hP, h5, b⟩
 have HP := Lib.hid hP
 replace r := r.next b rfl
 replace BB := bnx BB b
 obtain ⟨f0, f1, f2⟩ := r.open
 obtain ⟨z0, z1, z2⟩ := r.held
 clear b hP g gp HC
 go_wp2
 have q := r.put s' A5 n5 c5 e'
 have hN5 := h5.put3 r (.bool s') (.slice A5 n5 c5) (.int .i64 e')
 have HB3 := below_put3 (g := w.heap.size + 2) BB (by omega) (.bool s') (.slice A5 n5 c5) (.int .i64 e')
 obtain ⟨z0, z1, z2⟩ := q.held
 exact bodyPost_ret (v := .tuple #[.agg #[.bool s', .slice A5 n5 c5, .int .i64 e'], .int .i64 k]) (by simp [results, Tryz.results77, go_sem, z0, z1, z2]) rfl ⟨_, _, _, _, _, _, _, rfl, HP.out, hN5, HB3⟩
theorem rup_ok {w : World} {x p : Nat} {A1 : Option Addr} {n1 c1 : Nat} {s1 : Bool} {e1 : Int} (hT : Tab w) (h1 : Nt w A1 n1 c1 x) (hd : OkD s1 x e1) (hp1 : 1 ≤ p) (hp : p ≤ 2000) :
  Calls Tryz.prog 77 #[.agg #[.bool s1, .slice A1 n1 c1, .int .i64 e1], .int .i64 (p : Int)] w (Tells (RdTold s1 x e1 p true) w) :=
 face_up fun _ b g gp => up1_any g gp fun _ b2 => rounded_ok ((hT.below b).below b2) ((h1.below b).below b2) hd hp1 hp
theorem rup_no {w : World} {p : Int} {l1 : List Nat} {A1 : Option Addr} {n1 c1 : Nat} {s1 : Bool} {e1 : Int} (hT : Tab w) (h1 : Rd w .u64 W A1 n1 c1 l1) (hd : p < 1 ∨ 2000 < p ∨ mayD s1 l1 e1 = false) :
  Calls Tryz.prog 77 #[.agg #[.bool s1, .slice A1 n1 c1, .int .i64 e1], .int .i64 p] w (Tells Wrong w) :=
 face_up fun _ b g gp => up1_any g gp fun _ b2 => (rounded_no ((hT.below b).below b2) ((h1.below b).below b2) hd).mono fun _ _ hg => ran_fault hg (by decide) ⟨rfl, rfl, rfl, rfl⟩

end Go.Proofs.YteagjlcmgiknmaaGreatDoor
namespace Go.Proofs.YteagjlcmgiknmaaGreatDoor
open Go.RowKit

theorem sign_is {w : World} {A : Option Addr} {n c m : Nat} {s : Bool} {e z : Int} (hT : Tab w) (h : Nt w A n c m) (hd : OkD s m e) (hz : signD s m = z) :
  Calls Tryz.prog 34 #[.agg #[.bool s, .slice A n c, .int .i64 e]] w (Ints z w) := by
 have := sign_ok hT h hd
 rwa [hz] at this
end Go.Proofs.YteagjlcmgiknmaaGreatDoor
namespace Go.Proofs.YteagjlcmgiknmaaGreatDoor
open Go.RowKit

theorem Dg.heap32 {w w2 : World} {A : Option Addr} {n c x : Nat} (h : Dg w A n c x) (e : w2.heap = w.heap) : Dg w2 A n c x := Rd.next' h e

end Go.Proofs.YteagjlcmgiknmaaGreatDoor
namespace Go.Proofs.YteagjlcmgiknmaaGreatDoor
open Go.RowKit

/-- what is told of any two, raw ones too -/
def sameB (s t : Bool) (l r : List Nat) (e f : Int) : Bool := decide (s = t ∧ e = f ∧ l = r)
def cmpR (K : Nat) (s : Bool) (l : List Nat) (e : Int) (t : Bool) (r : List Nat) (f : Int) : Int := if mayD s l e = true ∧ mayD t r f = true then cmpV (vz K s (val Go.Proofs.YteagjlcmgiknmaaGreatDoor.W l) e) (vz K t (val Go.Proofs.YteagjlcmgiknmaaGreatDoor.W r) f) else 0
def addR (K : Nat) (s : Bool) (l : List Nat) (e : Int) (t : Bool) (r : List Nat) (f : Int) : Int → Bool → Nat → Int → Prop := if mayD s l e = true ∧ mayD t r f = true then NmV K (vz K s (val Go.Proofs.YteagjlcmgiknmaaGreatDoor.W l) e + vz K t (val Go.Proofs.YteagjlcmgiknmaaGreatDoor.W r) f) else Wrong
def mulR (s : Bool) (l : List Nat) (e : Int) (t : Bool) (r : List Nat) (f : Int) : Int → Bool → Nat → Int → Prop := if mayD s l e = true ∧ mayD t r f = true then Nm (s != t) (val Go.Proofs.YteagjlcmgiknmaaGreatDoor.W l * val Go.Proofs.YteagjlcmgiknmaaGreatDoor.W r) (e + f) else Wrong
theorem wrong_fun {k k2 : Int} {s1 s2 : Bool} {m1 m2 : Nat} {e1 e2 : Int} (h : Wrong k s1 m1 e1) (h' : Wrong k2 s2 m2 e2) : k = k2 ∧ s1 = s2 ∧ m1 = m2 ∧ e1 = e2 := by
 obtain ⟨rfl, rfl, rfl, rfl⟩ := h
 obtain ⟨rfl, rfl, rfl, rfl⟩ := h'
 exact ⟨rfl, rfl, rfl, rfl⟩
theorem addR_fun {K : Nat} {s : Bool} {l : List Nat} {e : Int} {t : Bool} {r : List Nat} {f k k2 : Int} {s1 s2 : Bool} {m1 m2 : Nat} {e1 e2 : Int} (h : addR K s l e t r f k s1 m1 e1) (h' : addR K s l e t r f k2 s2 m2 e2) : k = k2 ∧ s1 = s2 ∧ m1 = m2 ∧ e1 = e2 := by
 unfold addR at h h'
 split at h
 ·rw [if_pos (by assumption)] at h'; exact nmv_fun h h'
 ·rw [if_neg (by assumption)] at h'; exact wrong_fun h h'
theorem mulR_fun {s : Bool} {l : List Nat} {e : Int} {t : Bool} {r : List Nat} {f k k2 : Int} {s1 s2 : Bool} {m1 m2 : Nat} {e1 e2 : Int} (h : mulR s l e t r f k s1 m1 e1) (h' : mulR s l e t r f k2 s2 m2 e2) : k = k2 ∧ s1 = s2 ∧ m1 = m2 ∧ e1 = e2 := by
 unfold mulR at h h'
 split at h
 ·rw [if_pos (by assumption)] at h'; exact nm_fun h h'
 ·rw [if_neg (by assumption)] at h'; exact wrong_fun h h'
/-- the reading of a slice whose Dyad may be -/
theorem rd_okd {w : World} {A1 : Option Addr} {n1 c1 : Nat} {l1 : List Nat} {s1 : Bool} {e1 : Int} (h1 : Rd w .u64 Go.Proofs.YteagjlcmgiknmaaGreatDoor.W A1 n1 c1 l1) (hd : mayD s1 l1 e1 = true) : Nt w A1 n1 c1 (val Go.Proofs.YteagjlcmgiknmaaGreatDoor.W l1) ∧ OkD s1 (val Go.Proofs.YteagjlcmgiknmaaGreatDoor.W l1) e1 ∧ dig Go.Proofs.YteagjlcmgiknmaaGreatDoor.W (val Go.Proofs.YteagjlcmgiknmaaGreatDoor.W l1) = l1 := by
 obtain ⟨hm, hok⟩ := mayD_of h1.lt hd
 obtain ⟨hN, hC, _⟩ := nt_of h1 hm
 refine ⟨hN, hok, ?_⟩
 have h2 := hN.rd
 have h3 : (dig Go.Proofs.YteagjlcmgiknmaaGreatDoor.W (val Go.Proofs.YteagjlcmgiknmaaGreatDoor.W l1)) = l1 := dig_val W_two hC
 exact h3
theorem dsame_raw {w : World} {A B : Option Addr} {n c m d : Nat} {l r : List Nat} {s t : Bool} {e f : Int} (h : Rd w .u64 Go.Proofs.YteagjlcmgiknmaaGreatDoor.W A n c l) (h' : Rd w .u64 Go.Proofs.YteagjlcmgiknmaaGreatDoor.W B m d r) :
  Calls Tryz.prog 138 #[.agg #[.bool s, .slice A n c, .int .i64 e], .agg #[.bool t, .slice B m d, .int .i64 f]] w fun en w' => en = .returned (.bool (sameB s t l r e f)) ∧ Below w.heap.size w w' := by
 by_cases h1 : s = t ∧ e = f
 ·obtain ⟨rfl, rfl⟩ := h1
  rw [show sameB s s l r e e = decide (l = r) from decide_eq_decide.2 ⟨fun h => h.2.2, fun h => ⟨rfl, rfl, h⟩⟩]
  exact dsame_eq h h'
 ·rw [show sameB s t l r e f = false from decide_eq_false fun h => h1 ⟨h.1, h.2.1⟩]
  refine dsame_no ?_
  by_cases h2 : s = t
  ·exact .inr fun h3 => h1 ⟨h2, h3⟩
  ·exact .inl h2
end Go.Proofs.YteagjlcmgiknmaaGreatDoor
set_option maxHeartbeats 8000000
set_option maxRecDepth 100000
namespace Go.Proofs.YteagjlcmgiknmaaGreatDoor
open Go.RowKit

theorem dcmp_no {w : World} {A1 : Option Addr} {n1 c1 : Nat} {l1 : List Nat} {s1 : Bool} {e1 : Int} {A2 : Option Addr} {n2 c2 : Nat} {l2 : List Nat} {s2 : Bool} {e2 : Int} (hT : Tab w) (h1 : Rd w .u64 Go.Proofs.YteagjlcmgiknmaaGreatDoor.W A1 n1 c1 l1) (h2 : Rd w .u64 Go.Proofs.YteagjlcmgiknmaaGreatDoor.W A2 n2 c2 l2) (hd : ¬ (mayD s1 l1 e1 = true ∧ mayD s2 l2 e2 = true)) :
  Calls Tryz.prog 11 #[.agg #[.bool s1, .slice A1 n1 c1, .int .i64 e1], .agg #[.bool s2, .slice A2 n2 c2, .int .i64 e2]] w (Ints 0 w) := by
 have BB := two_below w (.cells #[.bool s1, .slice A1 n1 c1, .int .i64 e1] 25) (.cells #[.bool s2, .slice A2 n2 c2, .int .i64 e2] 25)
 obtain ⟨a10, a11, a12, a20, a21, a22⟩ := (two_new w s1 s2 A1 A2 n1 c1 n2 c2 e1 e2).held
 have G := mv BB rfl (J3 hT h1 h2)
 clear hT h1 h2
 obtain ⟨hT, h1, h2⟩ := G
 have HD := Lib.hid hd
 clear hd
 go_enter Tryz.func11, Tryz.ntmps11
 go_wp2_with fail
 refine (dmay_any (s := s1) (e := e1) hT h1).mono ?_
 rintro en w1 ⟨rfl, b⟩
 replace BB := bnx BB b
 have G := mv b rfl (J9 a10 a11 a12 a20 a21 a22 hT h1 h2)
 clear b a10 a11 a12 a20 a21 a22 hT h1 h2
 obtain ⟨a10, a11, a12, a20, a21, a22, hT, h1, h2⟩ := G
 cases q1 : mayD s1 l1 e1
 ·clear q1
  go_wp2
  go_ret
  exact ⟨rfl, BB⟩
 go_wp2_with fail
 refine (dmay_any (s := s2) (e := e2) hT h2).mono ?_
 rintro en w2 ⟨rfl, b⟩
 replace BB := bnx BB b
 have G := mv b rfl (J9 a10 a11 a12 a20 a21 a22 hT h1 h2)
 clear b a10 a11 a12 a20 a21 a22 hT h1 h2
 obtain ⟨a10, a11, a12, a20, a21, a22, hT, h1, h2⟩ := G
 have q2 : mayD s2 l2 e2 = false := by
  cases q : mayD s2 l2 e2
  ·rfl
  ·exact absurd ⟨q1, q⟩ HD.out
 rw [q2]
 clear q1 q2
 go_wp2
 go_ret
 exact ⟨rfl, BB⟩

theorem dcmp_raw {w : World} {K : Nat} {A1 : Option Addr} {n1 c1 : Nat} {l1 : List Nat} {s1 : Bool} {e1 : Int} {A2 : Option Addr} {n2 c2 : Nat} {l2 : List Nat} {s2 : Bool} {e2 : Int} (hK : 4194304 ≤ K) (hT : Tab w) (h1 : Rd w .u64 Go.Proofs.YteagjlcmgiknmaaGreatDoor.W A1 n1 c1 l1) (h2 : Rd w .u64 Go.Proofs.YteagjlcmgiknmaaGreatDoor.W A2 n2 c2 l2) :
  Calls Tryz.prog 11 #[.agg #[.bool s1, .slice A1 n1 c1, .int .i64 e1], .agg #[.bool s2, .slice A2 n2 c2, .int .i64 e2]] w (Ints (cmpR K s1 l1 e1 s2 l2 e2) w) := by
 unfold cmpR
 by_cases hd : mayD s1 l1 e1 = true ∧ mayD s2 l2 e2 = true
 ·rw [if_pos hd]
  obtain ⟨hN, hok, _⟩ := rd_okd h1 hd.1
  obtain ⟨hN', hok', _⟩ := rd_okd h2 hd.2
  exact dcmp_ok hK hT hN hN' hok hok'
 ·rw [if_neg hd]
  exact dcmp_no hT h1 h2 hd
theorem dadd_raw {w : World} {K : Nat} {A1 : Option Addr} {n1 c1 : Nat} {l1 : List Nat} {s1 : Bool} {e1 : Int} {A2 : Option Addr} {n2 c2 : Nat} {l2 : List Nat} {s2 : Bool} {e2 : Int} (hK : 4194304 ≤ K) (hT : Tab w) (h1 : Rd w .u64 Go.Proofs.YteagjlcmgiknmaaGreatDoor.W A1 n1 c1 l1) (h2 : Rd w .u64 Go.Proofs.YteagjlcmgiknmaaGreatDoor.W A2 n2 c2 l2) :
  Calls Tryz.prog 162 #[.agg #[.bool s1, .slice A1 n1 c1, .int .i64 e1], .agg #[.bool s2, .slice A2 n2 c2, .int .i64 e2]] w (Tells (addR K s1 l1 e1 s2 l2 e2) w) := by
 unfold addR
 by_cases hd : mayD s1 l1 e1 = true ∧ mayD s2 l2 e2 = true
 ·rw [if_pos hd]
  obtain ⟨hN, hok, _⟩ := rd_okd h1 hd.1
  obtain ⟨hN', hok', _⟩ := rd_okd h2 hd.2
  exact dadd_ok hK hT hN hN' hok hok'
 ·rw [if_neg hd]
  exact dadd_no hT h1 h2 (by cases q : mayD s1 l1 e1 <;> cases q' : mayD s2 l2 e2 <;> first | rfl | exact absurd ⟨q, q'⟩ hd)
theorem dmul_raw {w : World} {A1 : Option Addr} {n1 c1 : Nat} {l1 : List Nat} {s1 : Bool} {e1 : Int} {A2 : Option Addr} {n2 c2 : Nat} {l2 : List Nat} {s2 : Bool} {e2 : Int} (hT : Tab w) (h1 : Rd w .u64 Go.Proofs.YteagjlcmgiknmaaGreatDoor.W A1 n1 c1 l1) (h2 : Rd w .u64 Go.Proofs.YteagjlcmgiknmaaGreatDoor.W A2 n2 c2 l2) :
  Calls Tryz.prog 9 #[.agg #[.bool s1, .slice A1 n1 c1, .int .i64 e1], .agg #[.bool s2, .slice A2 n2 c2, .int .i64 e2]] w (Tells (mulR s1 l1 e1 s2 l2 e2) w) := by
 unfold mulR
 by_cases hd : mayD s1 l1 e1 = true ∧ mayD s2 l2 e2 = true
 ·rw [if_pos hd]
  obtain ⟨hN, hok, _⟩ := rd_okd h1 hd.1
  obtain ⟨hN', hok', _⟩ := rd_okd h2 hd.2
  exact dmul_ok hT hN hN' hok hok'
 ·rw [if_neg hd]
  exact dmul_no hT h1 h2 (by cases q : mayD s1 l1 e1 <;> cases q' : mayD s2 l2 e2 <;> first | rfl | exact absurd ⟨q, q'⟩ hd)
end Go.Proofs.YteagjlcmgiknmaaGreatDoor
