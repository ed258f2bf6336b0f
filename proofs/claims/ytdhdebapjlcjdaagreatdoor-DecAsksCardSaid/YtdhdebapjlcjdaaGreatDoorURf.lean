/-
 Contract of round's check, at this translation: it panics as ErrArg just if a number of bits or one of the Dyads may not be. Condition: the slices read as limbs, the table of math/bits reads as its text lays it.
-/
import Derived.Test.YtdhdebapjlcjdaaGreatDoorUDy3
import Derived.Test.YtdhdebapjlcjdaaGreatDoorURa
import Derived.Test.YtdhdebapjlcjdaaGreatDoorUMv
import Derived.Test.YtdhdebapjlcjdaaGreatDoorURd
set_option maxHeartbeats 1000000
set_option maxRecDepth 100000
namespace Go.Proofs.YtdhdebapjlcjdaaGreatDoor
open Go.RowKit

/-- the Dyads that a slice holds -/
structure Dys (w : World) (g k : Nat) (S : Nat → Bool) (A : Nat → Option Addr) (N C : Nat → Nat) (E : Nat → Int) (L : Nat → List Nat) : Prop where
 c0 : ∀ i, i < k → w.cell? ⟨g, i * 3, none⟩ = some (.bool (S i))
 c1 : ∀ i, i < k → w.cell? ⟨g, i * 3 + 1, none⟩ = some (.slice (A i) (N i) (C i))
 c2 : ∀ i, i < k → w.cell? ⟨g, i * 3 + 2, none⟩ = some (.int .i64 (E i))
 rd : ∀ i, i < k → Rd w .u64 W (A i) (N i) (C i) (L i)
theorem Dys.next {w X w2 : World} {g k : Nat} {S : Nat → Bool} {A : Nat → Option Addr} {N C : Nat → Nat} {E : Nat → Int} {L : Nat → List Nat} (h : Dys w g k S A N C E L) (b : Below X.heap.size X w2) (e : X.heap = w.heap) : Dys w2 g k S A N C E L := by
 have key : ∀ (x : Addr) (v : Value), w.cell? x = some v → w2.cell? x = some v := fun x v h => by
  have h1 : X.cell? x = some v := by rw [← h]; unfold World.cell?; rw [e]
  exact (b.cell (World.block_lt_of_cell? X _ h1)).trans h1
 exact ⟨fun i hi => key _ _ (h.c0 i hi), fun i hi => key _ _ (h.c1 i hi), fun i hi => key _ _ (h.c2 i hi), fun i hi => (h.rd i hi).next b e⟩

theorem check_all {w : World} {g k p : Nat} {S : Nat → Bool} {A : Nat → Option Addr} {N C : Nat → Nat} {E : Nat → Int} {L : Nat → List Nat} (hT : Tab w) (h : Dys w g k S A N C E L) (hk : k ≤ 1000) (hp : 1 ≤ p) (hp' : p ≤ 2000) (hd : ∀ i, i < k → mayD (S i) (L i) (E i) = true) :
  Calls Tryz.prog 59 #[.int .i64 (p : Int), .slice (some ⟨g, 0, none⟩) k k] w fun en w' => en = .returned (.tuple #[]) ∧ Below w.heap.size w w' := by
 have d1 : decide ((p : Int) < 1) = false := decide_eq_false (by omega)
 have d2 : decide ((2000 : Int) < (p : Int)) = false := decide_eq_false (by omega)
 have HD := Lib.hid hd
 clear hd
 go_enter Tryz.func59, Tryz.ntmps59
 go_wp2
 go_loopg [15] k (fun q v wr => ∃ i : Nat, i + q = k ∧ v = .int .i64 i ∧ Below w.heap.size w wr)
 case atStart => exact ⟨0, by omega, rfl, Below.refl _ _⟩
 case round =>
  obtain ⟨i, hg, rfl, hb⟩ := hrel
  have HG := Lib.hid hg
  clear hg
  by_cases hi : i < k
  ·have h1 := h.next hb rfl
   have hT1 := hT.next hb rfl
   have r0 := h1.c0 i hi
   have r1 := h1.c1 i hi
   have r2 := h1.c2 i hi
   have hr := h1.rd i hi
   have HM := Lib.hid (HD.out i hi)
   generalize S i = s at *
   generalize A i = B at *
   generalize N i = n at *
   generalize C i = c at *
   generalize E i = e at *
   generalize L i = l at *
   have hp2 : (i : Int) < k := by omega
   have hp3 : (0 : Int) ≤ i := by omega
   have b1 := below_alloc wr (.cells #[.bool s, .slice B n c, .int .i64 e] 25)
   obtain ⟨z0, z1, z2⟩ := (Box.new wr s B n c e).held
   replace hr := hr.next b1 rfl
   replace hT1 := hT1.next b1 rfl
   clear h1 HD
   go_wp2_with fail
   refine (dmay_any (s := s) (e := e) hT1 hr).mono ?_
   rintro en w2 ⟨rfl, b⟩
   rw [HM.out]
   have hb2 := below_next (below_next hb hb.size b1 rfl rfl rfl rfl) (by have := hb.size; have := b1.size; omega) b rfl rfl rfl rfl
   clear b r0 r1 r2 z0 z1 z2 hr hT1 b1 HM
   go_wp2
   go_roundg (gk - 1)
   case measure => have := HG.out; omega
   case rel => exact ⟨i + 1, by have := HG.out; omega, by go_num, hb2⟩
  ·have : i = k := by have := HG.out; omega
   subst this
   go_wp2
   simp [bodyPost, results, Tryz.results59, hb]
theorem check_some {w : World} {g k p : Nat} {S : Nat → Bool} {A : Nat → Option Addr} {N C : Nat → Nat} {E : Nat → Int} {L : Nat → List Nat} (hT : Tab w) (h : Dys w g k S A N C E L) (hk : k ≤ 1000) (hp : 1 ≤ p) (hp' : p ≤ 2000) {j : Nat} (hj : j < k) (hd : ∀ i, i < j → mayD (S i) (L i) (E i) = true) (hd' : mayD (S j) (L j) (E j) = false) :
  Calls Tryz.prog 59 #[.int .i64 (p : Int), .slice (some ⟨g, 0, none⟩) k k] w (Faults 1 w) := by
 have d1 : decide ((p : Int) < 1) = false := decide_eq_false (by omega)
 have d2 : decide ((2000 : Int) < (p : Int)) = false := decide_eq_false (by omega)
 have HD := Lib.hid hd
 have HD' := Lib.hid hd'
 clear hd hd'
 go_enter Tryz.func59, Tryz.ntmps59
 go_wp2
 go_loopg [15] k (fun q v wr => ∃ i : Nat, i + q = k ∧ i ≤ j ∧ v = .int .i64 i ∧ Below w.heap.size w wr)
 case atStart => exact ⟨0, by omega, by omega, rfl, Below.refl _ _⟩
 case round =>
  obtain ⟨i, hg, hij, rfl, hb⟩ := hrel
  have HG := Lib.hid (And.intro hg hij)
  clear hg hij
  have hi : i < k := by have := HG.out; omega
  by_cases hij : i < j
  ·have h1 := h.next hb rfl
   have hT1 := hT.next hb rfl
   have r0 := h1.c0 i hi
   have r1 := h1.c1 i hi
   have r2 := h1.c2 i hi
   have hr := h1.rd i hi
   have HM := Lib.hid (HD.out i hij)
   generalize S i = s at *
   generalize A i = B at *
   generalize N i = n at *
   generalize C i = c at *
   generalize E i = e at *
   generalize L i = l at *
   have hp2 : (i : Int) < k := by omega
   have hp3 : (0 : Int) ≤ i := by omega
   have b1 := below_alloc wr (.cells #[.bool s, .slice B n c, .int .i64 e] 25)
   obtain ⟨z0, z1, z2⟩ := (Box.new wr s B n c e).held
   replace hr := hr.next b1 rfl
   replace hT1 := hT1.next b1 rfl
   clear h1 HD HD'
   go_wp2_with fail
   refine (dmay_any (s := s) (e := e) hT1 hr).mono ?_
   rintro en w2 ⟨rfl, b⟩
   rw [HM.out]
   have hb2 := below_next (below_next hb hb.size b1 rfl rfl rfl rfl) (by have := hb.size; have := b1.size; omega) b rfl rfl rfl rfl
   clear b r0 r1 r2 z0 z1 z2 hr hT1 b1 HM
   go_wp2
   go_roundg (gk - 1)
   case measure => have := HG.out; omega
   case rel => exact ⟨i + 1, by have := HG.out; omega, by have := HG.out; omega, by go_num, hb2⟩
  ·obtain rfl : i = j := by have := HG.out; omega
   have h1 := h.next hb rfl
   have hT1 := hT.next hb rfl
   have r0 := h1.c0 i hi
   have r1 := h1.c1 i hi
   have r2 := h1.c2 i hi
   have hr := h1.rd i hi
   have HM := Lib.hid HD'.out
   generalize S i = s at *
   generalize A i = B at *
   generalize N i = n at *
   generalize C i = c at *
   generalize E i = e at *
   generalize L i = l at *
   have hp2 : (i : Int) < k := by omega
   have hp3 : (0 : Int) ≤ i := by omega
   have b1 := below_alloc wr (.cells #[.bool s, .slice B n c, .int .i64 e] 25)
   obtain ⟨z0, z1, z2⟩ := (Box.new wr s B n c e).held
   replace hr := hr.next b1 rfl
   replace hT1 := hT1.next b1 rfl
   clear h1 HD HD'
   go_wp2_with fail
   refine (dmay_any (s := s) (e := e) hT1 hr).mono ?_
   rintro en w2 ⟨rfl, b⟩
   rw [HM.out]
   have hb2 := below_next (below_next hb hb.size b1 rfl rfl rfl rfl) (by have := hb.size; have := b1.size; omega) b rfl rfl rfl rfl
   clear b r0 r1 r2 z0 z1 z2 hr hT1 b1 HM
   go_wp2
   exact ⟨rfl, rfl, hb2⟩
theorem check_p {w : World} {g k : Nat} {p : Int} (hp : p < 1 ∨ 2000 < p) :
  Calls Tryz.prog 59 #[.int .i64 p, .slice (some ⟨g, 0, none⟩) k k] w (Faults 1 w) := by
 by_cases h : p < 1
 ·have d1 : decide (p < 1) = true := decide_eq_true h
  clear hp
  go_enter Tryz.func59, Tryz.ntmps59
  go_wp2
  exact ⟨rfl, rfl, Below.refl _ _⟩
 ·have d1 : decide (p < 1) = false := decide_eq_false h
  have d2 : decide ((2000 : Int) < p) = true := decide_eq_true (by omega)
  clear hp
  go_enter Tryz.func59, Tryz.ntmps59
  go_wp2
  exact ⟨rfl, rfl, Below.refl _ _⟩
end Go.Proofs.YtdhdebapjlcjdaaGreatDoor
set_option maxHeartbeats 8000000
set_option maxRecDepth 100000
namespace Go.Proofs.YtdhdebapjlcjdaaGreatDoor
open Go.RowKit

theorem box_one (w : World) (o : Obj) (s : Bool) (A : Option Addr) (n c : Nat) (e : Int) : Box ((w.alloc o).alloc (.cells #[.bool s, .slice A n c, .int .i64 e] 25)) (w.heap.size + 1) s A n c e := by
 have := Box.new (w.alloc o) s A n c e
 simpa using this
theorem nm_fault {s : Bool} {m : Nat} {e k : Int} {s' : Bool} {m' : Nat} {e' : Int} (h : Nm s m e k s' m' e') (hk : k ≠ 0) : (s' = false ∧ m' = 0 ∧ e' = 0) ∧ Nm s m e k false 0 0 := by
 rcases nm_code h with h1 | ⟨_, rfl, rfl, rfl⟩
 ·exact absurd h1 hk
 ·exact ⟨⟨rfl, rfl, rfl⟩, h⟩

theorem cut_any {w : World} {A : Option Addr} {n c x p : Nat} {neg rest up : Bool} {e : Int} (hT : Tab w) (h : Nt w A n c x) (hp' : p ≤ 2000) (he : -10000000 ≤ e) (he' : e ≤ 10000000) :
  Calls Tryz.prog 60 #[.bool neg, .agg #[.slice A n c, .int .i64 e, .bool rest], .int .i64 (p : Int), .bool up] w (Ran (Nm neg (cutR p x rest (up != neg)) (e + ((blen x - p : Nat) : Int))) w) := by
 have hbl := blen_nt h
 obtain ⟨hc1, hc2⟩ := cutR_lt (x := x) (rest := rest) (u := up != neg) hp'
 have HC1 := Lib.hid hc1
 have HC2 := Lib.hid hc2
 have hcut : cutR p x rest (up != neg) = x / 2 ^ (blen x - p) + if (up != neg) = true ∧ (rest = true ∨ x % 2 ^ (blen x - p) ≠ 0) then 1 else 0 := rfl
 have h0 : blen x - p ≠ 0 → x ≠ 0 := fun h1 h2 => h1 (by rw [h2, blen_zero]; omega)
 have hj : max (0 : Int) ((blen x : Int) - (p : Int)) = ((blen x - p : Nat) : Int) := by omega
 have hj4 : blen x - p ≤ 4096 := by omega
 generalize blen x - p = j at *
 generalize cutR p x rest (up != neg) = y at *
 have HX := Lib.hid h0
 have HCUT := Lib.hid hcut
 clear hc1 hc2 h0 hcut
 have BB := two_below w (.cells #[.slice A n c, .int .i64 e, .bool rest] 101) (.cells #[.bool false, .slice none 0 0, .int .i64 0] 25)
 have a0 : (w.alloc (.cells #[.slice A n c, .int .i64 e, .bool rest] 101)).cell? ⟨w.heap.size, 0, none⟩ = some (.slice A n c) := new_cell w _ _ 0
 have a1 : (w.alloc (.cells #[.slice A n c, .int .i64 e, .bool rest] 101)).cell? ⟨w.heap.size, 1, none⟩ = some (.int .i64 e) := new_cell w _ _ 1
 have a2 : (w.alloc (.cells #[.slice A n c, .int .i64 e, .bool rest] 101)).cell? ⟨w.heap.size, 2, none⟩ = some (.bool rest) := new_cell w _ _ 2
 have G := mv (below_alloc (w.alloc (.cells #[.slice A n c, .int .i64 e, .bool rest] 101)) (.cells #[.bool false, .slice none 0 0, .int .i64 0] 25)) rfl <| And.intro a0 <| And.intro a1 a2
 clear a0 a1 a2
 obtain ⟨a0, a1, a2⟩ := G
 have r := box_one w (.cells #[.slice A n c, .int .i64 e, .bool rest] 101) false none 0 0 0
 replace hT := hT.next BB rfl
 replace h := h.next BB rfl
 go_enter Tryz.func60, Tryz.ntmps60
 go_wp2_with fail
 refine (len_nt h).mono ?_
 rintro e' w' ⟨rfl, rfl⟩
 go_wp2_with fail
 refine (scaled_down (s := j) hT h (by omega) HX.out).mono ?_
 rintro e' w1 ⟨A1, n1, c1, rfl, h1, b⟩
 replace BB := bnx BB b
 have G := mv b rfl <| And.intro hT <| And.intro a0 <| And.intro a1 <| And.intro a2 r
 clear b hT h a0 a1 a2 r
 obtain ⟨hT, a0, a1, a2, r⟩ := G
 obtain ⟨lost, hl⟩ : ∃ b : Bool, b = decide (x % 2 ^ j ≠ 0) := ⟨_, rfl⟩
 rw [← hl]
 have hyy : y = x / 2 ^ j + if ((lost || rest) && (up != neg)) = true then 1 else 0 := by
  have h2 := HCUT.out
  rw [h2, hl]
  by_cases h3 : x % 2 ^ j = 0 <;> cases rest <;> cases up <;> cases neg <;> simp [h3]
 have HY := Lib.hid hyy
 clear hl hyy hj HX HCUT
 cases lost <;> cases rest <;> cases up <;> cases neg
 all_goals
  first
  |have hy : y = x / 2 ^ j + 0 := HY.out
   rw [Nat.add_zero] at hy
   rw [← hy] at h1
  |have hy : y = x / 2 ^ j + 1 := HY.out
   go_wp2_with fail
   have b := below_alloc w1 (.cells #[.int .u64 1] 38)
   have hone := nt_one w1 (v := 1) (by omega) (small_W (by omega))
   replace BB := bnx BB b
   have G := mv b rfl <| And.intro hT <| And.intro h1 <| And.intro a0 <| And.intro a1 <| And.intro a2 r
   clear b hT h1 a0 a1 a2 r
   obtain ⟨hT, h1, a0, a1, a2, r⟩ := G
   refine (add_ok h1 hone HC1.out).mono ?_
   rintro e' w2 ⟨A2, n2, c2, rfl, h2, b⟩
   rw [← hy] at h2
   replace BB := bnx BB b
   have G := mv b rfl <| And.intro hT <| And.intro a0 <| And.intro a1 <| And.intro a2 r
   clear b hT h1 a0 a1 a2 r hone
   obtain ⟨hT, a0, a1, a2, r⟩ := G
   have h1 := h2
   clear h2
   go_wp2_with fail
   refine natural_ok.mono ?_
   rintro e' w' ⟨rfl, rfl⟩
 all_goals
  clear hy HY
  go_wp2_with fail
  refine (dnorm_ok hT h1).mono ?_
  rintro e' w3 ⟨k, s3, A3, n3, c3, m3, e3, rfl, hP, h3, b⟩
  have HP := Lib.hid hP
  replace BB := bnx BB b
  replace r := mv b rfl r
  clear b hT h1 a0 a1 a2 hP
  go_wp2_with fail
  by_cases hk : k = 0
  ·subst hk
   refine (must_ok h3).mono ?_
   rintro e' w4 ⟨A4, n4, c4, rfl, h4, b⟩
   replace BB := bnx BB b
   have r := mv b rfl r
   obtain ⟨f0, f1, f2⟩ := r.open
   obtain ⟨z0, z1, z2⟩ := r.held
   clear b h3
   go_wp2
   have q := r.put s3 A4 n4 c4 e3
   have hN := h4.put3 r (.bool s3) (.slice A4 n4 c4) (.int .i64 e3)
   have HB3 := below_put3 (g := w.heap.size + 1) BB (by omega) (.bool s3) (.slice A4 n4 c4) (.int .i64 e3)
   obtain ⟨z0, z1, z2⟩ := q.held
   exact bodyPost_ret (v := .agg #[.bool s3, .slice A4 n4 c4, .int .i64 e3]) (by simp [results, Tryz.results60, go_sem, z0, z1, z2]) rfl (.inl ⟨_, _, _, _, _, _, rfl, HP.out, hN, HB3⟩)
  ·have HK := Lib.hid hk
   refine (must_bad HK.out).mono ?_
   rintro e' w4 ⟨rfl, b⟩
   replace BB := bnx BB b
   obtain ⟨hP2, hP3⟩ := nm_fault HP.out HK.out
   have HP3 := Lib.hid hP3
   clear b hk hP2 hP3
   go_wp2
   exact ⟨rfl, .inr ⟨k, rfl, HK.out, HP3.out, BB⟩⟩
end Go.Proofs.YtdhdebapjlcjdaaGreatDoor
namespace Go.Proofs.YtdhdebapjlcjdaaGreatDoor
open Go.RowKit

theorem dys_two {w : World} {s1 s2 : Bool} {A1 A2 : Option Addr} {n1 c1 n2 c2 : Nat} {e1 e2 : Int} {l1 l2 : List Nat} (h1 : Rd w .u64 W A1 n1 c1 l1) (h2 : Rd w .u64 W A2 n2 c2 l2) :
  Dys (w.alloc (.cells #[.bool s1, .slice A1 n1 c1, .int .i64 e1, .bool s2, .slice A2 n2 c2, .int .i64 e2] 25)) w.heap.size 2 (fun i => if i = 0 then s1 else s2) (fun i => if i = 0 then A1 else A2) (fun i => if i = 0 then n1 else n2) (fun i => if i = 0 then c1 else c2) (fun i => if i = 0 then e1 else e2) (fun i => if i = 0 then l1 else l2) := by
 have b := below_alloc w (.cells #[.bool s1, .slice A1 n1 c1, .int .i64 e1, .bool s2, .slice A2 n2 c2, .int .i64 e2] 25)
 refine ⟨fun i hi => ?_, fun i hi => ?_, fun i hi => ?_, fun i hi => ?_⟩
 all_goals
  rcases (show i = 0 ∨ i = 1 by omega) with rfl | rfl
 ·exact new_cell w _ _ 0
 ·exact new_cell w _ _ 3
 ·exact new_cell w _ _ 1
 ·exact new_cell w _ _ 4
 ·exact new_cell w _ _ 2
 ·exact new_cell w _ _ 5
 ·exact h1.next b rfl
 ·exact h2.next b rfl
end Go.Proofs.YtdhdebapjlcjdaaGreatDoor
