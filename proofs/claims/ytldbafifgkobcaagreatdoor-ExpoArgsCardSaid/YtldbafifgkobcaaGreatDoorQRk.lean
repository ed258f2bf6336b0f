/-
 Contract of round's check, at this translation: it panics as ErrArg just if a number of bits or one of the Dyads may not be. Condition: the slices read as limbs, the table of math/bits reads as its text lays it.
-/
import Derived.Test.YtldbafifgkobcaaGreatDoorQDy3
set_option maxHeartbeats 1000000
set_option maxRecDepth 100000
namespace Go.Proofs.YtldbafifgkobcaaGreatDoor
open Go.RowKit

/-- the Dyads that a slice holds -/
structure Dys (w : World) (g k : Nat) (S : Nat → Bool) (A : Nat → Option Addr) (N C : Nat → Nat) (E : Nat → Int) (L : Nat → List Nat) : Prop where
 c0 : ∀ i, i < k → w.cell? ⟨g, i * 3, none⟩ = some (.bool (S i))
 c1 : ∀ i, i < k → w.cell? ⟨g, i * 3 + 1, none⟩ = some (.slice (A i) (N i) (C i))
 c2 : ∀ i, i < k → w.cell? ⟨g, i * 3 + 2, none⟩ = some (.int .i64 (E i))
 rd : ∀ i, i < k → Rd w .u64 W (A i) (N i) (C i) (L i)
theorem Dys.next {w X w2 : World} {g k : Nat} {S : Nat → Bool} {A : Nat → Option Addr} {N C : Nat → Nat} {E : Nat → Int} {L : Nat → List Nat} (h : Dys w g k S A N C E L) (b : Below X.heap.size X w2) (e : X.heap = w.heap) : Dys w2 g k S A N C E L := by
 have key : ∀ (x : Addr) (v : Value), w.cell? x = some v → w2.cell? x = some v := fun x v h => by
  have h1 : X.cell? x = some v := by rw [← h]; unfold World.cell?; rw [e]
  exact (b.cell (World.block_lt_of_cell? X _ h1)).trans h1
 exact ⟨fun i hi => key _ _ (h.c0 i hi), fun i hi => key _ _ (h.c1 i hi), fun i hi => key _ _ (h.c2 i hi), fun i hi => (h.rd i hi).next b e⟩

theorem check_all {w : World} {g k p : Nat} {S : Nat → Bool} {A : Nat → Option Addr} {N C : Nat → Nat} {E : Nat → Int} {L : Nat → List Nat} (hT : Tab w) (h : Dys w g k S A N C E L) (hk : k ≤ 1000) (hp : 1 ≤ p) (hp' : p ≤ 2000) (hd : ∀ i, i < k → mayD (S i) (L i) (E i) = true) :
  Calls Tryz.prog 156 #[.int .i64 (p : Int), .slice (some ⟨g, 0, none⟩) k k] w fun en w' => en = .returned (.tuple #[]) ∧ Below w.heap.size w w' := by
 have d1 : decide ((p : Int) < 1) = false := decide_eq_false (by omega)
 have d2 : decide ((2000 : Int) < (p : Int)) = false := decide_eq_false (by omega)
 have HD := Lib.hid hd
 clear hd
 go_enter Tryz.func156, Tryz.ntmps156
 go_wp2
 go_loopg [15] k (fun q v wr => ∃ i : Nat, i + q = k ∧ v = .int .i64 i ∧ Below w.heap.size w wr)
 case atStart => exact ⟨0, by omega, rfl, Below.refl _ _⟩
 case round =>
  obtain ⟨i, hg, rfl, hb⟩ := hrel
  have HG := Lib.hid hg
  clear hg
  by_cases hi : i < k
  ·have h1 := h.next hb rfl
   have hT1 := hT.next hb rfl
   have r0 := h1.c0 i hi
   have r1 := h1.c1 i hi
   have r2 := h1.c2 i hi
   have hr := h1.rd i hi
   have HM := Lib.hid (HD.out i hi)
   generalize S i = s at *
   generalize A i = B at *
   generalize N i = n at *
   generalize C i = c at *
   generalize E i = e at *
   generalize L i = l at *
   have hp2 : (i : Int) < k := by omega
   have hp3 : (0 : Int) ≤ i := by omega
   have b1 := below_alloc wr (.cells #[.bool s, .slice B n c, .int .i64 e] 24)
   obtain ⟨z0, z1, z2⟩ := (Box.new wr s B n c e).held
   replace hr := hr.next b1 rfl
   replace hT1 := hT1.next b1 rfl
   clear h1 HD
   go_wp2_with fail
   refine (dmay_any (s := s) (e := e) hT1 hr).mono ?_
   rintro en w2 ⟨rfl, b⟩
   rw [HM.out]
   have hb2 := below_next (below_next hb hb.size b1 rfl rfl rfl rfl) (by have := hb.size; have := b1.size; omega) b rfl rfl rfl rfl
   clear b r0 r1 r2 z0 z1 z2 hr hT1 b1 HM
   go_wp2
   go_roundg (gk - 1)
   case measure => have := HG.out; omega
   case rel => exact ⟨i + 1, by have := HG.out; omega, by go_num, hb2⟩
  ·have : i = k := by have := HG.out; omega
   subst this
   go_wp2
   simp [bodyPost, results, Tryz.results156, hb]
end Go.Proofs.YtldbafifgkobcaaGreatDoor
