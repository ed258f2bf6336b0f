/-
  Contracts of the reference's dyadic numbers, at this translation: what may be, what is made of a natural and an exponent, whether two are the same. Condition: the slices read as limbs, or as digits of sixteen bits.
-/
import Derived.Test.YtijflbnfikiaaaaDoorMw
import Derived.Test.YtijflbnfikiaaaaDoorRo
namespace Go.Proofs.YtijflbnfikiaaaaDoor
open Go.RowKit

section
variable {w w' : World} {g : Nat} {s : Bool} {A : Option Addr} {n c : Nat} {e : Int}
end
theorem box_one' (w : World) (o : Obj) (s : Bool) (A : Option Addr) (n c : Nat) (e : Int) : Box ((w.alloc o).alloc (.cells #[.bool s, .slice A n c, .int .i64 e] 24)) (w.heap.size + 1) s A n c e := by
  have := Box.new (w.alloc o) s A n c e
  simpa using this
theorem Rd.off32 {w : World} {g : Nat} {A : Option Addr} {n c : Nat} {l : List Nat} (h : Rd w .u32 H A n c l) (hg : ∀ i x : Nat, w.cell? ⟨g, i, none⟩ ≠ some (.int .u32 (x : Int))) : n ≠ 0 → ∀ a, A = some a → a.block ≠ g := by
  intro hn a ha
  obtain ⟨b, o, e, hb, hc⟩ := h.at_ hn
  rw [e] at ha
  injection ha with ha
  subst ha
  show b ≠ g
  intro hbg
  subst hbg
  exact hg _ _ (hc 0 (by omega))
theorem and_one {x : Nat} (hx : x < 18446744073709551616) : (bits .and .u64 (x : Int) 1 == 1) = decide (x % 2 = 1) := by
  have h := bits_mask .u64 64 (by decide) (fun n h0 h1 => by rw [IntKind.wrap_u64]; omega) 1 (by decide) (x : Int) (by omega) (by omega)
  have e : (2 : Int) ^ 1 - 1 = 1 := by decide
  rw [e] at h
  rw [h]
  have e2 : (x : Int) % 2 ^ 1 = ((x % 2 : Nat) : Int) := by omega
  rw [e2]
  rcases Nat.mod_two_eq_zero_or_one x with h2 | h2 <;> rw [h2] <;> rfl
theorem Dg.heap32 {w w2 : World} {A : Option Addr} {n c x : Nat} (h : Dg w A n c x) (e : w2.heap = w.heap) : Dg w2 A n c x := Rd.next' h e

theorem HW_pow (k : Nat) : H ^ (4 * k) = W ^ k := by rw [H_pow, W_pow, ← Nat.pow_mul, ← Nat.pow_mul, ← Nat.mul_assoc]
theorem H256 : H ^ 256 = W ^ 64 := HW_pow 64
end Go.Proofs.YtijflbnfikiaaaaDoor
