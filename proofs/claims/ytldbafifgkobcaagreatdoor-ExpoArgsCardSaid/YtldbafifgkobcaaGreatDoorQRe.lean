/-
 Contracts of the reference's dyadic numbers, at this translation: what may be, what is made of a natural and an exponent, whether two are the same. Condition: the slices read as limbs, or as digits of sixteen bits.
-/
import Derived.Test.YtldbafifgkobcaaGreatDoorQRt
import Derived.Test.YtldbafifgkobcaaGreatDoorQRo
set_option maxHeartbeats 8000000
set_option maxRecDepth 100000
namespace Go.Proofs.YtldbafifgkobcaaGreatDoor
open Go.RowKit

/-- a block that holds the three parts of a reference's number -/
structure Dbx (w : World) (g : Nat) (s : Bool) (A : Option Addr) (n c : Nat) (e : Int) : Prop where
 blk : w.heap[g]? = some (.cells #[.bool s, .slice A n c, .int .i64 e] 60 (0, 0))
section
variable {w w' : World} {g : Nat} {s : Bool} {A : Option Addr} {n c : Nat} {e : Int}
theorem Dbx.gl (h : Dbx w g s A n c e) : g < w.heap.size := by
 rcases Nat.lt_or_ge g w.heap.size with hlt | hge
 ·exact hlt
 ·have := h.blk; rw [Array.getElem?_eq_none hge] at this; cases this
theorem Dbx.at (h : Dbx w g s A n c e) (i : Nat) : w.cell? ⟨g, i, none⟩ = #[Value.bool s, .slice A n c, .int .i64 e][i]? := cell_of_row w g i _ 60 (0, 0) h.blk
theorem Dbx.c0 (h : Dbx w g s A n c e) : w.cell? ⟨g, 0, none⟩ = some (.bool s) := h.at 0
theorem Dbx.c1 (h : Dbx w g s A n c e) : w.cell? ⟨g, 1, none⟩ = some (.slice A n c) := h.at 1
theorem Dbx.c2 (h : Dbx w g s A n c e) : w.cell? ⟨g, 2, none⟩ = some (.int .i64 e) := h.at 2
theorem Dbx.frozen (h : Dbx w g s A n c e) (i : Nat) : w.frozen? ⟨g, i, none⟩ = false := by
 have := h.blk
 simp [World.frozen?, this]
theorem Dbx.below {b0 : Nat} (h : Dbx w g s A n c e) (hb : Below b0 w w') (hg : g < b0) : Dbx w' g s A n c e := ⟨(hb.block g hg).trans h.blk⟩
theorem Dbx.drew (h : Dbx w g s A n c e) : Dbx w.drew g s A n c e := ⟨h.blk⟩
theorem Dbx.new (w : World) (s : Bool) (A : Option Addr) (n c : Nat) (e : Int) : Dbx (w.alloc (.cells #[.bool s, .slice A n c, .int .i64 e] 60)) w.heap.size s A n c e := ⟨heap_alloc_new w _⟩
theorem Dbx.alloc (h : Dbx w g s A n c e) (o : Obj) : Dbx (w.alloc o) g s A n c e := h.below (below_alloc w o) h.gl
/-- no limb lies in such a block -/
theorem Dbx.no (h : Dbx w g s A n c e) (i x : Nat) : w.cell? ⟨g, i, none⟩ ≠ some (.int .u64 (x : Int)) := by
 rw [h.at i]
 match i with
 | 0 => simp
 | 1 => simp
 | 2 => simp
 | i + 3 => simp
/-- the three parts stored anew -/
theorem Dbx.put (h : Dbx w g s A n c e) (s' : Bool) (A' : Option Addr) (n' c' : Nat) (e' : Int) : Dbx (((w.setCell ⟨g, 0, none⟩ (.bool s')).setCell ⟨g, 1, none⟩ (.slice A' n' c')).setCell ⟨g, 2, none⟩ (.int .i64 e')) g s' A' n' c' e' := by
 have := h.blk
 refine ⟨?_⟩
 simp [World.setCell, Array.getElem?_modify, this]
end
theorem Dbx.held {w : World} {g : Nat} {s : Bool} {A : Option Addr} {n c : Nat} {e : Int} (h : Dbx w g s A n c e) : w.cell? ⟨g, 0, none⟩ = some (.bool s) ∧ w.cell? ⟨g, 1, none⟩ = some (.slice A n c) ∧ w.cell? ⟨g, 2, none⟩ = some (.int .i64 e) := ⟨h.c0, h.c1, h.c2⟩
theorem Dbx.open {w : World} {g : Nat} {s : Bool} {A : Option Addr} {n c : Nat} {e : Int} (h : Dbx w g s A n c e) : w.frozen? ⟨g, 0, none⟩ = false ∧ w.frozen? ⟨g, 1, none⟩ = false ∧ w.frozen? ⟨g, 2, none⟩ = false := ⟨h.frozen 0, h.frozen 1, h.frozen 2⟩
theorem Dbx.next {w X w2 : World} {g : Nat} {s : Bool} {A : Option Addr} {n c : Nat} {e : Int} (h : Dbx w g s A n c e) (b : Below X.heap.size X w2) (he : X.heap = w.heap) : Dbx w2 g s A n c e :=
 ⟨(b.block g (by rw [he]; exact h.gl)).trans (by rw [he]; exact h.blk)⟩
instance {w w2 : World} {g : Nat} {s : Bool} {A : Option Addr} {n c : Nat} {e : Int} : Moves w w2 (Dbx w g s A n c e) (Dbx w2 g s A n c e) := ⟨fun _ b e h => h.next b e⟩
theorem dbx_one (w : World) (o : Obj) (s : Bool) (A : Option Addr) (n c : Nat) (e : Int) : Dbx ((w.alloc o).alloc (.cells #[.bool s, .slice A n c, .int .i64 e] 60)) (w.heap.size + 1) s A n c e := by
 have := Dbx.new (w.alloc o) s A n c e
 simpa using this
/-- digits are no limbs: what is stored into such a block does not touch them -/
theorem Dbx.no32 {w : World} {g : Nat} {s : Bool} {A : Option Addr} {n c : Nat} {e : Int} (h : Dbx w g s A n c e) (i x : Nat) : w.cell? ⟨g, i, none⟩ ≠ some (.int .u32 (x : Int)) := by
 rw [h.at i]
 match i with
 | 0 => simp
 | 1 => simp
 | 2 => simp
 | i + 3 => simp
theorem Rd.off32 {w : World} {g : Nat} {A : Option Addr} {n c : Nat} {l : List Nat} (h : Rd w .u32 H A n c l) (hg : ∀ i x : Nat, w.cell? ⟨g, i, none⟩ ≠ some (.int .u32 (x : Int))) : n ≠ 0 → ∀ a, A = some a → a.block ≠ g := by
 intro hn a ha
 obtain ⟨b, o, e, hb, hc⟩ := h.at_ hn
 rw [e] at ha
 injection ha with ha
 subst ha
 show b ≠ g
 intro hbg
 subst hbg
 exact hg _ _ (hc 0 (by omega))
theorem Dg.put3 {w : World} {g : Nat} {A : Option Addr} {n c x : Nat} {s0 : Bool} {A0 : Option Addr} {n0 c0 : Nat} {e0 : Int} (h : Dg w A n c x) (hb : Dbx w g s0 A0 n0 c0 e0) (u0 u1 u2 : Value) : Dg (((w.setCell ⟨g, 0, none⟩ u0).setCell ⟨g, 1, none⟩ u1).setCell ⟨g, 2, none⟩ u2) A n c x := by
 have hne := Rd.off32 h hb.no32
 exact ((Rd.grown (Rd.grown (Rd.grown h (grownBy_set _ _ _ _) hne) (grownBy_set _ _ _ _) hne) (grownBy_set _ _ _ _) hne))

theorem and_one {x : Nat} (hx : x < 18446744073709551616) : (bits .and .u64 (x : Int) 1 == 1) = decide (x % 2 = 1) := by
 have h := bits_mask .u64 64 (by decide) (fun n h0 h1 => by rw [IntKind.wrap_u64]; omega) 1 (by decide) (x : Int) (by omega) (by omega)
 have e : (2 : Int) ^ 1 - 1 = 1 := by decide
 rw [e] at h
 rw [h]
 have e2 : (x : Int) % 2 ^ 1 = ((x % 2 : Nat) : Int) := by omega
 rw [e2]
 rcases Nat.mod_two_eq_zero_or_one x with h2 | h2 <;> rw [h2] <;> rfl
theorem Dg.heap32 {w w2 : World} {A : Option Addr} {n c x : Nat} (h : Dg w A n c x) (e : w2.heap = w.heap) : Dg w2 A n c x := Rd.next' h e

theorem rmayd_any {w : World} {A : Option Addr} {n c : Nat} {l : List Nat} {s : Bool} {e : Int} (h : Rd w .u64 W A n c l) :
  Calls Tryz.prog 15 #[.agg #[.bool s, .slice A n c, .int .i64 e]] w fun en w' => en = .returned (.bool (mayD s l e)) ∧ Below w.heap.size w w' := by
 have BB := below_alloc w (.cells #[.bool s, .slice A n c, .int .i64 e] 24)
 obtain ⟨a0, a1, a2⟩ := (Box.new w s A n c e).held
 replace h := mv BB rfl h
 have hlen := h.len
 have hcap := h.cap
 have hmax := h.max
 have hat := h.at_
 obtain ⟨v, hv⟩ : ∃ v, v = mayD s l e := ⟨_, rfl⟩
 rw [← hv]
 unfold mayD at hv
 have HV := Lib.hid hv
 clear hv
 go_enter Tryz.func15, Tryz.ntmps15
 go_wp2_with fail
 refine (rmay_any h).mono ?_
 rintro en w' ⟨rfl, rfl⟩
 cases hm : mayB l
 ·have hl : l ≠ [] := by intro h0; rw [h0] at hm; cases hm
  have HR : Hid (v = false) := Lib.hid (by rw [HV.out, if_neg hl, hm]; rfl)
  clear HV hm hl
  go_wp2
  go_ret
  exact ⟨by rw [HR.out]; rfl, BB⟩
 rcases Int.lt_or_le e (-1048576) with g | g
 ·have d1 : decide (e < -1048576) = true := decide_eq_true g
  have HR : Hid (v = false) := Lib.hid (by rw [HV.out, decide_eq_false (show ¬ e = 0 by omega), decide_eq_false (show ¬ -1048576 ≤ e by omega)]; split <;> simp)
  clear HV hm g
  go_wp2
  go_ret
  exact ⟨by rw [HR.out]; rfl, BB⟩
 have d1 : decide (e < -1048576) = false := decide_eq_false (by omega)
 rcases Int.lt_or_le 1048576 e with g' | g'
 ·have d2 : decide (1048576 < e) = true := decide_eq_true g'
  have HR : Hid (v = false) := Lib.hid (by rw [HV.out, decide_eq_false (show ¬ e = 0 by omega), decide_eq_false (show ¬ e ≤ 1048576 by omega)]; split <;> simp)
  clear HV hm g g'
  go_wp2
  go_ret
  exact ⟨by rw [HR.out]; rfl, BB⟩
 have d2 : decide (1048576 < e) = false := decide_eq_false (by omega)
 by_cases hn : n = 0
 ·have hl : l = [] := h.empty hn
  subst hn
  by_cases he : e = 0
  ·subst he
   have HR : Hid (v = !s) := Lib.hid (by rw [HV.out, if_pos hl]; simp)
   clear HV hm hl g g'
   cases s
   all_goals
    go_wp2
    go_ret
    exact ⟨by rw [HR.out]; rfl, BB⟩
  ·have f0 : (e == 0) = false := by simp [he]
   have HR : Hid (v = false) := Lib.hid (by rw [HV.out, if_pos hl, decide_eq_false he]; simp)
   clear HV hm hl g g' he
   cases s
   all_goals
    go_wp2
    go_ret
    exact ⟨by rw [HR.out]; rfl, BB⟩
 have hl : l ≠ [] := fun hl => hn (by rw [← hlen, hl]; rfl)
 have HR : Hid (v = decide (l.getD 0 0 % 2 = 1)) := Lib.hid (by rw [HV.out, if_neg hl, hm, decide_eq_true g, decide_eq_true g']; simp)
 obtain ⟨bk, o, rfl, hbk, hc⟩ := hat hn
 have f0 : ((n : Int) == 0) = false := by simp [hn]
 have c0 := hc 0 (by omega)
 have hxl : l.getD 0 0 < 18446744073709551616 := by
  have hlt := h.lt
  rw [W_eq] at hlt
  cases l with
  | nil => exact absurd rfl hl
  | cons a t => exact hlt a (by simp)
 rw [Nat.add_zero] at c0
 have hn0 : 0 < n := by omega
 have hn1 : 0 < (n : Int) := by omega
 generalize l.getD 0 0 = x at *
 clear hat hc g g' h hm hl HV
 have hbit : (bits .and .u64 (x : Int) 1 == 1) = decide (x % 2 = 1) := and_one hxl
 have HB := Lib.hid hbit
 clear hbit
 go_wp2
 go_ret
 exact ⟨by rw [HR.out, ← HB.out]; rfl, BB⟩

theorem HW_pow (k : Nat) : H ^ (4 * k) = W ^ k := by rw [H_pow, W_pow, ← Nat.pow_mul, ← Nat.pow_mul, ← Nat.mul_assoc]
theorem H256 : H ^ 256 = W ^ 64 := HW_pow 64
end Go.Proofs.YtldbafifgkobcaaGreatDoor
