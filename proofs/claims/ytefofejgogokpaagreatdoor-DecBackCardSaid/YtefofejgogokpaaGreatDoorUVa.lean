/-
 Contract of the statement DecSigns' function at this translation: it returns true, whatever its arguments. Conditions: the slice reads as limbs; the two tables, and the two errors of strconv, lie as their texts lay them.
-/
import Derived.Test.YtefofejgogokpaaGreatDoorUKz
namespace Go.Proofs.YtefofejgogokpaaGreatDoor
open Go.RowKit

theorem Box.set0 {w : World} {g : Nat} {s t : Bool} {A : Option Addr} {n c : Nat} {e : Int} (h : Box w g s A n c e) : Box (w.setCell ⟨g, 0, none⟩ (.bool t)) g t A n c e := ⟨by
 have hb := h.blk
 simp [World.setCell, Array.getElem?_modify, hb]⟩
theorem textT_len {s : Bool} {m a n : Nat} {e : Int} {up : Bool} (hm : m < 2 ^ a) (ha : a ≤ 4096) (h1 : -2000 ≤ e) (h2 : e ≤ 2000) (hn : n ≤ 60) : (textT s m e n up).length ≤ 6400 := by
 have h := (sh_text s m e n up).1
 have hS := shD_small (V := allV m e) (k := allB e - (n : Int)) (away := up != s) (by unfold allB; split <;> omega)
 have hV := allV_small hm h1 h2
 unfold textT
 rw [← h]
 generalize shD (allV m e) (allB e - (n : Int)) (up != s) = S at *
 have h3 : (asc (List.replicate (n + 1 - S.length) 0 ++ S)).length ≤ 6300 := by rw [asc_len, List.length_append, List.length_replicate]; omega
 generalize asc (List.replicate (n + 1 - S.length) 0 ++ S) = R at *
 have h4 : (pointT n R).length ≤ 6301 := by
  unfold pointT
  split
  ·omega
  ·rw [List.length_append, List.length_cons, List.length_take, List.length_drop]
   omega
 rw [List.length_append]
 split
 ·show 1 + _ ≤ _
  omega
 ·show 0 + _ ≤ _
  omega
theorem textS_len {s : Bool} {l : List Nat} {e N : Int} {up : Bool} (hl : Lt W l) : (textS s l e N up).length ≤ 10000 := by
 unfold textS
 split
 ·rename_i hk
  unfold textK at hk
  split at hk
  ·rename_i h0
   split at hk
   ·rename_i h1
    have h5 := (mayD_of hl h0.1).1
    unfold mayB at h5
    simp only [Bool.and_eq_true, decide_eq_true_eq] at h5
    obtain ⟨a, ha, hM2⟩ : ∃ a, a ≤ 4096 ∧ val W l < 2 ^ a := ⟨_, by decide, val_small hl h5.1⟩
    have := textT_len (s := s) (n := N.toNat) (up := up) hM2 ha h1.1 h1.2 (by omega)
    omega
   ·cases hk
  ·cases hk
 ·exact Nat.zero_le _
end Go.Proofs.YtefofejgogokpaaGreatDoor
