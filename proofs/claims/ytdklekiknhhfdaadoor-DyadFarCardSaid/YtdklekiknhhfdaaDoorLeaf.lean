/-
  Contracts of nat's small functions at this translation: May, trimmed. Condition: the slices read as numbers.
-/
import Derived.Test.YtdklekiknhhfdaaDoorRows
import Derived.Test.YtdklekiknhhfdaaDoorShelf
import Derived.Test.YtdklekiknhhfdaaDoorMem
import Derived.WalkKit
import Derived.WalkSpells
import Derived.BigQuiet
import Derived.Deep.QuietTactic
import Derived.Deep.LoopGhost
import Derived.Lib.Hide
namespace Go.Proofs.YtdklekiknhhfdaaDoor
open Go.RowKit

/-- May, of a list. -/
def mayB (l : List Nat) : Bool := decide (l.length ≤ 64) && (decide (l.length = 0) || decide (l.getD (l.length - 1) 0 ≠ 0))

set_option maxHeartbeats 400000 in
theorem may_any {w : World} {A : Option Addr} {n c : Nat} {l : List Nat} (h : Rd w .u64 W A n c l) :
    Calls Tryd.prog 22 #[.slice A n c] w fun e w' => e = .returned (.bool (mayB l)) ∧ w = w' := by
  have hcap := h.cap
  have hmax := h.max
  by_cases h0 : n = 0
  · subst h0
    have e : mayB l = true := by simp [mayB, h.empty rfl]
    rw [e]
    go_enter Tryd.func22, Tryd.ntmps22
    go_wp2
    go_ret
    exact ⟨rfl, rfl⟩
  · obtain ⟨b, o, rfl, hb, hc⟩ := h.at_ h0
    have hl := h.len
    by_cases h1 : n ≤ 64
    · obtain ⟨x, hx⟩ : ∃ x, x = l.getD (n - 1) 0 := ⟨_, rfl⟩
      have hcell : w.cell? ⟨b, o + (n - 1), none⟩ = some (.int .u64 (x : Int)) := by rw [hx]; exact hc (n - 1) (by omega)
      have hp : (0 : Int) ≤ n - 1 := by omega
      have b0 : ((n : Int) == 0) = false := by simp [h0]
      by_cases h2 : x = 0
      · have e : mayB l = false := by unfold mayB; rw [hl, ← hx]; simp [h0, h2]
        rw [e]
        clear hc hl hx
        subst h2
        go_enter Tryd.func22, Tryd.ntmps22
        go_wp2
        go_ret
        exact ⟨rfl, rfl⟩
      · have e : mayB l = true := by unfold mayB; rw [hl, ← hx]; simp [h1, h2]
        rw [e]
        have b1 : ((x : Int) != 0) = true := by simp [h2]
        clear hc hl hx h2 h0
        go_enter Tryd.func22, Tryd.ntmps22
        go_wp2
        go_ret
        exact ⟨rfl, rfl⟩
    · have e : mayB l = false := by simp [mayB, hl]; omega
      rw [e]
      clear hc hl
      go_enter Tryd.func22, Tryd.ntmps22
      go_wp2
      go_ret
      exact ⟨rfl, rfl⟩

/-- All behind place m is nought. -/
def Zero (l : List Nat) (n m : Nat) : Prop := ∀ j, m ≤ j → j < n → l.getD j 0 = 0

theorem trimmed_any {w : World} {A : Option Addr} {n c : Nat} {l : List Nat} (h : Rd w .u64 W A n c l) :
    Calls Tryd.prog 75 #[.slice A n c] w fun e w' => e = .returned (.slice A (dig W (val W l)).length c) ∧ w = w' := by
  have hcap := h.cap
  have hmax := h.max
  obtain ⟨t, ht⟩ : ∃ t, t = (dig W (val W l)).length := ⟨_, rfl⟩
  rw [← ht]
  have HT := Lib.hid ht
  clear ht
  go_enter Tryd.func75, Tryd.ntmps75
  go_wp2
  go_step3
  go_wp2
  go_step3
  go_wp2
  go_loopg [3] n (fun g v wr => ∃ m : Nat, m ≤ g ∧ m ≤ n ∧ v = .int .i64 m ∧ Zero l n m ∧ wr = w)
  case atStart => exact ⟨n, Nat.le_refl _, Nat.le_refl _, rfl, fun j h1 h2 => absurd h2 (by omega), rfl⟩
  case round =>
    obtain ⟨m, hg, hm, rfl, hz, rfl⟩ := hrel
    by_cases h0 : m = 0
    · subst h0
      have e : t = 0 := by
        rw [HT.out]; exact trim_len W_two h.lt (by rw [h.len]; exact hm) (fun j h1 h2 => hz j h1 (by rw [← h.len]; exact h2)) (.inl rfl)
      subst e
      go_wp2
      rw [Exit.noGoto_ret]
      go_ret
      exact ⟨rfl, rfl⟩
    · obtain ⟨b, o, rfl, hb, hc⟩ := h.at_ (by omega)
      obtain ⟨x, hx⟩ : ∃ x, x = l.getD (m - 1) 0 := ⟨_, rfl⟩
      have hcell : wr.cell? ⟨b, o + (m - 1), none⟩ = some (.int .u64 (x : Int)) := by rw [hx]; exact hc (m - 1) (by omega)
      have hp : (0 : Int) ≤ m - 1 := by omega
      have HX := Lib.hid hx
      clear hx hc
      by_cases h2 : x = 0
      · subst h2
        go_wp2
        go_roundg (m - 1)
        case measure => omega
        case rel => exact ⟨m - 1, by omega, by omega, by go_num, fun j h1 h2 => by
          rcases Nat.lt_or_ge j m with h3 | h3
          · have : j = m - 1 := by omega
            rw [this]; exact HX.out.symm
          · exact hz j h3 h2, rfl⟩
      · have b1 : ((x : Int) == 0) = false := by simp [h2]
        have e : t = m := by
          rw [HT.out]; exact trim_len W_two h.lt (by rw [h.len]; exact hm) (fun j h1 h2 => hz j h1 (by rw [← h.len]; exact h2)) (.inr (by rw [← HX.out]; exact h2))
        subst e
        clear h2
        go_wp2
        rw [Exit.noGoto_ret]
        go_ret
        exact ⟨rfl, rfl⟩
end Go.Proofs.YtdklekiknhhfdaaDoor
