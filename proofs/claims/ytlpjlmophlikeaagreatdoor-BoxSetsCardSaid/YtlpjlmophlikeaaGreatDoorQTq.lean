/-
 Contracts of tape's own, Eval, at this translation. Condition: the slices read as limbs, the table of math/bits reads as its text lays it.
-/
import Derived.Test.YtlpjlmophlikeaaGreatDoorQTh
import Derived.Test.YtlpjlmophlikeaaGreatDoorQOps
import Derived.Test.YtlpjlmophlikeaaGreatDoorQIi
import Derived.Test.YtlpjlmophlikeaaGreatDoorQRs
import Derived.Test.YtlpjlmophlikeaaGreatDoorQRj
namespace Go.Proofs.YtlpjlmophlikeaaGreatDoor
open Go.RowKit

section
variable {w : World} {g : Nat} {s : Bool} {A : Option Addr} {n c : Nat} {e : Int} {t : Bool} {B : Option Addr} {m d : Nat} {f : Int}
theorem Ibx.set1 (h : Ibx w g s A n c e t B m d f) (A' : Option Addr) (n' c' : Nat) : Ibx (w.setCell ⟨g, 1, none⟩ (.slice A' n' c')) g s A' n' c' e t B m d f := by
 have := h.blk
 refine ⟨?_⟩
 simp [World.setCell, Array.getElem?_modify, this]
end

end Go.Proofs.YtlpjlmophlikeaaGreatDoor
set_option maxHeartbeats 8000000
set_option maxRecDepth 100000
namespace Go.Proofs.YtlpjlmophlikeaaGreatDoor
open Go.RowKit

/-- how one ends that tells yes or no: yes only if P -/
def YesIf (P : Prop) (w : World) (en : Ending) (w' : World) : Prop := ∃ b, en = .returned (.bool b) ∧ (b = true → P) ∧ Below w.heap.size w w'
theorem yes_no {P : Prop} {w w' : World} (b : Below w.heap.size w w') : YesIf P w (.returned (.bool false)) w' := ⟨false, rfl, fun h => absurd h (by decide), b⟩
theorem yes_yes {P : Prop} {w w' : World} (h : P) (b : Below w.heap.size w w') : YesIf P w (.returned (.bool true)) w' := ⟨true, rfl, fun _ => h, b⟩

theorem trow_any {w : World} {A : Option Addr} {n c : Nat} {X : Nat → Iv} (h : RdS w A n c X) :
  Calls Tryz.prog 14 #[.slice A n c] w (YesIf (n ≤ 8) w) := by
 by_cases g1 : n ≤ 8
 ·have g3 : ¬ (8 : Int) < (n : Int) := by omega
  go_enter Tryz.func14, Tryz.ntmps14
  go_wp2
  go_loopg [3] n (fun q v wr => ∃ i : Nat, i + q = n ∧ v = .int .i64 i ∧ wr = w)
  case atStart => exact ⟨0, by omega, rfl, rfl⟩
  case round =>
   obtain ⟨i, hg, rfl, rfl⟩ := hrel
   have HG := Lib.hid hg
   clear hg
   by_cases hi : i < n
   ·obtain ⟨g, off, hal, hc⟩ := h.at_ (by omega)
    obtain ⟨A1, n1, c1, A2, n2, c2, ⟨r0, r1, r2, r3, r4, r5⟩, q1, q2⟩ := hc i hi
    subst hal
    clear hc
    have hp2 : (i : Int) < n := by omega
    have hp3 : (0 : Int) ≤ i := by omega
    by_cases h1 : 6 < n1
    ·have k1 : (6 : Int) < (n1 : Int) := by omega
     go_wp2
     exact bodyPost_ret (v := .bool false) (by simp [results, Tryz.results14, go_sem]) rfl (yes_no (Below.refl _ _))
    ·have k1 : ¬ (6 : Int) < (n1 : Int) := by omega
     by_cases h2 : 6 < n2
     ·have k2 : (6 : Int) < (n2 : Int) := by omega
      go_wp2
      exact bodyPost_ret (v := .bool false) (by simp [results, Tryz.results14, go_sem]) rfl (yes_no (Below.refl _ _))
     ·have k2 : ¬ (6 : Int) < (n2 : Int) := by omega
      go_wp2
      go_roundg (gk - 1)
      case measure => have := HG.out; omega
      case rel => exact ⟨i + 1, by have := HG.out; omega, by go_num, rfl⟩
   ·have hn : i = n := by have := HG.out; omega
    subst hn
    go_wp2
    exact bodyPost_ret (v := .bool true) (by simp [results, Tryz.results14, go_sem]) rfl (yes_yes (by first | exact g1 | trivial) (Below.refl _ _))
 ·have g3 : (8 : Int) < (n : Int) := by omega
  go_enter Tryz.func14, Tryz.ntmps14
  go_wp2
  exact bodyPost_ret (v := .bool false) (by simp [results, Tryz.results14, go_sem]) rfl (yes_no (Below.refl _ _))

end Go.Proofs.YtlpjlmophlikeaaGreatDoor
