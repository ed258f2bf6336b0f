/-
  Contract of tape's Lines, at this translation. Condition: the slices read as limbs, the table of math/bits reads as its text lays it.
-/
import Derived.Test.YtkpcmgfpmekkjaaDoorQTb
import Derived.Test.YtkpcmgfpmekkjaaDoorQIi
import Derived.Test.YtkpcmgfpmekkjaaDoorQRj
import Derived.Test.YtkpcmgfpmekkjaaDoorQIl
import Derived.Test.YtkpcmgfpmekkjaaDoorQLb
import Derived.Test.YtkpcmgfpmekkjaaDoorQIc
import Derived.Test.YtkpcmgfpmekkjaaDoorQOps
namespace Go.Proofs.YtkpcmgfpmekkjaaDoor
open Go.RowKit

theorem RowN.same {w w2 : World} {base : Nat} {e : TypeId} {size : Nat} {v : Value} {n : Nat} {xs : List Value} (h : RowN w base e size v n xs) (key : ∀ g, v.ownBlock = some g → w2.heap[g]? = w.heap[g]?) : RowN w2 base e size v n xs := by
  refine ⟨⟨h.1.1, ?_⟩, fun g hg i x => ?_⟩
  · rcases h.1.2 with h2 | ⟨g, cap, cur, hv, hb, hg, h3⟩
    · exact .inl h2
    · exact .inr ⟨g, cap, cur, hv, hb, (key g (by rw [hv]; rfl)).trans hg, h3⟩
  · have h2 := h.2 g hg i x
    have h3 := key g hg
    unfold World.cell? at h2 ⊢
    simpa [h3] using h2
theorem IRow.put6 {w : World} {base : Nat} {v : Value} {L : List Iv} (h : IRow w base v L) {g : Nat} {s : Bool} {A : Option Addr} {n c : Nat} {e : Int} {t : Bool} {B : Option Addr} {m d : Nat} {f : Int} (r : Ibx w g s A n c e t B m d f) (hne : ∀ k, v.ownBlock = some k → k ≠ g) (u0 u1 u2 u3 u4 u5 : Value) :
    IRow ((((((w.setCell ⟨g, 0, none⟩ u0).setCell ⟨g, 1, none⟩ u1).setCell ⟨g, 2, none⟩ u2).setCell ⟨g, 3, none⟩ u3).setCell ⟨g, 4, none⟩ u4).setCell ⟨g, 5, none⟩ u5) base v L := by
  obtain ⟨xs, h1, h2⟩ := h
  refine ⟨xs, h1.same fun k hk => ?_, h2.mv fun _ _ _ _ hr => hr.put6 r u0 u1 u2 u3 u4 u5⟩
  have ne := hne k hk
  rw [Below.heap_setCell _ ⟨g, 5, none⟩ u5 k ne, Below.heap_setCell _ ⟨g, 4, none⟩ u4 k ne, Below.heap_setCell _ ⟨g, 3, none⟩ u3 k ne, Below.heap_setCell _ ⟨g, 2, none⟩ u2 k ne, Below.heap_setCell _ ⟨g, 1, none⟩ u1 k ne, Below.heap_setCell _ ⟨g, 0, none⟩ u0 k ne]
theorem IRow.lower {w : World} {base b0 : Nat} {v : Value} {L : List Iv} (h : IRow w base v L) (hb : b0 ≤ base) : IRow w b0 v L := by
  obtain ⟨xs, ⟨⟨h1, h2⟩, h3⟩, h4⟩ := h
  refine ⟨xs, ⟨⟨h1, ?_⟩, h3⟩, h4⟩
  rcases h2 with h2 | ⟨g, cap, cur, hv, hb2, h5⟩
  · exact .inl h2
  · exact .inr ⟨g, cap, cur, hv, Nat.le_trans hb hb2, h5⟩
end Go.Proofs.YtkpcmgfpmekkjaaDoor
namespace Go.Proofs.YtkpcmgfpmekkjaaDoor
open Go.RowKit

section
variable {S : Sc} {a b : Rw} {x y : Iv} {p : Int}
def Ends (x : Iv) : Prop := x.lo.may = true ∧ x.hi.may = true
theorem may_small {a : Rw} (h : a.may = true) : a.l.length ≤ 10000000000000 := by
  have hm := (mayD_of a.lt h).1
  unfold mayB at hm
  simp only [Bool.and_eq_true, decide_eq_true_eq] at hm
  omega
end
section
variable {w : World} {g : Nat} {s : Bool} {A : Option Addr} {n c : Nat} {e : Int} {t : Bool} {B : Option Addr} {m d : Nat} {f : Int}
theorem Ibx.set1 (h : Ibx w g s A n c e t B m d f) (A' : Option Addr) (n' c' : Nat) : Ibx (w.setCell ⟨g, 1, none⟩ (.slice A' n' c')) g s A' n' c' e t B m d f := by
  have := h.blk
  refine ⟨?_⟩
  simp [World.setCell, Array.getElem?_modify, this]
end

end Go.Proofs.YtkpcmgfpmekkjaaDoor
namespace Go.Proofs.YtkpcmgfpmekkjaaDoor
open Go.RowKit

/-- how one ends that tells yes or no: yes only if P -/
def YesIf (P : Prop) (w : World) (en : Ending) (w' : World) : Prop := ∃ b, en = .returned (.bool b) ∧ (b = true → P) ∧ Below w.heap.size w w'
theorem yes_no {P : Prop} {w w' : World} (b : Below w.heap.size w w') : YesIf P w (.returned (.bool false)) w' := ⟨false, rfl, fun h => absurd h (by decide), b⟩
theorem yes_yes {P : Prop} {w w' : World} (h : P) (b : Below w.heap.size w w') : YesIf P w (.returned (.bool true)) w' := ⟨true, rfl, fun _ => h, b⟩

set_option maxRecDepth 100000 in
set_option maxHeartbeats 8000000 in
theorem trow_any {w : World} {A : Option Addr} {n c : Nat} {X : Nat → Iv} (h : RdS w A n c X) :
    Calls Tryd.prog 21 #[.slice A n c] w (YesIf (n ≤ 8) w) := by
  by_cases g1 : n ≤ 8
  · have g3 : ¬ (8 : Int) < (n : Int) := by omega
    go_enter Tryd.func21, Tryd.ntmps21
    go_wp2
    go_loopg [3] n (fun q v wr => ∃ i : Nat, i + q = n ∧ v = .int .i64 i ∧ wr = w)
    case atStart => exact ⟨0, by omega, rfl, rfl⟩
    case round =>
      obtain ⟨i, hg, rfl, rfl⟩ := hrel
      have HG := Lib.hid hg
      clear hg
      by_cases hi : i < n
      · obtain ⟨g, off, hal, hc⟩ := h.at_ (by omega)
        obtain ⟨A1, n1, c1, A2, n2, c2, ⟨r0, r1, r2, r3, r4, r5⟩, q1, q2⟩ := hc i hi
        subst hal
        clear hc
        have hp2 : (i : Int) < n := by omega
        have hp3 : (0 : Int) ≤ i := by omega
        by_cases h1 : 6 < n1
        · have k1 : (6 : Int) < (n1 : Int) := by omega
          go_wp2
          exact bodyPost_ret (v := .bool false) (by simp [results, Tryd.results21, go_sem]) rfl (yes_no (Below.refl _ _))
        · have k1 : ¬ (6 : Int) < (n1 : Int) := by omega
          by_cases h2 : 6 < n2
          · have k2 : (6 : Int) < (n2 : Int) := by omega
            go_wp2
            exact bodyPost_ret (v := .bool false) (by simp [results, Tryd.results21, go_sem]) rfl (yes_no (Below.refl _ _))
          · have k2 : ¬ (6 : Int) < (n2 : Int) := by omega
            go_wp2
            go_roundg (gk - 1)
            case measure => have := HG.out; omega
            case rel => exact ⟨i + 1, by have := HG.out; omega, by go_num, rfl⟩
      · have hn : i = n := by have := HG.out; omega
        subst hn
        go_wp2
        exact bodyPost_ret (v := .bool true) (by simp [results, Tryd.results21, go_sem]) rfl (yes_yes (by first | exact g1 | trivial) (Below.refl _ _))
  · have g3 : (8 : Int) < (n : Int) := by omega
    go_enter Tryd.func21, Tryd.ntmps21
    go_wp2
    exact bodyPost_ret (v := .bool false) (by simp [results, Tryd.results21, go_sem]) rfl (yes_no (Below.refl _ _))

end Go.Proofs.YtkpcmgfpmekkjaaDoor
