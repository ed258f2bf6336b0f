/-
  Contracts of nat.sum and nat.product at this translation. Condition: both slices read as limbs, of at most a million each.
-/
import Derived.Test.YtdklekiknhhfdaaDoorLeaf
import Derived.Test.YtdklekiknhhfdaaDoorOps
import Derived.Test.YtdklekiknhhfdaaDoorAdd
import Derived.Test.YtdklekiknhhfdaaDoorNum
namespace Go.Proofs.YtdklekiknhhfdaaDoor
open Go.RowKit

/-- the end of a call that hands back a natural in limbs -/
def Gives (w : World) (x : Nat) (e : Ending) (w' : World) : Prop :=
  ∃ A n c, e = .returned (.slice A n c) ∧ Rd w' .u64 W A n c (dig W x) ∧ Below w.heap.size w w'

theorem rd_trimmed {w : World} {A : Option Addr} {n c : Nat} {l : List Nat} (h : Rd w .u64 W A n c l) : Rd w .u64 W A (dig W (val W l)).length c (dig W (val W l)) := by
  obtain ⟨h1, h2⟩ := take_dig W_two h.lt
  have := h.take (m := (dig W (val W l)).length) (by rw [← h.len]; exact h1)
  rw [h2] at this
  exact this

set_option maxRecDepth 100000 in
set_option maxHeartbeats 400000 in
theorem sum_le {w : World} {A B : Option Addr} {n c m d : Nat} {l r : List Nat} (h : Rd w .u64 W A n c l) (h' : Rd w .u64 W B m d r) (hmn : m ≤ n) (hn : n ≤ 1000000) :
    Calls Tryd.prog 71 #[.slice A n c, .slice B m d] w fun e w' => Gives w (val W l + val W r) e w' := by
  have hlt : decide (n < m) = false := by simpa using hmn
  obtain ⟨L, hL⟩ : ∃ L, L = l ++ (List.replicate (n + 1) 0).drop n := ⟨_, rfl⟩
  have HL := Lib.hid hL
  have HLL : Hid (L.length = n + 1) := by unfold Hid; rw [hL]; simp [h.len]
  have HLT : Hid (Lt W L) := by unfold Hid; rw [hL]; exact h.lt.append ((Lt.replicate _ (by rw [W_eq]; omega)).drop _)
  clear hL
  go_enter Tryd.func71, Tryd.ntmps71
  go_wp2_with (first
    | (at_make; refine law_make rfl (.tmp 15) rfl _ (n + 1) rfl (by omega) (by omega) ?_; intro w1 hrow1 hgrow1)
    | ((with_reducible show wpList _ _ _ _ _ _); refine law_copy (o := ⟨some 19, _, _, _, _, _⟩) rfl (.tmp 17) (.tmp 18) rfl w.heap.size (n + 1) (n + 1) rfl A n c rfl (List.replicate (n + 1) 0) l hrow1 (by simp) (h.grownNone hgrow1) (by omega) ?_; intro w2 hrow2 hgrow2; rw [← HL.out] at hrow2))
  refine (addTimes_any (x := 1) hrow2 HLT.out HLL.out (Nat.le_refl _) (by omega) ((h'.grownNone hgrow1).grown hgrow2 ?hn) (by omega) ?hn (by omega)).mono ?_
  case hn =>
    intro h0 a ha
    obtain ⟨b, o, e, hb, _⟩ := h'.at_ h0
    rw [e] at ha
    injection ha with ha
    subst ha
    show b ≠ _
    omega
  rintro e w3 ⟨rfl, xs', ca, hrow3, hgrow3, hlen3, hlt3, hval3⟩
  have hv := sum_of W_two h.len h'.len hmn h.lt h'.lt HL.out hval3
  have hb3 : Below w.heap.size w w3 := (((Below.refl _ _).grown hgrow1 (Nat.le_refl _) (fun _ e => by cases e)).grown hgrow2 (by have := hgrow1.size; omega) (fun k e => by injection e with e; omega)).grown hgrow3 (by have := hgrow1.size; have := hgrow2.size; omega) (fun k e => by injection e with e; omega)
  have hrd3 := hrow3.rd' hlt3 (hlen3.trans HLL.out) (Nat.le_refl _) (by omega)
  have HV := Lib.hid hv
  clear hv hval3 hlen3
  go_wp2_with fail
  refine (trimmed_any hrd3).mono ?_
  rintro e w' ⟨rfl, rfl⟩
  rw [HV.out]
  have hrd4 := rd_trimmed hrd3
  rw [HV.out] at hrd4
  go_wp2
  go_ret
  exact ⟨_, _, _, rfl, hrd4, hb3⟩

set_option maxRecDepth 100000 in
set_option maxHeartbeats 400000 in
theorem sum_gt {w : World} {A B : Option Addr} {n c m d : Nat} {l r : List Nat} (h : Rd w .u64 W A n c l) (h' : Rd w .u64 W B m d r) (hmn : n < m) (hm : m ≤ 1000000) :
    Calls Tryd.prog 71 #[.slice A n c, .slice B m d] w fun e w' => Gives w (val W l + val W r) e w' := by
  have hlt : decide (n < m) = true := by simpa using hmn
  obtain ⟨L, hL⟩ : ∃ L, L = r ++ (List.replicate (m + 1) 0).drop m := ⟨_, rfl⟩
  have HL := Lib.hid hL
  have HLL : Hid (L.length = m + 1) := by unfold Hid; rw [hL]; simp [h'.len]
  have HLT : Hid (Lt W L) := by unfold Hid; rw [hL]; exact h'.lt.append ((Lt.replicate _ (by rw [W_eq]; omega)).drop _)
  clear hL
  go_enter Tryd.func71, Tryd.ntmps71
  go_wp2_with (first
    | (at_make; refine law_make rfl (.tmp 15) rfl _ (m + 1) rfl (by omega) (by omega) ?_; intro w1 hrow1 hgrow1)
    | ((with_reducible show wpList _ _ _ _ _ _); refine law_copy (o := ⟨some 19, _, _, _, _, _⟩) rfl (.tmp 17) (.tmp 18) rfl w.heap.size (m + 1) (m + 1) rfl B m d rfl (List.replicate (m + 1) 0) r hrow1 (by simp) (h'.grownNone hgrow1) (by omega) ?_; intro w2 hrow2 hgrow2; rw [← HL.out] at hrow2))
  refine (addTimes_any (x := 1) hrow2 HLT.out HLL.out (Nat.le_refl _) (by omega) ((h.grownNone hgrow1).grown hgrow2 ?hn) (by omega) ?hn (by omega)).mono ?_
  case hn =>
    intro h0 a ha
    obtain ⟨b, o, e, hb, _⟩ := h.at_ h0
    rw [e] at ha
    injection ha with ha
    subst ha
    show b ≠ _
    omega
  rintro e w3 ⟨rfl, xs', ca, hrow3, hgrow3, hlen3, hlt3, hval3⟩
  have hv := sum_of W_two h'.len h.len (Nat.le_of_lt hmn) h'.lt h.lt HL.out hval3
  have hb3 : Below w.heap.size w w3 := (((Below.refl _ _).grown hgrow1 (Nat.le_refl _) (fun _ e => by cases e)).grown hgrow2 (by have := hgrow1.size; omega) (fun k e => by injection e with e; omega)).grown hgrow3 (by have := hgrow1.size; have := hgrow2.size; omega) (fun k e => by injection e with e; omega)
  have hrd3 := hrow3.rd' hlt3 (hlen3.trans HLL.out) (Nat.le_refl _) (by omega)
  have HV := Lib.hid hv
  clear hv hval3 hlen3
  go_wp2_with fail
  refine (trimmed_any hrd3).mono ?_
  rintro e w' ⟨rfl, rfl⟩
  rw [HV.out, Nat.add_comm (val W r)]
  have hrd4 := rd_trimmed hrd3
  rw [HV.out, Nat.add_comm (val W r)] at hrd4
  go_wp2
  go_ret
  exact ⟨_, _, _, rfl, hrd4, hb3⟩

/-- nat.sum: what both are together. -/
theorem sum_any {w : World} {A B : Option Addr} {n c m d : Nat} {l r : List Nat} (h : Rd w .u64 W A n c l) (h' : Rd w .u64 W B m d r) (hn : n ≤ 1000000) (hm : m ≤ 1000000) :
    Calls Tryd.prog 71 #[.slice A n c, .slice B m d] w fun e w' => Gives w (val W l + val W r) e w' := by
  rcases Nat.lt_or_ge n m with hlt | hge
  · exact sum_gt h h' hlt hm
  · exact sum_le h h' hge hn
end Go.Proofs.YtdklekiknhhfdaaDoor
