/-
  Plain arithmetic of a long division's guess. No condition; nothing of the program is named here.
-/
import Derived.Test.YtdklekiknhhfdaaDoorShift
namespace Go.Proofs.YtdklekiknhhfdaaDoor

/-- what holds of a guess d and its rest r, by the three highest digits of the one and the two of the other -/
structure GInv (B top next w2 w1 w0 d r : Nat) : Prop where
  eq : d * top + r = w2 * B + w1
  le : d ≤ B - 1
  up : (w0 + B * (w1 + B * w2)) / (next + B * top) ≤ d ∨ B - 1 ≤ d

theorem ginv_mul {B top next w2 w1 w0 d r : Nat} (h : GInv B top next w2 w1 w0 d r) : d * (next + B * top) + (r * B + w0) = (w0 + B * (w1 + B * w2)) + d * next := by
  have e1 : d * (next + B * top) = d * next + d * top * B := by rw [Nat.mul_add, Nat.mul_comm B top, Nat.mul_assoc]
  have e2 : (d * top + r) * B = (w2 * B + w1) * B := by rw [h.eq]
  rw [Nat.add_mul, Nat.add_mul] at e2
  have e3 : B * (w1 + B * w2) = w2 * B * B + w1 * B := by
    rw [Nat.mul_add, Nat.add_comm]
    congr 1
    · rw [Nat.mul_comm w2 B]; ac_rfl
    · exact Nat.mul_comm _ _
  omega

theorem ginv_start {B top next w2 w1 w0 d r : Nat} (hB : 2 ≤ B) (h : d * top + r = w2 * B + w1) (hr : r < top) (hw : w2 < top) (hw1 : w1 < B) (hw0 : w0 < B) : GInv B top next w2 w1 w0 d r := by
  have hp : 0 < top := by omega
  have hT : 0 < next + B * top := Nat.lt_of_lt_of_le (Nat.mul_pos (by omega) hp) (Nat.le_add_left _ _)
  have hd : d ≤ B - 1 := by
    have h1 : (w2 + 1) * B ≤ top * B := Nat.mul_le_mul_right _ hw
    rw [Nat.add_mul] at h1
    have h2 : d * top < B * top := by rw [Nat.mul_comm B]; omega
    have := Nat.lt_of_mul_lt_mul_right h2
    omega
  refine ⟨h, hd, .inl ?_⟩
  apply Nat.le_of_lt_succ
  rw [Nat.div_lt_iff_lt_mul hT]
  have h3 : (d + 1) * top = d * top + top := by rw [Nat.add_mul, Nat.one_mul]
  have h4 : w2 * B + w1 + 1 ≤ (d + 1) * top := by omega
  have h5 : (w2 * B + w1 + 1) * B ≤ (d + 1) * top * B := Nat.mul_le_mul_right _ h4
  have e3 : B * (w1 + B * w2) = (w2 * B + w1) * B := by rw [Nat.mul_comm, Nat.add_comm, Nat.mul_comm B w2]
  have e4 : d.succ * (next + B * top) = (d + 1) * next + (d + 1) * top * B := by rw [Nat.succ_eq_add_one, Nat.mul_add, Nat.mul_comm B top, Nat.mul_assoc]
  rw [Nat.add_mul, Nat.one_mul] at h5
  omega
theorem ginv_start_top {B top next w1 w0 : Nat} (hB : 2 ≤ B) : GInv B top next top w1 w0 (B - 1) (w1 + top) := by
  refine ⟨?_, Nat.le_refl _, .inr (Nat.le_refl _)⟩
  have : (B - 1) * top + top = B * top := by rw [← Nat.succ_mul]; congr 1; omega
  rw [Nat.mul_comm top B]
  omega
theorem ginv_next {B top next w2 w1 w0 d r : Nat} (hT : 0 < next + B * top) (h : GInv B top next w2 w1 w0 d r) (hc : r * B + w0 < d * next) : GInv B top next w2 w1 w0 (d - 1) (r + top) ∧ 0 < d := by
  have hd : 0 < d := by
    rcases Nat.eq_zero_or_pos d with h0 | h0
    · rw [h0, Nat.zero_mul] at hc; omega
    · exact h0
  have hm := ginv_mul h
  have hlt : (w0 + B * (w1 + B * w2)) / (next + B * top) < d := by
    rw [Nat.div_lt_iff_lt_mul hT]; omega
  refine ⟨⟨?_, by have := h.le; omega, .inl (Nat.le_pred_of_lt hlt)⟩, hd⟩
  have h0 := h.eq
  obtain ⟨k, rfl⟩ : ∃ k, d = k + 1 := ⟨d - 1, by omega⟩
  rw [Nat.add_sub_cancel]
  rw [Nat.add_mul] at h0
  omega
/-- the guess's end: by how much it may be wrong -/
theorem ginv_done {B top next w2 w1 w0 d r a c K V U : Nat} (hB : 2 ≤ B) (htop : 0 < top) (h : GInv B top next w2 w1 w0 d r) (hc : d * next ≤ r * B + w0) (ha : a < K) (hcK : c < K) (hV : V = c + K * (next + B * top)) (hU : U = a + K * (w0 + B * (w1 + B * w2))) (hq : U < B * V) :
    U / V ≤ d ∧ d ≤ U / V + 1 := by
  have hm := ginv_mul h
  have hTB : B ≤ next + B * top := by
    have : B * 1 ≤ B * top := Nat.mul_le_mul_left _ htop
    omega
  have hVp : 0 < V := by
    rw [hV]
    have : K * 1 ≤ K * (next + B * top) := Nat.mul_le_mul_left _ (by omega)
    omega
  have hqB : U / V ≤ B - 1 := by
    have : U / V < B := by rw [Nat.div_lt_iff_lt_mul hVp]; exact hq
    omega
  constructor
  · rcases h.up with hup | hup
    · refine Nat.le_trans ?_ hup
      rw [Nat.le_div_iff_mul_le (by omega)]
      have h1 : U / V * V ≤ U := Nat.div_mul_le_self _ _
      rcases Nat.lt_or_ge (w0 + B * (w1 + B * w2)) (U / V * (next + B * top)) with h2 | h2
      · exfalso
        have h3 : K * (w0 + B * (w1 + B * w2) + 1) ≤ K * (U / V * (next + B * top)) := Nat.mul_le_mul_left _ h2
        have h4 : ∀ q : Nat, q * V = q * c + K * (q * (next + B * top)) := fun q => by
          rw [hV, Nat.mul_add]; congr 1; ac_rfl
        have h5 := h4 (U / V)
        have h6 : a < K := ha
        rw [Nat.mul_add, Nat.mul_one] at h3
        omega
      · exact h2
    · omega
  · have hdT : d * (next + B * top) ≤ w0 + B * (w1 + B * w2) := by omega
    apply Nat.le_succ_of_pred_le
    rw [Nat.le_div_iff_mul_le hVp]
    rcases Nat.eq_zero_or_pos d with h0 | h0
    · rw [h0]; simp
    · obtain ⟨k, rfl⟩ : ∃ k, d = k + 1 := ⟨d - 1, by omega⟩
      show k * V ≤ U
      have h1 : K * ((k + 1) * (next + B * top)) ≤ K * (w0 + B * (w1 + B * w2)) := Nat.mul_le_mul_left _ hdT
      have h2 : k * V = k * c + K * (k * (next + B * top)) := by
        rw [hV, Nat.mul_add]; congr 1; ac_rfl
      have h3 : K * ((k + 1) * (next + B * top)) = K * (k * (next + B * top)) + K * (next + B * top) := by rw [Nat.add_mul, Nat.one_mul, Nat.mul_add]
      have h4 : K * B ≤ K * (next + B * top) := Nat.mul_le_mul_left _ hTB
      have h5 : k * c ≤ k * K := Nat.mul_le_mul_left _ (Nat.le_of_lt hcK)
      have h6 : k * K ≤ B * K := Nat.mul_le_mul_right _ (by have := h.le; omega)
      rw [Nat.mul_comm B K] at h6
      omega
end Go.Proofs.YtdklekiknhhfdaaDoor
