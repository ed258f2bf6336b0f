/-
  What TubeTimes wants besides: what is told of a span of a tube and of one that it is within; a Dyad as an argument. No condition.
-/
import Derived.Test.YtkpcmgfpmekkjaaDoorQUb
import Derived.Test.YtkpcmgfpmekkjaaDoorQIv
namespace Go.Proofs.YtkpcmgfpmekkjaaDoor
open Go.ChangeShapes Go.WideShapes Go.ChangeAt Go.RowKit
set_option maxRecDepth 100000 in
theorem open_dyad {H : Type} {enc : TypeId × Value → H} {W0 : World} {b0 : Nat} {v : Value} {d : DataW H} {ps : List MemPlace}
    (hval : Value.okWide Tryd.prog W0 .any b0 28 v) (h : DataW.Trod enc Tryd.prog W0 0 (fun _ => true) true 28 v d ps) :
    ∃ s A n c l e, v = .agg #[.bool s, .slice A n c, .int .i64 e] ∧ Rd W0 .u64 W A n c l ∧ -9223372036854775808 ≤ e ∧ e ≤ 9223372036854775807 := by
  obtain ⟨v0, v1, v2, y0, y1, y2, n, rfl, _, _, t0, t1, t2⟩ := Joins.open_agg3 Tryd.underlying28 (by kernel_rfl) (by kernel_rfl) hval h
  obtain ⟨s, h0, _⟩ := DataW.trod_bool Tryd.underlying4 t0
  obtain ⟨A, m, c, l, rfl, hl⟩ := open_limbs t1
  obtain ⟨e, h2, _, hw⟩ := DataW.trod_int Tryd.underlying3 t2
  simp at h0 h2
  subst h0 h2
  refine ⟨s, A, m, c, l, e, rfl, hl, ?_⟩
  simp [Lit.wf, IntKind.min, IntKind.max, IntKind.bits, IntKind.signed] at hw
  omega
set_option maxRecDepth 100000 in
theorem shut_dyad {H : Type} {enc : TypeId × Value → H} {W0 W' : World} {v : Value} {d : DataW H} {ps before : List MemPlace}
    (h : DataW.Trod enc Tryd.prog W0 0 (fun _ => true) true 28 v d ps) (hb : Below W0.heap.size W0 W') (hlt : ∀ x ∈ before, x.block < W0.heap.size) (hs : ∀ x ∈ ps, x ∈ before) :
    DataW.Trod enc Tryd.prog W' 0 (fun b => decide (b < W0.heap.size)) true 28 v d ps :=
  Below.trod laidOut (by kernel_rfl) (of_decide_eq_true (by kernel_rfl)) h hb (fun x hx => hlt x (hs x hx))
section
variable {α : Type} {n m l : Nat} {A B C : Nat → Int} {V W X : Nat → α}
/-- what stands in a cell that has a time of a span stands, by R, in one of the other row's that has one -/
theorem touch_holds {R : α → α → Prop} (hA : Rise n A) (hB : Rise m B) (h : Holds2 R n A V m B W) {x y : Int} (hx : A 0 ≤ x) (hxy : x ≤ y) (hy : y ≤ A n) {i : Nat} (hi : i < n) (ht : Touch A i x y) : ∃ k, k < m ∧ Touch B k x y ∧ R (V i) (W k) := by
  obtain ⟨a0, an, aR⟩ := h
  obtain ⟨t1, t2⟩ := ht
  have hii := hA i hi
  have hi0 := hA.le (Nat.zero_le i) (by omega)
  have hin := hA.le (show i + 1 ≤ n by omega) (Nat.le_refl n)
  by_cases h : x < A (i + 1)
  · -- a time of both that is not the cell's end
    obtain ⟨s, s1, s2, s3, s4⟩ : ∃ s : Int, A i ≤ s ∧ s < A (i + 1) ∧ x ≤ s ∧ s ≤ y := by
      by_cases h2 : A i ≤ x
      · exact ⟨x, h2, h, Int.le_refl _, hxy⟩
      · exact ⟨A i, Int.le_refl _, hii, by omega, t2⟩
    obtain ⟨k, hk, k1, k2⟩ := hB.at_left (t := s) (by omega) (by omega)
    exact ⟨k, hk, ⟨by omega, by omega⟩, aR i hi k hk ⟨by omega, by omega⟩⟩
  · obtain ⟨k, hk, k1, k2⟩ := hB.at_right (t := A (i + 1)) (by omega) (by omega)
    exact ⟨k, hk, ⟨by omega, by omega⟩, aR i hi k hk ⟨by omega, by omega⟩⟩
end
section
variable {K : Nat} {a b c : Tb} {x y : Rw}
/-- what is within a tube is in it over any span -/
theorem in_over (hI : InT K (withinI K) a b) (h : OverOk K a x y) : OverOk K b x y ∧ withinI K (overI K a x y) (overI K b x y) = true := by
  obtain ⟨ha, hb, hh⟩ := hI
  have hB : OverOk K b x y := ⟨hb, h.mx, h.my, h.le, by rw [← hh.1]; exact h.lo, by rw [← hh.2.1]; exact h.hi⟩
  refine ⟨hB, ?_⟩
  have i1 := over_is h
  have i2 := over_is hB
  have key : ∀ i, i < a.n → Touch (a.t K) i (x.v K) (y.v K) → withinI K (a.V i) (overI K b x y) = true := fun i hi ht => by
    obtain ⟨k, hk, hkt, hR⟩ := touch_holds ha.rise hb.rise hh h.lo h.le h.hi hi ht
    exact within_trans2 hR (i2.all k hk hkt)
  obtain ⟨j, hj, hjt, hv⟩ := i1.lo
  obtain ⟨i, hi, hit, hw⟩ := i1.hi
  have w1 := withinI_iff.1 (key j hj hjt)
  have w2 := withinI_iff.1 (key i hi hit)
  exact withinI_iff.2 ⟨i1.may, i2.may, by omega, by omega⟩
theorem over_in (hI : InT K (withinI K) a b) (h : OverOk K b x y) : OverOk K a x y := ⟨hI.1, h.mx, h.my, h.le, by rw [hI.2.2.1]; exact h.lo, by rw [hI.2.2.2.1]; exact h.hi⟩
/-- so what is told of a span is told of both -/
theorem in_code (hI : InT K (withinI K) a b) : overK K a x y = overK K b x y := by
  by_cases h : overK K a x y = 0
  · rw [h, overK_ok.2 (in_over hI (overK_ok.1 h)).1]
  · by_cases h' : overK K b x y = 0
    · exact absurd (overK_ok.2 (over_in hI (overK_ok.1 h'))) h
    · have e : (mayTb K a && (x.may && (y.may && !decide (cmpQ K y x < 0)))) = (mayTb K b && (x.may && (y.may && !decide (cmpQ K y x < 0)))) := by rw [mayTb_iff.2 hI.1, mayTb_iff.2 hI.2.1]
      unfold overK at h h' ⊢
      rw [← e] at h' ⊢
      split
      · next h1 =>
        rw [if_pos h1] at h h'
        rw [if_neg (fun h2 => h (by rw [if_pos h2])), if_neg (fun h2 => h' (by rw [if_pos h2]))]
      · rfl
end
end Go.Proofs.YtkpcmgfpmekkjaaDoor
