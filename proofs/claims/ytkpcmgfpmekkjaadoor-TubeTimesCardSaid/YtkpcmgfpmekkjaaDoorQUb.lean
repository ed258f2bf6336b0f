/-
  What tubes are, as plain terms: which may be, what they are over a span, which are in which; what follows. No condition.
-/
import Derived.Test.YtkpcmgfpmekkjaaDoorQHc
import Derived.Test.YtkpcmgfpmekkjaaDoorQUa
namespace Go.Proofs.YtkpcmgfpmekkjaaDoor
open Go.RowKit

/-- a tube as it reads: n cells, m times -/
structure Tb where
  n : Nat
  V : Nat → Iv
  m : Nat
  T : Nat → Rw
def Tb.t (K : Nat) (a : Tb) (i : Nat) : Int := (a.T i).v K
def mayTb (K : Nat) (a : Tb) : Bool := decide (1 ≤ a.n ∧ a.n ≤ 256 ∧ a.m = a.n + 1) && (eachB a.n (fun i => mayI K (a.V i)) && (eachB a.m (fun i => (a.T i).may) && eachB a.n fun i => decide (cmpQ K (a.T i) (a.T (i + 1)) < 0)))
structure MayT (K : Nat) (a : Tb) : Prop where
  pos : 1 ≤ a.n
  few : a.n ≤ 256
  len : a.m = a.n + 1
  V : ∀ i, i < a.n → mayI K (a.V i) = true
  T : ∀ i, i < a.n + 1 → (a.T i).may = true
  rise : Rise a.n (a.t K)
section
variable {K : Nat} {a b c : Tb} {x y : Rw}
theorem mayTb_iff : mayTb K a = true ↔ MayT K a := by
  unfold mayTb
  simp only [Bool.and_eq_true, decide_eq_true_eq, eachB_iff]
  constructor
  · rintro ⟨⟨h1, h2, h3⟩, h4, h5, h6⟩
    rw [h3] at h5
    exact ⟨h1, h2, h3, h4, h5, fun i hi => (cmpQ_lt (h5 i (by omega)) (h5 (i + 1) (by omega))).1 (h6 i hi)⟩
  · rintro ⟨h1, h2, h3, h4, h5, h6⟩
    refine ⟨⟨h1, h2, h3⟩, h4, by rw [h3]; exact h5, fun i hi => (cmpQ_lt (h5 i (by omega)) (h5 (i + 1) (by omega))).2 (h6 i hi)⟩
/-- the cell i has a time from x to y -/
def touchB (K : Nat) (a : Tb) (x y : Rw) (i : Nat) : Bool := !decide (cmpQ K (a.T (i + 1)) x < 0) && !decide (cmpQ K y (a.T i) < 0)
/-- the hull of the first i cells that have one -/
def spanQ (K : Nat) (a : Tb) (x y : Rw) : Nat → Option Iv
  | 0 => none
  | i + 1 => if touchB K a x y i = true then (match spanQ K a x y i with | none => some (a.V i) | some q => some (hullQ K q (a.V i))) else spanQ K a x y i
def inB (K : Nat) (a : Tb) (d : Rw) : Bool := d.may && (!decide (cmpQ K d (a.T 0) < 0) && !decide (cmpQ K (a.T a.n) d < 0))
/-- what is told of a span, its code and its interval -/
def overK (K : Nat) (a : Tb) (x y : Rw) : Int := if (mayTb K a && (x.may && (y.may && !decide (cmpQ K y x < 0)))) = true then (if (inB K a x && inB K a y) = true then 0 else 5) else 1
def overI (K : Nat) (a : Tb) (x y : Rw) : Iv := if overK K a x y = 0 then (spanQ K a x y a.n).getD Iv.zero else Iv.zero
structure OverOk (K : Nat) (a : Tb) (x y : Rw) : Prop where
  may : MayT K a
  mx : x.may = true
  my : y.may = true
  le : x.v K ≤ y.v K
  lo : a.t K 0 ≤ x.v K
  hi : y.v K ≤ a.t K a.n
theorem overK_ok : overK K a x y = 0 ↔ OverOk K a x y := by
  unfold overK inB
  constructor
  · intro h
    split at h
    · next h1 =>
      split at h
      · next h2 =>
        simp only [Bool.and_eq_true, Bool.not_eq_true', decide_eq_false_iff_not] at h1 h2
        obtain ⟨g1, g2, g3, g4⟩ := h1
        obtain ⟨⟨_, k1, _⟩, _, _, k4⟩ := h2
        have hm := mayTb_iff.1 g1
        refine ⟨hm, g2, g3, ?_, ?_, ?_⟩
        · rw [cmpQ_lt g3 g2] at g4; omega
        · rw [cmpQ_lt g2 (hm.T 0 (by omega))] at k1; unfold Tb.t; omega
        · rw [cmpQ_lt (hm.T a.n (by omega)) g3] at k4; unfold Tb.t; omega
      · exact absurd h (by decide)
    · exact absurd h (by decide)
  · intro ⟨hm, h1, h2, h3, h4, h5⟩
    unfold Tb.t at h4 h5
    have e0 := hm.T 0 (by omega)
    have en := hm.T a.n (by omega)
    rw [if_pos (by
      simp only [Bool.and_eq_true, Bool.not_eq_true', decide_eq_false_iff_not]
      refine ⟨mayTb_iff.2 hm, h1, h2, ?_⟩
      rw [cmpQ_lt h2 h1]; omega), if_pos (by
      simp only [Bool.and_eq_true, Bool.not_eq_true', decide_eq_false_iff_not]
      refine ⟨⟨h1, ?_, ?_⟩, h2, ?_, ?_⟩
      · rw [cmpQ_lt h1 e0]; omega
      · rw [cmpQ_lt en h1]; omega
      · rw [cmpQ_lt h2 e0]; omega
      · rw [cmpQ_lt en h2]; omega)]
theorem touchB_iff (hm : MayT K a) (hx : x.may = true) (hy : y.may = true) {i : Nat} (hi : i < a.n) : touchB K a x y i = true ↔ Touch (a.t K) i (x.v K) (y.v K) := by
  unfold touchB Touch Tb.t
  simp only [Bool.and_eq_true, Bool.not_eq_true', decide_eq_false_iff_not]
  rw [cmpQ_lt (hm.T (i + 1) (by omega)) hx, cmpQ_lt hy (hm.T i (by omega))]
  omega
/-- q is the hull of those of the first i that have a time of the span -/
structure IsSpan (K : Nat) (a : Tb) (x y : Rw) (i : Nat) (q : Iv) : Prop where
  may : mayI K q = true
  all : ∀ j, j < i → Touch (a.t K) j (x.v K) (y.v K) → withinI K (a.V j) q = true
  lo : ∃ j, j < i ∧ Touch (a.t K) j (x.v K) (y.v K) ∧ (a.V j).lo.v K = q.lo.v K
  hi : ∃ j, j < i ∧ Touch (a.t K) j (x.v K) (y.v K) ∧ (a.V j).hi.v K = q.hi.v K
theorem within_trans2 {x y z : Iv} (h : withinI K x y = true) (h' : withinI K y z = true) : withinI K x z = true := by
  obtain ⟨h1, h2, h3, h4⟩ := withinI_iff.1 h
  obtain ⟨_, h5, h6, h7⟩ := withinI_iff.1 h'
  exact withinI_iff.2 ⟨h1, h5, Int.le_trans h6 h3, Int.le_trans h4 h7⟩
theorem span_is (hm : MayT K a) (hx : x.may = true) (hy : y.may = true) : ∀ {i : Nat}, i ≤ a.n → (spanQ K a x y i = none ∧ ∀ j, j < i → ¬ Touch (a.t K) j (x.v K) (y.v K)) ∨ ∃ q, spanQ K a x y i = some q ∧ IsSpan K a x y i q
  | 0, _ => .inl ⟨rfl, fun j hj => absurd hj (Nat.not_lt_zero j)⟩
  | i + 1, hi => by
    have hb := touchB_iff hm hx hy (show i < a.n by omega)
    have hV := hm.V i (by omega)
    by_cases ht : Touch (a.t K) i (x.v K) (y.v K)
    · have e : spanQ K a x y (i + 1) = (match spanQ K a x y i with | none => some (a.V i) | some q => some (hullQ K q (a.V i))) := if_pos (hb.2 ht)
      rw [e]
      rcases span_is hm hx hy (i := i) (by omega) with ⟨h1, h2⟩ | ⟨q, h1, h2⟩
      · rw [h1]
        refine .inr ⟨a.V i, rfl, hV, fun j hj hjt => ?_, ⟨i, by omega, ht, rfl⟩, ⟨i, by omega, ht, rfl⟩⟩
        rcases (show j < i ∨ j = i by omega) with h3 | rfl
        · exact absurd hjt (h2 j h3)
        · exact within_self hV
      · rw [h1]
        obtain ⟨k1, k2, k3⟩ := hull_ok h2.may hV
        have m1 := mayI_iff.1 h2.may
        have m2 := mayI_iff.1 hV
        refine .inr ⟨hullQ K q (a.V i), rfl, k1, fun j hj hjt => ?_, ?_, ?_⟩
        · rcases (show j < i ∨ j = i by omega) with h3 | rfl
          · exact within_trans2 (h2.all j h3 hjt) k2
          · exact k3
        · rcases (fur_dn (K := K) m1.1 m2.1).1 with e | e
          · obtain ⟨j, hj, hjt, hv⟩ := h2.lo
            exact ⟨j, by omega, hjt, by rw [hv]; show q.lo.v K = (furQ K q.lo (a.V i).lo false).v K; rw [e]⟩
          · exact ⟨i, by omega, ht, by show (a.V i).lo.v K = (furQ K q.lo (a.V i).lo false).v K; rw [e]⟩
        · rcases (fur_up (K := K) m1.2.1 m2.2.1).1 with e | e
          · obtain ⟨j, hj, hjt, hv⟩ := h2.hi
            exact ⟨j, by omega, hjt, by rw [hv]; show q.hi.v K = (furQ K q.hi (a.V i).hi true).v K; rw [e]⟩
          · exact ⟨i, by omega, ht, by show (a.V i).hi.v K = (furQ K q.hi (a.V i).hi true).v K; rw [e]⟩
    · have e : spanQ K a x y (i + 1) = spanQ K a x y i := if_neg (fun h => ht (hb.1 h))
      rw [e]
      rcases span_is hm hx hy (i := i) (by omega) with ⟨h1, h2⟩ | ⟨q, h1, h2⟩
      · refine .inl ⟨h1, fun j hj => ?_⟩
        rcases (show j < i ∨ j = i by omega) with h3 | rfl
        · exact h2 j h3
        · exact ht
      · refine .inr ⟨q, h1, h2.may, fun j hj hjt => ?_, ?_, ?_⟩
        · rcases (show j < i ∨ j = i by omega) with h3 | rfl
          · exact h2.all j h3 hjt
          · exact absurd hjt ht
        · obtain ⟨j, hj, h⟩ := h2.lo
          exact ⟨j, by omega, h⟩
        · obtain ⟨j, hj, h⟩ := h2.hi
          exact ⟨j, by omega, h⟩
/-- what is told of a span that may be asked for -/
theorem over_is (h : OverOk K a x y) : IsSpan K a x y a.n (overI K a x y) := by
  have e : overI K a x y = (spanQ K a x y a.n).getD Iv.zero := if_pos (overK_ok.2 h)
  rcases span_is h.may h.mx h.my (Nat.le_refl a.n) with ⟨h1, h2⟩ | ⟨q, h1, h2⟩
  · obtain ⟨i, hi, ht⟩ := touch_some h.may.rise h.may.pos h.lo h.le h.hi
    exact absurd ht (h2 i hi)
  · rw [e, h1]
    exact h2
/-- there is one -/
theorem span_one (hK : 4194304 ≤ K) {q r : Iv} (h : IsSpan K a x y a.n q) (h' : IsSpan K a x y a.n r) : q = r := by
  have m1 := mayI_iff.1 h.may
  have m2 := mayI_iff.1 h'.may
  have le : ∀ {q r : Iv}, IsSpan K a x y a.n q → IsSpan K a x y a.n r → r.lo.v K ≤ q.lo.v K ∧ q.hi.v K ≤ r.hi.v K := fun {q r} h h' => by
    obtain ⟨j, hj, hjt, hv⟩ := h.lo
    obtain ⟨i, hi, hit, hw⟩ := h.hi
    have w1 := withinI_iff.1 (h'.all j hj hjt)
    have w2 := withinI_iff.1 (h'.all i hi hit)
    omega
  have l1 := le h h'
  have l2 := le h' h
  have e1 := one_of_v hK m1.1 m2.1 (by omega)
  have e2 := one_of_v hK m1.2.1 m2.2.1 (by omega)
  cases q; cases r
  cases e1; cases e2; rfl
/-- cells that have more than one time in common -/
def lapB (K : Nat) (a b : Tb) (i k : Nat) : Bool := decide (cmpQ K (a.T i) (b.T (k + 1)) < 0) && decide (cmpQ K (b.T k) (a.T (i + 1)) < 0)
def cellsB (K : Nat) (a b : Tb) (f : Iv → Iv → Bool) : Bool :=
  mayTb K a && (mayTb K b && (decide (cmpQ K (a.T 0) (b.T 0) = 0) && (decide (cmpQ K (a.T a.n) (b.T b.n) = 0) && eachB a.n fun i => eachB b.n fun k => !lapB K a b i k || f (a.V i) (b.V k))))
def InT (K : Nat) (f : Iv → Iv → Bool) (a b : Tb) : Prop := MayT K a ∧ MayT K b ∧ Holds2 (fun x y => f x y = true) a.n (a.t K) a.V b.n (b.t K) b.V
theorem cmpQ_eq (hx : x.may = true) (hy : y.may = true) : cmpQ K x y = 0 ↔ x.v K = y.v K := by
  rw [cmpQ_may hx hy]
  rcases cmpV_cases (x.v K) (y.v K) with ⟨h1, h2⟩ | ⟨h1, h2⟩ | ⟨h1, h2⟩ <;> rw [h1] <;> constructor <;> omega
theorem lapB_iff (ha : MayT K a) (hb : MayT K b) {i k : Nat} (hi : i < a.n) (hk : k < b.n) : lapB K a b i k = true ↔ Laps (a.t K) (b.t K) i k := by
  unfold lapB Laps Tb.t
  simp only [Bool.and_eq_true, decide_eq_true_eq]
  rw [cmpQ_lt (ha.T i (by omega)) (hb.T (k + 1) (by omega)), cmpQ_lt (hb.T k (by omega)) (ha.T (i + 1) (by omega))]
theorem cellsB_iff {f : Iv → Iv → Bool} : cellsB K a b f = true ↔ InT K f a b := by
  unfold cellsB InT Holds2
  simp only [Bool.and_eq_true, decide_eq_true_eq, eachB_iff, mayTb_iff, Bool.or_eq_true, Bool.not_eq_true']
  constructor
  · rintro ⟨h1, h2, h3, h4, h5⟩
    refine ⟨h1, h2, (cmpQ_eq (h1.T 0 (by omega)) (h2.T 0 (by omega))).1 h3, (cmpQ_eq (h1.T a.n (by omega)) (h2.T b.n (by omega))).1 h4, fun i hi k hk hl => ?_⟩
    rcases h5 i hi k hk with h | h
    · rw [(lapB_iff h1 h2 hi hk).2 hl] at h; cases h
    · exact h
  · rintro ⟨h1, h2, h3, h4, h5⟩
    refine ⟨h1, h2, (cmpQ_eq (h1.T 0 (by omega)) (h2.T 0 (by omega))).2 h3, (cmpQ_eq (h1.T a.n (by omega)) (h2.T b.n (by omega))).2 h4, fun i hi k hk => ?_⟩
    cases hl : lapB K a b i k
    · exact .inl rfl
    · exact .inr (h5 i hi k hk ((lapB_iff h1 h2 hi hk).1 hl))
theorem in_trans (h1 : InT K (withinI K) a b) (h2 : InT K (withinI K) b c) : InT K (withinI K) a c := ⟨h1.1, h2.2.1, holds_trans h1.1.rise h1.2.1.rise h2.2.1.rise h1.2.2 h2.2.2 fun _ _ _ => within_trans2⟩
theorem inside_trans (h1 : InT K (insideI K) a b) (h2 : InT K (withinI K) b c) : InT K (insideI K) a c := ⟨h1.1, h2.2.1, holds_trans h1.1.rise h1.2.1.rise h2.2.1.rise h1.2.2 h2.2.2 fun x y z g1 g2 => by
  obtain ⟨a1, a2, a3, a4⟩ := insideI_iff.1 g1
  obtain ⟨b1, b2, b3, b4⟩ := withinI_iff.1 g2
  exact insideI_iff.2 ⟨a1, b2, by omega, by omega⟩⟩
theorem in_self (h : MayT K a) : InT K (withinI K) a a := ⟨h, h, holds_refl h.rise fun i hi => within_self (h.V i hi)⟩
theorem inside_no (h : MayT K a) : cellsB K a a (insideI K) = false := Bool.eq_false_iff.2 fun h2 => by
  have h3 : insideI K (a.V 0) (a.V 0) = true := (cellsB_iff.1 h2).2.2.2.2 0 h.pos 0 h.pos ⟨h.rise 0 h.pos, h.rise 0 h.pos⟩
  rw [inside_self] at h3
  cases h3
/-- a tube of one cell -/
def oneT (x y : Rw) (v : Iv) : Tb := ⟨1, fun _ => v, 2, fun i => if i = 0 then x else y⟩
theorem onet_may {v : Iv} : MayT K (oneT x y v) ↔ x.may = true ∧ y.may = true ∧ x.v K < y.v K ∧ mayI K v = true := by
  constructor
  · intro h
    exact ⟨h.T 0 (by show 0 < 2; omega), h.T 1 (by show 1 < 2; omega), h.rise 0 (by show 0 < 1; omega), h.V 0 (by show 0 < 1; omega)⟩
  · rintro ⟨h1, h2, h3, h4⟩
    refine ⟨by show 1 ≤ 1; omega, by show 1 ≤ 256; omega, rfl, fun _ _ => h4, fun i hi => ?_, fun i hi => ?_⟩
    · have hi : i < 2 := hi
      rcases (show i = 0 ∨ i = 1 by omega) with rfl | rfl
      · exact h1
      · exact h2
    · have hi : i < 1 := hi
      obtain rfl : i = 0 := by omega
      exact h3
/-- a tube is within the one that is made of its hull -/
theorem in_hull (h : MayT K a) : InT K (withinI K) a (oneT (a.T 0) (a.T a.n) (overI K a (a.T 0) (a.T a.n))) ∧ OverOk K a (a.T 0) (a.T a.n) := by
  have h0 := h.T 0 (by omega)
  have hn := h.T a.n (by omega)
  have hlt := h.rise.lt h.pos (Nat.le_refl a.n)
  have ho : OverOk K a (a.T 0) (a.T a.n) := ⟨h, h0, hn, Int.le_of_lt hlt, Int.le_refl _, Int.le_refl _⟩
  have hs := over_is ho
  refine ⟨⟨h, onet_may.2 ⟨h0, hn, hlt, hs.may⟩, rfl, rfl, fun i hi k hk _ => hs.all i hi ⟨?_, ?_⟩⟩, ho⟩
  · exact h.rise.le (Nat.zero_le (i + 1)) (by omega)
  · exact h.rise.le (show i ≤ a.n by omega) (Nat.le_refl a.n)
end
end Go.Proofs.YtkpcmgfpmekkjaaDoor
