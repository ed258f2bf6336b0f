/-
  Contracts of tube's hull, Over, At, at this translation. Condition: the slices read as limbs, the table of math/bits reads as its text lays it.
-/
import Derived.Test.YtkpcmgfpmekkjaaDoorQUh
namespace Go.Proofs.YtkpcmgfpmekkjaaDoor
open Go.RowKit


/-- the hull of the first of some intervals and of i of them -/
def hulF (K : Nat) (V : Nat → Iv) : Nat → Iv
  | 0 => V 0
  | i + 1 => hullQ K (hulF K V i) (V i)
section
variable {K : Nat} {a : Tb} {x y : Rw} {V : Nat → Iv} {n : Nat}
theorem hulF_may (h0 : 0 < n) (h : ∀ i, i < n → mayI K (V i) = true) : ∀ {i : Nat}, i ≤ n → mayI K (hulF K V i) = true
  | 0, _ => h 0 h0
  | i + 1, hi => (hull_ok (hulF_may h0 h (i := i) (by omega)) (h i (by omega))).1
theorem hulF_all (h0 : 0 < n) (h : ∀ i, i < n → mayI K (V i) = true) : ∀ {i : Nat}, i ≤ n → ∀ j, j < i → withinI K (V j) (hulF K V i) = true
  | 0, _, j, hj => absurd hj (Nat.not_lt_zero j)
  | i + 1, hi, j, hj => by
    obtain ⟨_, k2, k3⟩ := hull_ok (hulF_may h0 h (i := i) (by omega)) (h i (by omega))
    rcases (show j < i ∨ j = i by omega) with h1 | rfl
    · exact within_trans2 (hulF_all h0 h (i := i) (by omega) j h1) k2
    · exact k3
theorem hulF_ends (h0 : 0 < n) (h : ∀ i, i < n → mayI K (V i) = true) : ∀ {i : Nat}, i ≤ n → (∃ j, j < n ∧ (V j).lo.v K = (hulF K V i).lo.v K) ∧ ∃ j, j < n ∧ (V j).hi.v K = (hulF K V i).hi.v K
  | 0, _ => ⟨⟨0, h0, rfl⟩, 0, h0, rfl⟩
  | i + 1, hi => by
    obtain ⟨⟨j, hj, hv⟩, k, hk, hw⟩ := hulF_ends h0 h (i := i) (by omega)
    have m1 := mayI_iff.1 (hulF_may h0 h (i := i) (by omega))
    have m2 := mayI_iff.1 (h i (by omega))
    constructor
    · rcases (fur_dn (K := K) m1.1 m2.1).1 with e | e
      · exact ⟨j, hj, by rw [hv]; show _ = (furQ K (hulF K V i).lo (V i).lo false).v K; rw [e]⟩
      · exact ⟨i, by omega, by show _ = (furQ K (hulF K V i).lo (V i).lo false).v K; rw [e]⟩
    · rcases (fur_up (K := K) m1.2.1 m2.2.1).1 with e | e
      · exact ⟨k, hk, by rw [hw]; show _ = (furQ K (hulF K V i).hi (V i).hi true).v K; rw [e]⟩
      · exact ⟨i, by omega, by show _ = (furQ K (hulF K V i).hi (V i).hi true).v K; rw [e]⟩
theorem sel_mem {q : Rw → Rw → Bool} {v : Iv} : ∀ {i : Nat}, v ∈ selV q a x y i ↔ ∃ j, j < i ∧ selB q a x y j = true ∧ v = a.V j
  | 0 => ⟨fun h => (by cases h), fun ⟨j, hj, _⟩ => absurd hj (Nat.not_lt_zero j)⟩
  | i + 1 => by
    show v ∈ (if selB q a x y i = true then selV q a x y i ++ [a.V i] else selV q a x y i) ↔ _
    have ih := sel_mem (q := q) (v := v) (i := i)
    by_cases h : selB q a x y i = true
    · rw [if_pos h, List.mem_append, List.mem_singleton, ih]
      constructor
      · rintro (⟨j, hj, h2⟩ | rfl)
        · exact ⟨j, by omega, h2⟩
        · exact ⟨i, by omega, h, rfl⟩
      · rintro ⟨j, hj, h2, rfl⟩
        rcases (show j < i ∨ j = i by omega) with h3 | rfl
        · exact .inl ⟨j, h3, h2, rfl⟩
        · exact .inr rfl
    · rw [if_neg h, ih]
      constructor
      · rintro ⟨j, hj, h2⟩
        exact ⟨j, by omega, h2⟩
      · rintro ⟨j, hj, h2, e⟩
        rcases (show j < i ∨ j = i by omega) with h3 | rfl
        · exact ⟨j, h3, h2, e⟩
        · exact absurd h2 h
theorem selUp_iff (hK : 4194304 ≤ K) (hm : MayT K a) (hx : x.may = true) (hy : y.may = true) {i : Nat} (hi : i < a.n) : selB (upB K) a x y i = true ↔ Touch (a.t K) i (x.v K) (y.v K) := by
  unfold selB Touch Tb.t
  rw [Bool.and_eq_true, upB_iff hK, upB_iff hK]
  have h1 := hm.T (i + 1) (by omega)
  have h0 := hm.T i (by omega)
  exact ⟨fun h => ⟨h.1.2.2, h.2.2.2⟩, fun h => ⟨⟨hx, h1, h.1⟩, h0, hy, h.2⟩⟩
/-- the hull of what is told is what is told of the span -/
theorem over_hull (hK : 4194304 ≤ K) (h : OverOk K a x y) : 0 < (selV (upB K) a x y a.n).length ∧ (∀ i, i < (selV (upB K) a x y a.n).length → mayI K ((selV (upB K) a x y a.n).getD i Iv.zero) = true) ∧ hulF K (fun i => (selV (upB K) a x y a.n).getD i Iv.zero) (selV (upB K) a x y a.n).length = overI K a x y := by
  have hmem : ∀ i, i < (selV (upB K) a x y a.n).length → ∃ j, j < a.n ∧ Touch (a.t K) j (x.v K) (y.v K) ∧ (selV (upB K) a x y a.n).getD i Iv.zero = a.V j := fun i hi => by
    have hm : (selV (upB K) a x y a.n).getD i Iv.zero ∈ selV (upB K) a x y a.n := by
      rw [List.getD_eq_getElem?_getD, List.getElem?_eq_getElem hi]
      exact List.getElem_mem hi
    obtain ⟨j, hj, hb, e⟩ := sel_mem.1 hm
    exact ⟨j, hj, (selUp_iff hK h.may h.mx h.my hj).1 hb, e⟩
  have hback : ∀ j, j < a.n → Touch (a.t K) j (x.v K) (y.v K) → ∃ i, i < (selV (upB K) a x y a.n).length ∧ (selV (upB K) a x y a.n).getD i Iv.zero = a.V j := fun j hj ht => by
    have hm : a.V j ∈ selV (upB K) a x y a.n := sel_mem.2 ⟨j, hj, (selUp_iff hK h.may h.mx h.my hj).2 ht, rfl⟩
    obtain ⟨i, hi, e⟩ := List.getElem_of_mem hm
    exact ⟨i, hi, by rw [List.getD_eq_getElem?_getD, List.getElem?_eq_getElem hi, ← e]; rfl⟩
  generalize selV (upB K) a x y a.n = L at *
  have hpos : 0 < L.length := by
    obtain ⟨i, hi, ht⟩ := touch_some h.may.rise h.may.pos h.lo h.le h.hi
    obtain ⟨k, hk, _⟩ := hback i hi ht
    omega
  have hmay : ∀ i, i < L.length → mayI K (L.getD i Iv.zero) = true := fun i hi => by
    obtain ⟨j, hj, _, e⟩ := hmem i hi
    rw [e]
    exact h.may.V j hj
  refine ⟨hpos, hmay, span_one hK ?_ (over_is h)⟩
  refine ⟨hulF_may hpos hmay (Nat.le_refl _), fun j hj ht => ?_, ?_, ?_⟩
  · obtain ⟨i, hi, e⟩ := hback j hj ht
    rw [← e]
    exact hulF_all hpos hmay (Nat.le_refl _) i hi
  · obtain ⟨⟨i, hi, e⟩, _⟩ := hulF_ends hpos hmay (Nat.le_refl _)
    obtain ⟨j, hj, ht, e2⟩ := hmem i hi
    exact ⟨j, hj, ht, by rw [← e2]; exact e⟩
  · obtain ⟨_, i, hi, e⟩ := hulF_ends hpos hmay (Nat.le_refl _)
    obtain ⟨j, hj, ht, e2⟩ := hmem i hi
    exact ⟨j, hj, ht, by rw [← e2]; exact e⟩
theorem up_break (hK : 4194304 ≤ K) (hm : MayT K a) : ∀ i j, i ≤ j → j < a.n → upB K (a.T i) y = false → upB K (a.T j) y = false := fun i j hij hj h => Bool.eq_false_iff.2 fun h2 => by
  obtain ⟨_, hy, hv⟩ := (upB_iff hK).1 h2
  have hle : (a.T i).v K ≤ (a.T j).v K := hm.rise.le hij (by omega)
  rw [(upB_iff hK).2 ⟨hm.T i (by omega), hy, by omega⟩] at h
  cases h
theorem up_ref (hK : 4194304 ≤ K) : upB K x y = (x.may && (y.may && !decide (cmpQ K y x < 0))) := by
  apply Bool.eq_iff_iff.2
  rw [upB_iff hK]
  simp only [Bool.and_eq_true, Bool.not_eq_true', decide_eq_false_iff_not]
  constructor
  · rintro ⟨h1, h2, h3⟩
    exact ⟨h1, h2, fun h => by have := (cmpQ_lt h2 h1).1 h; omega⟩
  · rintro ⟨h1, h2, h3⟩
    refine ⟨h1, h2, ?_⟩
    rw [cmpQ_lt h2 h1] at h3
    omega
theorem spans_ref (hK : 4194304 ≤ K) (hm : MayT K a) (h : upB K x y = true) : spansB K a x y = (inB K a x && inB K a y) := by
  obtain ⟨hx, hy, hxy⟩ := (upB_iff hK).1 h
  have h0 := hm.T 0 (by omega)
  have hn := hm.T a.n (by omega)
  apply Bool.eq_iff_iff.2
  unfold spansB inB
  simp only [Bool.and_eq_true, upB_iff hK, Bool.not_eq_true', decide_eq_false_iff_not]
  rw [cmpQ_lt hx h0, cmpQ_lt hn hx, cmpQ_lt hy h0, cmpQ_lt hn hy]
  constructor
  · rintro ⟨⟨_, _, h1⟩, _, _, h2⟩
    exact ⟨⟨hx, by omega, by omega⟩, hy, by omega, by omega⟩
  · rintro ⟨⟨_, h1, _⟩, _, _, h2⟩
    exact ⟨⟨h0, hx, by omega⟩, hy, hn, by omega⟩
/-- what is told of a span, as the program finds it -/
theorem over_1 (hK : 4194304 ≤ K) (h : (mayTb K a && upB K x y) = false) : overK K a x y = 1 := by
  unfold overK
  rw [← up_ref hK, h]
  exact if_neg (by decide)
theorem over_5 (hK : 4194304 ≤ K) (h : (mayTb K a && upB K x y) = true) (h2 : spansB K a x y = false) : overK K a x y = 5 := by
  have h3 := Bool.and_eq_true_iff.1 h
  unfold overK
  rw [← up_ref hK, if_pos h, ← spans_ref hK (mayTb_iff.1 h3.1) h3.2, h2]
  exact if_neg (by decide)
theorem over_0 (hK : 4194304 ≤ K) (h : (mayTb K a && upB K x y) = true) (h2 : spansB K a x y = true) : overK K a x y = 0 := by
  have h3 := Bool.and_eq_true_iff.1 h
  unfold overK
  rw [← up_ref hK, if_pos h, ← spans_ref hK (mayTb_iff.1 h3.1) h3.2, h2]
  exact if_pos rfl
theorem overI_no (h : overK K a x y ≠ 0) : overI K a x y = Iv.zero := if_neg h
end
theorem comes_up {K : Nat} (hK : 4194304 ≤ K) : Comes 28 (upB K) := ⟨fun _ _ _ => by kernel_rfl, fun hT h1 h2 => tupto_any hK hT h1 h2⟩
theorem Ibx.sixO {w : World} {g g' : Nat} {s : Bool} {A : Option Addr} {n c : Nat} {e : Int} {t : Bool} {B : Option Addr} {m d : Nat} {f : Int} (h : Ibx w g' s A n c e t B m d f) (hne : g' ≠ g) (u0 u1 u2 u3 u4 u5 : Value) : Ibx ((((((w.setCell ⟨g, 0, none⟩ u0).setCell ⟨g, 1, none⟩ u1).setCell ⟨g, 2, none⟩ u2).setCell ⟨g, 3, none⟩ u3).setCell ⟨g, 4, none⟩ u4).setCell ⟨g, 5, none⟩ u5) g' s A n c e t B m d f :=
  (((((h.other hne 0 u0).other hne 1 u1).other hne 2 u2).other hne 3 u3).other hne 4 u4).other hne 5 u5

set_option maxRecDepth 100000 in
set_option maxHeartbeats 8000000 in
theorem thull_any {w : World} {K n c : Nat} {A : Option Addr} {V : Nat → Iv} (hK : 4194304 ≤ K) (hT : Tab w) (hV : RdS w A n c V) (h0 : 0 < n) (hn : n ≤ 256) (hm : ∀ i, i < n → mayI K (V i) = true) :
    Calls Tryd.prog 30 #[.slice A n c] w (TellI 0 (hulF K V n) w) := by
  have HM := Lib.hid hm
  clear hm
  have hnn := hV.cap
  have hnm := hV.max
  have BB := below_alloc w (.cells #[.bool false, .slice none 0 0, .int .i64 0, .bool false, .slice none 0 0, .int .i64 0] 35)
  have r := Ibx.new w false none 0 0 0 false none 0 0 0
  have hW : (w.alloc (.cells #[.bool false, .slice none 0 0, .int .i64 0, .bool false, .slice none 0 0, .int .i64 0] 35)).heap.size = w.heap.size + 1 := by simp
  have hV0 := mv BB rfl hV
  have hT0 := mv BB rfl hT
  obtain ⟨g, off, hAV, hc⟩ := hV0.at_ (by omega)
  obtain ⟨A1, n1, c1, A2, n2, c2, ⟨y0, y1, y2, y3, y4, y5⟩, q1, q2⟩ := hc 0 h0
  simp only [Nat.zero_mul, Nat.add_zero] at y0 y1 y2 y3 y4 y5
  have hAV2 := Lib.hid hAV
  clear hc
  have hp0 : 0 < n := h0
  subst hAV
  go_enter Tryd.func30, Tryd.ntmps30
  go_upto_region 1 with fail
  generalize w.alloc (.cells #[.bool false, .slice none 0 0, .int .i64 0, .bool false, .slice none 0 0, .int .i64 0] 35) = W1 at *
  go_upto_region 2 with fail
  have b := below_alloc W1 (.cells #[.bool (V 0).lo.s, .slice A1 n1 c1, .int .i64 (V 0).lo.e, .bool (V 0).hi.s, .slice A2 n2 c2, .int .i64 (V 0).hi.e] 35)
  have xg : Ibx (W1.alloc (.cells #[.bool (V 0).lo.s, .slice A1 n1 c1, .int .i64 (V 0).lo.e, .bool (V 0).hi.s, .slice A2 n2 c2, .int .i64 (V 0).hi.e] 35)) W1.heap.size (hulF K V 0).lo.s A1 n1 c1 (hulF K V 0).lo.e (hulF K V 0).hi.s A2 n2 c2 (hulF K V 0).hi.e := Ibx.new W1 _ _ _ _ _ _ _ _ _ _
  replace q1 : Rd (W1.alloc (.cells #[.bool (V 0).lo.s, .slice A1 n1 c1, .int .i64 (V 0).lo.e, .bool (V 0).hi.s, .slice A2 n2 c2, .int .i64 (V 0).hi.e] 35)) .u64 Go.Proofs.YtkpcmgfpmekkjaaDoor.W A1 n1 c1 (hulF K V 0).lo.l := mv b rfl q1
  replace q2 : Rd (W1.alloc (.cells #[.bool (V 0).lo.s, .slice A1 n1 c1, .int .i64 (V 0).lo.e, .bool (V 0).hi.s, .slice A2 n2 c2, .int .i64 (V 0).hi.e] 35)) .u64 Go.Proofs.YtkpcmgfpmekkjaaDoor.W A2 n2 c2 (hulF K V 0).hi.l := mv b rfl q2
  replace r := mv b rfl r
  replace BB := bnx BB b rfl rfl rfl rfl
  clear b y0 y1 y2 y3 y4 y5
  rw [hW] at xg
  generalize W1.alloc (.cells #[.bool (V 0).lo.s, .slice A1 n1 c1, .int .i64 (V 0).lo.e, .bool (V 0).hi.s, .slice A2 n2 c2, .int .i64 (V 0).hi.e] 35) = W2 at *
  go_wp2
  go_loopg [13] n (fun k v wr => ∃ i : Nat, i + k = n ∧ v = .int .i64 i ∧ ∃ (A1 : Option Addr) (n1 c1 : Nat) (A2 : Option Addr) (n2 c2 : Nat), Ibx wr (w.heap.size + 1) (hulF K V i).lo.s A1 n1 c1 (hulF K V i).lo.e (hulF K V i).hi.s A2 n2 c2 (hulF K V i).hi.e ∧ Rd wr .u64 Go.Proofs.YtkpcmgfpmekkjaaDoor.W A1 n1 c1 (hulF K V i).lo.l ∧ Rd wr .u64 Go.Proofs.YtkpcmgfpmekkjaaDoor.W A2 n2 c2 (hulF K V i).hi.l ∧ Ibx wr w.heap.size false none 0 0 0 false none 0 0 0 ∧ Below w.heap.size w wr)
  case atStart => exact ⟨0, by omega, rfl, A1, n1, c1, A2, n2, c2, xg, q1, q2, r, BB⟩
  case round =>
    clear xg q1 q2 r BB
    obtain ⟨i, hg, rfl, A1, n1, c1, A2, n2, c2, xg, q1, q2, r, BB⟩ := hrel
    have HG := Lib.hid hg
    clear hg
    by_cases hi : i < n
    · have hp2 : (i : Int) < n := by omega
      have hp3 : (0 : Int) ≤ i := by omega
      obtain ⟨g5, o5, hAA, hd⟩ := (mv BB rfl hV).at_ (by omega)
      injection hAA with hAA
      injection hAA with e1 e2
      subst e1 e2
      obtain ⟨A3, n3, c3, A4, n4, c4, ⟨y0, y1, y2, y3, y4, y5⟩, q3, q4⟩ := hd i hi
      clear hd
      have HS : Hid (hulF K V (i + 1) = hullQ K (hulF K V i) (V i)) := Lib.hid rfl
      have HM1 := Lib.hid (hulF_may (K := K) (V := V) h0 (fun j hj => HM.out j hj) (i := i) (by omega))
      have HM2 := Lib.hid (HM.out i hi)
      obtain ⟨x2, hx2⟩ : ∃ z, z = hulF K V (i + 1) := ⟨_, rfl⟩
      rw [← hx2] at HS
      have HX2 := Lib.hid hx2
      clear hx2
      generalize hulF K V i = x at *
      generalize V i = v at *
      have hT1 := mv BB rfl hT
      go_upto_region 5 with fail
      have b := below_alloc wr (.cells #[.bool v.lo.s, .slice A3 n3 c3, .int .i64 v.lo.e, .bool v.hi.s, .slice A4 n4 c4, .int .i64 v.hi.e] 35)
      obtain ⟨z0, z1, z2, z3, z4, z5⟩ := (Ibx.new wr v.lo.s A3 n3 c3 v.lo.e v.hi.s A4 n4 c4 v.hi.e).held
      replace BB := bnx BB b rfl rfl rfl rfl
      have G := mv b rfl (J7 hT1 q1 q2 q3 q4 xg r)
      clear hT1 q1 q2 q3 q4 xg r
      obtain ⟨hT1, q1, q2, q3, q4, xg, r⟩ := G
      clear b y0 y1 y2 y3 y4 y5
      generalize wr.alloc (.cells #[.bool v.lo.s, .slice A3 n3 c3, .int .i64 v.lo.e, .bool v.hi.s, .slice A4 n4 c4, .int .i64 v.hi.e] 35) = W3 at *
      obtain ⟨k0, k1, k2, k3, k4, k5⟩ := xg.held
      go_wp2_with fail
      refine (ihull_any (K := K) (x := x) (y := v) hK hT1 q1 q2 q3 q4).mono ?_
      rw [hullK_ok HM1.out HM2.out, hullI_ok HM1.out HM2.out, ← HS.out]
      rintro en w4 ⟨A5, n5, c5, A6, n6, c6, rfl, h5, h6, b⟩
      replace BB := bnx BB b rfl rfl rfl rfl
      have G := mv b rfl <| And.intro xg <| r
      clear xg r
      obtain ⟨xg, r⟩ := G
      clear b q1 q2 q3 q4 hT1 z0 z1 z2 z3 z4 z5 k0 k1 k2 k3 k4 k5
      obtain ⟨f0, f1, f2, f3, f4, f5⟩ := xg.open
      obtain ⟨k0, k1, k2, k3, k4, k5⟩ := xg.held
      go_upto_region 6 with fail
      have xg2 := xg.put x2.lo.s A5 n5 c5 x2.lo.e x2.hi.s A6 n6 c6 x2.hi.e
      have h7 := h5.put6 xg (.bool x2.lo.s) (.slice A5 n5 c5) (.int .i64 x2.lo.e) (.bool x2.hi.s) (.slice A6 n6 c6) (.int .i64 x2.hi.e)
      have h8 := h6.put6 xg (.bool x2.lo.s) (.slice A5 n5 c5) (.int .i64 x2.lo.e) (.bool x2.hi.s) (.slice A6 n6 c6) (.int .i64 x2.hi.e)
      have r2 := r.sixO (g := w.heap.size + 1) (by omega) (.bool x2.lo.s) (.slice A5 n5 c5) (.int .i64 x2.lo.e) (.bool x2.hi.s) (.slice A6 n6 c6) (.int .i64 x2.hi.e)
      have HB3 := below_put6 (g := w.heap.size + 1) BB (by omega) (.bool x2.lo.s) (.slice A5 n5 c5) (.int .i64 x2.lo.e) (.bool x2.hi.s) (.slice A6 n6 c6) (.int .i64 x2.hi.e)
      clear xg h5 h6 r BB f0 f1 f2 f3 f4 f5 k0 k1 k2 k3 k4 k5
      generalize (((((w4.setCell ⟨w.heap.size + 1, 0, none⟩ (.bool x2.lo.s)).setCell ⟨w.heap.size + 1, 1, none⟩ (.slice A5 n5 c5)).setCell ⟨w.heap.size + 1, 2, none⟩ (.int .i64 x2.lo.e)).setCell ⟨w.heap.size + 1, 3, none⟩ (.bool x2.hi.s)).setCell ⟨w.heap.size + 1, 4, none⟩ (.slice A6 n6 c6)).setCell ⟨w.heap.size + 1, 5, none⟩ (.int .i64 x2.hi.e) = W5 at *
      go_wp2
      go_roundg (gk - 1)
      case measure => have := HG.out; omega
      case rel => exact ⟨i + 1, by have := HG.out; omega, by go_num, by rw [← HX2.out]; exact ⟨_, _, _, _, _, _, xg2, h7, h8, r2, HB3⟩⟩
    · have hin : i = n := by have := HG.out; omega
      rw [hin] at xg q1 q2
      clear HG hin
      generalize hulF K V n = x at *
      obtain ⟨k0, k1, k2, k3, k4, k5⟩ := xg.held
      obtain ⟨f0, f1, f2, f3, f4, f5⟩ := r.open
      obtain ⟨z0, z1, z2, z3, z4, z5⟩ := r.held
      go_wp2
      have qq := r.put x.lo.s A1 n1 c1 x.lo.e x.hi.s A2 n2 c2 x.hi.e
      have hN := q1.put6 r (.bool x.lo.s) (.slice A1 n1 c1) (.int .i64 x.lo.e) (.bool x.hi.s) (.slice A2 n2 c2) (.int .i64 x.hi.e)
      have hM := q2.put6 r (.bool x.lo.s) (.slice A1 n1 c1) (.int .i64 x.lo.e) (.bool x.hi.s) (.slice A2 n2 c2) (.int .i64 x.hi.e)
      have HB3 := below_put6 (g := w.heap.size) BB (by omega) (.bool x.lo.s) (.slice A1 n1 c1) (.int .i64 x.lo.e) (.bool x.hi.s) (.slice A2 n2 c2) (.int .i64 x.hi.e)
      obtain ⟨z0, z1, z2, z3, z4, z5⟩ := qq.held
      exact bodyPost_ret (v := .tuple #[.agg #[.bool x.lo.s, .slice A1 n1 c1, .int .i64 x.lo.e, .bool x.hi.s, .slice A2 n2 c2, .int .i64 x.hi.e], .int .i64 0]) (by simp [results, Tryd.results30, go_sem, z0, z1, z2, z3, z4, z5]) rfl ⟨_, _, _, _, _, _, rfl, hN, hM, HB3⟩

end Go.Proofs.YtkpcmgfpmekkjaaDoor
