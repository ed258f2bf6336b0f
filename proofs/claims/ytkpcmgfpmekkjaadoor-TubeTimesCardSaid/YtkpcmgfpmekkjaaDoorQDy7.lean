/-
  Contracts of dyad's sum (what it hands on to), at this translation. Condition: the Dyads' limbs read as naturals, the table of math/bits reads as its text lays it.
-/
import Derived.Test.YtkpcmgfpmekkjaaDoorQDy3
import Derived.OwnWalk
namespace Go.Proofs.YtkpcmgfpmekkjaaDoor
open Go.RowKit

def Owned (s : Bool) (l : List Nat) (e : Int) (n : Nat) (w : World) (en : Ending) (w' : World) : Prop := ∃ A1 c1, en = .returned (.agg #[.bool s, .slice A1 n c1, .int .i64 e]) ∧ Rd w' .u64 W A1 n c1 l ∧ Below w.heap.size w w'

set_option maxRecDepth 100000 in
set_option maxHeartbeats 1000000 in
theorem own_nil {w : World} {c : Nat} {s : Bool} {e : Int} :
    Calls Tryd.prog 82 #[.agg #[.bool s, .slice none 0 c, .int .i64 e]] w (Owned s [] e 0 w) := by
  go_enter Tryd.func82, Tryd.ntmps82
  have hB := two_below w (.cells #[.bool s, .slice none 0 0, .int .i64 e] 28) (.cells #[.bool s, .slice none 0 0, .int .i64 e] 28)
  go_wp2
  exact bodyPost_ret (v := .agg #[.bool s, .slice none 0 0, .int .i64 e]) (by simp [results, Tryd.results82, go_sem]) rfl ⟨none, 0, rfl, Rd.nil _ _ _ _ (by omega), hB⟩
set_option maxRecDepth 100000 in
set_option maxHeartbeats 1000000 in
theorem own_some {w : World} {ad : Addr} {n c : Nat} {l : List Nat} {s : Bool} {e : Int} (h : Rd w .u64 W (some ad) n c l) (hn : n ≤ 10000000000000) :
    Calls Tryd.prog 82 #[.agg #[.bool s, .slice (some ad) n c, .int .i64 e]] w (Owned s l e n w) := by
  obtain ⟨i0, hi, hz0, hz1, hz2⟩ := info_parts info64
  have A : Aside (∀ j u, (iv .u64 l)[j]? = some u → w.cell? (ad.add j) = some u) := by
    intro j u hj
    have hj' : j < n := by
      have := (List.getElem?_eq_some_iff.1 hj).1
      rw [iv_length, h.len] at this; exact this
    obtain ⟨b, o, e, hb, hc⟩ := h.at_ (by omega)
    injection e with e
    subst e
    rw [iv_get _ _ _ (by rw [h.len]; exact hj')] at hj
    rw [Addr.add_lit, hc j hj', hj]
  have hl : (iv .u64 l).length = n * 1 := by rw [iv_length, h.len, Nat.mul_one]
  have hB := two_below w (.cells #[.bool s, .slice (some ad) n c, .int .i64 e] 28) (.cells #[.bool false, .slice none 0 0, .int .i64 0] 28)
  have g := two_new w s false (some ad) none n c 0 0 e 0
  go_enter Tryd.func82, Tryd.ntmps82
  go_wp2_with (at_builtin; refine wpList_append_own _ rfl _ _ 26 rfl (w.heap.size + 2) 52 i0 (.int .u64 0) 1 8 Tryd.underlying26 hi hz0 hz1 hz2 rfl (by decide) _ _ _ rfl (World.ownsRow_nil ..) ad n c (iv .u64 l) rfl ?qc1 ?qc2 ?qc3 ?qc4 ?qc5 ?qc6 ?_)
  case qc1 => exact hl
  case qc2 =>
    intro j u hj
    exact Lib.cell?_alloc_some _ (Lib.cell?_alloc_some _ (A.out j u hj))
  case qc3 =>
    intro v hv
    obtain ⟨x, _, rfl⟩ := List.mem_map.1 hv
    rfl
  case qc4 => unfold maxLen; omega
  case qc5 => omega
  case qc6 => simp
  intro v' w1 hown hgrow hnil
  have hgn : ((w.alloc (.cells #[.bool s, .slice (some ad) n c, .int .i64 e] 28)).alloc (.cells #[.bool false, .slice none 0 0, .int .i64 0] 28)).grownBy w1 none := hgrow
  have b1 := below_none hgn
  have g1 := g.below b1 g.b.gl
  have BB := hB.trans (b1.mono hB.size)
  have hown' : Own (w.heap.size + 2) w1 52 .u64 v' l := by unfold Own; rw [h.len]; exact hown
  obtain ⟨A', c', rfl, hrd⟩ := hown'.rd h.lt
  rw [h.len] at hrd ⊢
  obtain ⟨q0, q1, q2, q3, q4, q5⟩ := g1.held
  have f1 := g1.a.frozen 1
  obtain ⟨f2, f3, f4⟩ := g1.b.open
  have ne1 : ¬ w.heap.size = w.heap.size + 1 := by omega
  have ne2 : ¬ w.heap.size + 1 = w.heap.size := by omega
  clear hown hgrow hnil hgn hown' hl g b1 hB A hi hz0 hz1 hz2
  go_wp2
  have p := (g1.b.other (g' := w.heap.size) (by omega) 1 (.slice A' n c')).put s A' n c' e
  have na := hrd.off g1.a.no
  have nb := hrd.off g1.b.no
  have hN := (((hrd.set1 na 1 (.slice A' n c')).set1 nb 0 (.bool s)).set1 nb 1 (.slice A' n c')).set1 nb 2 (.int .i64 e)
  have HB3 := below_put3 (g := w.heap.size + 1) (BB.setCell (p := ⟨w.heap.size, 1, none⟩) (Nat.le_refl _) (.slice A' n c')) (by omega) (.bool s) (.slice A' n c') (.int .i64 e)
  obtain ⟨z0, z1, z2⟩ := p.held
  exact bodyPost_ret (v := .agg #[.bool s, .slice A' n c', .int .i64 e]) (by simp [results, Tryd.results82, go_sem, z0, z1, z2]) rfl ⟨_, _, rfl, hN, HB3⟩
theorem own_any {w : World} {A : Option Addr} {n c : Nat} {l : List Nat} {s : Bool} {e : Int} (h : Rd w .u64 W A n c l) (hn : n ≤ 10000000000000) :
    Calls Tryd.prog 82 #[.agg #[.bool s, .slice A n c, .int .i64 e]] w (Owned s l e n w) := by
  rcases A with _ | ad
  · have h0 : n = 0 := by
      rcases Nat.eq_zero_or_pos n with h0 | h0
      · exact h0
      · obtain ⟨_, _, e, _⟩ := h.at_ (by omega)
        cases e
    subst h0
    have e := h.empty rfl
    subst e
    exact own_nil
  · exact own_some h hn

/-- the sign of a Dyad that may be -/
def signD (s : Bool) (m : Nat) : Int := if m = 0 then 0 else if s then -1 else 1
theorem sign_ok {w : World} {A : Option Addr} {n c m : Nat} {s : Bool} {e : Int} (hT : Tab w) (h : Nt w A n c m) (hd : OkD s m e) :
    Calls Tryd.prog 25 #[.agg #[.bool s, .slice A n c, .int .i64 e]] w (Ints (signD s m) w) := by
  have hB := below_alloc w (.cells #[.bool s, .slice A n c, .int .i64 e] 28)
  have g := Box.new w s A n c e
  have HD := Lib.hid (mayD_ok hd)
  by_cases h0 : n = 0
  · have hm := h.zero.1 h0
    have f0 : ((n : Int) == 0) = true := by simp [h0]
    have HS : Hid (signD s m = 0) := Lib.hid (by unfold signD; rw [if_pos hm])
    clear h0 hm hd
    go_enter Tryd.func25, Tryd.ntmps25
    go_wp2_with fail
    refine (dmay_any (s := s) (e := e) (hT.below hB) (h.below hB).rd).mono ?_
    rintro en w' ⟨rfl, b⟩
    rw [HD.out]
    have BB := hB.trans (b.mono hB.size)
    obtain ⟨q0, q1, q2⟩ := (g.next b rfl).held
    clear b h hT g
    go_wp2
    go_ret
    exact ⟨by rw [HS.out]; rfl, BB⟩
  · have hm : m ≠ 0 := fun e => h0 (h.zero.2 e)
    have f0 : ((n : Int) == 0) = false := by simp [h0]
    have HS : Hid (signD s m = if s then -1 else 1) := Lib.hid (by unfold signD; rw [if_neg hm])
    clear h0 hm hd
    cases s
    all_goals
      go_enter Tryd.func25, Tryd.ntmps25
      go_wp2_with fail
      refine (dmay_any (e := e) (hT.below hB) (h.below hB).rd).mono ?_
      rintro en w' ⟨rfl, b⟩
      rw [HD.out]
      have BB := hB.trans (b.mono hB.size)
      obtain ⟨q0, q1, q2⟩ := (g.next b rfl).held
      clear b h hT g
      go_wp2
      go_ret
      exact ⟨by rw [HS.out]; rfl, BB⟩

/-- slices.Equal -/
theorem equal_any {w : World} {A B : Option Addr} {n c m d : Nat} {l r : List Nat} (h : Rd w .u64 W A n c l) (h' : Rd w .u64 W B m d r) :
    Calls Tryd.prog 43 #[.slice A n c, .slice B m d] w fun e w' => e = .returned (.bool (decide (l = r))) ∧ Below w.heap.size w w' := by
  have hc := h.cap
  have hm := h.max
  have hc' := h'.cap
  have hm' := h'.max
  by_cases hnm : n = m
  · subst hnm
    have f0 : ((n : Int) != (n : Int)) = false := by simp
    go_enter Tryd.func43, Tryd.ntmps43
    go_wp2
    go_loopg [13] n (fun g v wr => ∃ i : Nat, i + g = n ∧ v = .int .i64 i ∧ l.take i = r.take i ∧ Below w.heap.size w wr)
    case atStart => exact ⟨0, by omega, rfl, by simp, Below.refl _ _⟩
    case round =>
      obtain ⟨i, hg, rfl, ht, hb⟩ := hrel
      have HG := Lib.hid hg
      have HTK := Lib.hid ht
      clear hg ht
      by_cases hi : i < n
      · obtain ⟨a, o, rfl, ha, hca⟩ := (h.below hb).at_ (by omega)
        obtain ⟨a', o', rfl, ha', hca'⟩ := (h'.below hb).at_ (by omega)
        obtain ⟨x, hx⟩ : ∃ x, x = l.getD i 0 := ⟨_, rfl⟩
        obtain ⟨y, hy⟩ : ∃ y, y = r.getD i 0 := ⟨_, rfl⟩
        have c1 : wr.cell? ⟨a, o + i, none⟩ = some (.int .u64 (x : Int)) := by rw [hx]; exact hca i hi
        have c2 : wr.cell? ⟨a', o' + i, none⟩ = some (.int .u64 (y : Int)) := by rw [hy]; exact hca' i hi
        have hp2 : (i : Int) < n := by omega
        have hp3 : (0 : Int) ≤ i := by omega
        have HX := Lib.hid hx
        have HY := Lib.hid hy
        clear hx hy hca hca'
        by_cases hxy : x = y
        · subst hxy
          have f1 : ((x : Int) != (x : Int)) = false := by simp
          go_wp2
          go_quiet (fail)
          go_wp2
          go_roundg (gk - 1)
          case measure => have := HG.out; omega
          case rel =>
            refine ⟨i + 1, by have := HG.out; omega, by go_num, ?_, below_drewN hb _⟩
            have e1 : l[i]? = some x := by
              rw [HX.out, List.getD_eq_getElem?_getD, List.getElem?_eq_getElem (by rw [h.len]; exact hi)]; rfl
            have e2 : r[i]? = some x := by
              rw [HY.out, List.getD_eq_getElem?_getD, List.getElem?_eq_getElem (by rw [h'.len]; exact hi)]; rfl
            rw [List.take_add_one, List.take_add_one, HTK.out, e1, e2]
        · have f1 : ((x : Int) != (y : Int)) = true := by simp; omega
          have HF : Hid (decide (l = r) = false) := Lib.hid (decide_eq_false (fun he => hxy (by rw [HX.out, HY.out, he])))
          clear hxy
          go_wp2
          go_quiet (fail)
          go_wp2
          go_ret
          exact ⟨by rw [HF.out]; rfl, below_drewN hb _⟩
      · have hin : i = n := by have := HG.out; omega
        have HF : Hid (decide (l = r) = true) := Lib.hid (decide_eq_true (by
          have := HTK.out
          rwa [hin, List.take_of_length_le (by rw [h.len]; omega), List.take_of_length_le (by rw [h'.len]; omega)] at this))
        clear hin
        go_wp2
        go_ret
        exact ⟨by rw [HF.out]; rfl, hb⟩
  · have f0 : ((n : Int) != (m : Int)) = true := by simp; omega
    have HF : Hid (decide (l = r) = false) := Lib.hid (decide_eq_false (fun he => hnm (by rw [← h.len, ← h'.len, he])))
    clear hnm
    go_enter Tryd.func43, Tryd.ntmps43
    go_wp2
    go_ret
    exact ⟨by rw [HF.out]; rfl, Below.refl _ _⟩
end Go.Proofs.YtkpcmgfpmekkjaaDoor

namespace Go.Proofs.YtkpcmgfpmekkjaaDoor
open Go.RowKit

theorem ran_good {P : Int → Bool → Nat → Int → Prop} {w w' : World} {en : Ending} {s : Bool} {m : Nat} {e : Int} (h : Goods s m e w en w') (hP : P 0 s m e) : Ran P w en w' := by
  obtain ⟨A1, n1, c1, h1, h2, h3⟩ := h
  exact .inl ⟨_, _, _, _, _, _, h1, hP, h2, h3⟩
theorem ran_fault {P : Int → Bool → Nat → Int → Prop} {w w' : World} {en : Ending} {k : Int} (h : Faults k w en w') (hk : k ≠ 0) (hP : P k false 0 0) : Ran P w en w' :=
  .inr ⟨k, h.1, hk, hP, h.2⟩

set_option maxRecDepth 100000 in
set_option maxHeartbeats 1000000 in
theorem sum_a0 {w : World} {A B : Option Addr} {n c m d x y : Nat} {s t : Bool} {e f : Int} {P : Int → Bool → Nat → Int → Prop} (h : Nt w A n c x) (h' : Nt w B m d y) (hx : x = 0) (hP : P 0 t y f) :
    Calls Tryd.prog 74 #[.agg #[.bool s, .slice A n c, .int .i64 e], .agg #[.bool t, .slice B m d, .int .i64 f]] w (Ran P w) := by
  have f0 : ((n : Int) == 0) = true := by simp [h.zero.2 hx]
  have HP := Lib.hid hP
  have HT := Lib.hid h'.lt
  have hle := h'.le
  clear hx hP
  have g := (two_new w s t A B n c m d e f).alloc (.cells #[.bool false, .slice none 0 0, .int .i64 0] 28)
  have r := box_two w (.cells #[.bool s, .slice A n c, .int .i64 e] 28) (.cells #[.bool t, .slice B m d, .int .i64 f] 28) false none 0 0 0
  have BB := three_below w (.cells #[.bool s, .slice A n c, .int .i64 e] 28) (.cells #[.bool t, .slice B m d, .int .i64 f] 28) (.cells #[.bool false, .slice none 0 0, .int .i64 0] 28)
  obtain ⟨p0, p1, p2, p3, p4, p5⟩ := g.held
  have h1 := h.below BB
  have h2 := h'.below BB
  have ne1 : ¬ w.heap.size + 2 = w.heap.size + 1 := by omega
  have ne2 : ¬ w.heap.size + 1 = w.heap.size + 2 := by omega
  have ne3 : ¬ w.heap.size = w.heap.size + 2 := by omega
  have ne4 : ¬ w.heap.size + 2 = w.heap.size := by omega
  clear h h'
  go_enter Tryd.func74, Tryd.ntmps74
  go_wp2_with fail
  refine (own_any h2.rd (by omega)).mono ?_
  rintro en w2 ⟨A5, c5, rfl, h5, b⟩
  replace h5 : Nt w2 A5 m c5 y := ⟨h5, HT.out⟩
  replace r := r.next b rfl
  replace BB := bnx BB b rfl rfl rfl rfl
  obtain ⟨f5, f6, f7⟩ := r.open
  obtain ⟨z0, z1, z2⟩ := r.held
  clear b
  go_wp2
  have p := r.put t A5 m c5 f
  have hN5 := h5.put3 r (.bool t) (.slice A5 m c5) (.int .i64 f)
  have HB3 := below_put3 (g := w.heap.size + 2) BB (by omega) (.bool t) (.slice A5 m c5) (.int .i64 f)
  obtain ⟨z0, z1, z2⟩ := p.held
  exact bodyPost_ret (v := .agg #[.bool t, .slice A5 m c5, .int .i64 f]) (by simp [results, Tryd.results74, go_sem, z0, z1, z2]) rfl (.inl ⟨_, _, _, _, _, _, rfl, HP.out, hN5, HB3⟩)
set_option maxRecDepth 100000 in
set_option maxHeartbeats 1000000 in
theorem sum_b0 {w : World} {A B : Option Addr} {n c m d x y : Nat} {s t : Bool} {e f : Int} {P : Int → Bool → Nat → Int → Prop} (h : Nt w A n c x) (h' : Nt w B m d y) (hx : x ≠ 0) (hy : y = 0) (hP : P 0 s x e) :
    Calls Tryd.prog 74 #[.agg #[.bool s, .slice A n c, .int .i64 e], .agg #[.bool t, .slice B m d, .int .i64 f]] w (Ran P w) := by
  have f0 : ((n : Int) == 0) = false := by simp; intro h0; exact hx (h.zero.1 h0)
  have f1 : ((m : Int) == 0) = true := by simp [h'.zero.2 hy]
  have HP := Lib.hid hP
  have HT := Lib.hid h.lt
  have hle := h.le
  clear hx hy hP
  have g := (two_new w s t A B n c m d e f).alloc (.cells #[.bool false, .slice none 0 0, .int .i64 0] 28)
  have r := box_two w (.cells #[.bool s, .slice A n c, .int .i64 e] 28) (.cells #[.bool t, .slice B m d, .int .i64 f] 28) false none 0 0 0
  have BB := three_below w (.cells #[.bool s, .slice A n c, .int .i64 e] 28) (.cells #[.bool t, .slice B m d, .int .i64 f] 28) (.cells #[.bool false, .slice none 0 0, .int .i64 0] 28)
  obtain ⟨p0, p1, p2, p3, p4, p5⟩ := g.held
  have h1 := h.below BB
  have h2 := h'.below BB
  have ne1 : ¬ w.heap.size + 2 = w.heap.size + 1 := by omega
  have ne2 : ¬ w.heap.size + 1 = w.heap.size + 2 := by omega
  have ne3 : ¬ w.heap.size = w.heap.size + 2 := by omega
  have ne4 : ¬ w.heap.size + 2 = w.heap.size := by omega
  clear h h'
  go_enter Tryd.func74, Tryd.ntmps74
  go_wp2_with fail
  refine (own_any h1.rd (by omega)).mono ?_
  rintro en w2 ⟨A5, c5, rfl, h5, b⟩
  replace h5 : Nt w2 A5 n c5 x := ⟨h5, HT.out⟩
  replace r := r.next b rfl
  replace BB := bnx BB b rfl rfl rfl rfl
  obtain ⟨f5, f6, f7⟩ := r.open
  obtain ⟨z0, z1, z2⟩ := r.held
  clear b
  go_wp2
  have p := r.put s A5 n c5 e
  have hN5 := h5.put3 r (.bool s) (.slice A5 n c5) (.int .i64 e)
  have HB3 := below_put3 (g := w.heap.size + 2) BB (by omega) (.bool s) (.slice A5 n c5) (.int .i64 e)
  obtain ⟨z0, z1, z2⟩ := p.held
  exact bodyPost_ret (v := .agg #[.bool s, .slice A5 n c5, .int .i64 e]) (by simp [results, Tryd.results74, go_sem, z0, z1, z2]) rfl (.inl ⟨_, _, _, _, _, _, rfl, HP.out, hN5, HB3⟩)
set_option maxRecDepth 100000 in
set_option maxHeartbeats 1000000 in
theorem sum_tog {w : World} {A B : Option Addr} {n c m d x y : Nat} {s : Bool} {e f : Int} {P : Int → Bool → Nat → Int → Prop} (h : Nt w A n c x) (h' : Nt w B m d y) (hx : x ≠ 0) (hy : y ≠ 0)
    (hc : ∀ W2 : World, Below w.heap.size w W2 → Calls Tryd.prog 83 #[.agg #[.bool s, .slice A n c, .int .i64 e], .agg #[.bool s, .slice B m d, .int .i64 f]] W2 (Ran P W2)) :
    Calls Tryd.prog 74 #[.agg #[.bool s, .slice A n c, .int .i64 e], .agg #[.bool s, .slice B m d, .int .i64 f]] w (Ran P w) := by
  have f0 : ((n : Int) == 0) = false := by simp; intro h0; exact hx (h.zero.1 h0)
  have f1 : ((m : Int) == 0) = false := by simp; intro h0; exact hy (h'.zero.1 h0)
  have HC := Lib.hid hc
  clear hx hy hc
  have g := (two_new w s s A B n c m d e f).alloc (.cells #[.bool false, .slice none 0 0, .int .i64 0] 28)
  have r := box_two w (.cells #[.bool s, .slice A n c, .int .i64 e] 28) (.cells #[.bool s, .slice B m d, .int .i64 f] 28) false none 0 0 0
  have BB := three_below w (.cells #[.bool s, .slice A n c, .int .i64 e] 28) (.cells #[.bool s, .slice B m d, .int .i64 f] 28) (.cells #[.bool false, .slice none 0 0, .int .i64 0] 28)
  obtain ⟨p0, p1, p2, p3, p4, p5⟩ := g.held
  have h1 := h.below BB
  have h2 := h'.below BB
  have ne1 : ¬ w.heap.size + 2 = w.heap.size + 1 := by omega
  have ne2 : ¬ w.heap.size + 1 = w.heap.size + 2 := by omega
  have ne3 : ¬ w.heap.size = w.heap.size + 2 := by omega
  have ne4 : ¬ w.heap.size + 2 = w.heap.size := by omega
  clear h h'
  have fs : (s == s) = true := by simp
  go_enter Tryd.func74, Tryd.ntmps74
  go_wp2_with fail
  refine (HC.out _ BB).mono ?_
  rintro en w2 (⟨s5, A5, n5, c5, m5, e5, rfl, hP, h5, b⟩ | ⟨k, rfl, hk, hP, b⟩)
  · have HP := Lib.hid hP
    clear hP
    replace r := r.next b rfl
    replace BB := bnx BB b rfl rfl rfl rfl
    obtain ⟨f5, f6, f7⟩ := r.open
    obtain ⟨z0, z1, z2⟩ := r.held
    clear b
    go_wp2
    have p := r.put s5 A5 n5 c5 e5
    have hN5 := h5.put3 r (.bool s5) (.slice A5 n5 c5) (.int .i64 e5)
    have HB3 := below_put3 (g := w.heap.size + 2) BB (by omega) (.bool s5) (.slice A5 n5 c5) (.int .i64 e5)
    obtain ⟨z0, z1, z2⟩ := p.held
    exact bodyPost_ret (v := .agg #[.bool s5, .slice A5 n5 c5, .int .i64 e5]) (by simp [results, Tryd.results74, go_sem, z0, z1, z2]) rfl (.inl ⟨_, _, _, _, _, _, rfl, HP.out, hN5, HB3⟩)
  · replace BB := bnx BB b rfl rfl rfl rfl
    have HP := Lib.hid hP
    have HK := Lib.hid hk
    clear b hP hk
    go_wp2
    exact ⟨rfl, .inr ⟨k, rfl, HK.out, HP.out, BB⟩⟩
set_option maxRecDepth 100000 in
set_option maxHeartbeats 1000000 in
theorem sum_wo1 {w : World} {A B : Option Addr} {n c m d x y : Nat} {s t : Bool} {e f : Int} {P : Int → Bool → Nat → Int → Prop} (h : Nt w A n c x) (h' : Nt w B m d y) (hx : x ≠ 0) (hy : y ≠ 0) (hst : (s == t) = false)
    (hz : ∀ W2 : World, Below w.heap.size w W2 → Calls Tryd.prog 27 #[.agg #[.bool s, .slice A n c, .int .i64 e], .agg #[.bool t, .slice B m d, .int .i64 f]] W2 (Ints 1 W2))
    (hc : ∀ W2 : World, Below w.heap.size w W2 → Calls Tryd.prog 84 #[.agg #[.bool s, .slice A n c, .int .i64 e], .agg #[.bool t, .slice B m d, .int .i64 f]] W2 (Ran P W2)) :
    Calls Tryd.prog 74 #[.agg #[.bool s, .slice A n c, .int .i64 e], .agg #[.bool t, .slice B m d, .int .i64 f]] w (Ran P w) := by
  have f0 : ((n : Int) == 0) = false := by simp; intro h0; exact hx (h.zero.1 h0)
  have f1 : ((m : Int) == 0) = false := by simp; intro h0; exact hy (h'.zero.1 h0)
  have HC := Lib.hid hc
  have HZ := Lib.hid hz
  clear hx hy hc hz
  have g := (two_new w s t A B n c m d e f).alloc (.cells #[.bool false, .slice none 0 0, .int .i64 0] 28)
  have r := box_two w (.cells #[.bool s, .slice A n c, .int .i64 e] 28) (.cells #[.bool t, .slice B m d, .int .i64 f] 28) false none 0 0 0
  have BB := three_below w (.cells #[.bool s, .slice A n c, .int .i64 e] 28) (.cells #[.bool t, .slice B m d, .int .i64 f] 28) (.cells #[.bool false, .slice none 0 0, .int .i64 0] 28)
  obtain ⟨p0, p1, p2, p3, p4, p5⟩ := g.held
  have h1 := h.below BB
  have h2 := h'.below BB
  have ne1 : ¬ w.heap.size + 2 = w.heap.size + 1 := by omega
  have ne2 : ¬ w.heap.size + 1 = w.heap.size + 2 := by omega
  have ne3 : ¬ w.heap.size = w.heap.size + 2 := by omega
  have ne4 : ¬ w.heap.size + 2 = w.heap.size := by omega
  clear h h'
  go_enter Tryd.func74, Tryd.ntmps74
  go_wp2_with fail
  refine (HZ.out _ BB).mono ?_
  rintro en w1 ⟨rfl, b⟩
  replace g := g.next b rfl
  replace r := r.next b rfl
  replace BB := bnx BB b rfl rfl rfl rfl
  obtain ⟨q0, q1, q2, q3, q4, q5⟩ := g.held
  clear b
  go_wp2_with fail
  refine (HC.out _ BB).mono ?_
  rintro en w2 (⟨s5, A5, n5, c5, m5, e5, rfl, hP, h5, b⟩ | ⟨k, rfl, hk, hP, b⟩)
  · have HP := Lib.hid hP
    clear hP
    replace r := r.next b rfl
    replace BB := bnx BB b rfl rfl rfl rfl
    obtain ⟨f5, f6, f7⟩ := r.open
    obtain ⟨z0, z1, z2⟩ := r.held
    clear b
    go_wp2
    have p := r.put s5 A5 n5 c5 e5
    have hN5 := h5.put3 r (.bool s5) (.slice A5 n5 c5) (.int .i64 e5)
    have HB3 := below_put3 (g := w.heap.size + 2) BB (by omega) (.bool s5) (.slice A5 n5 c5) (.int .i64 e5)
    obtain ⟨z0, z1, z2⟩ := p.held
    exact bodyPost_ret (v := .agg #[.bool s5, .slice A5 n5 c5, .int .i64 e5]) (by simp [results, Tryd.results74, go_sem, z0, z1, z2]) rfl (.inl ⟨_, _, _, _, _, _, rfl, HP.out, hN5, HB3⟩)
  · replace BB := bnx BB b rfl rfl rfl rfl
    have HP := Lib.hid hP
    have HK := Lib.hid hk
    clear b hP hk
    go_wp2
    exact ⟨rfl, .inr ⟨k, rfl, HK.out, HP.out, BB⟩⟩
set_option maxRecDepth 100000 in
set_option maxHeartbeats 1000000 in
theorem sum_wo2 {w : World} {A B : Option Addr} {n c m d x y : Nat} {s t : Bool} {e f : Int} {P : Int → Bool → Nat → Int → Prop} (h : Nt w A n c x) (h' : Nt w B m d y) (hx : x ≠ 0) (hy : y ≠ 0) (hst : (s == t) = false)
    (hz : ∀ W2 : World, Below w.heap.size w W2 → Calls Tryd.prog 27 #[.agg #[.bool s, .slice A n c, .int .i64 e], .agg #[.bool t, .slice B m d, .int .i64 f]] W2 (Ints (-1) W2))
    (hc : ∀ W2 : World, Below w.heap.size w W2 → Calls Tryd.prog 84 #[.agg #[.bool t, .slice B m d, .int .i64 f], .agg #[.bool s, .slice A n c, .int .i64 e]] W2 (Ran P W2)) :
    Calls Tryd.prog 74 #[.agg #[.bool s, .slice A n c, .int .i64 e], .agg #[.bool t, .slice B m d, .int .i64 f]] w (Ran P w) := by
  have f0 : ((n : Int) == 0) = false := by simp; intro h0; exact hx (h.zero.1 h0)
  have f1 : ((m : Int) == 0) = false := by simp; intro h0; exact hy (h'.zero.1 h0)
  have HC := Lib.hid hc
  have HZ := Lib.hid hz
  clear hx hy hc hz
  have g := (two_new w s t A B n c m d e f).alloc (.cells #[.bool false, .slice none 0 0, .int .i64 0] 28)
  have r := box_two w (.cells #[.bool s, .slice A n c, .int .i64 e] 28) (.cells #[.bool t, .slice B m d, .int .i64 f] 28) false none 0 0 0
  have BB := three_below w (.cells #[.bool s, .slice A n c, .int .i64 e] 28) (.cells #[.bool t, .slice B m d, .int .i64 f] 28) (.cells #[.bool false, .slice none 0 0, .int .i64 0] 28)
  obtain ⟨p0, p1, p2, p3, p4, p5⟩ := g.held
  have h1 := h.below BB
  have h2 := h'.below BB
  have ne1 : ¬ w.heap.size + 2 = w.heap.size + 1 := by omega
  have ne2 : ¬ w.heap.size + 1 = w.heap.size + 2 := by omega
  have ne3 : ¬ w.heap.size = w.heap.size + 2 := by omega
  have ne4 : ¬ w.heap.size + 2 = w.heap.size := by omega
  clear h h'
  go_enter Tryd.func74, Tryd.ntmps74
  go_wp2_with fail
  refine (HZ.out _ BB).mono ?_
  rintro en w1 ⟨rfl, b⟩
  replace g := g.next b rfl
  replace r := r.next b rfl
  replace BB := bnx BB b rfl rfl rfl rfl
  obtain ⟨q0, q1, q2, q3, q4, q5⟩ := g.held
  clear b
  go_wp2_with fail
  refine (HC.out _ BB).mono ?_
  rintro en w2 (⟨s5, A5, n5, c5, m5, e5, rfl, hP, h5, b⟩ | ⟨k, rfl, hk, hP, b⟩)
  · have HP := Lib.hid hP
    clear hP
    replace r := r.next b rfl
    replace BB := bnx BB b rfl rfl rfl rfl
    obtain ⟨f5, f6, f7⟩ := r.open
    obtain ⟨z0, z1, z2⟩ := r.held
    clear b
    go_wp2
    have p := r.put s5 A5 n5 c5 e5
    have hN5 := h5.put3 r (.bool s5) (.slice A5 n5 c5) (.int .i64 e5)
    have HB3 := below_put3 (g := w.heap.size + 2) BB (by omega) (.bool s5) (.slice A5 n5 c5) (.int .i64 e5)
    obtain ⟨z0, z1, z2⟩ := p.held
    exact bodyPost_ret (v := .agg #[.bool s5, .slice A5 n5 c5, .int .i64 e5]) (by simp [results, Tryd.results74, go_sem, z0, z1, z2]) rfl (.inl ⟨_, _, _, _, _, _, rfl, HP.out, hN5, HB3⟩)
  · replace BB := bnx BB b rfl rfl rfl rfl
    have HP := Lib.hid hP
    have HK := Lib.hid hk
    clear b hP hk
    go_wp2
    exact ⟨rfl, .inr ⟨k, rfl, HK.out, HP.out, BB⟩⟩
set_option maxRecDepth 100000 in
set_option maxHeartbeats 1000000 in
theorem sum_nought {w : World} {A B : Option Addr} {n c m d x y : Nat} {s t : Bool} {e f : Int} {P : Int → Bool → Nat → Int → Prop} (h : Nt w A n c x) (h' : Nt w B m d y) (hx : x ≠ 0) (hy : y ≠ 0) (hst : (s == t) = false)
    (hz : ∀ W2 : World, Below w.heap.size w W2 → Calls Tryd.prog 27 #[.agg #[.bool s, .slice A n c, .int .i64 e], .agg #[.bool t, .slice B m d, .int .i64 f]] W2 (Ints 0 W2)) (hP : P 0 false 0 0) :
    Calls Tryd.prog 74 #[.agg #[.bool s, .slice A n c, .int .i64 e], .agg #[.bool t, .slice B m d, .int .i64 f]] w (Ran P w) := by
  have f0 : ((n : Int) == 0) = false := by simp; intro h0; exact hx (h.zero.1 h0)
  have f1 : ((m : Int) == 0) = false := by simp; intro h0; exact hy (h'.zero.1 h0)
  have HZ := Lib.hid hz
  have HP := Lib.hid hP
  clear hx hy hz hP
  have g := (two_new w s t A B n c m d e f).alloc (.cells #[.bool false, .slice none 0 0, .int .i64 0] 28)
  have r := box_two w (.cells #[.bool s, .slice A n c, .int .i64 e] 28) (.cells #[.bool t, .slice B m d, .int .i64 f] 28) false none 0 0 0
  have BB := three_below w (.cells #[.bool s, .slice A n c, .int .i64 e] 28) (.cells #[.bool t, .slice B m d, .int .i64 f] 28) (.cells #[.bool false, .slice none 0 0, .int .i64 0] 28)
  obtain ⟨p0, p1, p2, p3, p4, p5⟩ := g.held
  have h1 := h.below BB
  have h2 := h'.below BB
  have ne1 : ¬ w.heap.size + 2 = w.heap.size + 1 := by omega
  have ne2 : ¬ w.heap.size + 1 = w.heap.size + 2 := by omega
  have ne3 : ¬ w.heap.size = w.heap.size + 2 := by omega
  have ne4 : ¬ w.heap.size + 2 = w.heap.size := by omega
  clear h h'
  go_enter Tryd.func74, Tryd.ntmps74
  go_wp2_with fail
  refine (HZ.out _ BB).mono ?_
  rintro en w1 ⟨rfl, b⟩
  replace g := g.next b rfl
  replace r := r.next b rfl
  replace BB := bnx BB b rfl rfl rfl rfl
  obtain ⟨q0, q1, q2, q3, q4, q5⟩ := g.held
  clear b
  obtain ⟨f5, f6, f7⟩ := r.open
  obtain ⟨z0, z1, z2⟩ := r.held
  go_wp2
  have p := r.put false none 0 0 0
  have HB3 := below_put3 (g := w.heap.size + 2) BB (by omega) (.bool false) (.slice none 0 0) (.int .i64 0)
  obtain ⟨z0, z1, z2⟩ := p.held
  exact bodyPost_ret (v := .agg #[.bool false, .slice none 0 0, .int .i64 0]) (by simp [results, Tryd.results74, go_sem, z0, z1, z2]) rfl (.inl ⟨_, _, _, _, 0, _, rfl, HP.out, nt_nil _, HB3⟩)
end Go.Proofs.YtkpcmgfpmekkjaaDoor
