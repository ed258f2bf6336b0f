/-
  Contracts of ival's ends and check, of fault's Told of an interval, and of asked, at this translation. Condition: the slices read as limbs, the table of math/bits reads as its text lays it.
-/
import Derived.Test.YtkpcmgfpmekkjaaDoorQIc
import Derived.Test.YtkpcmgfpmekkjaaDoorQRj
import Derived.Test.YtkpcmgfpmekkjaaDoorQMv
import Derived.Test.YtkpcmgfpmekkjaaDoorQCaps
import Derived.OwnWalk
namespace Go.Proofs.YtkpcmgfpmekkjaaDoor
open Go.RowKit

def Iv.at (x : Iv) (hi : Bool) : Rw := if hi then x.hi else x.lo

set_option maxRecDepth 100000 in
set_option maxHeartbeats 1000000 in
theorem iown_nil {w : World} {c : Nat} {s : Bool} {e : Int} :
    Calls Tryd.prog 63 #[.agg #[.bool s, .slice none 0 c, .int .i64 e]] w (Owned s [] e 0 w) := by
  go_enter Tryd.func63, Tryd.ntmps63
  have hB := two_below w (.cells #[.bool s, .slice none 0 0, .int .i64 e] 28) (.cells #[.bool s, .slice none 0 0, .int .i64 e] 28)
  go_wp2
  exact bodyPost_ret (v := .agg #[.bool s, .slice none 0 0, .int .i64 e]) (by simp [results, Tryd.results63, go_sem]) rfl ⟨none, 0, rfl, Rd.nil _ _ _ _ (by omega), hB⟩
set_option maxRecDepth 100000 in
set_option maxHeartbeats 1000000 in
theorem iown_some {w : World} {ad : Addr} {n c : Nat} {l : List Nat} {s : Bool} {e : Int} (h : Rd w .u64 Go.Proofs.YtkpcmgfpmekkjaaDoor.W (some ad) n c l) (hn : n ≤ 10000000000000) :
    Calls Tryd.prog 63 #[.agg #[.bool s, .slice (some ad) n c, .int .i64 e]] w (Owned s l e n w) := by
  obtain ⟨i0, hi, hz0, hz1, hz2⟩ := info_parts info64
  have A : Aside (∀ j u, (iv .u64 l)[j]? = some u → w.cell? (ad.add j) = some u) := by
    intro j u hj
    have hj' : j < n := by
      have := (List.getElem?_eq_some_iff.1 hj).1
      rw [iv_length, h.len] at this; exact this
    obtain ⟨b, o, e, hb, hc⟩ := h.at_ (by omega)
    injection e with e
    subst e
    rw [iv_get _ _ _ (by rw [h.len]; exact hj')] at hj
    rw [Addr.add_lit, hc j hj', hj]
  have hl : (iv .u64 l).length = n * 1 := by rw [iv_length, h.len, Nat.mul_one]
  have hB := two_below w (.cells #[.bool s, .slice (some ad) n c, .int .i64 e] 28) (.cells #[.bool false, .slice none 0 0, .int .i64 0] 28)
  have g := two_new w s false (some ad) none n c 0 0 e 0
  go_enter Tryd.func63, Tryd.ntmps63
  go_wp2_with (at_builtin; refine wpList_append_own _ rfl _ _ 26 rfl (w.heap.size + 2) 52 i0 (.int .u64 0) 1 8 Tryd.underlying26 hi hz0 hz1 hz2 rfl (by decide) _ _ _ rfl (World.ownsRow_nil ..) ad n c (iv .u64 l) rfl ?qc1 ?qc2 ?qc3 ?qc4 ?qc5 ?qc6 ?_)
  case qc1 => exact hl
  case qc2 =>
    intro j u hj
    exact Lib.cell?_alloc_some _ (Lib.cell?_alloc_some _ (A.out j u hj))
  case qc3 =>
    intro v hv
    obtain ⟨x, _, rfl⟩ := List.mem_map.1 hv
    rfl
  case qc4 => unfold maxLen; omega
  case qc5 => omega
  case qc6 => simp
  intro v' w1 hown hgrow hnil
  have hgn : ((w.alloc (.cells #[.bool s, .slice (some ad) n c, .int .i64 e] 28)).alloc (.cells #[.bool false, .slice none 0 0, .int .i64 0] 28)).grownBy w1 none := hgrow
  have b1 := below_none hgn
  have g1 := g.below b1 g.b.gl
  have BB := hB.trans (b1.mono hB.size)
  have hown' : Own (w.heap.size + 2) w1 52 .u64 v' l := by unfold Own; rw [h.len]; exact hown
  obtain ⟨A', c', rfl, hrd⟩ := hown'.rd h.lt
  rw [h.len] at hrd ⊢
  obtain ⟨q0, q1, q2, q3, q4, q5⟩ := g1.held
  have f1 := g1.a.frozen 1
  obtain ⟨f2, f3, f4⟩ := g1.b.open
  have ne1 : ¬ w.heap.size = w.heap.size + 1 := by omega
  have ne2 : ¬ w.heap.size + 1 = w.heap.size := by omega
  clear hown hgrow hnil hgn hown' hl g b1 hB A hi hz0 hz1 hz2
  go_wp2
  have p := (g1.b.other (g' := w.heap.size) (by omega) 1 (.slice A' n c')).put s A' n c' e
  have na := hrd.off g1.a.no
  have nb := hrd.off g1.b.no
  have hN := (((hrd.set1 na 1 (.slice A' n c')).set1 nb 0 (.bool s)).set1 nb 1 (.slice A' n c')).set1 nb 2 (.int .i64 e)
  have HB3 := below_put3 (g := w.heap.size + 1) (BB.setCell (p := ⟨w.heap.size, 1, none⟩) (Nat.le_refl _) (.slice A' n c')) (by omega) (.bool s) (.slice A' n c') (.int .i64 e)
  obtain ⟨z0, z1, z2⟩ := p.held
  exact bodyPost_ret (v := .agg #[.bool s, .slice A' n c', .int .i64 e]) (by simp [results, Tryd.results63, go_sem, z0, z1, z2]) rfl ⟨_, _, rfl, hN, HB3⟩
theorem iown_any {w : World} {A : Option Addr} {n c : Nat} {l : List Nat} {s : Bool} {e : Int} (h : Rd w .u64 Go.Proofs.YtkpcmgfpmekkjaaDoor.W A n c l) (hn : n ≤ 10000000000000) :
    Calls Tryd.prog 63 #[.agg #[.bool s, .slice A n c, .int .i64 e]] w (Owned s l e n w) := by
  rcases A with _ | ad
  · have h0 : n = 0 := by
      rcases Nat.eq_zero_or_pos n with h0 | h0
      · exact h0
      · obtain ⟨_, _, e, _⟩ := h.at_ (by omega)
        cases e
    subst h0
    have e := h.empty rfl
    subst e
    exact iown_nil
  · exact iown_some h hn


set_option maxRecDepth 100000 in
set_option maxHeartbeats 8000000 in
theorem end_lo {w : World} {x : Iv} {A1 : Option Addr} {n1 c1 : Nat} {A2 : Option Addr} {n2 c2 : Nat} (h1 : Rd w .u64 Go.Proofs.YtkpcmgfpmekkjaaDoor.W A1 n1 c1 x.lo.l) (_h2 : Rd w .u64 Go.Proofs.YtkpcmgfpmekkjaaDoor.W A2 n2 c2 x.hi.l) :
    Calls Tryd.prog 71 #[.agg #[.bool x.lo.s, .slice A1 n1 c1, .int .i64 x.lo.e, .bool x.hi.s, .slice A2 n2 c2, .int .i64 x.hi.e], .bool false] w (GivQ x.lo w) := by
  obtain ⟨a0, a1, a2, a3, a4, a5⟩ := ((Ibx.new w x.lo.s A1 n1 c1 x.lo.e x.hi.s A2 n2 c2 x.hi.e).alloc (.cells #[.bool false, .slice none 0 0, .int .i64 0] 28)).held
  have r := box_one w (.cells #[.bool x.lo.s, .slice A1 n1 c1, .int .i64 x.lo.e, .bool x.hi.s, .slice A2 n2 c2, .int .i64 x.hi.e] 35) false none 0 0 0
  obtain ⟨f0, f1, f2⟩ := r.open
  obtain ⟨z0, z1, z2⟩ := r.held
  go_enter Tryd.func71, Tryd.ntmps71
  go_wp2
  exact bodyPost_ret (v := .agg #[.bool x.lo.s, .slice A1 n1 c1, .int .i64 x.lo.e]) (by simp [results, Tryd.results71, go_sem]) rfl ⟨_, _, _, rfl, h1.next (two_below w (.cells #[.bool x.lo.s, .slice A1 n1 c1, .int .i64 x.lo.e, .bool x.hi.s, .slice A2 n2 c2, .int .i64 x.hi.e] 35) (.cells #[.bool x.lo.s, .slice A1 n1 c1, .int .i64 x.lo.e] 28)) rfl, two_below w _ _⟩

set_option maxRecDepth 100000 in
set_option maxHeartbeats 8000000 in
theorem end_hi {w : World} {x : Iv} {A1 : Option Addr} {n1 c1 : Nat} {A2 : Option Addr} {n2 c2 : Nat} (_h1 : Rd w .u64 Go.Proofs.YtkpcmgfpmekkjaaDoor.W A1 n1 c1 x.lo.l) (h2 : Rd w .u64 Go.Proofs.YtkpcmgfpmekkjaaDoor.W A2 n2 c2 x.hi.l) :
    Calls Tryd.prog 71 #[.agg #[.bool x.lo.s, .slice A1 n1 c1, .int .i64 x.lo.e, .bool x.hi.s, .slice A2 n2 c2, .int .i64 x.hi.e], .bool true] w (GivQ x.hi w) := by
  obtain ⟨a0, a1, a2, a3, a4, a5⟩ := ((Ibx.new w x.lo.s A1 n1 c1 x.lo.e x.hi.s A2 n2 c2 x.hi.e).alloc (.cells #[.bool false, .slice none 0 0, .int .i64 0] 28)).held
  have r := box_one w (.cells #[.bool x.lo.s, .slice A1 n1 c1, .int .i64 x.lo.e, .bool x.hi.s, .slice A2 n2 c2, .int .i64 x.hi.e] 35) false none 0 0 0
  obtain ⟨f0, f1, f2⟩ := r.open
  obtain ⟨z0, z1, z2⟩ := r.held
  go_enter Tryd.func71, Tryd.ntmps71
  go_wp2
  exact bodyPost_ret (v := .agg #[.bool x.hi.s, .slice A2 n2 c2, .int .i64 x.hi.e]) (by simp [results, Tryd.results71, go_sem]) rfl ⟨_, _, _, rfl, h2.next (two_below w (.cells #[.bool x.lo.s, .slice A1 n1 c1, .int .i64 x.lo.e, .bool x.hi.s, .slice A2 n2 c2, .int .i64 x.hi.e] 35) (.cells #[.bool x.hi.s, .slice A2 n2 c2, .int .i64 x.hi.e] 28)) rfl, two_below w _ _⟩

theorem end_any {w : World} {x : Iv} {A1 : Option Addr} {n1 c1 : Nat} {A2 : Option Addr} {n2 c2 : Nat} {hi : Bool} (h1 : Rd w .u64 Go.Proofs.YtkpcmgfpmekkjaaDoor.W A1 n1 c1 x.lo.l) (h2 : Rd w .u64 Go.Proofs.YtkpcmgfpmekkjaaDoor.W A2 n2 c2 x.hi.l) :
    Calls Tryd.prog 71 #[.agg #[.bool x.lo.s, .slice A1 n1 c1, .int .i64 x.lo.e, .bool x.hi.s, .slice A2 n2 c2, .int .i64 x.hi.e], .bool hi] w (GivQ (x.at hi) w) := by
  cases hi
  · exact end_lo h1 h2
  · exact end_hi h1 h2

set_option maxRecDepth 100000 in
set_option maxHeartbeats 8000000 in
theorem further_any {w : World} {K : Nat} {a b : Rw} {up : Bool} {A1 : Option Addr} {n1 c1 : Nat} {A2 : Option Addr} {n2 c2 : Nat} (hK : 4194304 ≤ K) (hT : Tab w) (h1 : Rd w .u64 Go.Proofs.YtkpcmgfpmekkjaaDoor.W A1 n1 c1 a.l) (h2 : Rd w .u64 Go.Proofs.YtkpcmgfpmekkjaaDoor.W A2 n2 c2 b.l) :
    Calls Tryd.prog 70 #[.agg #[.bool a.s, .slice A1 n1 c1, .int .i64 a.e], .agg #[.bool b.s, .slice A2 n2 c2, .int .i64 b.e], .bool up] w (GivQ (furQ K a b up) w) := by
  have BB := three_below w (.cells #[.bool a.s, .slice A1 n1 c1, .int .i64 a.e] 28) (.cells #[.bool b.s, .slice A2 n2 c2, .int .i64 b.e] 28) (.cells #[.bool false, .slice none 0 0, .int .i64 0] 28)
  obtain ⟨a10, a11, a12, a20, a21, a22⟩ := ((two_new w a.s b.s A1 A2 n1 c1 n2 c2 a.e b.e).alloc (.cells #[.bool false, .slice none 0 0, .int .i64 0] 28)).held
  have r := box_two w (.cells #[.bool a.s, .slice A1 n1 c1, .int .i64 a.e] 28) (.cells #[.bool b.s, .slice A2 n2 c2, .int .i64 b.e] 28) false none 0 0 0
  have G := mv BB rfl (J3 hT h1 h2)
  clear hT h1 h2
  obtain ⟨hT, h1, h2⟩ := G
  obtain ⟨q, hq⟩ : ∃ q, q = furQ K a b up := ⟨_, rfl⟩
  rw [← hq]
  obtain ⟨t, ht⟩ : ∃ t, t = (decide (cmpQ K a b < 0) == up) := ⟨_, rfl⟩
  have HT := Lib.hid ht
  have HF : Hid (q = if t then b else a) := Lib.hid (by
    rw [hq, ht]; unfold furQ
    by_cases h : decide (cmpQ K a b < 0) = up
    · rw [if_pos h, if_pos (by simpa using h)]
    · rw [if_neg h, if_neg (by simpa using h)])
  clear ht hq
  go_enter Tryd.func70, Tryd.ntmps70
  go_wp2_with fail
  refine (dcmp_raw (K := K) (s1 := a.s) (e1 := a.e) (s2 := b.s) (e2 := b.e) hK hT h1 h2).mono ?_
  rintro en w1 ⟨rfl, b⟩
  replace BB := bnx BB b rfl rfl rfl rfl
  have G := mv b rfl (J10 a10 a11 a12 a20 a21 a22 hT h1 h2 r)
  clear b a10 a11 a12 a20 a21 a22 hT h1 h2 r
  obtain ⟨a10, a11, a12, a20, a21, a22, hT, h1, h2, r⟩ := G
  have e1 : cmpR K a.s a.l a.e b.s b.l b.e = cmpQ K a b := rfl
  rw [e1]
  clear e1
  generalize cmpQ K a b = z at HT
  have f9 : (decide (z < 0) == up) = t := HT.out.symm
  clear HT
  cases t
  · have e9 : q = a := HF.out.trans (if_neg Bool.false_ne_true)
    subst e9
    clear HF
    obtain ⟨f0, f1, f2⟩ := r.open
    obtain ⟨z0, z1, z2⟩ := r.held
    go_wp2
    have qq := r.put q.s A1 n1 c1 q.e
    have hN := h1.put3 r (.bool q.s) (.slice A1 n1 c1) (.int .i64 q.e)
    have HB3 := below_put3 (g := w.heap.size + 2) BB (by omega) (.bool q.s) (.slice A1 n1 c1) (.int .i64 q.e)
    obtain ⟨z0, z1, z2⟩ := qq.held
    exact bodyPost_ret (v := .agg #[.bool q.s, .slice A1 n1 c1, .int .i64 q.e]) (by simp [results, Tryd.results70, go_sem, z0, z1, z2]) rfl ⟨_, _, _, rfl, hN, HB3⟩
  · have e9 : q = b := HF.out.trans (if_pos rfl)
    subst e9
    clear HF
    obtain ⟨f0, f1, f2⟩ := r.open
    obtain ⟨z0, z1, z2⟩ := r.held
    go_wp2
    have qq := r.put q.s A2 n2 c2 q.e
    have hN := h2.put3 r (.bool q.s) (.slice A2 n2 c2) (.int .i64 q.e)
    have HB3 := below_put3 (g := w.heap.size + 2) BB (by omega) (.bool q.s) (.slice A2 n2 c2) (.int .i64 q.e)
    obtain ⟨z0, z1, z2⟩ := qq.held
    exact bodyPost_ret (v := .agg #[.bool q.s, .slice A2 n2 c2, .int .i64 q.e]) (by simp [results, Tryd.results70, go_sem, z0, z1, z2]) rfl ⟨_, _, _, rfl, hN, HB3⟩

set_option maxRecDepth 100000 in
set_option maxHeartbeats 8000000 in
theorem hull1_any {w : World} {KK : Nat} {x y : Iv} {hi : Bool} {g g2 : Nat} {A1 : Option Addr} {n1 c1 : Nat} {A2 : Option Addr} {n2 c2 : Nat} {A3 : Option Addr} {n3 c3 : Nat} {A4 : Option Addr} {n4 c4 : Nat} (hKK : 4194304 ≤ KK) (hT : Tab w) (h1 : Rd w .u64 Go.Proofs.YtkpcmgfpmekkjaaDoor.W A1 n1 c1 x.lo.l) (h2 : Rd w .u64 Go.Proofs.YtkpcmgfpmekkjaaDoor.W A2 n2 c2 x.hi.l) (h3 : Rd w .u64 Go.Proofs.YtkpcmgfpmekkjaaDoor.W A3 n3 c3 y.lo.l) (h4 : Rd w .u64 Go.Proofs.YtkpcmgfpmekkjaaDoor.W A4 n4 c4 y.hi.l) (xa : Ibx w g x.lo.s A1 n1 c1 x.lo.e x.hi.s A2 n2 c2 x.hi.e) (xb : Ibx w g2 y.lo.s A3 n3 c3 y.lo.e y.hi.s A4 n4 c4 y.hi.e) :
    Calls Tryd.prog 69 #[.bool hi, .pointer (some ⟨g, 0, none⟩), .pointer (some ⟨g2, 0, none⟩)] w (GivQ (furQ KK (x.at hi) (y.at hi) (hi)) w) := by
  have BB := below_alloc w (.cells #[.bool false, .slice none 0 0, .int .i64 0] 28)
  have r := Box.new w false none 0 0 0
  have la := xa.gl
  have lb := xb.gl
  have nea : g ≠ w.heap.size := by omega
  have neb : g2 ≠ w.heap.size := by omega
  have G := mv BB rfl (J7 hT h1 h2 h3 h4 xa xb)
  clear hT h1 h2 h3 h4 xa xb
  obtain ⟨hT, h1, h2, h3, h4, xa, xb⟩ := G
  obtain ⟨q, hq⟩ : ∃ q, q = furQ KK (x.at hi) (y.at hi) (hi) := ⟨_, rfl⟩
  rw [← hq]
  have HQ := Lib.hid hq
  clear hq
  go_enter Tryd.func69, Tryd.ntmps69
  go_wp2_with fail
  have b : Below (w.alloc (.cells #[.bool false, .slice none 0 0, .int .i64 0] 28)).heap.size (w.alloc (.cells #[.bool false, .slice none 0 0, .int .i64 0] 28)) (World.drew (w.alloc (.cells #[.bool false, .slice none 0 0, .int .i64 0] 28))) := below_drewN (Below.refl _ _) 1
  replace BB := bnx BB b rfl rfl rfl rfl
  have G := mv b rfl (J8 hT h1 h2 h3 h4 xa xb r)
  clear b hT h1 h2 h3 h4 xa xb r
  obtain ⟨hT, h1, h2, h3, h4, xa, xb, r⟩ := G
  refine wp_region_held_drew (S := fun w' => w'.cell? ⟨g, 0, none⟩ = some (.bool x.lo.s) ∧ w'.cell? ⟨g, 1, none⟩ = some (.slice A1 n1 c1) ∧ w'.cell? ⟨g, 2, none⟩ = some (.int .i64 x.lo.e) ∧ w'.cell? ⟨g, 3, none⟩ = some (.bool x.hi.s) ∧ w'.cell? ⟨g, 4, none⟩ = some (.slice A2 n2 c2) ∧ w'.cell? ⟨g, 5, none⟩ = some (.int .i64 x.hi.e) ∧ w'.cell? ⟨g2, 0, none⟩ = some (.bool y.lo.s) ∧ w'.cell? ⟨g2, 1, none⟩ = some (.slice A3 n3 c3) ∧ w'.cell? ⟨g2, 2, none⟩ = some (.int .i64 y.lo.e) ∧ w'.cell? ⟨g2, 3, none⟩ = some (.bool y.hi.s) ∧ w'.cell? ⟨g2, 4, none⟩ = some (.slice A4 n4 c4) ∧ w'.cell? ⟨g2, 5, none⟩ = some (.int .i64 y.hi.e)) (by kernel_rfl) (by first | (have ka := xa.held; have kb := xb.held; exact ⟨ka.1, ka.2.1, ka.2.2.1, ka.2.2.2.1, ka.2.2.2.2.1, ka.2.2.2.2.2, kb.1, kb.2.1, kb.2.2.1, kb.2.2.2.1, kb.2.2.2.2.1, kb.2.2.2.2.2⟩) | (have ka := (((xa.other nea 0 (.bool q.s)).other nea 1 (.slice A7 n7 c7)).other nea 2 (.int .i64 q.e)).held; have kb := (((xb.other neb 0 (.bool q.s)).other neb 1 (.slice A7 n7 c7)).other neb 2 (.int .i64 q.e)).held; exact ⟨ka.1, ka.2.1, ka.2.2.1, ka.2.2.2.1, ka.2.2.2.2.1, ka.2.2.2.2.2, kb.1, kb.2.1, kb.2.2.1, kb.2.2.2.1, kb.2.2.2.2.1, kb.2.2.2.2.2⟩)) (fun hHeldv0 => ?_)
  generalize World.drew (w.alloc (.cells #[.bool false, .slice none 0 0, .int .i64 0] 28)) = wd at *
  refine tk 0 5 ?_
  simp only [Act.put, List.setIfInBounds_toArray, List.set_cons_zero, List.set_cons_succ]
  refine tk 1 6 ?_
  simp only [Act.put, List.setIfInBounds_toArray, List.set_cons_zero, List.set_cons_succ]
  refine tk 3 8 ?_
  simp only [Act.put, List.setIfInBounds_toArray, List.set_cons_zero, List.set_cons_succ]
  refine tk 4 9 ?_
  simp only [Act.put, List.setIfInBounds_toArray, List.set_cons_zero, List.set_cons_succ]
  refine tk 6 11 ?_
  simp only [Act.put, List.setIfInBounds_toArray, List.set_cons_zero, List.set_cons_succ]
  refine wpAnyH_ready (rs := [2]) (by kernel_rfl) (by simp) ?_
  refine AllReadyH.cons (o := _) rfl (fun K hK => ?_) AllReadyH.nil
  go_simp
  refine (end_any (x := x) (hi := hi) h1 h2).mono ?_
  rintro en w' ⟨A5, n5, c5, rfl, h5, b⟩
  clear h1
  clear h2
  replace BB := below_next BB BB.size b (by rfl) (by rfl) (by rfl) (by rfl)
  have G := mv b (by rfl) <| And.intro hT <| And.intro h3 <| And.intro h4 <| And.intro xa <| And.intro xb <| r
  clear b hT h3 h4 xa xb r
  obtain ⟨hT, h3, h4, xa, xb, r⟩ := G
  refine hK.out _ _ (by first | (have ka := xa.held; have kb := xb.held; exact ⟨ka.1, ka.2.1, ka.2.2.1, ka.2.2.2.1, ka.2.2.2.2.1, ka.2.2.2.2.2, kb.1, kb.2.1, kb.2.2.1, kb.2.2.2.1, kb.2.2.2.2.1, kb.2.2.2.2.2⟩) | (have ka := (((xa.other nea 0 (.bool q.s)).other nea 1 (.slice A7 n7 c7)).other nea 2 (.int .i64 q.e)).held; have kb := (((xb.other neb 0 (.bool q.s)).other neb 1 (.slice A7 n7 c7)).other neb 2 (.int .i64 q.e)).held; exact ⟨ka.1, ka.2.1, ka.2.2.1, ka.2.2.2.1, ka.2.2.2.2.1, ka.2.2.2.2.2, kb.1, kb.2.1, kb.2.2.1, kb.2.2.2.1, kb.2.2.2.2.1, kb.2.2.2.2.2⟩)) (fun hHeldv1 => ?_)
  clear hK K hHeldv0
  try simp only [Act.put]
  refine wpAnyH_ready (rs := [5]) (by kernel_rfl) (by simp) ?_
  refine AllReadyH.cons (o := _) rfl (fun K hK => ?_) AllReadyH.nil
  go_simp
  refine (end_any (x := y) (hi := hi) h3 h4).mono ?_
  rintro en w' ⟨A6, n6, c6, rfl, h6, b⟩
  clear h3
  clear h4
  replace BB := below_next BB BB.size b (by rfl) (by rfl) (by rfl) (by rfl)
  have G := mv b (by rfl) <| And.intro hT <| And.intro xa <| And.intro xb <| And.intro r <| h5
  clear b hT xa xb r h5
  obtain ⟨hT, xa, xb, r, h5⟩ := G
  refine hK.out _ _ (by first | (have ka := xa.held; have kb := xb.held; exact ⟨ka.1, ka.2.1, ka.2.2.1, ka.2.2.2.1, ka.2.2.2.2.1, ka.2.2.2.2.2, kb.1, kb.2.1, kb.2.2.1, kb.2.2.2.1, kb.2.2.2.2.1, kb.2.2.2.2.2⟩) | (have ka := (((xa.other nea 0 (.bool q.s)).other nea 1 (.slice A7 n7 c7)).other nea 2 (.int .i64 q.e)).held; have kb := (((xb.other neb 0 (.bool q.s)).other neb 1 (.slice A7 n7 c7)).other neb 2 (.int .i64 q.e)).held; exact ⟨ka.1, ka.2.1, ka.2.2.1, ka.2.2.2.1, ka.2.2.2.2.1, ka.2.2.2.2.2, kb.1, kb.2.1, kb.2.2.1, kb.2.2.2.1, kb.2.2.2.2.1, kb.2.2.2.2.2⟩)) (fun hHeldv2 => ?_)
  clear hK K hHeldv1
  try simp only [Act.put]
  refine wpAnyH_ready (rs := [7]) (by kernel_rfl) (by simp) ?_
  refine AllReadyH.cons (o := _) rfl (fun K hK => ?_) AllReadyH.nil
  go_simp
  refine (further_any (K := KK) (a := x.at hi) (b := y.at hi) (up := hi) hKK hT h5 h6).mono ?_
  rintro en w' ⟨A7, n7, c7, rfl, h7, b⟩
  rw [← HQ.out] at h7 ⊢
  clear h5
  clear h6
  replace BB := below_next BB BB.size b (by rfl) (by rfl) (by rfl) (by rfl)
  have G := mv b (by rfl) <| And.intro hT <| And.intro xa <| And.intro xb <| r
  clear b hT xa xb r
  obtain ⟨hT, xa, xb, r⟩ := G
  obtain ⟨f0, f1, f2⟩ := r.open
  obtain ⟨z0, z1, z2⟩ := r.held
  refine hK.out _ _ (by first | (have ka := xa.held; have kb := xb.held; exact ⟨ka.1, ka.2.1, ka.2.2.1, ka.2.2.2.1, ka.2.2.2.2.1, ka.2.2.2.2.2, kb.1, kb.2.1, kb.2.2.1, kb.2.2.2.1, kb.2.2.2.2.1, kb.2.2.2.2.2⟩) | (have ka := (((xa.other nea 0 (.bool q.s)).other nea 1 (.slice A7 n7 c7)).other nea 2 (.int .i64 q.e)).held; have kb := (((xb.other neb 0 (.bool q.s)).other neb 1 (.slice A7 n7 c7)).other neb 2 (.int .i64 q.e)).held; exact ⟨ka.1, ka.2.1, ka.2.2.1, ka.2.2.2.1, ka.2.2.2.2.1, ka.2.2.2.2.2, kb.1, kb.2.1, kb.2.2.1, kb.2.2.2.1, kb.2.2.2.2.1, kb.2.2.2.2.2⟩)) (fun hHeldv3 => ?_)
  clear hK K hHeldv2
  try simp only [Act.put]
  refine wpAnyH_ready (rs := [8]) (by kernel_rfl) (by simp) ?_
  refine AllReadyH.cons (o := _) rfl (fun K hK => ?_) AllReadyH.nil
  go_simp
  refine hK.out _ _ (by first | (have ka := xa.held; have kb := xb.held; exact ⟨ka.1, ka.2.1, ka.2.2.1, ka.2.2.2.1, ka.2.2.2.2.1, ka.2.2.2.2.2, kb.1, kb.2.1, kb.2.2.1, kb.2.2.2.1, kb.2.2.2.2.1, kb.2.2.2.2.2⟩) | (have ka := (((xa.other nea 0 (.bool q.s)).other nea 1 (.slice A7 n7 c7)).other nea 2 (.int .i64 q.e)).held; have kb := (((xb.other neb 0 (.bool q.s)).other neb 1 (.slice A7 n7 c7)).other neb 2 (.int .i64 q.e)).held; exact ⟨ka.1, ka.2.1, ka.2.2.1, ka.2.2.2.1, ka.2.2.2.2.1, ka.2.2.2.2.2, kb.1, kb.2.1, kb.2.2.1, kb.2.2.2.1, kb.2.2.2.2.1, kb.2.2.2.2.2⟩)) (fun hHeldv4 => ?_)
  clear hK K hHeldv3
  try simp only [Act.put]
  refine wpAnyH_done (by kernel_rfl) ?_ _
  go_wp2
  have qq := r.put q.s A7 n7 c7 q.e
  have hN := h7.put3 r (.bool q.s) (.slice A7 n7 c7) (.int .i64 q.e)
  have HB3 := below_put3 (g := w.heap.size) BB (by omega) (.bool q.s) (.slice A7 n7 c7) (.int .i64 q.e)
  obtain ⟨z0, z1, z2⟩ := qq.held
  exact bodyPost_ret (v := .agg #[.bool q.s, .slice A7 n7 c7, .int .i64 q.e]) (by simp [results, Tryd.results69, go_sem, z0, z1, z2]) rfl ⟨_, _, _, rfl, hN, HB3⟩

set_option maxRecDepth 100000 in
set_option maxHeartbeats 8000000 in
theorem of1_any {w : World} {a : Rw} {hi : Bool} {g : Nat} {A1 : Option Addr} {n1 c1 : Nat} (h1 : Rd w .u64 Go.Proofs.YtkpcmgfpmekkjaaDoor.W A1 n1 c1 a.l) (xa : Box w g a.s A1 n1 c1 a.e) :
    Calls Tryd.prog 47 #[.bool hi, .pointer (some ⟨g, 0, none⟩)] w (GivQ a w) := by
  have la := xa.gl
  obtain ⟨a0, a1, a2⟩ := (xa.next (below_alloc w (.cells #[.bool false, .slice none 0 0, .int .i64 0] 28)) rfl).held
  have r := Box.new w false none 0 0 0
  obtain ⟨f0, f1, f2⟩ := r.open
  obtain ⟨z0, z1, z2⟩ := r.held
  clear xa
  go_enter Tryd.func47, Tryd.ntmps47
  go_wp2
  exact bodyPost_ret (v := .agg #[.bool a.s, .slice A1 n1 c1, .int .i64 a.e]) (by simp [results, Tryd.results47, go_sem]) rfl ⟨_, _, _, rfl, h1.next (below_alloc w (.cells #[.bool a.s, .slice A1 n1 c1, .int .i64 a.e] 28)) rfl, below_alloc w _⟩

end Go.Proofs.YtkpcmgfpmekkjaaDoor

namespace Go.Proofs.YtkpcmgfpmekkjaaDoor
open Go.RowKit

theorem cell_oth {w : World} {k g i : Nat} {v : Value} (h : w.cell? ⟨k, i, none⟩ = some v) (hne : k ≠ g) (j : Nat) (u : Value) : (w.setCell ⟨g, j, none⟩ u).cell? ⟨k, i, none⟩ = some v := by
  have e := Below.heap_setCell w ⟨g, j, none⟩ u k hne
  unfold World.cell? at h ⊢
  simpa [e] using h
theorem cell_oth6 {w : World} {k g i : Nat} {v u0 u1 u2 u3 u4 u5 : Value} (h : w.cell? ⟨k, i, none⟩ = some v) (hne : k ≠ g) : ((((((w.setCell ⟨g, 0, none⟩ u0).setCell ⟨g, 1, none⟩ u1).setCell ⟨g, 2, none⟩ u2).setCell ⟨g, 3, none⟩ u3).setCell ⟨g, 4, none⟩ u4).setCell ⟨g, 5, none⟩ u5).cell? ⟨k, i, none⟩ = some v :=
  cell_oth (cell_oth (cell_oth (cell_oth (cell_oth (cell_oth h hne 0 u0) hne 1 u1) hne 2 u2) hne 3 u3) hne 4 u4) hne 5 u5
set_option maxRecDepth 100000 in
set_option maxHeartbeats 8000000 in
theorem ends1_ok {w : World} {x : Iv} {f : FuncId} {p1 : Value} (hf : ∀ (v : Value) (W2 : World), (callFunc f #[v, p1]).run Tryd.prog W2 = .ok (.enter f #[v, p1]) W2) (la : x.lo.l.length ≤ 10000000000000) (hlo : ∀ W2 : World, Below w.heap.size w W2 → Calls Tryd.prog f #[.bool false, p1] W2 (GivQ x.lo W2)) (lb : x.hi.l.length ≤ 10000000000000) (hhi : ∀ W2 : World, Below w.heap.size w W2 → Calls Tryd.prog f #[.bool true, p1] W2 (GivQ x.hi W2)) :
    Calls Tryd.prog 46 #[.func (Fn.func f) #[] #[p1]] w (GivI x w) := by
  have BB := below_alloc w (.cells #[.bool false, .slice none 0 0, .int .i64 0, .bool false, .slice none 0 0, .int .i64 0] 35)
  have r := Ibx.new w false none 0 0 0 false none 0 0 0
  have HLO := Lib.hid hlo
  clear hlo
  have HHI := Lib.hid hhi
  clear hhi
  have LA := Lib.hid la
  clear la
  have LB := Lib.hid lb
  clear lb
  go_enter Tryd.func46, Tryd.ntmps46
  go_wp2_with fail
  refine (HLO.out _ BB).mono ?_
  rintro en w1 ⟨A1, n3, c1, rfl, h1, b⟩
  replace BB := bnx BB b rfl rfl rfl rfl
  replace r := mv b rfl r
  clear b
  go_wp2_with fail
  refine (iown_any (s := x.lo.s) (e := x.lo.e) h1 (by rw [← h1.len]; exact LA.out)).mono ?_
  rintro en w2 ⟨A3, c3, rfl, h3, b⟩
  clear h1
  replace BB := bnx BB b rfl rfl rfl rfl
  replace r := mv b rfl r
  clear b
  have ny : w2.heap.size ≠ w.heap.size := by have := r.gl; omega
  obtain ⟨y0, y1, y2⟩ := (Box.new w2 x.lo.s A3 n3 c3 x.lo.e).held
  have b := below_alloc w2 (.cells #[.bool x.lo.s, .slice A3 n3 c3, .int .i64 x.lo.e] 28)
  replace BB := bnx BB b rfl rfl rfl rfl
  have G := mv b rfl <| And.intro r <| h3
  clear b r h3
  obtain ⟨r, h3⟩ := G
  clear HLO LA
  go_wp2_with fail
  have b : Below (w2.alloc (.cells #[.bool x.lo.s, .slice A3 n3 c3, .int .i64 x.lo.e] 28)).heap.size (w2.alloc (.cells #[.bool x.lo.s, .slice A3 n3 c3, .int .i64 x.lo.e] 28)) (World.drew (w2.alloc (.cells #[.bool x.lo.s, .slice A3 n3 c3, .int .i64 x.lo.e] 28))) := below_drewN (Below.refl _ _) 1
  replace BB := bnx BB b rfl rfl rfl rfl
  have G := mv b rfl (J5 r h3 y0 y1 y2)
  clear b r h3 y0 y1 y2
  obtain ⟨r, h3, y0, y1, y2⟩ := G
  refine wp_region_held_drew (S := fun w' => w'.cell? ⟨w2.heap.size, 0, none⟩ = some (.bool x.lo.s) ∧ w'.cell? ⟨w2.heap.size, 1, none⟩ = some (.slice A3 n3 c3) ∧ w'.cell? ⟨w2.heap.size, 2, none⟩ = some (.int .i64 x.lo.e)) (by kernel_rfl) (by exact ⟨y0, y1, y2⟩) (fun hHeldv0 => ?_)
  generalize World.drew (w2.alloc (.cells #[.bool x.lo.s, .slice A3 n3 c3, .int .i64 x.lo.e] 28)) = wd at *
  refine tk 0 7 ?_
  simp only [Act.put, List.setIfInBounds_toArray, List.set_cons_zero, List.set_cons_succ]
  refine tk 1 8 ?_
  simp only [Act.put, List.setIfInBounds_toArray, List.set_cons_zero, List.set_cons_succ]
  refine wpAnyH_ready (rs := [2]) (by kernel_rfl) (by simp) ?_
  refine AllReadyH.cons (o := _) rfl (fun K hK => ?_) AllReadyH.nil
  go_simp
  refine (HHI.out _ BB).mono ?_
  rintro en w' ⟨A2, n4, c2, rfl, h2, b⟩
  replace BB := below_next BB BB.size b (by rfl) (by rfl) (by rfl) (by rfl)
  have G := mv b (by rfl) <| And.intro r <| And.intro h3 <| And.intro y0 <| And.intro y1 <| y2
  clear b r h3 y0 y1 y2
  obtain ⟨r, h3, y0, y1, y2⟩ := G
  refine hK.out _ _ (by exact ⟨y0, y1, y2⟩) (fun hHeldv1 => ?_)
  clear hK K hHeldv0
  try simp only [Act.put]
  refine wpAnyH_ready (rs := [3]) (by kernel_rfl) (by simp) ?_
  refine AllReadyH.cons (o := _) rfl (fun K hK => ?_) AllReadyH.nil
  go_simp
  refine (iown_any (s := x.hi.s) (e := x.hi.e) h2 (by rw [← h2.len]; exact LB.out)).mono ?_
  rintro en w' ⟨A4, c4, rfl, h4, b⟩
  clear h2
  replace BB := below_next BB BB.size b (by rfl) (by rfl) (by rfl) (by rfl)
  have G := mv b (by rfl) <| And.intro r <| And.intro h3 <| And.intro y0 <| And.intro y1 <| y2
  clear b r h3 y0 y1 y2
  obtain ⟨r, h3, y0, y1, y2⟩ := G
  obtain ⟨f0, f1, f2, f3, f4, f5⟩ := r.open
  obtain ⟨z0, z1, z2, z3, z4, z5⟩ := r.held
  refine hK.out _ _ (by exact ⟨y0, y1, y2⟩) (fun hHeldv2 => ?_)
  clear hK K hHeldv1
  try simp only [Act.put]
  refine tk 4 11 ?_
  simp only [Act.put, List.setIfInBounds_toArray, List.set_cons_zero, List.set_cons_succ]
  refine wpAnyH_ready (rs := [5]) (by kernel_rfl) (by simp) ?_
  refine AllReadyH.cons (o := _) rfl (fun K hK => ?_) AllReadyH.nil
  go_simp
  refine hK.out _ _ (by exact ⟨cell_oth6 y0 ny, cell_oth6 y1 ny, cell_oth6 y2 ny⟩) (fun hHeldv3 => ?_)
  clear hK K hHeldv2
  try simp only [Act.put]
  refine wpAnyH_done (by kernel_rfl) ?_ _
  go_wp2
  have qq := r.put x.lo.s A3 n3 c3 x.lo.e x.hi.s A4 n4 c4 x.hi.e
  have hN := h3.put6 r (.bool x.lo.s) (.slice A3 n3 c3) (.int .i64 x.lo.e) (.bool x.hi.s) (.slice A4 n4 c4) (.int .i64 x.hi.e)
  have hM := h4.put6 r (.bool x.lo.s) (.slice A3 n3 c3) (.int .i64 x.lo.e) (.bool x.hi.s) (.slice A4 n4 c4) (.int .i64 x.hi.e)
  have HB3 := below_put6 (g := w.heap.size) BB (by omega) (.bool x.lo.s) (.slice A3 n3 c3) (.int .i64 x.lo.e) (.bool x.hi.s) (.slice A4 n4 c4) (.int .i64 x.hi.e)
  obtain ⟨z0, z1, z2, z3, z4, z5⟩ := qq.held
  exact bodyPost_ret (v := .agg #[.bool x.lo.s, .slice A3 n3 c3, .int .i64 x.lo.e, .bool x.hi.s, .slice A4 n4 c4, .int .i64 x.hi.e]) (by simp [results, Tryd.results46, go_sem, z0, z1, z2, z3, z4, z5]) rfl ⟨_, _, _, _, _, _, rfl, hN, hM, HB3⟩

set_option maxRecDepth 100000 in
set_option maxHeartbeats 8000000 in
theorem ends2_ok {w : World} {x : Iv} {f : FuncId} {p1 p2 : Value} (hf : ∀ (v : Value) (W2 : World), (callFunc f #[v, p1, p2]).run Tryd.prog W2 = .ok (.enter f #[v, p1, p2]) W2) (la : x.lo.l.length ≤ 10000000000000) (hlo : ∀ W2 : World, Below w.heap.size w W2 → Calls Tryd.prog f #[.bool false, p1, p2] W2 (GivQ x.lo W2)) (lb : x.hi.l.length ≤ 10000000000000) (hhi : ∀ W2 : World, Below w.heap.size w W2 → Calls Tryd.prog f #[.bool true, p1, p2] W2 (GivQ x.hi W2)) :
    Calls Tryd.prog 46 #[.func (Fn.func f) #[] #[p1, p2]] w (GivI x w) := by
  have BB := below_alloc w (.cells #[.bool false, .slice none 0 0, .int .i64 0, .bool false, .slice none 0 0, .int .i64 0] 35)
  have r := Ibx.new w false none 0 0 0 false none 0 0 0
  have HLO := Lib.hid hlo
  clear hlo
  have HHI := Lib.hid hhi
  clear hhi
  have LA := Lib.hid la
  clear la
  have LB := Lib.hid lb
  clear lb
  go_enter Tryd.func46, Tryd.ntmps46
  go_wp2_with fail
  refine (HLO.out _ BB).mono ?_
  rintro en w1 ⟨A1, n3, c1, rfl, h1, b⟩
  replace BB := bnx BB b rfl rfl rfl rfl
  replace r := mv b rfl r
  clear b
  go_wp2_with fail
  refine (iown_any (s := x.lo.s) (e := x.lo.e) h1 (by rw [← h1.len]; exact LA.out)).mono ?_
  rintro en w2 ⟨A3, c3, rfl, h3, b⟩
  clear h1
  replace BB := bnx BB b rfl rfl rfl rfl
  replace r := mv b rfl r
  clear b
  have ny : w2.heap.size ≠ w.heap.size := by have := r.gl; omega
  obtain ⟨y0, y1, y2⟩ := (Box.new w2 x.lo.s A3 n3 c3 x.lo.e).held
  have b := below_alloc w2 (.cells #[.bool x.lo.s, .slice A3 n3 c3, .int .i64 x.lo.e] 28)
  replace BB := bnx BB b rfl rfl rfl rfl
  have G := mv b rfl <| And.intro r <| h3
  clear b r h3
  obtain ⟨r, h3⟩ := G
  clear HLO LA
  go_wp2_with fail
  have b : Below (w2.alloc (.cells #[.bool x.lo.s, .slice A3 n3 c3, .int .i64 x.lo.e] 28)).heap.size (w2.alloc (.cells #[.bool x.lo.s, .slice A3 n3 c3, .int .i64 x.lo.e] 28)) (World.drew (w2.alloc (.cells #[.bool x.lo.s, .slice A3 n3 c3, .int .i64 x.lo.e] 28))) := below_drewN (Below.refl _ _) 1
  replace BB := bnx BB b rfl rfl rfl rfl
  have G := mv b rfl (J5 r h3 y0 y1 y2)
  clear b r h3 y0 y1 y2
  obtain ⟨r, h3, y0, y1, y2⟩ := G
  refine wp_region_held_drew (S := fun w' => w'.cell? ⟨w2.heap.size, 0, none⟩ = some (.bool x.lo.s) ∧ w'.cell? ⟨w2.heap.size, 1, none⟩ = some (.slice A3 n3 c3) ∧ w'.cell? ⟨w2.heap.size, 2, none⟩ = some (.int .i64 x.lo.e)) (by kernel_rfl) (by exact ⟨y0, y1, y2⟩) (fun hHeldv0 => ?_)
  generalize World.drew (w2.alloc (.cells #[.bool x.lo.s, .slice A3 n3 c3, .int .i64 x.lo.e] 28)) = wd at *
  refine tk 0 7 ?_
  simp only [Act.put, List.setIfInBounds_toArray, List.set_cons_zero, List.set_cons_succ]
  refine tk 1 8 ?_
  simp only [Act.put, List.setIfInBounds_toArray, List.set_cons_zero, List.set_cons_succ]
  refine wpAnyH_ready (rs := [2]) (by kernel_rfl) (by simp) ?_
  refine AllReadyH.cons (o := _) rfl (fun K hK => ?_) AllReadyH.nil
  go_simp
  refine (HHI.out _ BB).mono ?_
  rintro en w' ⟨A2, n4, c2, rfl, h2, b⟩
  replace BB := below_next BB BB.size b (by rfl) (by rfl) (by rfl) (by rfl)
  have G := mv b (by rfl) <| And.intro r <| And.intro h3 <| And.intro y0 <| And.intro y1 <| y2
  clear b r h3 y0 y1 y2
  obtain ⟨r, h3, y0, y1, y2⟩ := G
  refine hK.out _ _ (by exact ⟨y0, y1, y2⟩) (fun hHeldv1 => ?_)
  clear hK K hHeldv0
  try simp only [Act.put]
  refine wpAnyH_ready (rs := [3]) (by kernel_rfl) (by simp) ?_
  refine AllReadyH.cons (o := _) rfl (fun K hK => ?_) AllReadyH.nil
  go_simp
  refine (iown_any (s := x.hi.s) (e := x.hi.e) h2 (by rw [← h2.len]; exact LB.out)).mono ?_
  rintro en w' ⟨A4, c4, rfl, h4, b⟩
  clear h2
  replace BB := below_next BB BB.size b (by rfl) (by rfl) (by rfl) (by rfl)
  have G := mv b (by rfl) <| And.intro r <| And.intro h3 <| And.intro y0 <| And.intro y1 <| y2
  clear b r h3 y0 y1 y2
  obtain ⟨r, h3, y0, y1, y2⟩ := G
  obtain ⟨f0, f1, f2, f3, f4, f5⟩ := r.open
  obtain ⟨z0, z1, z2, z3, z4, z5⟩ := r.held
  refine hK.out _ _ (by exact ⟨y0, y1, y2⟩) (fun hHeldv2 => ?_)
  clear hK K hHeldv1
  try simp only [Act.put]
  refine tk 4 11 ?_
  simp only [Act.put, List.setIfInBounds_toArray, List.set_cons_zero, List.set_cons_succ]
  refine wpAnyH_ready (rs := [5]) (by kernel_rfl) (by simp) ?_
  refine AllReadyH.cons (o := _) rfl (fun K hK => ?_) AllReadyH.nil
  go_simp
  refine hK.out _ _ (by exact ⟨cell_oth6 y0 ny, cell_oth6 y1 ny, cell_oth6 y2 ny⟩) (fun hHeldv3 => ?_)
  clear hK K hHeldv2
  try simp only [Act.put]
  refine wpAnyH_done (by kernel_rfl) ?_ _
  go_wp2
  have qq := r.put x.lo.s A3 n3 c3 x.lo.e x.hi.s A4 n4 c4 x.hi.e
  have hN := h3.put6 r (.bool x.lo.s) (.slice A3 n3 c3) (.int .i64 x.lo.e) (.bool x.hi.s) (.slice A4 n4 c4) (.int .i64 x.hi.e)
  have hM := h4.put6 r (.bool x.lo.s) (.slice A3 n3 c3) (.int .i64 x.lo.e) (.bool x.hi.s) (.slice A4 n4 c4) (.int .i64 x.hi.e)
  have HB3 := below_put6 (g := w.heap.size) BB (by omega) (.bool x.lo.s) (.slice A3 n3 c3) (.int .i64 x.lo.e) (.bool x.hi.s) (.slice A4 n4 c4) (.int .i64 x.hi.e)
  obtain ⟨z0, z1, z2, z3, z4, z5⟩ := qq.held
  exact bodyPost_ret (v := .agg #[.bool x.lo.s, .slice A3 n3 c3, .int .i64 x.lo.e, .bool x.hi.s, .slice A4 n4 c4, .int .i64 x.hi.e]) (by simp [results, Tryd.results46, go_sem, z0, z1, z2, z3, z4, z5]) rfl ⟨_, _, _, _, _, _, rfl, hN, hM, HB3⟩

end Go.Proofs.YtkpcmgfpmekkjaaDoor
