/-
  Contracts of dyad's Add, Sub, Mul and of the closures within them, at this translation. Condition: the slices read as limbs, the table of math/bits reads as its text lays it.
-/
import Derived.Test.YtdklekiknhhfdaaDoorDy8
namespace Go.Proofs.YtdklekiknhhfdaaDoor
open Go.RowKit

theorem nmv_total (K : Nat) {s : Bool} {m : Nat} {e : Int} {V : Int} (he : -(K : Int) ≤ e) (hv : vz K s m e = V) : ∃ k s' m' e', NmV K V k s' m' e' := by
  obtain ⟨k, s', m', e', h⟩ := nm_total s m e
  exact ⟨k, s', m', e', s, m, e, he, hv, h⟩
theorem sum_has {K : Nat} {s t : Bool} {x y : Nat} {e f : Int} (hK : 4194304 ≤ K) (he : -1048576 ≤ e ∧ e ≤ 1048576) (hf : -1048576 ≤ f ∧ f ≤ 1048576) : ∃ k s' m' e', NmV K (vz K s x e + vz K t y f) k s' m' e' := by
  obtain ⟨lo, hlo⟩ : ∃ lo, min e f = lo := ⟨_, rfl⟩
  obtain ⟨i, hi⟩ := Int.eq_ofNat_of_zero_le (show 0 ≤ e - lo by omega)
  obtain ⟨j, hj⟩ := Int.eq_ofNat_of_zero_le (show 0 ≤ f - lo by omega)
  have e1 : lo + i = e := by omega
  have e2 : lo + j = f := by omega
  have h1 : vz K s x e = vz K s (x * 2 ^ i) lo := by rw [← e1, vz_up (by omega)]
  have h2 : vz K t y f = vz K t (y * 2 ^ j) lo := by rw [← e2, vz_up (by omega)]
  rw [h1, h2]
  by_cases hst : s = t
  · subst hst
    exact nmv_total K (by omega) vz_add
  · have hts : t = !s := by cases s <;> cases t <;> first | rfl | exact absurd rfl hst
    have hts2 : s = !t := by cases s <;> cases t <;> first | rfl | exact absurd rfl hst
    rcases Nat.le_total (y * 2 ^ j) (x * 2 ^ i) with h | h
    · rw [hts]
      exact nmv_total K (by omega) (vz_sub h)
    · rw [hts2, Int.add_comm]
      exact nmv_total K (by omega) (vz_sub h)
theorem dsum_good {w : World} {A B : Option Addr} {n c m d x y K : Nat} {s t : Bool} {e f : Int} {s' : Bool} {m' : Nat} {e' k : Int} (hK : 4194304 ≤ K) (hT : Tab w) (h : Nt w A n c x) (h' : Nt w B m d y) (hd : OkD s x e) (hd' : OkD t y f) (hN : NmV K (vz K s x e + vz K t y f) k s' m' e') (hk : k = 0) :
    Calls Tryd.prog 86 #[.agg #[.bool s, .slice A n c, .int .i64 e], .agg #[.bool t, .slice B m d, .int .i64 f]] w (Goods s' m' e' w) :=
  (dsum_any hK hT h h' hd hd').mono fun en w' hr => by
    subst hk
    rcases hr with ⟨s1, A1, n1, c1, m1, e1, h1, h2, h3, h4⟩ | ⟨k, h1, hk, h2, h3⟩
    · obtain ⟨_, rfl, rfl, rfl⟩ := nmv_fun h2 hN
      exact ⟨A1, n1, c1, h1, h3, h4⟩
    · obtain ⟨rfl, _⟩ := nmv_fun h2 hN
      exact absurd rfl hk
theorem dsum_fault {w : World} {A B : Option Addr} {n c m d x y K : Nat} {s t : Bool} {e f : Int} {s' : Bool} {m' : Nat} {e' k : Int} (hK : 4194304 ≤ K) (hT : Tab w) (h : Nt w A n c x) (h' : Nt w B m d y) (hd : OkD s x e) (hd' : OkD t y f) (hN : NmV K (vz K s x e + vz K t y f) k s' m' e') (hk : k ≠ 0) :
    Calls Tryd.prog 86 #[.agg #[.bool s, .slice A n c, .int .i64 e], .agg #[.bool t, .slice B m d, .int .i64 f]] w (Faults k w) :=
  (dsum_any hK hT h h' hd hd').mono fun en w' hr => by
    rcases hr with ⟨s1, A1, n1, c1, m1, e1, h1, h2, h3, h4⟩ | ⟨k', h1, _, h2, h3⟩
    · obtain ⟨h5, _⟩ := nmv_fun h2 hN
      exact absurd h5.symm hk
    · obtain ⟨rfl, _⟩ := nmv_fun h2 hN
      exact ⟨h1, h3⟩
theorem nmv_fault {K : Nat} {V k : Int} {s : Bool} {m : Nat} {e : Int} (h : NmV K V k s m e) (hk : k ≠ 0) : NmV K V k false 0 0 := by
  have h0 := h
  obtain ⟨_, _, _, _, _, hN⟩ := h
  obtain ⟨_, rfl, rfl, rfl⟩ := (nm_code hN).resolve_left hk
  exact h0
theorem Rd.next' {w w2 : World} {k : IntKind} {B : Nat} {A : Option Addr} {n c : Nat} {l : List Nat} (h : Rd w k B A n c l) (e : w2.heap = w.heap) : Rd w2 k B A n c l :=
  h.keep (w' := w2) (by rw [e]; omega) (fun p _ => by unfold World.cell?; rw [e])
theorem Nt.next' {w w2 : World} {A : Option Addr} {n c x : Nat} (h : Nt w A n c x) (e : w2.heap = w.heap) : Nt w2 A n c x := h.heap e
theorem neg_zero {w : World} {A : Option Addr} {n c m : Nat} {s : Bool} {e : Int} (hT : Tab w) (h : Nt w A n c m) (hd : OkD s m e) (hm : m = 0) :
    Calls Tryd.prog 61 #[.agg #[.bool s, .slice A n c, .int .i64 e]] w (Goods s m e w) := by
  have hnle := h.le
  refine (neg_keep h.rd (by omega) fun W2 b => ?_).mono fun en w' hg => ?_
  · have := sign_ok (hT.below b) (h.below b) hd
    unfold signD at this
    rwa [if_pos hm] at this
  · obtain ⟨A1, c1, h1, h2, h3⟩ := hg
    exact ⟨A1, n, c1, h1, ⟨h2, h.lt⟩, h3⟩
theorem OkD.turn {s : Bool} {m : Nat} {e : Int} (h : OkD s m e) (hm : m ≠ 0) : OkD (!s) m e := by
  rcases h with ⟨h0, _⟩ | h
  · exact absurd h0 hm
  · exact .inr h

set_option maxRecDepth 100000 in
set_option maxHeartbeats 1000000 in
theorem add1_good {w : World} {v : Nat} {A B : Option Addr} {n c m d : Nat} {s t : Bool} {e f : Int} (g : Two w v s t A B n c m d e f) {x y K : Nat} (hK : 4194304 ≤ K) (hT : Tab w) (h : Nt w A n c x) (h' : Nt w B m d y) (hd : OkD s x e) (hd' : OkD t y f) {s' : Bool} {m' : Nat} {e' k : Int} (hN : NmV K (vz K s x e + vz K t y f) k s' m' e') (hk : k = 0) :
    Calls Tryd.prog 85 #[.pointer (some ⟨v, 0, none⟩), .pointer (some ⟨v + 1, 0, none⟩)] w (Goods s' m' e' w) := by
  have HN := Lib.hid hN
  have HK := Lib.hid hK
  have HD := Lib.hid hd
  have HD2 := Lib.hid hd'
  have HKK := Lib.hid hk
  clear hN hK hd hd' hk
  have BB := below_alloc w (.cells #[.bool false, .slice none 0 0, .int .i64 0] 54)
  have vl := g.b.gl
  have ne1 : ¬ w.heap.size = v := by omega
  have ne2 : ¬ v = w.heap.size := by omega
  have ne3 : ¬ w.heap.size = v + 1 := by omega
  have ne4 : ¬ v + 1 = w.heap.size := by omega
  replace g := g.alloc (.cells #[.bool false, .slice none 0 0, .int .i64 0] 54)
  have r := Box.new w false none 0 0 0
  obtain ⟨p0, p1, p2, p3, p4, p5⟩ := g.held
  have h1 := h.below BB
  have h2 := h'.below BB
  have hT1 := hT.below BB
  clear h h' hT
  go_enter Tryd.func85, Tryd.ntmps85
  go_wp2_with fail
  refine wp_region_held_drew (S := fun w' => w'.cell? ⟨v, 0, none⟩ = some (.bool s) ∧ w'.cell? ⟨v, 1, none⟩ = some (.slice A n c) ∧ w'.cell? ⟨v, 2, none⟩ = some (.int .i64 e) ∧ w'.cell? ⟨v + 1, 0, none⟩ = some (.bool t) ∧ w'.cell? ⟨v + 1, 1, none⟩ = some (.slice B m d) ∧ w'.cell? ⟨v + 1, 2, none⟩ = some (.int .i64 f)) (by kernel_rfl) (by first | (dsimp only; go_keep) | go_keep) (fun hHeld => ?_)
  refine wpAnyH_take (i := 0) (v := ?v0) rfl (by kernel_rfl) (by kernel_rfl) (by kernel_rfl) (fun _ _ _ h => panic_put (P := Tryd.prog) (fn := Tryd.f85) (R := Goods s' m' e' w) h) (Or.inl ⟨by rfl, ?y0⟩) (by assumption) ?_
  case y0 => (intro w hSw; (try dsimp only at hSw); go_simp); try with_reducible rfl
  change wpAnyH _ _ _ _ _ _ _ (Act.put _ (some 3) _) _
  simp only [Act.put]
  refine wpAnyH_take (i := 2) (v := ?v2) rfl (by kernel_rfl) (by kernel_rfl) (by kernel_rfl) (fun _ _ _ h => panic_put (P := Tryd.prog) (fn := Tryd.f85) (R := Goods s' m' e' w) h) (Or.inl ⟨by rfl, ?y2⟩) (by assumption) ?_
  case y2 => (intro w hSw; (try dsimp only at hSw); go_simp); try with_reducible rfl
  change wpAnyH _ _ _ _ _ _ _ (Act.put _ (some 5) _) _
  simp only [Act.put]
  refine wpAnyH_ready (rs := [1]) (by kernel_rfl) (by simp) ?_
  refine AllReadyH.cons (o := _) rfl (fun K hK => ?_) AllReadyH.nil
  go_simp
  refine (checked_ok (hT1.heap (by rfl)) (h1.heap (by rfl)) HD.out).mono ?_
  rintro en w1 ⟨rfl, b⟩
  replace h1 := h1.next b (by rfl)
  replace h2 := h2.next b (by rfl)
  replace hT1 := hT1.next b (by rfl)
  replace g := g.next b (by rfl)
  replace r := r.next b (by rfl)
  replace BB := below_next BB BB.size b (by rfl) (by rfl) (by rfl) (by rfl)
  clear b
  obtain ⟨q0, q1, q2, q3, q4, q5⟩ := g.held
  refine hK.out _ _ (by first | (dsimp only; go_keep) | go_keep) (fun hHeld => ?_)
  clear hK K
  try simp only [Act.put]
  refine wpAnyH_ready (rs := [3]) (by kernel_rfl) (by simp) ?_
  refine AllReadyH.cons (o := _) rfl (fun K hK => ?_) AllReadyH.nil
  go_simp
  refine (checked_ok (hT1.heap (by rfl)) (h2.heap (by rfl)) HD2.out).mono ?_
  rintro en w2 ⟨rfl, b⟩
  replace h1 := h1.next b (by rfl)
  replace h2 := h2.next b (by rfl)
  replace hT1 := hT1.next b (by rfl)
  replace g := g.next b (by rfl)
  replace r := r.next b (by rfl)
  replace BB := below_next BB BB.size b (by rfl) (by rfl) (by rfl) (by rfl)
  clear b
  obtain ⟨q0, q1, q2, q3, q4, q5⟩ := g.held
  refine hK.out _ _ (by first | (dsimp only; go_keep) | go_keep) (fun hHeld => ?_)
  clear hK K
  try simp only [Act.put]
  refine wpAnyH_ready (rs := [4]) (by kernel_rfl) (by simp) ?_
  refine AllReadyH.cons (o := _) rfl (fun K hK => ?_) AllReadyH.nil
  go_simp
  refine (dsum_good HK.out (hT1.heap (by rfl)) (h1.heap (by rfl)) (h2.heap (by rfl)) HD.out HD2.out HN.out HKK.out).mono ?_
  rintro en w3 ⟨A5, n5, c5, rfl, h5, b⟩
  replace h1 := h1.next b (by rfl)
  replace h2 := h2.next b (by rfl)
  replace hT1 := hT1.next b (by rfl)
  replace g := g.next b (by rfl)
  replace r := r.next b (by rfl)
  replace BB := below_next BB BB.size b (by rfl) (by rfl) (by rfl) (by rfl)
  clear b
  obtain ⟨q0, q1, q2, q3, q4, q5⟩ := g.held
  obtain ⟨f0, f1, f2⟩ := r.open
  obtain ⟨z0, z1, z2⟩ := r.held
  refine hK.out _ _ (by first | (dsimp only; go_keep) | go_keep) (fun hHeld => ?_)
  clear hK K
  try simp only [Act.put]
  refine wpAnyH_ready (rs := [5]) (by kernel_rfl) (by simp) ?_
  refine AllReadyH.cons (o := _) rfl (fun K hK => ?_) AllReadyH.nil
  go_simp
  refine hK.out _ _ (by first | (dsimp only; go_keep) | go_keep) (fun hHeld => ?_)
  clear hK K
  try simp only [Act.put]
  refine wpAnyH_done (by kernel_rfl) ?_ _
  go_wp2
  have p := r.put s' A5 n5 c5 e'
  have hN5 := h5.put3 r (.bool s') (.slice A5 n5 c5) (.int .i64 e')
  have HB3 := below_put3 (g := w.heap.size) BB (Nat.le_refl _) (.bool s') (.slice A5 n5 c5) (.int .i64 e')
  obtain ⟨z0, z1, z2⟩ := p.held
  exact bodyPost_ret (v := .agg #[.bool s', .slice A5 n5 c5, .int .i64 e']) (by simp [results, Tryd.results85, go_sem, z0, z1, z2]) rfl ⟨_, _, _, rfl, hN5, HB3⟩

set_option maxRecDepth 100000 in
set_option maxHeartbeats 1000000 in
theorem add1_fault {w : World} {v : Nat} {A B : Option Addr} {n c m d : Nat} {s t : Bool} {e f : Int} (g : Two w v s t A B n c m d e f) {x y K : Nat} (hK : 4194304 ≤ K) (hT : Tab w) (h : Nt w A n c x) (h' : Nt w B m d y) (hd : OkD s x e) (hd' : OkD t y f) {s' : Bool} {m' : Nat} {e' k : Int} (hN : NmV K (vz K s x e + vz K t y f) k s' m' e') (hk : k ≠ 0) :
    Calls Tryd.prog 85 #[.pointer (some ⟨v, 0, none⟩), .pointer (some ⟨v + 1, 0, none⟩)] w (Faults k w) := by
  have HN := Lib.hid hN
  have HK := Lib.hid hK
  have HD := Lib.hid hd
  have HD2 := Lib.hid hd'
  have HKK := Lib.hid hk
  clear hN hK hd hd' hk
  have BB := below_alloc w (.cells #[.bool false, .slice none 0 0, .int .i64 0] 54)
  have vl := g.b.gl
  have ne1 : ¬ w.heap.size = v := by omega
  have ne2 : ¬ v = w.heap.size := by omega
  have ne3 : ¬ w.heap.size = v + 1 := by omega
  have ne4 : ¬ v + 1 = w.heap.size := by omega
  replace g := g.alloc (.cells #[.bool false, .slice none 0 0, .int .i64 0] 54)
  have r := Box.new w false none 0 0 0
  obtain ⟨p0, p1, p2, p3, p4, p5⟩ := g.held
  have h1 := h.below BB
  have h2 := h'.below BB
  have hT1 := hT.below BB
  clear h h' hT
  go_enter Tryd.func85, Tryd.ntmps85
  go_wp2_with fail
  refine wp_region_held_drew (S := fun w' => w'.cell? ⟨v, 0, none⟩ = some (.bool s) ∧ w'.cell? ⟨v, 1, none⟩ = some (.slice A n c) ∧ w'.cell? ⟨v, 2, none⟩ = some (.int .i64 e) ∧ w'.cell? ⟨v + 1, 0, none⟩ = some (.bool t) ∧ w'.cell? ⟨v + 1, 1, none⟩ = some (.slice B m d) ∧ w'.cell? ⟨v + 1, 2, none⟩ = some (.int .i64 f)) (by kernel_rfl) (by first | (dsimp only; go_keep) | go_keep) (fun hHeld => ?_)
  refine wpAnyH_take (i := 0) (v := ?v0) rfl (by kernel_rfl) (by kernel_rfl) (by kernel_rfl) (fun _ _ _ h => panic_put (P := Tryd.prog) (fn := Tryd.f85) (R := Faults k w) h) (Or.inl ⟨by rfl, ?y0⟩) (by assumption) ?_
  case y0 => (intro w hSw; (try dsimp only at hSw); go_simp); try with_reducible rfl
  change wpAnyH _ _ _ _ _ _ _ (Act.put _ (some 3) _) _
  simp only [Act.put]
  refine wpAnyH_take (i := 2) (v := ?v2) rfl (by kernel_rfl) (by kernel_rfl) (by kernel_rfl) (fun _ _ _ h => panic_put (P := Tryd.prog) (fn := Tryd.f85) (R := Faults k w) h) (Or.inl ⟨by rfl, ?y2⟩) (by assumption) ?_
  case y2 => (intro w hSw; (try dsimp only at hSw); go_simp); try with_reducible rfl
  change wpAnyH _ _ _ _ _ _ _ (Act.put _ (some 5) _) _
  simp only [Act.put]
  refine wpAnyH_ready (rs := [1]) (by kernel_rfl) (by simp) ?_
  refine AllReadyH.cons (o := _) rfl (fun K hK => ?_) AllReadyH.nil
  go_simp
  refine (checked_ok (hT1.heap (by rfl)) (h1.heap (by rfl)) HD.out).mono ?_
  rintro en w1 ⟨rfl, b⟩
  replace h1 := h1.next b (by rfl)
  replace h2 := h2.next b (by rfl)
  replace hT1 := hT1.next b (by rfl)
  replace g := g.next b (by rfl)
  replace r := r.next b (by rfl)
  replace BB := below_next BB BB.size b (by rfl) (by rfl) (by rfl) (by rfl)
  clear b
  obtain ⟨q0, q1, q2, q3, q4, q5⟩ := g.held
  refine hK.out _ _ (by first | (dsimp only; go_keep) | go_keep) (fun hHeld => ?_)
  clear hK K
  try simp only [Act.put]
  refine wpAnyH_ready (rs := [3]) (by kernel_rfl) (by simp) ?_
  refine AllReadyH.cons (o := _) rfl (fun K hK => ?_) AllReadyH.nil
  go_simp
  refine (checked_ok (hT1.heap (by rfl)) (h2.heap (by rfl)) HD2.out).mono ?_
  rintro en w2 ⟨rfl, b⟩
  replace h1 := h1.next b (by rfl)
  replace h2 := h2.next b (by rfl)
  replace hT1 := hT1.next b (by rfl)
  replace g := g.next b (by rfl)
  replace r := r.next b (by rfl)
  replace BB := below_next BB BB.size b (by rfl) (by rfl) (by rfl) (by rfl)
  clear b
  obtain ⟨q0, q1, q2, q3, q4, q5⟩ := g.held
  refine hK.out _ _ (by first | (dsimp only; go_keep) | go_keep) (fun hHeld => ?_)
  clear hK K
  try simp only [Act.put]
  refine wpAnyH_ready (rs := [4]) (by kernel_rfl) (by simp) ?_
  refine AllReadyH.cons (o := _) rfl (fun K hK => ?_) AllReadyH.nil
  go_simp
  refine (dsum_fault HK.out (hT1.heap (by rfl)) (h1.heap (by rfl)) (h2.heap (by rfl)) HD.out HD2.out HN.out HKK.out).mono ?_
  rintro en w9 ⟨rfl, b⟩
  exact ⟨rfl, rfl, below_next BB BB.size b (by rfl) (by rfl) (by rfl) (by rfl)⟩

theorem add1_any {w : World} {v : Nat} {A B : Option Addr} {n c m d : Nat} {s t : Bool} {e f : Int} (g : Two w v s t A B n c m d e f) {x y K : Nat} (hK : 4194304 ≤ K) (hT : Tab w) (h : Nt w A n c x) (h' : Nt w B m d y) (hd : OkD s x e) (hd' : OkD t y f) :
    Calls Tryd.prog 85 #[.pointer (some ⟨v, 0, none⟩), .pointer (some ⟨v + 1, 0, none⟩)] w (Ran (NmV K (vz K s x e + vz K t y f)) w) := by
  have r1 := okd_ge hK hd
  have r2 := okd_ge hK hd'
  obtain ⟨k, s', m', e', hN⟩ := sum_has (s := s) (t := t) (x := x) (y := y) hK ⟨r1.1, r1.2.1⟩ ⟨r2.1, r2.2.1⟩
  by_cases hk : k = 0
  · exact (add1_good g hK hT h h' hd hd' hN hk).mono fun _ _ hg => ran_good hg (by rw [← hk]; exact hN)
  · exact (add1_fault g hK hT h h' hd hd' hN hk).mono fun _ _ hg => ran_fault hg hk (nmv_fault hN hk)

set_option maxRecDepth 100000 in
set_option maxHeartbeats 1000000 in
theorem add1_no1 {w : World} {v : Nat} {A B : Option Addr} {n c m d : Nat} {s t : Bool} {e f : Int} (g : Two w v s t A B n c m d e f) {l : List Nat} (hT : Tab w) (h : Rd w .u64 W A n c l) (hd : mayD s l e = false) :
    Calls Tryd.prog 85 #[.pointer (some ⟨v, 0, none⟩), .pointer (some ⟨v + 1, 0, none⟩)] w (Faults 1 w) := by
  have HD := Lib.hid hd
  clear hd
  have BB := below_alloc w (.cells #[.bool false, .slice none 0 0, .int .i64 0] 54)
  have vl := g.b.gl
  have ne1 : ¬ w.heap.size = v := by omega
  have ne2 : ¬ v = w.heap.size := by omega
  have ne3 : ¬ w.heap.size = v + 1 := by omega
  have ne4 : ¬ v + 1 = w.heap.size := by omega
  replace g := g.alloc (.cells #[.bool false, .slice none 0 0, .int .i64 0] 54)
  have r := Box.new w false none 0 0 0
  obtain ⟨p0, p1, p2, p3, p4, p5⟩ := g.held
  have h1 := h.below BB
  have hT1 := hT.below BB
  clear h hT
  go_enter Tryd.func85, Tryd.ntmps85
  go_wp2_with fail
  refine wp_region_held_drew (S := fun w' => w'.cell? ⟨v, 0, none⟩ = some (.bool s) ∧ w'.cell? ⟨v, 1, none⟩ = some (.slice A n c) ∧ w'.cell? ⟨v, 2, none⟩ = some (.int .i64 e) ∧ w'.cell? ⟨v + 1, 0, none⟩ = some (.bool t) ∧ w'.cell? ⟨v + 1, 1, none⟩ = some (.slice B m d) ∧ w'.cell? ⟨v + 1, 2, none⟩ = some (.int .i64 f)) (by kernel_rfl) (by first | (dsimp only; go_keep) | go_keep) (fun hHeld => ?_)
  refine wpAnyH_take (i := 0) (v := ?v0) rfl (by kernel_rfl) (by kernel_rfl) (by kernel_rfl) (fun _ _ _ h => panic_put (P := Tryd.prog) (fn := Tryd.f85) (R := Faults 1 w) h) (Or.inl ⟨by rfl, ?y0⟩) (by assumption) ?_
  case y0 => (intro w hSw; (try dsimp only at hSw); go_simp); try with_reducible rfl
  change wpAnyH _ _ _ _ _ _ _ (Act.put _ (some 3) _) _
  simp only [Act.put]
  refine wpAnyH_take (i := 2) (v := ?v2) rfl (by kernel_rfl) (by kernel_rfl) (by kernel_rfl) (fun _ _ _ h => panic_put (P := Tryd.prog) (fn := Tryd.f85) (R := Faults 1 w) h) (Or.inl ⟨by rfl, ?y2⟩) (by assumption) ?_
  case y2 => (intro w hSw; (try dsimp only at hSw); go_simp); try with_reducible rfl
  change wpAnyH _ _ _ _ _ _ _ (Act.put _ (some 5) _) _
  simp only [Act.put]
  refine wpAnyH_ready (rs := [1]) (by kernel_rfl) (by simp) ?_
  refine AllReadyH.cons (o := _) rfl (fun K hK => ?_) AllReadyH.nil
  go_simp
  refine (checked_no (hT1.heap (by rfl)) (h1.next' (by rfl)) HD.out).mono ?_
  rintro en w9 ⟨rfl, b⟩
  exact ⟨rfl, rfl, below_next BB BB.size b (by rfl) (by rfl) (by rfl) (by rfl)⟩

set_option maxRecDepth 100000 in
set_option maxHeartbeats 1000000 in
theorem add1_no2 {w : World} {v : Nat} {A B : Option Addr} {n c m d : Nat} {s t : Bool} {e f : Int} (g : Two w v s t A B n c m d e f) {x : Nat} {rr : List Nat} (hT : Tab w) (h : Nt w A n c x) (hd : OkD s x e) (h' : Rd w .u64 W B m d rr) (hd' : mayD t rr f = false) :
    Calls Tryd.prog 85 #[.pointer (some ⟨v, 0, none⟩), .pointer (some ⟨v + 1, 0, none⟩)] w (Faults 1 w) := by
  have HD := Lib.hid hd
  have HD2 := Lib.hid hd'
  clear hd hd'
  have BB := below_alloc w (.cells #[.bool false, .slice none 0 0, .int .i64 0] 54)
  have vl := g.b.gl
  have ne1 : ¬ w.heap.size = v := by omega
  have ne2 : ¬ v = w.heap.size := by omega
  have ne3 : ¬ w.heap.size = v + 1 := by omega
  have ne4 : ¬ v + 1 = w.heap.size := by omega
  replace g := g.alloc (.cells #[.bool false, .slice none 0 0, .int .i64 0] 54)
  have r := Box.new w false none 0 0 0
  obtain ⟨p0, p1, p2, p3, p4, p5⟩ := g.held
  have h1 := h.below BB
  have h2 := h'.below BB
  have hT1 := hT.below BB
  clear h h' hT
  go_enter Tryd.func85, Tryd.ntmps85
  go_wp2_with fail
  refine wp_region_held_drew (S := fun w' => w'.cell? ⟨v, 0, none⟩ = some (.bool s) ∧ w'.cell? ⟨v, 1, none⟩ = some (.slice A n c) ∧ w'.cell? ⟨v, 2, none⟩ = some (.int .i64 e) ∧ w'.cell? ⟨v + 1, 0, none⟩ = some (.bool t) ∧ w'.cell? ⟨v + 1, 1, none⟩ = some (.slice B m d) ∧ w'.cell? ⟨v + 1, 2, none⟩ = some (.int .i64 f)) (by kernel_rfl) (by first | (dsimp only; go_keep) | go_keep) (fun hHeld => ?_)
  refine wpAnyH_take (i := 0) (v := ?v0) rfl (by kernel_rfl) (by kernel_rfl) (by kernel_rfl) (fun _ _ _ h => panic_put (P := Tryd.prog) (fn := Tryd.f85) (R := Faults 1 w) h) (Or.inl ⟨by rfl, ?y0⟩) (by assumption) ?_
  case y0 => (intro w hSw; (try dsimp only at hSw); go_simp); try with_reducible rfl
  change wpAnyH _ _ _ _ _ _ _ (Act.put _ (some 3) _) _
  simp only [Act.put]
  refine wpAnyH_take (i := 2) (v := ?v2) rfl (by kernel_rfl) (by kernel_rfl) (by kernel_rfl) (fun _ _ _ h => panic_put (P := Tryd.prog) (fn := Tryd.f85) (R := Faults 1 w) h) (Or.inl ⟨by rfl, ?y2⟩) (by assumption) ?_
  case y2 => (intro w hSw; (try dsimp only at hSw); go_simp); try with_reducible rfl
  change wpAnyH _ _ _ _ _ _ _ (Act.put _ (some 5) _) _
  simp only [Act.put]
  refine wpAnyH_ready (rs := [1]) (by kernel_rfl) (by simp) ?_
  refine AllReadyH.cons (o := _) rfl (fun K hK => ?_) AllReadyH.nil
  go_simp
  refine (checked_ok (hT1.heap (by rfl)) (h1.heap (by rfl)) HD.out).mono ?_
  rintro en w1 ⟨rfl, b⟩
  replace h1 := h1.next b (by rfl)
  replace h2 := h2.next b (by rfl)
  replace hT1 := hT1.next b (by rfl)
  replace g := g.next b (by rfl)
  replace r := r.next b (by rfl)
  replace BB := below_next BB BB.size b (by rfl) (by rfl) (by rfl) (by rfl)
  clear b
  obtain ⟨q0, q1, q2, q3, q4, q5⟩ := g.held
  refine hK.out _ _ (by first | (dsimp only; go_keep) | go_keep) (fun hHeld => ?_)
  clear hK K
  try simp only [Act.put]
  refine wpAnyH_ready (rs := [3]) (by kernel_rfl) (by simp) ?_
  refine AllReadyH.cons (o := _) rfl (fun K hK => ?_) AllReadyH.nil
  go_simp
  refine (checked_no (hT1.heap (by rfl)) (h2.next' (by rfl)) HD2.out).mono ?_
  rintro en w9 ⟨rfl, b⟩
  exact ⟨rfl, rfl, below_next BB BB.size b (by rfl) (by rfl) (by rfl) (by rfl)⟩

set_option maxRecDepth 100000 in
set_option maxHeartbeats 1000000 in
theorem sub1_no1 {w : World} {v : Nat} {A B : Option Addr} {n c m d : Nat} {s t : Bool} {e f : Int} (g : Two w v s t A B n c m d e f) {l : List Nat} (hT : Tab w) (h : Rd w .u64 W A n c l) (hd : mayD s l e = false) :
    Calls Tryd.prog 89 #[.pointer (some ⟨v, 0, none⟩), .pointer (some ⟨v + 1, 0, none⟩)] w (Faults 1 w) := by
  have HD := Lib.hid hd
  clear hd
  have BB := below_alloc w (.cells #[.bool false, .slice none 0 0, .int .i64 0] 54)
  have vl := g.b.gl
  have ne1 : ¬ w.heap.size = v := by omega
  have ne2 : ¬ v = w.heap.size := by omega
  have ne3 : ¬ w.heap.size = v + 1 := by omega
  have ne4 : ¬ v + 1 = w.heap.size := by omega
  replace g := g.alloc (.cells #[.bool false, .slice none 0 0, .int .i64 0] 54)
  have r := Box.new w false none 0 0 0
  obtain ⟨p0, p1, p2, p3, p4, p5⟩ := g.held
  have h1 := h.below BB
  have hT1 := hT.below BB
  clear h hT
  go_enter Tryd.func89, Tryd.ntmps89
  go_wp2_with fail
  refine wp_region_held_drew (S := fun w' => w'.cell? ⟨v, 0, none⟩ = some (.bool s) ∧ w'.cell? ⟨v, 1, none⟩ = some (.slice A n c) ∧ w'.cell? ⟨v, 2, none⟩ = some (.int .i64 e) ∧ w'.cell? ⟨v + 1, 0, none⟩ = some (.bool t) ∧ w'.cell? ⟨v + 1, 1, none⟩ = some (.slice B m d) ∧ w'.cell? ⟨v + 1, 2, none⟩ = some (.int .i64 f)) (by kernel_rfl) (by first | (dsimp only; go_keep) | go_keep) (fun hHeld => ?_)
  refine wpAnyH_take (i := 0) (v := ?v0) rfl (by kernel_rfl) (by kernel_rfl) (by kernel_rfl) (fun _ _ _ h => panic_put (P := Tryd.prog) (fn := Tryd.f89) (R := Faults 1 w) h) (Or.inl ⟨by rfl, ?y0⟩) (by assumption) ?_
  case y0 => (intro w hSw; (try dsimp only at hSw); go_simp); try with_reducible rfl
  change wpAnyH _ _ _ _ _ _ _ (Act.put _ (some 3) _) _
  simp only [Act.put]
  refine wpAnyH_take (i := 2) (v := ?v2) rfl (by kernel_rfl) (by kernel_rfl) (by kernel_rfl) (fun _ _ _ h => panic_put (P := Tryd.prog) (fn := Tryd.f89) (R := Faults 1 w) h) (Or.inl ⟨by rfl, ?y2⟩) (by assumption) ?_
  case y2 => (intro w hSw; (try dsimp only at hSw); go_simp); try with_reducible rfl
  change wpAnyH _ _ _ _ _ _ _ (Act.put _ (some 5) _) _
  simp only [Act.put]
  refine wpAnyH_ready (rs := [1]) (by kernel_rfl) (by simp) ?_
  refine AllReadyH.cons (o := _) rfl (fun K hK => ?_) AllReadyH.nil
  go_simp
  refine (checked_no (hT1.heap (by rfl)) (h1.next' (by rfl)) HD.out).mono ?_
  rintro en w9 ⟨rfl, b⟩
  exact ⟨rfl, rfl, below_next BB BB.size b (by rfl) (by rfl) (by rfl) (by rfl)⟩

set_option maxRecDepth 100000 in
set_option maxHeartbeats 1000000 in
theorem sub1_no2 {w : World} {v : Nat} {A B : Option Addr} {n c m d : Nat} {s t : Bool} {e f : Int} (g : Two w v s t A B n c m d e f) {x : Nat} {rr : List Nat} (hT : Tab w) (h : Nt w A n c x) (hd : OkD s x e) (h' : Rd w .u64 W B m d rr) (hd' : mayD t rr f = false) :
    Calls Tryd.prog 89 #[.pointer (some ⟨v, 0, none⟩), .pointer (some ⟨v + 1, 0, none⟩)] w (Faults 1 w) := by
  have HD := Lib.hid hd
  have HD2 := Lib.hid hd'
  clear hd hd'
  have BB := below_alloc w (.cells #[.bool false, .slice none 0 0, .int .i64 0] 54)
  have vl := g.b.gl
  have ne1 : ¬ w.heap.size = v := by omega
  have ne2 : ¬ v = w.heap.size := by omega
  have ne3 : ¬ w.heap.size = v + 1 := by omega
  have ne4 : ¬ v + 1 = w.heap.size := by omega
  replace g := g.alloc (.cells #[.bool false, .slice none 0 0, .int .i64 0] 54)
  have r := Box.new w false none 0 0 0
  obtain ⟨p0, p1, p2, p3, p4, p5⟩ := g.held
  have h1 := h.below BB
  have h2 := h'.below BB
  have hT1 := hT.below BB
  clear h h' hT
  go_enter Tryd.func89, Tryd.ntmps89
  go_wp2_with fail
  refine wp_region_held_drew (S := fun w' => w'.cell? ⟨v, 0, none⟩ = some (.bool s) ∧ w'.cell? ⟨v, 1, none⟩ = some (.slice A n c) ∧ w'.cell? ⟨v, 2, none⟩ = some (.int .i64 e) ∧ w'.cell? ⟨v + 1, 0, none⟩ = some (.bool t) ∧ w'.cell? ⟨v + 1, 1, none⟩ = some (.slice B m d) ∧ w'.cell? ⟨v + 1, 2, none⟩ = some (.int .i64 f)) (by kernel_rfl) (by first | (dsimp only; go_keep) | go_keep) (fun hHeld => ?_)
  refine wpAnyH_take (i := 0) (v := ?v0) rfl (by kernel_rfl) (by kernel_rfl) (by kernel_rfl) (fun _ _ _ h => panic_put (P := Tryd.prog) (fn := Tryd.f89) (R := Faults 1 w) h) (Or.inl ⟨by rfl, ?y0⟩) (by assumption) ?_
  case y0 => (intro w hSw; (try dsimp only at hSw); go_simp); try with_reducible rfl
  change wpAnyH _ _ _ _ _ _ _ (Act.put _ (some 3) _) _
  simp only [Act.put]
  refine wpAnyH_take (i := 2) (v := ?v2) rfl (by kernel_rfl) (by kernel_rfl) (by kernel_rfl) (fun _ _ _ h => panic_put (P := Tryd.prog) (fn := Tryd.f89) (R := Faults 1 w) h) (Or.inl ⟨by rfl, ?y2⟩) (by assumption) ?_
  case y2 => (intro w hSw; (try dsimp only at hSw); go_simp); try with_reducible rfl
  change wpAnyH _ _ _ _ _ _ _ (Act.put _ (some 5) _) _
  simp only [Act.put]
  refine wpAnyH_ready (rs := [1]) (by kernel_rfl) (by simp) ?_
  refine AllReadyH.cons (o := _) rfl (fun K hK => ?_) AllReadyH.nil
  go_simp
  refine (checked_ok (hT1.heap (by rfl)) (h1.heap (by rfl)) HD.out).mono ?_
  rintro en w1 ⟨rfl, b⟩
  replace h1 := h1.next b (by rfl)
  replace h2 := h2.next b (by rfl)
  replace hT1 := hT1.next b (by rfl)
  replace g := g.next b (by rfl)
  replace r := r.next b (by rfl)
  replace BB := below_next BB BB.size b (by rfl) (by rfl) (by rfl) (by rfl)
  clear b
  obtain ⟨q0, q1, q2, q3, q4, q5⟩ := g.held
  refine hK.out _ _ (by first | (dsimp only; go_keep) | go_keep) (fun hHeld => ?_)
  clear hK K
  try simp only [Act.put]
  refine wpAnyH_ready (rs := [3]) (by kernel_rfl) (by simp) ?_
  refine AllReadyH.cons (o := _) rfl (fun K hK => ?_) AllReadyH.nil
  go_simp
  refine (checked_no (hT1.heap (by rfl)) (h2.next' (by rfl)) HD2.out).mono ?_
  rintro en w9 ⟨rfl, b⟩
  exact ⟨rfl, rfl, below_next BB BB.size b (by rfl) (by rfl) (by rfl) (by rfl)⟩

set_option maxRecDepth 100000 in
set_option maxHeartbeats 1000000 in
theorem sub1_good_zero {w : World} {v : Nat} {A B : Option Addr} {n c m d : Nat} {s t : Bool} {e f : Int} (g : Two w v s t A B n c m d e f) {x y K : Nat} (hK : 4194304 ≤ K) (hT : Tab w) (h : Nt w A n c x) (h' : Nt w B m d y) (hd : OkD s x e) (hd' : OkD t y f) (hy : y = 0) {s' : Bool} {m' : Nat} {e' k : Int} (hN : NmV K (vz K s x e + vz K t y f) k s' m' e') (hk : k = 0) :
    Calls Tryd.prog 89 #[.pointer (some ⟨v, 0, none⟩), .pointer (some ⟨v + 1, 0, none⟩)] w (Goods s' m' e' w) := by
  have HN := Lib.hid hN
  have HK := Lib.hid hK
  have HD := Lib.hid hd
  have HD2 := Lib.hid hd'
  have HKK := Lib.hid hk
  have HY := Lib.hid hy
  clear hN hK hd hd' hk hy
  have BB := below_alloc w (.cells #[.bool false, .slice none 0 0, .int .i64 0] 54)
  have vl := g.b.gl
  have ne1 : ¬ w.heap.size = v := by omega
  have ne2 : ¬ v = w.heap.size := by omega
  have ne3 : ¬ w.heap.size = v + 1 := by omega
  have ne4 : ¬ v + 1 = w.heap.size := by omega
  replace g := g.alloc (.cells #[.bool false, .slice none 0 0, .int .i64 0] 54)
  have r := Box.new w false none 0 0 0
  obtain ⟨p0, p1, p2, p3, p4, p5⟩ := g.held
  have h1 := h.below BB
  have h2 := h'.below BB
  have hT1 := hT.below BB
  clear h h' hT
  go_enter Tryd.func89, Tryd.ntmps89
  go_wp2_with fail
  refine wp_region_held_drew (S := fun w' => w'.cell? ⟨v, 0, none⟩ = some (.bool s) ∧ w'.cell? ⟨v, 1, none⟩ = some (.slice A n c) ∧ w'.cell? ⟨v, 2, none⟩ = some (.int .i64 e) ∧ w'.cell? ⟨v + 1, 0, none⟩ = some (.bool t) ∧ w'.cell? ⟨v + 1, 1, none⟩ = some (.slice B m d) ∧ w'.cell? ⟨v + 1, 2, none⟩ = some (.int .i64 f)) (by kernel_rfl) (by first | (dsimp only; go_keep) | go_keep) (fun hHeld => ?_)
  refine wpAnyH_take (i := 0) (v := ?v0) rfl (by kernel_rfl) (by kernel_rfl) (by kernel_rfl) (fun _ _ _ h => panic_put (P := Tryd.prog) (fn := Tryd.f89) (R := Goods s' m' e' w) h) (Or.inl ⟨by rfl, ?y0⟩) (by assumption) ?_
  case y0 => (intro w hSw; (try dsimp only at hSw); go_simp); try with_reducible rfl
  change wpAnyH _ _ _ _ _ _ _ (Act.put _ (some 3) _) _
  simp only [Act.put]
  refine wpAnyH_take (i := 2) (v := ?v2) rfl (by kernel_rfl) (by kernel_rfl) (by kernel_rfl) (fun _ _ _ h => panic_put (P := Tryd.prog) (fn := Tryd.f89) (R := Goods s' m' e' w) h) (Or.inl ⟨by rfl, ?y2⟩) (by assumption) ?_
  case y2 => (intro w hSw; (try dsimp only at hSw); go_simp); try with_reducible rfl
  change wpAnyH _ _ _ _ _ _ _ (Act.put _ (some 5) _) _
  simp only [Act.put]
  refine wpAnyH_ready (rs := [1]) (by kernel_rfl) (by simp) ?_
  refine AllReadyH.cons (o := _) rfl (fun K hK => ?_) AllReadyH.nil
  go_simp
  refine (checked_ok (hT1.heap (by rfl)) (h1.heap (by rfl)) HD.out).mono ?_
  rintro en w1 ⟨rfl, b⟩
  replace h1 := h1.next b (by rfl)
  replace h2 := h2.next b (by rfl)
  replace hT1 := hT1.next b (by rfl)
  replace g := g.next b (by rfl)
  replace r := r.next b (by rfl)
  replace BB := below_next BB BB.size b (by rfl) (by rfl) (by rfl) (by rfl)
  clear b
  obtain ⟨q0, q1, q2, q3, q4, q5⟩ := g.held
  refine hK.out _ _ (by first | (dsimp only; go_keep) | go_keep) (fun hHeld => ?_)
  clear hK K
  try simp only [Act.put]
  refine wpAnyH_ready (rs := [3]) (by kernel_rfl) (by simp) ?_
  refine AllReadyH.cons (o := _) rfl (fun K hK => ?_) AllReadyH.nil
  go_simp
  refine (checked_ok (hT1.heap (by rfl)) (h2.heap (by rfl)) HD2.out).mono ?_
  rintro en w2 ⟨rfl, b⟩
  replace h1 := h1.next b (by rfl)
  replace h2 := h2.next b (by rfl)
  replace hT1 := hT1.next b (by rfl)
  replace g := g.next b (by rfl)
  replace r := r.next b (by rfl)
  replace BB := below_next BB BB.size b (by rfl) (by rfl) (by rfl) (by rfl)
  clear b
  obtain ⟨q0, q1, q2, q3, q4, q5⟩ := g.held
  refine hK.out _ _ (by first | (dsimp only; go_keep) | go_keep) (fun hHeld => ?_)
  clear hK K
  try simp only [Act.put]
  refine wpAnyH_ready (rs := [4]) (by kernel_rfl) (by simp) ?_
  refine AllReadyH.cons (o := _) rfl (fun K hK => ?_) AllReadyH.nil
  go_simp
  refine (neg_zero (hT1.heap (by rfl)) (h2.heap (by rfl)) HD2.out HY.out).mono ?_
  rintro en w3 ⟨A3, n3, c3, rfl, h3, b⟩
  replace h1 := h1.next b (by rfl)
  replace hT1 := hT1.next b (by rfl)
  replace g := g.next b (by rfl)
  replace r := r.next b (by rfl)
  replace BB := below_next BB BB.size b (by rfl) (by rfl) (by rfl) (by rfl)
  clear b h2
  obtain ⟨q0, q1, q2, q3, q4, q5⟩ := g.held
  refine hK.out _ _ (by first | (dsimp only; go_keep) | go_keep) (fun hHeld => ?_)
  clear hK K
  try simp only [Act.put]
  refine wpAnyH_ready (rs := [5]) (by kernel_rfl) (by simp) ?_
  refine AllReadyH.cons (o := _) rfl (fun K hK => ?_) AllReadyH.nil
  go_simp
  refine (dsum_good HK.out (hT1.heap (by rfl)) (h1.heap (by rfl)) (h3.heap (by rfl)) HD.out HD2.out HN.out HKK.out).mono ?_
  rintro en w4 ⟨A5, n5, c5, rfl, h5, b⟩
  replace h1 := h1.next b (by rfl)
  replace hT1 := hT1.next b (by rfl)
  replace g := g.next b (by rfl)
  replace r := r.next b (by rfl)
  replace h3 := h3.next b (by rfl)
  replace BB := below_next BB BB.size b (by rfl) (by rfl) (by rfl) (by rfl)
  clear b
  obtain ⟨q0, q1, q2, q3, q4, q5⟩ := g.held
  obtain ⟨f0, f1, f2⟩ := r.open
  obtain ⟨z0, z1, z2⟩ := r.held
  refine hK.out _ _ (by first | (dsimp only; go_keep) | go_keep) (fun hHeld => ?_)
  clear hK K
  try simp only [Act.put]
  refine wpAnyH_ready (rs := [6]) (by kernel_rfl) (by simp) ?_
  refine AllReadyH.cons (o := _) rfl (fun K hK => ?_) AllReadyH.nil
  go_simp
  refine hK.out _ _ (by first | (dsimp only; go_keep) | go_keep) (fun hHeld => ?_)
  clear hK K
  try simp only [Act.put]
  refine wpAnyH_done (by kernel_rfl) ?_ _
  go_wp2
  have p := r.put s' A5 n5 c5 e'
  have hN5 := h5.put3 r (.bool s') (.slice A5 n5 c5) (.int .i64 e')
  have HB3 := below_put3 (g := w.heap.size) BB (Nat.le_refl _) (.bool s') (.slice A5 n5 c5) (.int .i64 e')
  obtain ⟨z0, z1, z2⟩ := p.held
  exact bodyPost_ret (v := .agg #[.bool s', .slice A5 n5 c5, .int .i64 e']) (by simp [results, Tryd.results89, go_sem, z0, z1, z2]) rfl ⟨_, _, _, rfl, hN5, HB3⟩

set_option maxRecDepth 100000 in
set_option maxHeartbeats 1000000 in
theorem sub1_good_turn {w : World} {v : Nat} {A B : Option Addr} {n c m d : Nat} {s t : Bool} {e f : Int} (g : Two w v s t A B n c m d e f) {x y K : Nat} (hK : 4194304 ≤ K) (hT : Tab w) (h : Nt w A n c x) (h' : Nt w B m d y) (hd : OkD s x e) (hd' : OkD t y f) (hy : y ≠ 0) {s' : Bool} {m' : Nat} {e' k : Int} (hN : NmV K (vz K s x e + vz K (!t) y f) k s' m' e') (hk : k = 0) :
    Calls Tryd.prog 89 #[.pointer (some ⟨v, 0, none⟩), .pointer (some ⟨v + 1, 0, none⟩)] w (Goods s' m' e' w) := by
  have HN := Lib.hid hN
  have HK := Lib.hid hK
  have HD := Lib.hid hd
  have HD2 := Lib.hid hd'
  have HKK := Lib.hid hk
  have HY := Lib.hid hy
  clear hN hK hd hd' hk hy
  have BB := below_alloc w (.cells #[.bool false, .slice none 0 0, .int .i64 0] 54)
  have vl := g.b.gl
  have ne1 : ¬ w.heap.size = v := by omega
  have ne2 : ¬ v = w.heap.size := by omega
  have ne3 : ¬ w.heap.size = v + 1 := by omega
  have ne4 : ¬ v + 1 = w.heap.size := by omega
  replace g := g.alloc (.cells #[.bool false, .slice none 0 0, .int .i64 0] 54)
  have r := Box.new w false none 0 0 0
  obtain ⟨p0, p1, p2, p3, p4, p5⟩ := g.held
  have h1 := h.below BB
  have h2 := h'.below BB
  have hT1 := hT.below BB
  clear h h' hT
  go_enter Tryd.func89, Tryd.ntmps89
  go_wp2_with fail
  refine wp_region_held_drew (S := fun w' => w'.cell? ⟨v, 0, none⟩ = some (.bool s) ∧ w'.cell? ⟨v, 1, none⟩ = some (.slice A n c) ∧ w'.cell? ⟨v, 2, none⟩ = some (.int .i64 e) ∧ w'.cell? ⟨v + 1, 0, none⟩ = some (.bool t) ∧ w'.cell? ⟨v + 1, 1, none⟩ = some (.slice B m d) ∧ w'.cell? ⟨v + 1, 2, none⟩ = some (.int .i64 f)) (by kernel_rfl) (by first | (dsimp only; go_keep) | go_keep) (fun hHeld => ?_)
  refine wpAnyH_take (i := 0) (v := ?v0) rfl (by kernel_rfl) (by kernel_rfl) (by kernel_rfl) (fun _ _ _ h => panic_put (P := Tryd.prog) (fn := Tryd.f89) (R := Goods s' m' e' w) h) (Or.inl ⟨by rfl, ?y0⟩) (by assumption) ?_
  case y0 => (intro w hSw; (try dsimp only at hSw); go_simp); try with_reducible rfl
  change wpAnyH _ _ _ _ _ _ _ (Act.put _ (some 3) _) _
  simp only [Act.put]
  refine wpAnyH_take (i := 2) (v := ?v2) rfl (by kernel_rfl) (by kernel_rfl) (by kernel_rfl) (fun _ _ _ h => panic_put (P := Tryd.prog) (fn := Tryd.f89) (R := Goods s' m' e' w) h) (Or.inl ⟨by rfl, ?y2⟩) (by assumption) ?_
  case y2 => (intro w hSw; (try dsimp only at hSw); go_simp); try with_reducible rfl
  change wpAnyH _ _ _ _ _ _ _ (Act.put _ (some 5) _) _
  simp only [Act.put]
  refine wpAnyH_ready (rs := [1]) (by kernel_rfl) (by simp) ?_
  refine AllReadyH.cons (o := _) rfl (fun K hK => ?_) AllReadyH.nil
  go_simp
  refine (checked_ok (hT1.heap (by rfl)) (h1.heap (by rfl)) HD.out).mono ?_
  rintro en w1 ⟨rfl, b⟩
  replace h1 := h1.next b (by rfl)
  replace h2 := h2.next b (by rfl)
  replace hT1 := hT1.next b (by rfl)
  replace g := g.next b (by rfl)
  replace r := r.next b (by rfl)
  replace BB := below_next BB BB.size b (by rfl) (by rfl) (by rfl) (by rfl)
  clear b
  obtain ⟨q0, q1, q2, q3, q4, q5⟩ := g.held
  refine hK.out _ _ (by first | (dsimp only; go_keep) | go_keep) (fun hHeld => ?_)
  clear hK K
  try simp only [Act.put]
  refine wpAnyH_ready (rs := [3]) (by kernel_rfl) (by simp) ?_
  refine AllReadyH.cons (o := _) rfl (fun K hK => ?_) AllReadyH.nil
  go_simp
  refine (checked_ok (hT1.heap (by rfl)) (h2.heap (by rfl)) HD2.out).mono ?_
  rintro en w2 ⟨rfl, b⟩
  replace h1 := h1.next b (by rfl)
  replace h2 := h2.next b (by rfl)
  replace hT1 := hT1.next b (by rfl)
  replace g := g.next b (by rfl)
  replace r := r.next b (by rfl)
  replace BB := below_next BB BB.size b (by rfl) (by rfl) (by rfl) (by rfl)
  clear b
  obtain ⟨q0, q1, q2, q3, q4, q5⟩ := g.held
  refine hK.out _ _ (by first | (dsimp only; go_keep) | go_keep) (fun hHeld => ?_)
  clear hK K
  try simp only [Act.put]
  refine wpAnyH_ready (rs := [4]) (by kernel_rfl) (by simp) ?_
  refine AllReadyH.cons (o := _) rfl (fun K hK => ?_) AllReadyH.nil
  go_simp
  refine (neg_turn (hT1.heap (by rfl)) (h2.heap (by rfl)) HD2.out HY.out rfl).mono ?_
  rintro en w3 ⟨A3, n3, c3, rfl, h3, b⟩
  replace h1 := h1.next b (by rfl)
  replace hT1 := hT1.next b (by rfl)
  replace g := g.next b (by rfl)
  replace r := r.next b (by rfl)
  replace BB := below_next BB BB.size b (by rfl) (by rfl) (by rfl) (by rfl)
  clear b h2
  obtain ⟨q0, q1, q2, q3, q4, q5⟩ := g.held
  refine hK.out _ _ (by first | (dsimp only; go_keep) | go_keep) (fun hHeld => ?_)
  clear hK K
  try simp only [Act.put]
  refine wpAnyH_ready (rs := [5]) (by kernel_rfl) (by simp) ?_
  refine AllReadyH.cons (o := _) rfl (fun K hK => ?_) AllReadyH.nil
  go_simp
  refine (dsum_good HK.out (hT1.heap (by rfl)) (h1.heap (by rfl)) (h3.heap (by rfl)) HD.out (HD2.out.turn HY.out) HN.out HKK.out).mono ?_
  rintro en w4 ⟨A5, n5, c5, rfl, h5, b⟩
  replace h1 := h1.next b (by rfl)
  replace hT1 := hT1.next b (by rfl)
  replace g := g.next b (by rfl)
  replace r := r.next b (by rfl)
  replace h3 := h3.next b (by rfl)
  replace BB := below_next BB BB.size b (by rfl) (by rfl) (by rfl) (by rfl)
  clear b
  obtain ⟨q0, q1, q2, q3, q4, q5⟩ := g.held
  obtain ⟨f0, f1, f2⟩ := r.open
  obtain ⟨z0, z1, z2⟩ := r.held
  refine hK.out _ _ (by first | (dsimp only; go_keep) | go_keep) (fun hHeld => ?_)
  clear hK K
  try simp only [Act.put]
  refine wpAnyH_ready (rs := [6]) (by kernel_rfl) (by simp) ?_
  refine AllReadyH.cons (o := _) rfl (fun K hK => ?_) AllReadyH.nil
  go_simp
  refine hK.out _ _ (by first | (dsimp only; go_keep) | go_keep) (fun hHeld => ?_)
  clear hK K
  try simp only [Act.put]
  refine wpAnyH_done (by kernel_rfl) ?_ _
  go_wp2
  have p := r.put s' A5 n5 c5 e'
  have hN5 := h5.put3 r (.bool s') (.slice A5 n5 c5) (.int .i64 e')
  have HB3 := below_put3 (g := w.heap.size) BB (Nat.le_refl _) (.bool s') (.slice A5 n5 c5) (.int .i64 e')
  obtain ⟨z0, z1, z2⟩ := p.held
  exact bodyPost_ret (v := .agg #[.bool s', .slice A5 n5 c5, .int .i64 e']) (by simp [results, Tryd.results89, go_sem, z0, z1, z2]) rfl ⟨_, _, _, rfl, hN5, HB3⟩

set_option maxRecDepth 100000 in
set_option maxHeartbeats 1000000 in
theorem sub1_fault_zero {w : World} {v : Nat} {A B : Option Addr} {n c m d : Nat} {s t : Bool} {e f : Int} (g : Two w v s t A B n c m d e f) {x y K : Nat} (hK : 4194304 ≤ K) (hT : Tab w) (h : Nt w A n c x) (h' : Nt w B m d y) (hd : OkD s x e) (hd' : OkD t y f) (hy : y = 0) {s' : Bool} {m' : Nat} {e' k : Int} (hN : NmV K (vz K s x e + vz K t y f) k s' m' e') (hk : k ≠ 0) :
    Calls Tryd.prog 89 #[.pointer (some ⟨v, 0, none⟩), .pointer (some ⟨v + 1, 0, none⟩)] w (Faults k w) := by
  have HN := Lib.hid hN
  have HK := Lib.hid hK
  have HD := Lib.hid hd
  have HD2 := Lib.hid hd'
  have HKK := Lib.hid hk
  have HY := Lib.hid hy
  clear hN hK hd hd' hk hy
  have BB := below_alloc w (.cells #[.bool false, .slice none 0 0, .int .i64 0] 54)
  have vl := g.b.gl
  have ne1 : ¬ w.heap.size = v := by omega
  have ne2 : ¬ v = w.heap.size := by omega
  have ne3 : ¬ w.heap.size = v + 1 := by omega
  have ne4 : ¬ v + 1 = w.heap.size := by omega
  replace g := g.alloc (.cells #[.bool false, .slice none 0 0, .int .i64 0] 54)
  have r := Box.new w false none 0 0 0
  obtain ⟨p0, p1, p2, p3, p4, p5⟩ := g.held
  have h1 := h.below BB
  have h2 := h'.below BB
  have hT1 := hT.below BB
  clear h h' hT
  go_enter Tryd.func89, Tryd.ntmps89
  go_wp2_with fail
  refine wp_region_held_drew (S := fun w' => w'.cell? ⟨v, 0, none⟩ = some (.bool s) ∧ w'.cell? ⟨v, 1, none⟩ = some (.slice A n c) ∧ w'.cell? ⟨v, 2, none⟩ = some (.int .i64 e) ∧ w'.cell? ⟨v + 1, 0, none⟩ = some (.bool t) ∧ w'.cell? ⟨v + 1, 1, none⟩ = some (.slice B m d) ∧ w'.cell? ⟨v + 1, 2, none⟩ = some (.int .i64 f)) (by kernel_rfl) (by first | (dsimp only; go_keep) | go_keep) (fun hHeld => ?_)
  refine wpAnyH_take (i := 0) (v := ?v0) rfl (by kernel_rfl) (by kernel_rfl) (by kernel_rfl) (fun _ _ _ h => panic_put (P := Tryd.prog) (fn := Tryd.f89) (R := Faults k w) h) (Or.inl ⟨by rfl, ?y0⟩) (by assumption) ?_
  case y0 => (intro w hSw; (try dsimp only at hSw); go_simp); try with_reducible rfl
  change wpAnyH _ _ _ _ _ _ _ (Act.put _ (some 3) _) _
  simp only [Act.put]
  refine wpAnyH_take (i := 2) (v := ?v2) rfl (by kernel_rfl) (by kernel_rfl) (by kernel_rfl) (fun _ _ _ h => panic_put (P := Tryd.prog) (fn := Tryd.f89) (R := Faults k w) h) (Or.inl ⟨by rfl, ?y2⟩) (by assumption) ?_
  case y2 => (intro w hSw; (try dsimp only at hSw); go_simp); try with_reducible rfl
  change wpAnyH _ _ _ _ _ _ _ (Act.put _ (some 5) _) _
  simp only [Act.put]
  refine wpAnyH_ready (rs := [1]) (by kernel_rfl) (by simp) ?_
  refine AllReadyH.cons (o := _) rfl (fun K hK => ?_) AllReadyH.nil
  go_simp
  refine (checked_ok (hT1.heap (by rfl)) (h1.heap (by rfl)) HD.out).mono ?_
  rintro en w1 ⟨rfl, b⟩
  replace h1 := h1.next b (by rfl)
  replace h2 := h2.next b (by rfl)
  replace hT1 := hT1.next b (by rfl)
  replace g := g.next b (by rfl)
  replace r := r.next b (by rfl)
  replace BB := below_next BB BB.size b (by rfl) (by rfl) (by rfl) (by rfl)
  clear b
  obtain ⟨q0, q1, q2, q3, q4, q5⟩ := g.held
  refine hK.out _ _ (by first | (dsimp only; go_keep) | go_keep) (fun hHeld => ?_)
  clear hK K
  try simp only [Act.put]
  refine wpAnyH_ready (rs := [3]) (by kernel_rfl) (by simp) ?_
  refine AllReadyH.cons (o := _) rfl (fun K hK => ?_) AllReadyH.nil
  go_simp
  refine (checked_ok (hT1.heap (by rfl)) (h2.heap (by rfl)) HD2.out).mono ?_
  rintro en w2 ⟨rfl, b⟩
  replace h1 := h1.next b (by rfl)
  replace h2 := h2.next b (by rfl)
  replace hT1 := hT1.next b (by rfl)
  replace g := g.next b (by rfl)
  replace r := r.next b (by rfl)
  replace BB := below_next BB BB.size b (by rfl) (by rfl) (by rfl) (by rfl)
  clear b
  obtain ⟨q0, q1, q2, q3, q4, q5⟩ := g.held
  refine hK.out _ _ (by first | (dsimp only; go_keep) | go_keep) (fun hHeld => ?_)
  clear hK K
  try simp only [Act.put]
  refine wpAnyH_ready (rs := [4]) (by kernel_rfl) (by simp) ?_
  refine AllReadyH.cons (o := _) rfl (fun K hK => ?_) AllReadyH.nil
  go_simp
  refine (neg_zero (hT1.heap (by rfl)) (h2.heap (by rfl)) HD2.out HY.out).mono ?_
  rintro en w3 ⟨A3, n3, c3, rfl, h3, b⟩
  replace h1 := h1.next b (by rfl)
  replace hT1 := hT1.next b (by rfl)
  replace g := g.next b (by rfl)
  replace r := r.next b (by rfl)
  replace BB := below_next BB BB.size b (by rfl) (by rfl) (by rfl) (by rfl)
  clear b h2
  obtain ⟨q0, q1, q2, q3, q4, q5⟩ := g.held
  refine hK.out _ _ (by first | (dsimp only; go_keep) | go_keep) (fun hHeld => ?_)
  clear hK K
  try simp only [Act.put]
  refine wpAnyH_ready (rs := [5]) (by kernel_rfl) (by simp) ?_
  refine AllReadyH.cons (o := _) rfl (fun K hK => ?_) AllReadyH.nil
  go_simp
  refine (dsum_fault HK.out (hT1.heap (by rfl)) (h1.heap (by rfl)) (h3.heap (by rfl)) HD.out HD2.out HN.out HKK.out).mono ?_
  rintro en w9 ⟨rfl, b⟩
  exact ⟨rfl, rfl, below_next BB BB.size b (by rfl) (by rfl) (by rfl) (by rfl)⟩

set_option maxRecDepth 100000 in
set_option maxHeartbeats 1000000 in
theorem sub1_fault_turn {w : World} {v : Nat} {A B : Option Addr} {n c m d : Nat} {s t : Bool} {e f : Int} (g : Two w v s t A B n c m d e f) {x y K : Nat} (hK : 4194304 ≤ K) (hT : Tab w) (h : Nt w A n c x) (h' : Nt w B m d y) (hd : OkD s x e) (hd' : OkD t y f) (hy : y ≠ 0) {s' : Bool} {m' : Nat} {e' k : Int} (hN : NmV K (vz K s x e + vz K (!t) y f) k s' m' e') (hk : k ≠ 0) :
    Calls Tryd.prog 89 #[.pointer (some ⟨v, 0, none⟩), .pointer (some ⟨v + 1, 0, none⟩)] w (Faults k w) := by
  have HN := Lib.hid hN
  have HK := Lib.hid hK
  have HD := Lib.hid hd
  have HD2 := Lib.hid hd'
  have HKK := Lib.hid hk
  have HY := Lib.hid hy
  clear hN hK hd hd' hk hy
  have BB := below_alloc w (.cells #[.bool false, .slice none 0 0, .int .i64 0] 54)
  have vl := g.b.gl
  have ne1 : ¬ w.heap.size = v := by omega
  have ne2 : ¬ v = w.heap.size := by omega
  have ne3 : ¬ w.heap.size = v + 1 := by omega
  have ne4 : ¬ v + 1 = w.heap.size := by omega
  replace g := g.alloc (.cells #[.bool false, .slice none 0 0, .int .i64 0] 54)
  have r := Box.new w false none 0 0 0
  obtain ⟨p0, p1, p2, p3, p4, p5⟩ := g.held
  have h1 := h.below BB
  have h2 := h'.below BB
  have hT1 := hT.below BB
  clear h h' hT
  go_enter Tryd.func89, Tryd.ntmps89
  go_wp2_with fail
  refine wp_region_held_drew (S := fun w' => w'.cell? ⟨v, 0, none⟩ = some (.bool s) ∧ w'.cell? ⟨v, 1, none⟩ = some (.slice A n c) ∧ w'.cell? ⟨v, 2, none⟩ = some (.int .i64 e) ∧ w'.cell? ⟨v + 1, 0, none⟩ = some (.bool t) ∧ w'.cell? ⟨v + 1, 1, none⟩ = some (.slice B m d) ∧ w'.cell? ⟨v + 1, 2, none⟩ = some (.int .i64 f)) (by kernel_rfl) (by first | (dsimp only; go_keep) | go_keep) (fun hHeld => ?_)
  refine wpAnyH_take (i := 0) (v := ?v0) rfl (by kernel_rfl) (by kernel_rfl) (by kernel_rfl) (fun _ _ _ h => panic_put (P := Tryd.prog) (fn := Tryd.f89) (R := Faults k w) h) (Or.inl ⟨by rfl, ?y0⟩) (by assumption) ?_
  case y0 => (intro w hSw; (try dsimp only at hSw); go_simp); try with_reducible rfl
  change wpAnyH _ _ _ _ _ _ _ (Act.put _ (some 3) _) _
  simp only [Act.put]
  refine wpAnyH_take (i := 2) (v := ?v2) rfl (by kernel_rfl) (by kernel_rfl) (by kernel_rfl) (fun _ _ _ h => panic_put (P := Tryd.prog) (fn := Tryd.f89) (R := Faults k w) h) (Or.inl ⟨by rfl, ?y2⟩) (by assumption) ?_
  case y2 => (intro w hSw; (try dsimp only at hSw); go_simp); try with_reducible rfl
  change wpAnyH _ _ _ _ _ _ _ (Act.put _ (some 5) _) _
  simp only [Act.put]
  refine wpAnyH_ready (rs := [1]) (by kernel_rfl) (by simp) ?_
  refine AllReadyH.cons (o := _) rfl (fun K hK => ?_) AllReadyH.nil
  go_simp
  refine (checked_ok (hT1.heap (by rfl)) (h1.heap (by rfl)) HD.out).mono ?_
  rintro en w1 ⟨rfl, b⟩
  replace h1 := h1.next b (by rfl)
  replace h2 := h2.next b (by rfl)
  replace hT1 := hT1.next b (by rfl)
  replace g := g.next b (by rfl)
  replace r := r.next b (by rfl)
  replace BB := below_next BB BB.size b (by rfl) (by rfl) (by rfl) (by rfl)
  clear b
  obtain ⟨q0, q1, q2, q3, q4, q5⟩ := g.held
  refine hK.out _ _ (by first | (dsimp only; go_keep) | go_keep) (fun hHeld => ?_)
  clear hK K
  try simp only [Act.put]
  refine wpAnyH_ready (rs := [3]) (by kernel_rfl) (by simp) ?_
  refine AllReadyH.cons (o := _) rfl (fun K hK => ?_) AllReadyH.nil
  go_simp
  refine (checked_ok (hT1.heap (by rfl)) (h2.heap (by rfl)) HD2.out).mono ?_
  rintro en w2 ⟨rfl, b⟩
  replace h1 := h1.next b (by rfl)
  replace h2 := h2.next b (by rfl)
  replace hT1 := hT1.next b (by rfl)
  replace g := g.next b (by rfl)
  replace r := r.next b (by rfl)
  replace BB := below_next BB BB.size b (by rfl) (by rfl) (by rfl) (by rfl)
  clear b
  obtain ⟨q0, q1, q2, q3, q4, q5⟩ := g.held
  refine hK.out _ _ (by first | (dsimp only; go_keep) | go_keep) (fun hHeld => ?_)
  clear hK K
  try simp only [Act.put]
  refine wpAnyH_ready (rs := [4]) (by kernel_rfl) (by simp) ?_
  refine AllReadyH.cons (o := _) rfl (fun K hK => ?_) AllReadyH.nil
  go_simp
  refine (neg_turn (hT1.heap (by rfl)) (h2.heap (by rfl)) HD2.out HY.out rfl).mono ?_
  rintro en w3 ⟨A3, n3, c3, rfl, h3, b⟩
  replace h1 := h1.next b (by rfl)
  replace hT1 := hT1.next b (by rfl)
  replace g := g.next b (by rfl)
  replace r := r.next b (by rfl)
  replace BB := below_next BB BB.size b (by rfl) (by rfl) (by rfl) (by rfl)
  clear b h2
  obtain ⟨q0, q1, q2, q3, q4, q5⟩ := g.held
  refine hK.out _ _ (by first | (dsimp only; go_keep) | go_keep) (fun hHeld => ?_)
  clear hK K
  try simp only [Act.put]
  refine wpAnyH_ready (rs := [5]) (by kernel_rfl) (by simp) ?_
  refine AllReadyH.cons (o := _) rfl (fun K hK => ?_) AllReadyH.nil
  go_simp
  refine (dsum_fault HK.out (hT1.heap (by rfl)) (h1.heap (by rfl)) (h3.heap (by rfl)) HD.out (HD2.out.turn HY.out) HN.out HKK.out).mono ?_
  rintro en w9 ⟨rfl, b⟩
  exact ⟨rfl, rfl, below_next BB BB.size b (by rfl) (by rfl) (by rfl) (by rfl)⟩

theorem sub1_any {w : World} {v : Nat} {A B : Option Addr} {n c m d : Nat} {s t : Bool} {e f : Int} (g : Two w v s t A B n c m d e f) {x y K : Nat} (hK : 4194304 ≤ K) (hT : Tab w) (h : Nt w A n c x) (h' : Nt w B m d y) (hd : OkD s x e) (hd' : OkD t y f) :
    Calls Tryd.prog 89 #[.pointer (some ⟨v, 0, none⟩), .pointer (some ⟨v + 1, 0, none⟩)] w (Ran (NmV K (vz K s x e - vz K t y f)) w) := by
  have r1 := okd_ge hK hd
  have r2 := okd_ge hK hd'
  by_cases hy : y = 0
  · obtain ⟨k, s', m', e', hN⟩ := sum_has (s := s) (t := t) (x := x) (y := y) hK ⟨r1.1, r1.2.1⟩ ⟨r2.1, r2.2.1⟩
    have e1 : vz K s x e - vz K t y f = vz K s x e + vz K t y f := by rw [hy, vz_zero]; omega
    rw [e1]
    by_cases hk : k = 0
    · exact (sub1_good_zero g hK hT h h' hd hd' hy hN hk).mono fun _ _ hg => ran_good hg (by rw [← hk]; exact hN)
    · exact (sub1_fault_zero g hK hT h h' hd hd' hy hN hk).mono fun _ _ hg => ran_fault hg hk (nmv_fault hN hk)
  · obtain ⟨k, s', m', e', hN⟩ := sum_has (s := s) (t := !t) (x := x) (y := y) hK ⟨r1.1, r1.2.1⟩ ⟨r2.1, r2.2.1⟩
    have e1 : vz K s x e - vz K t y f = vz K s x e + vz K (!t) y f := by rw [vz_not]; omega
    rw [e1]
    by_cases hk : k = 0
    · exact (sub1_good_turn g hK hT h h' hd hd' hy hN hk).mono fun _ _ hg => ran_good hg (by rw [← hk]; exact hN)
    · exact (sub1_fault_turn g hK hT h h' hd hd' hy hN hk).mono fun _ _ hg => ran_fault hg hk (nmv_fault hN hk)

end Go.Proofs.YtdklekiknhhfdaaDoor
