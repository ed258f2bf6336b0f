/-
  slices.Grow and slices.Concat of rows of numbers, at this translation. Condition: the slices read as limbs, the table of math/bits reads as its text lays it.
-/
import Derived.Deep.AppendSrc
import Derived.Deep.Upon
import Derived.Test.YtkpcmgfpmekkjaaDoorQUg
import Derived.Test.YtkpcmgfpmekkjaaDoorQJi
namespace Go.Proofs.YtkpcmgfpmekkjaaDoor
open Go.RowKit


theorem growd_run {w : World} {n : Nat} {i : TypeInfo} {z : Value} (hi : Tryd.prog.info? 28 = some i) (hz : i.zero = some z) (hsz : i.size = 3) (hby : i.bytes = 40) (hn : 0 < n) (h9 : n ≤ 100) (ty : TypeId) :
    (Builtin.append_ #[22, 3] ty #[.slice none 0 0, .int .i64 (n : Int)]).run Tryd.prog w = .ok (.slice (some ⟨w.heap.size, 0, none⟩) n (grownCap w n 0 28)) (w.drew.alloc (.cells (Builtin.zeroCells z.cells n ++ Builtin.zeroCells z.cells (grownCap w n 0 28 - n)) 28)) := by
  have ht : Tryd.prog.underlying 22 = some (.slice 28) := Tryd.underlying22
  have hk : Tryd.prog.underlying 3 = some (.int .i64) := Tryd.underlying3
  have h0 : IntKind.i64.wrap (n : Int) = (n : Int) := IntWalk.i64_in _ (by omega)
  have h1 : ¬ ((n : Int) < 0) := by omega
  have h2 : ¬ (281474976710656 < (n : Int) * 40) := by omega
  have h3 : ¬ (9223372036854775807 < (n : Int)) := by omega
  have h4 : Builtin.nextslicecap n 0 = n := by unfold Builtin.nextslicecap; rw [if_pos (by omega)]
  have h5 : ¬ (281474976710656 < n * 40) := by omega
  have h7 : ¬ (n = 0) := by omega
  have h8 : max (n : Int) 0 = n := by omega
  simp [Builtin.append_, run_underlying ht, run_underlying hk, sizeOf, typeInfo, zeroValue, hi, hz, hsz, hby, asInt, asIntOf, h0, h1, h2, h3, h4, h5, h7, h8, Question.forced, newRow, grownCap, Builtin.firstCells]
  intro h
  omega

theorem nol_zh {n : Nat} : ∀ u ∈ Builtin.zeroCells zeroHr n, NoL u := fun u hu => by
  unfold Builtin.zeroCells at hu
  obtain ⟨j, _, rfl⟩ := Array.mem_map.1 hu
  have hj : j % zeroHr.size < zeroHr.size := Nat.mod_lt _ (by decide)
  rw [getElem!_pos zeroHr _ hj]
  have hm := Array.getElem_mem hj
  generalize zeroHr[j % zeroHr.size] = v at *
  simp [zeroHr] at hm
  rcases hm with rfl | rfl | rfl <;> exact fun _ h => by cases h

/-- nothing, with room for n intervals and more -/
theorem growh_row {w : World} {n : Nat} (hn : n ≤ 100) : HRow (w.drew.alloc (.cells (Builtin.zeroCells zeroHr n ++ Builtin.zeroCells zeroHr (grownCap w n 0 28 - n)) 28)) w.heap.size (.slice (some ⟨w.heap.size, 0, none⟩) 0 (grownCap w n 0 28)) [] := by
  have hge := grownCap_ge w n 0 28
  have hcm : grownCap w n 0 28 ≤ maxLen := grownCap_le_maxLen w n 0 28 (by unfold maxLen; omega)
  have hb := heap_alloc_new w.drew (.cells (Builtin.zeroCells zeroHr n ++ Builtin.zeroCells zeroHr (grownCap w n 0 28 - n)) 28)
  refine ⟨[], ⟨⟨rfl, .inr ⟨w.heap.size, _, _, rfl, Nat.le_refl _, hb, Nat.zero_le _, hcm, ?_, by simp⟩⟩, fun g hg i x => ?_⟩, fun i hi => absurd hi (Nat.not_lt_zero i)⟩
  · simp only [Array.size_append, size_zeroCells]
    show n * 3 + (grownCap w n 0 28 - n) * 3 = grownCap w n 0 28 * 3
    omega
  · injection hg with hg
    have hg : w.heap.size = g := hg
    subst hg
    rw [cell_of_row _ w.heap.size i _ _ (0, 0) hb]
    refine nol_at (fun u hu => ?_) i x
    rcases Array.mem_append.1 hu with h | h
    · exact nol_zh u h
    · exact nol_zh u h

set_option maxRecDepth 100000 in
set_option maxHeartbeats 8000000 in
theorem dgrow_ok {w : World} {n : Nat} (hn : 0 < n) (h9 : n ≤ 100) :
    Calls Tryd.prog 55 #[.slice none 0 0, .int .i64 (n : Int)] w fun en w' => ∃ g cap, en = .returned (.slice (some ⟨g, 0, none⟩) 0 cap) ∧ HRow w' w.heap.size (.slice (some ⟨g, 0, none⟩) 0 cap) [] ∧ Below w.heap.size w w' := by
  obtain ⟨i0, hi, hz0, hz1, hz2⟩ := info_partsD infoHr
  have hR := growh_row (w := w) (n := n) h9
  have hc := grownCap_ge w n 0 28
  have hb : Below w.heap.size w (w.drew.alloc (.cells (Builtin.zeroCells zeroHr n ++ Builtin.zeroCells zeroHr (grownCap w n 0 28 - n)) 28)) :=
    have b0 : Below w.heap.size w w.drew := below_drewN (Below.refl _ _) 1
    below_next b0 b0.size (below_alloc w.drew _) rfl rfl rfl rfl
  have h1 : ¬ ((n : Int) < 0) := by omega
  have h2 : (0 : Int) < (n : Int) := by omega
  have hw : IntKind.i64.wrap (n : Int) = (n : Int) := IntWalk.i64_in _ (by omega)
  have hr := growd_run (w := w) hi hz0 hz1 hz2 hn h9 22
  go_enter Tryd.func55, Tryd.ntmps55
  go_wp2_with (at_builtin; refine wp_grow rfl _ _ rfl rfl rfl hr ?_)
  exact bodyPost_ret (v := .slice (some ⟨w.heap.size, 0, none⟩) 0 (grownCap w n 0 28)) (by simp [results, Tryd.results55, go_sem]) rfl ⟨_, _, rfl, hR, hb⟩

/-- the cells of some numbers that a slice holds -/
theorem dys_cells {w : World} {g o : Nat} {X : Nat → Rw} : ∀ {m : Nat}, (∀ i, i < m → DyAt w g (o + i * 3) (X i)) → ∃ news : List Value, news.length = m * 3 ∧ (∀ (j : Nat) (u : Value), news[j]? = some u → w.cell? ((⟨g, o, none⟩ : Addr).add j) = some u) ∧ (∀ i, i < m → ∃ A n c, news[i * 3]? = some (.bool (X i).s) ∧ news[i * 3 + 1]? = some (.slice A n c) ∧ news[i * 3 + 2]? = some (.int .i64 (X i).e) ∧ Rd w .u64 Go.Proofs.YtkpcmgfpmekkjaaDoor.W A n c (X i).l) ∧ ∀ u ∈ news, u.oneCell' = true ∧ NoL u
  | 0, _ => ⟨[], rfl, fun j u h => by simp at h, fun i hi => absurd hi (Nat.not_lt_zero i), fun u h => by cases h⟩
  | m + 1, h => by
    obtain ⟨news, h1, h2, h3, h4⟩ := dys_cells (m := m) fun i hi => h i (by omega)
    obtain ⟨A, n, c, ⟨c0, c1, c2⟩, r1⟩ := h m (by omega)
    refine ⟨news ++ [.bool (X m).s, .slice A n c, .int .i64 (X m).e], by rw [List.length_append, h1]; simp; omega, fun j u hu => ?_, fun i hi => ?_, fun u hu => ?_⟩
    · rcases Nat.lt_or_ge j (m * 3) with hj | hj
      · rw [List.getElem?_append_left (by omega)] at hu
        exact h2 j u hu
      · rw [List.getElem?_append_right (by omega), h1] at hu
        obtain ⟨q, rfl⟩ : ∃ q, j = m * 3 + q := ⟨j - m * 3, by omega⟩
        rw [Nat.add_sub_cancel_left] at hu
        rw [Go.WideShapes.add_plain, ← Nat.add_assoc]
        match q, hu with
        | 0, hu => simp at hu; subst hu; exact c0
        | 1, hu => simp at hu; subst hu; exact c1
        | 2, hu => simp at hu; subst hu; exact c2
        | q + 3, hu => simp at hu
    · rcases Nat.lt_or_ge i m with h5 | h5
      · obtain ⟨A', n', c', k0, k1, k2, r⟩ := h3 i h5
        exact ⟨A', n', c', by rw [List.getElem?_append_left (by omega)]; exact k0, by rw [List.getElem?_append_left (by omega)]; exact k1, by rw [List.getElem?_append_left (by omega)]; exact k2, r⟩
      · obtain rfl : i = m := by omega
        refine ⟨A, n, c, ?_, ?_, ?_, r1⟩
        · rw [List.getElem?_append_right (by omega), h1, Nat.sub_self]; rfl
        · rw [List.getElem?_append_right (by omega), h1, Nat.add_sub_cancel_left]; rfl
        · rw [List.getElem?_append_right (by omega), h1, Nat.add_sub_cancel_left]; rfl
    · rcases List.mem_append.1 hu with hu | hu
      · exact h4 u hu
      · simp at hu
        rcases hu with rfl | rfl | rfl <;> exact ⟨rfl, fun _ h => by cases h⟩
theorem map_getD {α : Type} {z : α} {X : Nat → α} {m i : Nat} (hi : i < m) : ((List.range m).map X).getD i z = X i := by simp [List.getD_eq_getElem?_getD, hi]
/-- append of all that a slice holds -/
theorem apphr_run {w : World} {base : Nat} {v : Value} {L : List Rw} {A : Option Addr} {m c : Nat} {X : Nat → Rw} (ty : TypeId) (h : HRow w base v L) (hX : RdD w A m c X) (hm : 0 < m) (hL : L.length + m ≤ 1000) (hbase : base ≤ w.heap.size) :
    ∃ v' w', (Builtin.append_ #[22, 22] ty #[v, .slice A m c]).run Tryd.prog w = .ok v' w' ∧ HRow w' base v' (L ++ (List.range m).map X) ∧ w.grownBy w' v.ownBlock ∧ (v'.ownBlock = v.ownBlock ∨ v'.ownBlock = some w.heap.size) := by
  obtain ⟨g, o, rfl, hI⟩ := hX.at_ (by omega)
  obtain ⟨news, k1, k2, k3, k4⟩ := dys_cells hI
  have hno := h.no
  obtain ⟨xs, h1, h2⟩ := h
  have hl : xs.length = L.length * 3 := h1.1.1
  obtain ⟨i0, hi, hz0, hz1, hz2⟩ := info_partsD infoHr
  obtain ⟨v', w', hr', g1, g2, g3⟩ := run_append_n (ty := ty) (c := c) Tryd.underlying22 hi hz0 hz1 hz2 rfl (by decide) (by intro u hu x hx; simp [Value.cells] at hu; rcases hu with rfl | rfl | rfl <;> cases hx) h1 (a := ⟨g, o, none⟩) (m := m) (news := news) k1 k2 (fun u hu => (k4 u hu).1) (fun u hu => (k4 u hu).2) hm (by unfold maxLen; omega) (Nat.le_trans (Nat.mul_le_mul_right 40 hL) (by decide)) hbase
  have hfar := fun A n c l (hB : Rd w .u64 Go.Proofs.YtkpcmgfpmekkjaaDoor.W A n c l) => rd_grw hB g2 hno
  refine ⟨v', w', hr', ⟨xs ++ news, by rw [List.length_append, List.length_map, List.length_range]; exact g1, fun i hi => ?_⟩, g2, g3⟩
  rw [List.length_append, List.length_map, List.length_range] at hi
  rcases Nat.lt_or_ge i L.length with h5 | h5
  · obtain ⟨A', n', c', q0, q1, q2, r⟩ := h2 i h5
    have e : (L ++ (List.range m).map X).getD i Rw.zero = L.getD i Rw.zero := by
      rw [List.getD_eq_getElem?_getD, List.getD_eq_getElem?_getD, List.getElem?_append_left h5]
    rw [e]
    exact ⟨A', n', c', by rw [List.getElem?_append_left (by omega)]; exact q0, by rw [List.getElem?_append_left (by omega)]; exact q1, by rw [List.getElem?_append_left (by omega)]; exact q2, hfar _ _ _ _ r⟩
  · obtain ⟨k, rfl⟩ : ∃ k, i = L.length + k := ⟨i - L.length, by omega⟩
    obtain ⟨A', n', c', q0, q1, q2, r⟩ := k3 k (by omega)
    have e : (L ++ (List.range m).map X).getD (L.length + k) Rw.zero = X k := by
      rw [List.getD_eq_getElem?_getD, List.getElem?_append_right (by omega), Nat.add_sub_cancel_left, ← List.getD_eq_getElem?_getD]
      exact map_getD (by omega)
    rw [e]
    refine ⟨A', n', c', ?_, ?_, ?_, hfar _ _ _ _ r⟩
    · rw [List.getElem?_append_right (by omega), hl, show (L.length + k) * 3 - L.length * 3 = k * 3 by omega]; exact q0
    · rw [List.getElem?_append_right (by omega), hl, show (L.length + k) * 3 + 1 - L.length * 3 = k * 3 + 1 by omega]; exact q1
    · rw [List.getElem?_append_right (by omega), hl, show (L.length + k) * 3 + 2 - L.length * 3 = k * 3 + 2 by omega]; exact q2

theorem apphr0_run {w : World} {base : Nat} {v : Value} {L : List Rw} {A : Option Addr} {c : Nat} (ty : TypeId) (h : HRow w base v L) :
    (Builtin.append_ #[22, 22] ty #[v, .slice A 0 c]).run Tryd.prog w = .ok v w := by
  have ht : Tryd.prog.underlying 22 = some (.slice 28) := Tryd.underlying22
  obtain ⟨i0, hi, hz0, hz1, hz2⟩ := info_partsD infoHr
  obtain ⟨A', c', rfl, hr, _⟩ := h.form
  have hle := hr.cap
  cases A <;> cases A' <;> simp [Builtin.append_, run_underlying ht, sizeOf, typeInfo, hi, Builtin.lenOf, Builtin.firstCells, loadCells, loadCellsFrom, hle, storeCells]

def catD (X : Nat → Nat → Rw) (n : Nat → Nat) : Nat → List Rw
  | 0 => []
  | i + 1 => catD X n i ++ (List.range (n i)).map (X i)
theorem catD_len {X : Nat → Nat → Rw} {n : Nat → Nat} : ∀ {i : Nat}, (catD X n i).length = tot n i
  | 0 => rfl
  | i + 1 => by
    show (catD X n i ++ (List.range (n i)).map (X i)).length = tot n i + n i
    rw [List.length_append, catD_len, List.length_map, List.length_range]

set_option maxRecDepth 100000 in
set_option maxHeartbeats 8000000 in
theorem dconcat_ok {w : World} {gb ob k ck : Nat} {A : Nat → Option Addr} {n c : Nat → Nat} {X : Nat → Nat → Rw} (hS : ∀ i, i < k → w.cell? ⟨gb, ob + i, none⟩ = some (.slice (A i) (n i) (c i)) ∧ RdD w (A i) (n i) (c i) (X i)) (hk : k ≤ 100) (ht : tot n k ≤ 100) (h0 : 0 < tot n k) :
    Calls Tryd.prog 40 #[.slice (some ⟨gb, ob, none⟩) k ck] w fun en w' => ∃ v, en = .returned v ∧ HRow w' w.heap.size v (catD X n k) ∧ Below w.heap.size w w' := by
  have HS := Lib.hid hS
  have HT := Lib.hid (And.intro ht h0)
  clear hS ht h0
  go_enter Tryd.func40, Tryd.ntmps40
  go_wp2
  go_loopg [3, 11] k (fun q v3 v11 wr => ∃ i : Nat, i + q = k ∧ v11 = .int .i64 i ∧ v3 = .int .i64 (tot n i : Nat) ∧ Below w.heap.size w wr)
  case atStart => exact ⟨0, by omega, rfl, rfl, Below.refl _ _⟩
  case round =>
    obtain ⟨i, hg, rfl, rfl, hb⟩ := hrel
    have HG := Lib.hid hg
    clear hg
    by_cases hi : i < k
    · obtain ⟨s0, _⟩ := HS.out i hi
      replace s0 := cell_next hb rfl s0
      have hp2 : (i : Int) < k := by omega
      have hp3 : (0 : Int) ≤ i := by omega
      have hu := tot_up (n := n) (show i + 1 ≤ k by omega)
      have HU := Lib.hid (show tot n i + n i ≤ 100 from Nat.le_trans hu HT.out.1)
      have HE : Hid (tot n (i + 1) = tot n i + n i) := Lib.hid rfl
      clear hu
      generalize tot n i = ti at *
      generalize n i = ni at *
      have hw1 : IntKind.i64.wrap ((ti : Int) + (ni : Int)) = (ti : Int) + (ni : Int) := IntWalk.i64_in _ (by have := HU.out; omega)
      have h1 : ¬ ((ti : Int) + (ni : Int) < 0) := by omega
      go_wp2
      go_roundg (gk - 1)
      case measure => have := HG.out; omega
      case rel => exact ⟨i + 1, by have := HG.out; omega, by go_num, by rw [HE.out]; go_num, hb⟩
    · have hik : i = k := by have := HG.out; omega
      subst hik
      generalize wr = W1 at *
      generalize gk = gk1 at *
      go_wp2_with fail
      refine (dgrow_ok HT.out.2 HT.out.1).mono ?_
      rintro en w2 ⟨g, cap, rfl, hR, hb2⟩
      have hl := hb.size
      replace hR := hR.lower hl
      have hbb := below_next hb hb.size hb2 rfl rfl rfl rfl
      clear hb hb2 hl
      go_wp2
      go_loopg [6, 27] i (fun q v6 v27 wr => ∃ j : Nat, j + q = i ∧ v27 = .int .i64 j ∧ HRow wr w.heap.size v6 (catD X n j) ∧ Below w.heap.size w wr)
      case atStart => exact ⟨0, by omega, rfl, hR, hbb⟩
      case round =>
        clear hR hbb
        obtain ⟨j, hg, rfl, hR, hb⟩ := hrel
        have HJ := Lib.hid hg
        clear hg
        by_cases hj : j < i
        · obtain ⟨s0, hrd⟩ := HS.out j hj
          replace s0 := cell_next hb rfl s0
          replace hrd := mv hb rfl hrd
          have hp2 : (j : Int) < i := by omega
          have hp3 : (0 : Int) ≤ j := by omega
          have hu := tot_up (n := n) (show j + 1 ≤ i by omega)
          have HU := Lib.hid (show tot n j + n j ≤ 100 from Nat.le_trans hu HT.out.1)
          clear hu
          have HC : Hid (catD X n (j + 1) = catD X n j ++ (List.range (n j)).map (X j)) := Lib.hid rfl
          by_cases hz : n j = 0
          · have HC2 : Hid (catD X n (j + 1) = catD X n j) := Lib.hid (by rw [HC.out, hz]; simp)
            rw [hz] at s0
            have hr := apphr0_run (A := A j) (c := c j) 22 hR
            clear hrd HC
            go_wp2_with (at_builtin; refine wp_grow rfl _ _ rfl rfl rfl hr ?_)
            go_roundg (gk - 1)
            case measure => have := HJ.out; omega
            case rel => exact ⟨j + 1, by have := HJ.out; omega, by go_num, by rw [HC2.out]; exact hR, hb⟩
          · obtain ⟨v', w', hr, g1, g2, _⟩ := apphr_run 22 hR hrd (by omega) (by rw [catD_len]; have := HU.out; omega) hb.size
            have hb3 := grown_below g2 hb (fun q hq => (hR.lt q hq).1) hb.size
            have HG1 := Lib.hid g1
            clear hrd g1 g2 hz
            generalize n j = nj at *
            generalize A j = Aj at *
            generalize c j = cj at *
            go_wp2_with (at_builtin; refine wp_grow rfl _ _ rfl rfl rfl hr ?_)
            go_roundg (gk - 1)
            case measure => have := HJ.out; omega
            case rel => exact ⟨j + 1, by have := HJ.out; omega, by go_num, by rw [HC.out]; exact HG1.out, hb3⟩
        · have hji : j = i := by have := HJ.out; omega
          subst hji
          obtain ⟨Ar, cr, hv, _, _⟩ := hR.form
          go_wp2
          exact bodyPost_ret (by simp [results, Tryd.results40, go_sem]) rfl ⟨_, rfl, hR, hb⟩

end Go.Proofs.YtkpcmgfpmekkjaaDoor
