/-
  slices.Grow and slices.Concat of rows of intervals, at this translation. Condition: the slices read as limbs.
-/
import Derived.Deep.AppendSrc
import Derived.Deep.Upon
import Derived.Test.YtkpcmgfpmekkjaaDoorQGc
namespace Go.Proofs.YtkpcmgfpmekkjaaDoor
open Go.RowKit

theorem grow_run {w : World} {n : Nat} {i : TypeInfo} {z : Value} (hi : Tryd.prog.info? 35 = some i) (hz : i.zero = some z) (hsz : i.size = 6) (hby : i.bytes = 80) (hn : 0 < n) (h9 : n ≤ 100) (ty : TypeId) :
    (Builtin.append_ #[23, 3] ty #[.slice none 0 0, .int .i64 (n : Int)]).run Tryd.prog w = .ok (.slice (some ⟨w.heap.size, 0, none⟩) n (grownCap w n 0 35)) (w.drew.alloc (.cells (Builtin.zeroCells z.cells n ++ Builtin.zeroCells z.cells (grownCap w n 0 35 - n)) 35)) := by
  have ht : Tryd.prog.underlying 23 = some (.slice 35) := Tryd.underlying23
  have hk : Tryd.prog.underlying 3 = some (.int .i64) := Tryd.underlying3
  have h0 : IntKind.i64.wrap (n : Int) = (n : Int) := IntWalk.i64_in _ (by omega)
  have h1 : ¬ ((n : Int) < 0) := by omega
  have h2 : ¬ (281474976710656 < (n : Int) * 80) := by omega
  have h3 : ¬ (9223372036854775807 < (n : Int)) := by omega
  have h4 : Builtin.nextslicecap n 0 = n := by unfold Builtin.nextslicecap; rw [if_pos (by omega)]
  have h5 : ¬ (281474976710656 < n * 80) := by omega
  have h7 : ¬ (n = 0) := by omega
  have h8 : max (n : Int) 0 = n := by omega
  simp [Builtin.append_, run_underlying ht, run_underlying hk, sizeOf, typeInfo, zeroValue, hi, hz, hsz, hby, asInt, asIntOf, h0, h1, h2, h3, h4, h5, h7, h8, Question.forced, newRow, grownCap, Builtin.firstCells]
  intro h
  omega
theorem nol_zc {n : Nat} : ∀ u ∈ Builtin.zeroCells zeroC n, NoL u := fun u hu => by
  unfold Builtin.zeroCells at hu
  obtain ⟨j, _, rfl⟩ := Array.mem_map.1 hu
  have hj : j % zeroC.size < zeroC.size := Nat.mod_lt _ (by decide)
  rw [getElem!_pos zeroC _ hj]
  have hm := Array.getElem_mem hj
  generalize zeroC[j % zeroC.size] = v at *
  simp [zeroC] at hm
  rcases hm with rfl | rfl | rfl | rfl | rfl | rfl <;> exact fun _ h => by cases h
/-- nothing, with room for n intervals and more -/
theorem grow_row {w : World} {n : Nat} (hn : n ≤ 100) : IRow (w.drew.alloc (.cells (Builtin.zeroCells zeroC n ++ Builtin.zeroCells zeroC (grownCap w n 0 35 - n)) 35)) w.heap.size (.slice (some ⟨w.heap.size, 0, none⟩) 0 (grownCap w n 0 35)) [] := by
  have hge := grownCap_ge w n 0 35
  have hcm : grownCap w n 0 35 ≤ maxLen := grownCap_le_maxLen w n 0 35 (by unfold maxLen; omega)
  have hb := heap_alloc_new w.drew (.cells (Builtin.zeroCells zeroC n ++ Builtin.zeroCells zeroC (grownCap w n 0 35 - n)) 35)
  refine ⟨[], ⟨⟨rfl, .inr ⟨w.heap.size, _, _, rfl, Nat.le_refl _, hb, Nat.zero_le _, hcm, ?_, by simp⟩⟩, fun g hg i x => ?_⟩, rfl⟩
  · simp only [Array.size_append, size_zeroCells]
    show n * 6 + (grownCap w n 0 35 - n) * 6 = grownCap w n 0 35 * 6
    omega
  · injection hg with hg
    have hg : w.heap.size = g := hg
    subst hg
    rw [cell_of_row _ w.heap.size i _ _ (0, 0) hb]
    refine nol_at (fun u hu => ?_) i x
    rcases Array.mem_append.1 hu with h | h
    · exact nol_zc u h
    · exact nol_zc u h
theorem wp_grow {ops : Array Oper} {rest : List Oper} {o : Oper} {a : Act} {Q : Exit → Act → World → Prop} {w w' : World} {T T' : TypeId} {v u v' : Value} (hgd : o.guard = none) (s x : Operand)
    (ho : o.op = .call { callee := .builtin .append, args := #[s, x], argTypes := #[T, T'] }) (hs : a.eval s = v) (hx : a.eval x = u) (hr : (Builtin.append_ #[T, T'] o.type #[v, u]).run Tryd.prog w = .ok v' w')
    (hK : wpList Tryd.prog ops Q rest (a.put o.dst v') w') : wpList Tryd.prog ops Q (o :: rest) a w := by
  refine wpList_plain hgd fun K hK2 => ?_
  unfold Oper.wp execOp
  simp only [ho, resolve, invoke, builtin, Sem.run_bind, Sem.run_pure, Result.andThen_ok, List.map_toArray, List.map_cons, List.map_nil, hs, hx, hr]
  exact hK2 _ _ hK
set_option maxRecDepth 100000 in
set_option maxHeartbeats 8000000 in
theorem jgrow_ok {w : World} {n : Nat} (hn : 0 < n) (h9 : n ≤ 100) :
    Calls Tryd.prog 56 #[.slice none 0 0, .int .i64 (n : Int)] w fun en w' => ∃ g cap, en = .returned (.slice (some ⟨g, 0, none⟩) 0 cap) ∧ IRow w' w.heap.size (.slice (some ⟨g, 0, none⟩) 0 cap) [] ∧ Below w.heap.size w w' := by
  obtain ⟨i0, hi, hz0, hz1, hz2⟩ := info_partsD infoIv
  have hR := grow_row (w := w) (n := n) h9
  have hc := grownCap_ge w n 0 35
  have hb : Below w.heap.size w (w.drew.alloc (.cells (Builtin.zeroCells zeroC n ++ Builtin.zeroCells zeroC (grownCap w n 0 35 - n)) 35)) :=
    have b0 : Below w.heap.size w w.drew := below_drewN (Below.refl _ _) 1
    below_next b0 b0.size (below_alloc w.drew _) rfl rfl rfl rfl
  have h1 : ¬ ((n : Int) < 0) := by omega
  have h2 : (0 : Int) < (n : Int) := by omega
  have hw : IntKind.i64.wrap (n : Int) = (n : Int) := IntWalk.i64_in _ (by omega)
  have hr := grow_run (w := w) hi hz0 hz1 hz2 hn h9 23
  go_enter Tryd.func56, Tryd.ntmps56
  go_wp2_with (at_builtin; refine wp_grow rfl _ _ rfl rfl rfl hr ?_)
  exact bodyPost_ret (v := .slice (some ⟨w.heap.size, 0, none⟩) 0 (grownCap w n 0 35)) (by simp [results, Tryd.results56, go_sem]) rfl ⟨_, _, rfl, hR, hb⟩
/-- the cells of some intervals that a slice holds -/
theorem ivs_cells {w : World} {g o : Nat} {X : Nat → Iv} : ∀ {m : Nat}, Ivs w g o m X → ∃ news : List Value, news.length = m * 6 ∧ (∀ (j : Nat) (u : Value), news[j]? = some u → w.cell? ((⟨g, o, none⟩ : Addr).add j) = some u) ∧ Celi w ((List.range m).map X) news ∧ ∀ u ∈ news, u.oneCell' = true ∧ NoL u
  | 0, _ => ⟨[], rfl, fun j u h => by simp at h, rfl, fun u h => by cases h⟩
  | m + 1, h => by
    obtain ⟨news, h1, h2, h3, h4⟩ := ivs_cells (m := m) fun i hi => h i (by omega)
    obtain ⟨A, n, c, B, k, d, ⟨c0, c1, c2, c3, c4, c5⟩, r1, r2⟩ := h m (by omega)
    refine ⟨news ++ [.bool (X m).lo.s, .slice A n c, .int .i64 (X m).lo.e, .bool (X m).hi.s, .slice B k d, .int .i64 (X m).hi.e], by rw [List.length_append, h1]; simp; omega, fun j u hu => ?_, ?_, fun u hu => ?_⟩
    · rcases Nat.lt_or_ge j (m * 6) with hj | hj
      · rw [List.getElem?_append_left (by omega)] at hu
        exact h2 j u hu
      · rw [List.getElem?_append_right (by omega), h1] at hu
        obtain ⟨q, rfl⟩ : ∃ q, j = m * 6 + q := ⟨j - m * 6, by omega⟩
        rw [Nat.add_sub_cancel_left] at hu
        rw [Go.WideShapes.add_plain, ← Nat.add_assoc]
        match q, hu with
        | 0, hu => simp at hu; subst hu; exact c0
        | 1, hu => simp at hu; subst hu; exact c1
        | 2, hu => simp at hu; subst hu; exact c2
        | 3, hu => simp at hu; subst hu; exact c3
        | 4, hu => simp at hu; subst hu; exact c4
        | 5, hu => simp at hu; subst hu; exact c5
        | q + 6, hu => simp at hu
    · rw [List.range_succ, List.map_append]
      exact h3.snoc r1 r2
    · rcases List.mem_append.1 hu with hu | hu
      · exact h4 u hu
      · simp at hu
        rcases hu with rfl | rfl | rfl | rfl | rfl | rfl <;> exact ⟨rfl, fun _ h => by cases h⟩
/-- append of all that a slice holds -/
theorem appr_run {w : World} {base : Nat} {v : Value} {L : List Iv} {A : Option Addr} {m c : Nat} {X : Nat → Iv} (ty : TypeId) (h : IRow w base v L) (hX : RdS w A m c X) (hm : 0 < m) (hL : L.length + m ≤ 1000) (hbase : base ≤ w.heap.size) :
    ∃ v' w', (Builtin.append_ #[23, 23] ty #[v, .slice A m c]).run Tryd.prog w = .ok v' w' ∧ IRow w' base v' (L ++ (List.range m).map X) ∧ w.grownBy w' v.ownBlock ∧ (v'.ownBlock = v.ownBlock ∨ v'.ownBlock = some w.heap.size) := by
  obtain ⟨g, o, rfl, hI⟩ := hX.at_ (by omega)
  obtain ⟨news, k1, k2, k3, k4⟩ := ivs_cells hI
  obtain ⟨xs, h1, h2⟩ := h
  obtain ⟨i0, hi, hz0, hz1, hz2⟩ := info_partsD infoIv
  obtain ⟨v', w', hr', g1, g2, g3⟩ := run_append_n (ty := ty) (c := c) Tryd.underlying23 hi hz0 hz1 hz2 rfl (by decide) (by intro u hu x hx; simp [Value.cells] at hu; rcases hu with rfl | rfl | rfl | rfl | rfl | rfl <;> cases hx) h1 (a := ⟨g, o, none⟩) (m := m) (news := news) k1 k2 (fun u hu => (k4 u hu).1) (fun u hu => (k4 u hu).2) hm (by unfold maxLen; omega) (Nat.le_trans (Nat.mul_le_mul_right 80 hL) (by decide)) hbase
  have hfar : ∀ (B : Option Addr) (k d : Nat) (l : List Nat), Rd w .u64 Go.Proofs.YtkpcmgfpmekkjaaDoor.W B k d l → Rd w' .u64 Go.Proofs.YtkpcmgfpmekkjaaDoor.W B k d l := fun B k d l hB => by
    cases hv : v.ownBlock with
    | none => rw [hv] at g2; exact hB.grownNone g2
    | some g => rw [hv] at g2; exact hB.grown g2 (hB.off (h1.2 g hv))
  have hcat : ∀ {L N : List Iv} {xs ys : List Value}, Celi w' L xs → Celi w' N ys → Celi w' (L ++ N) (xs ++ ys) := by
    intro L
    induction L with
    | nil =>
      intro N xs ys h h'
      have h : xs = [] := h
      subst h
      exact h'
    | cons x L ih =>
      intro N xs ys h h'
      obtain ⟨A, n, c, B, m, d, zs, h1, h2, h3, h4⟩ := h
      exact ⟨A, n, c, B, m, d, zs ++ ys, by rw [h1]; rfl, h2, h3, ih h4 h'⟩
  exact ⟨v', w', hr', ⟨xs ++ news, by rw [List.length_append, List.length_map, List.length_range]; exact g1, hcat (h2.mv hfar) (k3.mv hfar)⟩, g2, g3⟩
theorem appr0_run {w : World} {base : Nat} {v : Value} {L : List Iv} {A : Option Addr} {c : Nat} (ty : TypeId) (h : IRow w base v L) :
    (Builtin.append_ #[23, 23] ty #[v, .slice A 0 c]).run Tryd.prog w = .ok v w := by
  have ht : Tryd.prog.underlying 23 = some (.slice 35) := Tryd.underlying23
  obtain ⟨i0, hi, hz0, hz1, hz2⟩ := info_partsD infoIv
  obtain ⟨A', c', rfl, hr, _⟩ := h.form
  have hle := hr.cap
  cases A <;> cases A' <;> simp [Builtin.append_, run_underlying ht, sizeOf, typeInfo, hi, Builtin.lenOf, Builtin.firstCells, loadCells, loadCellsFrom, hle, storeCells]
/-- how many in the first i rows, and which -/
def tot (n : Nat → Nat) : Nat → Nat
  | 0 => 0
  | i + 1 => tot n i + n i
def catX (X : Nat → Nat → Iv) (n : Nat → Nat) : Nat → List Iv
  | 0 => []
  | i + 1 => catX X n i ++ (List.range (n i)).map (X i)
theorem tot_up {n : Nat → Nat} {i k : Nat} (h : i ≤ k) : tot n i ≤ tot n k := by
  induction k with
  | zero => rw [Nat.le_zero.1 h]; exact Nat.le_refl _
  | succ k ih =>
    rcases Nat.lt_or_ge k i with h1 | h1
    · rw [show i = k + 1 by omega]; exact Nat.le_refl _
    · exact Nat.le_trans (ih h1) (Nat.le_add_right _ _)
theorem catX_len {X : Nat → Nat → Iv} {n : Nat → Nat} : ∀ {i : Nat}, (catX X n i).length = tot n i
  | 0 => rfl
  | i + 1 => by
    show (catX X n i ++ (List.range (n i)).map (X i)).length = tot n i + n i
    rw [List.length_append, catX_len, List.length_map, List.length_range]
set_option maxRecDepth 100000 in
set_option maxHeartbeats 8000000 in
theorem jconcat_ok {w : World} {gb ob k ck : Nat} {A : Nat → Option Addr} {n c : Nat → Nat} {X : Nat → Nat → Iv} (hS : ∀ i, i < k → w.cell? ⟨gb, ob + i, none⟩ = some (.slice (A i) (n i) (c i)) ∧ RdS w (A i) (n i) (c i) (X i)) (hk : k ≤ 100) (ht : tot n k ≤ 100) (h0 : 0 < tot n k) :
    Calls Tryd.prog 41 #[.slice (some ⟨gb, ob, none⟩) k ck] w fun en w' => ∃ v, en = .returned v ∧ IRow w' w.heap.size v (catX X n k) ∧ Below w.heap.size w w' := by
  have HS := Lib.hid hS
  have HT := Lib.hid (And.intro ht h0)
  clear hS ht h0
  go_enter Tryd.func41, Tryd.ntmps41
  go_wp2
  go_loopg [3, 11] k (fun q v3 v11 wr => ∃ i : Nat, i + q = k ∧ v11 = .int .i64 i ∧ v3 = .int .i64 (tot n i : Nat) ∧ Below w.heap.size w wr)
  case atStart => exact ⟨0, by omega, rfl, rfl, Below.refl _ _⟩
  case round =>
    obtain ⟨i, hg, rfl, rfl, hb⟩ := hrel
    have HG := Lib.hid hg
    clear hg
    by_cases hi : i < k
    · obtain ⟨s0, _⟩ := HS.out i hi
      replace s0 := cell_next hb rfl s0
      have hp2 : (i : Int) < k := by omega
      have hp3 : (0 : Int) ≤ i := by omega
      have hu := tot_up (n := n) (show i + 1 ≤ k by omega)
      have HU := Lib.hid (show tot n i + n i ≤ 100 from Nat.le_trans hu HT.out.1)
      have HE : Hid (tot n (i + 1) = tot n i + n i) := Lib.hid rfl
      clear hu
      generalize tot n i = ti at *
      generalize n i = ni at *
      have hw1 : IntKind.i64.wrap ((ti : Int) + (ni : Int)) = (ti : Int) + (ni : Int) := IntWalk.i64_in _ (by have := HU.out; omega)
      have h1 : ¬ ((ti : Int) + (ni : Int) < 0) := by omega
      go_wp2
      go_roundg (gk - 1)
      case measure => have := HG.out; omega
      case rel => exact ⟨i + 1, by have := HG.out; omega, by go_num, by rw [HE.out]; go_num, hb⟩
    · have hik : i = k := by have := HG.out; omega
      subst hik
      generalize wr = W1 at *
      generalize gk = gk1 at *
      go_wp2_with fail
      refine (jgrow_ok HT.out.2 HT.out.1).mono ?_
      rintro en w2 ⟨g, cap, rfl, hR, hb2⟩
      have hl := hb.size
      replace hR := hR.lower hl
      have hbb := below_next hb hb.size hb2 rfl rfl rfl rfl
      clear hb hb2 hl
      go_wp2
      go_loopg [6, 27] i (fun q v6 v27 wr => ∃ j : Nat, j + q = i ∧ v27 = .int .i64 j ∧ IRow wr w.heap.size v6 (catX X n j) ∧ Below w.heap.size w wr)
      case atStart => exact ⟨0, by omega, rfl, hR, hbb⟩
      case round =>
        clear hR hbb
        obtain ⟨j, hg, rfl, hR, hb⟩ := hrel
        have HJ := Lib.hid hg
        clear hg
        by_cases hj : j < i
        · obtain ⟨s0, hrd⟩ := HS.out j hj
          replace s0 := cell_next hb rfl s0
          replace hrd := mv hb rfl hrd
          have hp2 : (j : Int) < i := by omega
          have hp3 : (0 : Int) ≤ j := by omega
          have hu := tot_up (n := n) (show j + 1 ≤ i by omega)
          have HU := Lib.hid (show tot n j + n j ≤ 100 from Nat.le_trans hu HT.out.1)
          clear hu
          have HC : Hid (catX X n (j + 1) = catX X n j ++ (List.range (n j)).map (X j)) := Lib.hid rfl
          by_cases hz : n j = 0
          · have HC2 : Hid (catX X n (j + 1) = catX X n j) := Lib.hid (by rw [HC.out, hz]; simp)
            rw [hz] at s0
            have hr := appr0_run (A := A j) (c := c j) 23 hR
            clear hrd HC
            go_wp2_with (at_builtin; refine wp_grow rfl _ _ rfl rfl rfl hr ?_)
            go_roundg (gk - 1)
            case measure => have := HJ.out; omega
            case rel => exact ⟨j + 1, by have := HJ.out; omega, by go_num, by rw [HC2.out]; exact hR, hb⟩
          · obtain ⟨v', w', hr, g1, g2, _⟩ := appr_run 23 hR hrd (by omega) (by rw [catX_len]; have := HU.out; omega) hb.size
            have hb3 := grown_below g2 hb (fun q hq => (hR.lt q hq).1) hb.size
            have HG1 := Lib.hid g1
            clear hrd g1 g2 hz
            generalize n j = nj at *
            generalize A j = Aj at *
            generalize c j = cj at *
            go_wp2_with (at_builtin; refine wp_grow rfl _ _ rfl rfl rfl hr ?_)
            go_roundg (gk - 1)
            case measure => have := HJ.out; omega
            case rel => exact ⟨j + 1, by have := HJ.out; omega, by go_num, by rw [HC.out]; exact HG1.out, hb3⟩
        · have hji : j = i := by have := HJ.out; omega
          subst hji
          obtain ⟨Ar, cr, hv, _, _⟩ := hR.form
          go_wp2
          exact bodyPost_ret (by simp [results, Tryd.results41, go_sem]) rfl ⟨_, rfl, hR, hb⟩
end Go.Proofs.YtkpcmgfpmekkjaaDoor
