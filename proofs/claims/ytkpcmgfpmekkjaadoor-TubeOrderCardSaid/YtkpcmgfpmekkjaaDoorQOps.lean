/-
  Laws for make and copy at slices of limbs, and the contract of slices.Clone, at this translation. Condition: the slices read as limbs.
-/
import Derived.Test.YtkpcmgfpmekkjaaDoorRows
import Derived.Test.YtkpcmgfpmekkjaaDoorShelf
import Derived.Test.YtkpcmgfpmekkjaaDoorQMem
import Derived.WalkKit
import Derived.WalkSpells
import Derived.BigQuiet
import Derived.Deep.QuietTactic
import Derived.Deep.LoopGhost
import Derived.Lib.Hide
import Derived.Laws.CopyOwn
import Derived.Lib.Walk
import Derived.Lib.SliceRun
namespace Go.Proofs.YtkpcmgfpmekkjaaDoor
open Go.RowKit

/-- May, of a list. -/
def mayB (l : List Nat) : Bool := decide (l.length ≤ 64) && (decide (l.length = 0) || decide (l.getD (l.length - 1) 0 ≠ 0))

set_option maxHeartbeats 400000 in
theorem may_any {w : World} {A : Option Addr} {n c : Nat} {l : List Nat} (h : Rd w .u64 W A n c l) :
    Calls Tryd.prog 44 #[.slice A n c] w fun e w' => e = .returned (.bool (mayB l)) ∧ w = w' := by
  have hcap := h.cap
  have hmax := h.max
  by_cases h0 : n = 0
  · subst h0
    have e : mayB l = true := by simp [mayB, h.empty rfl]
    rw [e]
    go_enter Tryd.func44, Tryd.ntmps44
    go_wp2
    go_ret
    exact ⟨rfl, rfl⟩
  · obtain ⟨b, o, rfl, hb, hc⟩ := h.at_ h0
    have hl := h.len
    by_cases h1 : n ≤ 64
    · obtain ⟨x, hx⟩ : ∃ x, x = l.getD (n - 1) 0 := ⟨_, rfl⟩
      have hcell : w.cell? ⟨b, o + (n - 1), none⟩ = some (.int .u64 (x : Int)) := by rw [hx]; exact hc (n - 1) (by omega)
      have hp : (0 : Int) ≤ n - 1 := by omega
      have b0 : ((n : Int) == 0) = false := by simp [h0]
      by_cases h2 : x = 0
      · have e : mayB l = false := by unfold mayB; rw [hl, ← hx]; simp [h0, h2]
        rw [e]
        clear hc hl hx
        subst h2
        go_enter Tryd.func44, Tryd.ntmps44
        go_wp2
        go_ret
        exact ⟨rfl, rfl⟩
      · have e : mayB l = true := by unfold mayB; rw [hl, ← hx]; simp [h1, h2]
        rw [e]
        have b1 : ((x : Int) != 0) = true := by simp [h2]
        clear hc hl hx h2 h0
        go_enter Tryd.func44, Tryd.ntmps44
        go_wp2
        go_ret
        exact ⟨rfl, rfl⟩
    · have e : mayB l = false := by simp [mayB, hl]; omega
      rw [e]
      clear hc hl
      go_enter Tryd.func44, Tryd.ntmps44
      go_wp2
      go_ret
      exact ⟨rfl, rfl⟩

/-- All behind place m is nought. -/
def Zero (l : List Nat) (n m : Nat) : Prop := ∀ j, m ≤ j → j < n → l.getD j 0 = 0

theorem trimmed_any {w : World} {A : Option Addr} {n c : Nat} {l : List Nat} (h : Rd w .u64 W A n c l) :
    Calls Tryd.prog 88 #[.slice A n c] w fun e w' => e = .returned (.slice A (dig W (val W l)).length c) ∧ w = w' := by
  have hcap := h.cap
  have hmax := h.max
  obtain ⟨t, ht⟩ : ∃ t, t = (dig W (val W l)).length := ⟨_, rfl⟩
  rw [← ht]
  have HT := Lib.hid ht
  clear ht
  go_enter Tryd.func88, Tryd.ntmps88
  go_wp2
  go_step3
  go_wp2
  go_step3
  go_wp2
  go_loopg [3] n (fun g v wr => ∃ m : Nat, m ≤ g ∧ m ≤ n ∧ v = .int .i64 m ∧ Zero l n m ∧ wr = w)
  case atStart => exact ⟨n, Nat.le_refl _, Nat.le_refl _, rfl, fun j h1 h2 => absurd h2 (by omega), rfl⟩
  case round =>
    obtain ⟨m, hg, hm, rfl, hz, rfl⟩ := hrel
    by_cases h0 : m = 0
    · subst h0
      have e : t = 0 := by
        rw [HT.out]; exact trim_len W_two h.lt (by rw [h.len]; exact hm) (fun j h1 h2 => hz j h1 (by rw [← h.len]; exact h2)) (.inl rfl)
      subst e
      go_wp2
      rw [Exit.noGoto_ret]
      go_ret
      exact ⟨rfl, rfl⟩
    · obtain ⟨b, o, rfl, hb, hc⟩ := h.at_ (by omega)
      obtain ⟨x, hx⟩ : ∃ x, x = l.getD (m - 1) 0 := ⟨_, rfl⟩
      have hcell : wr.cell? ⟨b, o + (m - 1), none⟩ = some (.int .u64 (x : Int)) := by rw [hx]; exact hc (m - 1) (by omega)
      have hp : (0 : Int) ≤ m - 1 := by omega
      have HX := Lib.hid hx
      clear hx hc
      by_cases h2 : x = 0
      · subst h2
        go_wp2
        go_roundg (m - 1)
        case measure => omega
        case rel => exact ⟨m - 1, by omega, by omega, by go_num, fun j h1 h2 => by
          rcases Nat.lt_or_ge j m with h3 | h3
          · have : j = m - 1 := by omega
            rw [this]; exact HX.out.symm
          · exact hz j h3 h2, rfl⟩
      · have b1 : ((x : Int) == 0) = false := by simp [h2]
        have e : t = m := by
          rw [HT.out]; exact trim_len W_two h.lt (by rw [h.len]; exact hm) (fun j h1 h2 => hz j h1 (by rw [← h.len]; exact h2)) (.inr (by rw [← HX.out]; exact h2))
        subst e
        clear h2
        go_wp2
        rw [Exit.noGoto_ret]
        go_ret
        exact ⟨rfl, rfl⟩
end Go.Proofs.YtkpcmgfpmekkjaaDoor

namespace Go.Proofs.YtkpcmgfpmekkjaaDoor
open Go.RowKit

theorem info64 : (Tryd.prog.info? 52).map (fun i => (i.zero, i.size, i.bytes)) = some (some (.int .u64 0), 1, 8) := by kernel_rfl

theorem law_make {ops : Array Oper} {rest : List Oper} {o : Oper} {a : Act} {Q : Exit → Act → World → Prop} {w : World} (hg : o.guard = none) (x : Operand) (hop : o.op = Op.makeSlice 26 x x)
    (C : Int) (n : Nat) (hx : a.eval x = .int .i64 C) (hC : C = (n : Int)) (hn : n ≤ 17592186044416)
    (hK : ∀ w', Row w' w.heap.size 52 .u64 0 [] (List.replicate n 0) [] → w.grownBy w' none → wpList Tryd.prog ops Q rest (a.put o.dst (.slice (some ⟨w.heap.size, 0, none⟩) n n)) w') : wpList Tryd.prog ops Q (o :: rest) a w := by
  obtain ⟨i0, hi, hz0, hz1, hz2⟩ := info_parts info64
  exact wpList_make_full w hg x x 26 hop w.heap.size 52 i0 (.int .u64 0) 1 Tryd.underlying26 hi hz0 hz1 .i64 .i64 C C n hx hx hC hC (by rw [hz2]; omega) (by unfold maxLen; omega) (Nat.le_refl _)
    (fun w' h1 h2 => hK w' (Row.of_made h1) h2)

theorem law_copy {ops : Array Oper} {rest : List Oper} {o : Oper} {a : Act} {Q : Exit → Act → World → Prop} {w : World} (hg : o.guard = none) (d s : Operand)
    (hop : o.op = .call { callee := .builtin .copy, args := #[d, s], argTypes := #[26, 26] }) (g dLen dCap : Nat) (hd : a.eval d = .slice (some ⟨g, 0, none⟩) dLen dCap)
    (A : Option Addr) (n c : Nat) (hs : a.eval s = .slice A n c) (L l : List Nat) (hrow : Row w g 52 .u64 0 [] L []) (hL : L.length = dLen) (h : Rd w .u64 W A n c l) (hle : n ≤ dLen)
    (hK : ∀ w', Row w' g 52 .u64 0 [] (l ++ L.drop n) [] → w.grownBy w' (some g) → wpList Tryd.prog ops Q rest (a.put o.dst (goInt n)) w') : wpList Tryd.prog ops Q (o :: rest) a w := by
  have hblk := hrow.blk
  rw [List.nil_append, List.append_nil] at hblk
  have hlen : (iv .u64 l).length = n := by rw [iv_length, h.len]
  by_cases h0 : n = 0
  · refine wpList_copy_nothing hg d s 26 26 hop 52 Tryd.underlying26 (by kernel_rfl) _ _ _ _ _ _ hd hs (by rw [h0]; exact Nat.zero_min _) ?_
    subst h0
    have e := h.empty rfl
    subst e
    exact hK w (by simpa using hrow) (World.grownBy.refl _ _)
  · obtain ⟨b, off, rfl, hb, hc⟩ := h.at_ h0
    refine wpList_copy_own hg d s 26 26 hop 52 Tryd.underlying26 (by kernel_rfl) g 0 dLen dCap ⟨b, off, none⟩ n c hd hs (iv .u64 L).toArray 52 hblk (iv .u64 l) (by rw [hlen]; exact (Nat.min_eq_left hle).symm) ?_ (by simp [hlen, iv_length, hL]; exact hle) ?_ ?_
    · intro j v hj
      have hj' : j < n := by rw [← hlen]; exact (List.getElem?_eq_some_iff.1 hj).1
      rw [iv_get _ _ _ (by rw [h.len]; exact hj')] at hj
      rw [Addr.add_lit, hc j hj', hj]
    · intro v hv
      obtain ⟨x, _, rfl⟩ := List.mem_map.1 hv
      rfl
    · rw [hlen, Nat.zero_add, List.take_zero, List.nil_append]
      refine hK _ ⟨?_, rfl⟩ ?_
      · rw [setRow_heap w g _ _ 52 _ hblk, iv_append]
        simp [iv, List.map_drop]
      · exact ⟨rfl, rfl, rfl, by simp [World.setRow], fun k _ hne => setRow_other w g k _ (by intro e; exact hne (by rw [e]))⟩

/-- slices.Clone: what was read is read of memory of the call's own. -/
def CloneDone (w : World) (n : Nat) (l : List Nat) (e : Ending) (w' : World) : Prop :=
  ∃ A' c', e = .returned (.slice A' n c') ∧ Rd w' .u64 W A' n c' l ∧ Below w.heap.size w w' ∧ (n ≠ 0 → ∃ g post, A' = some ⟨g, 0, none⟩ ∧ w.heap.size ≤ g ∧ Row w' g 52 .u64 0 [] l post)

set_option maxHeartbeats 1000000 in
set_option maxRecDepth 100000 in
theorem clone_any {w : World} {A : Option Addr} {n c : Nat} {l : List Nat} (h : Rd w .u64 W A n c l) (hn : n ≤ 10000000000000) :
    Calls Tryd.prog 54 #[.slice A n c] w fun e w' => CloneDone w n l e w' := by
  obtain ⟨i0, hi, hz0, hz1, hz2⟩ := info_parts info64
  have q22 : ∀ (w : World) (a : Option Addr) (n c n' c' : Nat), (binOp .eql 26 (.slice a n c) (.slice none n' c')).run Tryd.prog w = .ok (.bool a.isNone) w := fun w a n c n' c' => Lib.run_eql_slice_nil w _ _ a n c n' c' Tryd.underlying26
  rcases A with _ | ad
  · have h0 : n = 0 := by
      rcases Nat.eq_zero_or_pos n with h0 | h0
      · exact h0
      · obtain ⟨_, _, e, _⟩ := h.at_ (by omega)
        cases e
    subst h0
    have e := h.empty rfl
    subst e
    go_enter Tryd.func54, Tryd.ntmps54
    go_wp2
    go_ret
    exact ⟨none, 0, rfl, Rd.nil _ _ _ _ (by omega), Below.refl _ _, fun h => absurd rfl h⟩
  · have A : Aside (∀ j u, (iv .u64 l)[j]? = some u → w.cell? (ad.add j) = some u) := by
      intro j u hj
      have hj' : j < n := by
        have := (List.getElem?_eq_some_iff.1 hj).1
        rw [iv_length, h.len] at this; exact this
      obtain ⟨b, o, e, hb, hc⟩ := h.at_ (by omega)
      injection e with e
      subst e
      rw [iv_get _ _ _ (by rw [h.len]; exact hj')] at hj
      rw [Addr.add_lit, hc j hj', hj]
    have hl : (iv .u64 l).length = n * 1 := by rw [iv_length, h.len, Nat.mul_one]
    go_enter Tryd.func54, Tryd.ntmps54
    go_wp2_with (at_builtin; refine wpList_append_own _ rfl _ _ 26 rfl w.heap.size 52 i0 (.int .u64 0) 1 8 Tryd.underlying26 hi hz0 hz1 hz2 rfl (by decide) _ _ _ rfl (World.ownsRow_made w #[] 0 (Nat.le_refl _) (Nat.zero_le _) (by simp)) ad n c (iv .u64 l) rfl ?qc1 ?qc2 ?qc3 ?qc4 ?qc5 ?qc6 ?_)
    case qc1 => exact hl
    case qc2 =>
      intro j u hj
      exact Lib.cell?_alloc_some _ (A.out j u hj)
    case qc3 =>
      intro v hv
      obtain ⟨x, _, rfl⟩ := List.mem_map.1 hv
      rfl
    case qc4 => unfold maxLen; omega
    case qc5 => omega
    case qc6 => simp
    intro v' w1 hown hgrow hnil
    have hbel : Below w.heap.size w w1 := ((Below.refl _ w).alloc (Nat.le_refl _) _).grown hgrow (by simp) (by intro k hk; simp [Value.ownBlock] at hk; omega)
    have H : Hid (∃ A' c', v' = .slice A' n c' ∧ Rd w1 .u64 W A' n c' l ∧ (n ≠ 0 → ∃ g post, A' = some ⟨g, 0, none⟩ ∧ w.heap.size ≤ g ∧ Row w1 g 52 .u64 0 [] l post)) := by
      by_cases h0 : n = 0
      · rcases hown.2 with ⟨e, _⟩ | ⟨g, cap, cur, e, _, _, _, hm, _⟩
        · subst h0
          exact ⟨none, 0, e, by rw [h.empty rfl]; exact Rd.nil _ _ _ _ (by omega), fun h => absurd rfl h⟩
        · subst h0
          refine ⟨_, cap, e, by rw [h.empty rfl]; exact Rd.nil _ _ _ _ (by unfold maxLen at hm; exact hm), fun h => absurd rfl h⟩
      · obtain ⟨g, cap, post, e, hb, hcap, hm, hrow⟩ := Row.of_own hown h0
        exact ⟨_, cap, e, hrow.rd' h.lt h.len hcap (by unfold maxLen at hm; exact hm), fun _ => ⟨g, post, rfl, hb, hrow⟩⟩
    clear hown hgrow hnil hl
    go_wp2
    go_ret
    obtain ⟨A', c', e, h1, h2⟩ := H.out
    exact ⟨A', c', ret_eq e, h1, hbel, h2⟩
end Go.Proofs.YtkpcmgfpmekkjaaDoor
