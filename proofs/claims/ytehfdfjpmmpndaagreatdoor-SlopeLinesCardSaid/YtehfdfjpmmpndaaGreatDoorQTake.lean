/-
  Laws for make and copy at slices of limbs, and the contract of slices.Clone, at this translation.
-/
import Derived.Test.YtehfdfjpmmpndaaGreatDoorRows
import Derived.Test.YtehfdfjpmmpndaaGreatDoorShelf
import Derived.Test.YtehfdfjpmmpndaaGreatDoorQMem
import Derived.WalkKit
import Derived.WalkSpells
import Derived.BigQuiet
import Derived.Deep.QuietTactic
import Derived.Deep.LoopGhost
import Derived.Lib.Hide
import Derived.Laws.CopyOwn
import Derived.Lib.Walk
import Derived.Lib.SliceRun
set_option maxHeartbeats 1000000
set_option maxRecDepth 100000
namespace Go.Proofs.YtehfdfjpmmpndaaGreatDoor
open Go.RowKit
variable {A : Option Addr} {bs done l xs : List Nat} {c i n s x : Nat} {w : World}
def mayB (l : List Nat) : Bool := decide (l.length ≤ 64) && (decide (l.length = 0) || decide (l.getD (l.length - 1) 0 ≠ 0))
theorem may_any (h : Rd w .u64 W A n c l) :
  Calls Tryz.prog 65 #[.slice A n c] w fun e w' => e = .returned (.bool (mayB l)) ∧ w = w' := by
 have hcap := h.cap
 have hmax := h.max
 by_cases h0 : n = 0
 ·subst h0
  have e : mayB l = true := by simp [mayB, h.empty rfl]
  rw [e]
  go_enter Tryz.func65, Tryz.ntmps65
  go_wp2
  go_ret
  exact ⟨rfl, rfl⟩
 obtain ⟨b, o, rfl, hb, hc⟩ := h.at_ h0
 have hl := h.len
 by_cases h1 : n ≤ 64
 ·obtain ⟨x, hx⟩ : ∃ x, x = l.getD (n - 1) 0 := ⟨_, rfl⟩
  have hcell : w.cell? ⟨b, o + (n - 1), none⟩ = some (.int .u64 (x : Int)) := by rw [hx]; exact hc (n - 1) (by omega)
  have hp : (0 : Int) ≤ n - 1 := by omega
  have b0 : ((n : Int) == 0) = false := by simp [h0]
  by_cases h2 : x = 0
  ·have e : mayB l = false := by unfold mayB; rw [hl, ← hx]; simp [h0, h2]
   rw [e]
   clear hc hl hx
   subst h2
   go_enter Tryz.func65, Tryz.ntmps65
   go_wp2
   go_ret
   exact ⟨rfl, rfl⟩
  have e : mayB l = true := by unfold mayB; rw [hl, ← hx]; simp [h1, h2]
  rw [e]
  have b1 : ((x : Int) != 0) = true := by simp [h2]
  clear hc hl hx h2 h0
  go_enter Tryz.func65, Tryz.ntmps65
  go_wp2
  go_ret
  exact ⟨rfl, rfl⟩
 have e : mayB l = false := by simp [mayB, hl]; omega
 rw [e]
 clear hc hl
 go_enter Tryz.func65, Tryz.ntmps65
 go_wp2
 go_ret
 exact ⟨rfl, rfl⟩
def Zero (l : List Nat) (n m : Nat) : Prop := ∀ j, m ≤ j → j < n → l.getD j 0 = 0
theorem trimmed_any (h : Rd w .u64 W A n c l) :
  Calls Tryz.prog 54 #[.slice A n c] w fun e w' => e = .returned (.slice A (dig W (val W l)).length c) ∧ w = w' := by
 have hcap := h.cap
 have hmax := h.max
 obtain ⟨t, ht⟩ : ∃ t, t = (dig W (val W l)).length := ⟨_, rfl⟩
 rw [← ht]
 have HT := hyd ht
 clear ht
 go_enter Tryz.func54, Tryz.ntmps54
 go_wp2
 go_step3
 go_wp2
 go_step3
 go_wp2
 go_loopg [3] n (fun g v wr => ∃ m : Nat, m ≤ g ∧ m ≤ n ∧ v = .int .i64 m ∧ Zero l n m ∧ wr = w)
 case atStart => exact ⟨n, Nat.le_refl _, Nat.le_refl _, rfl, fun j h1 h2 => absurd h2 (by omega), rfl⟩
 case round =>
  obtain ⟨m, hg, hm, rfl, hz, rfl⟩ := hrel
  by_cases h0 : m = 0
  ·subst h0
   have e : t = 0 := by
    rw [HT.out]; exact trim_len W_two h.lt (by rw [h.len]; exact hm) (fun j h1 h2 => hz j h1 (by rw [← h.len]; exact h2)) (.inl rfl)
   subst e
   go_wp2
   rw [Exit.noGoto_ret]
   go_ret
   exact ⟨rfl, rfl⟩
  obtain ⟨b, o, rfl, hb, hc⟩ := h.at_ (by omega)
  obtain ⟨x, hx⟩ : ∃ x, x = l.getD (m - 1) 0 := ⟨_, rfl⟩
  have hcell : wr.cell? ⟨b, o + (m - 1), none⟩ = some (.int .u64 (x : Int)) := by rw [hx]; exact hc (m - 1) (by omega)
  have hp : (0 : Int) ≤ m - 1 := by omega
  have HX := hyd hx
  clear hx hc
  by_cases h2 : x = 0
  ·subst h2
   go_wp2
   go_roundg (m - 1)
   case measure => omega
   case rel => exact ⟨m - 1, by omega, by omega, by go_num, fun j h1 h2 => by
    rcases Nat.lt_or_ge j m with h3 | h3
    ·have : j = m - 1 := by omega
     rw [this]; exact HX.out.symm
    exact hz j h3 h2, rfl⟩
  have b1 : ((x : Int) == 0) = false := by simp [h2]
  have e : t = m := by
   rw [HT.out]; exact trim_len W_two h.lt (by rw [h.len]; exact hm) (fun j h1 h2 => hz j h1 (by rw [← h.len]; exact h2)) (.inr (by rw [← HX.out]; exact h2))
  subst e
  clear h2
  go_wp2
  rw [Exit.noGoto_ret]
  go_ret
  exact ⟨rfl, rfl⟩
theorem info64 : (Tryz.prog.info? 58).map (fun i => (i.zero, i.size, i.bytes)) = some (some (.int .u64 0), 1, 8) := by kernel_rfl
theorem law_make {ops : Array Oper} {rest : List Oper} {o : Oper} {a : Act} {Q : Exit → Act → World → Prop} (hg : o.guard = none) (x : Operand) (hop : o.op = Op.makeSlice 26 x x)
  (C : Int) (n : Nat) (hx : a.eval x = .int .i64 C) (hC : C = (n : Int)) (hn : n ≤ 17592186044416)
  (hK : ∀ w', Row w' w.heap.size 58 .u64 0 [] (List.replicate n 0) [] → w.grownBy w' none → wpList Tryz.prog ops Q rest (a.put o.dst (.slice (some ⟨w.heap.size, 0, none⟩) n n)) w') : wpList Tryz.prog ops Q (o :: rest) a w := by
 obtain ⟨i0, hi, hz0, hz1, hz2⟩ := info_parts info64
 exact wpList_make_full w hg x x 26 hop w.heap.size 58 i0 (.int .u64 0) 1 Tryz.underlying26 hi hz0 hz1 .i64 .i64 C C n hx hx hC hC (by rw [hz2]; omega) (by unfold maxLen; omega) (Nat.le_refl _)
  (fun w' h1 h2 => hK w' (Row.of_made h1) h2)
theorem law_copy {ops : Array Oper} {rest : List Oper} {o : Oper} {a : Act} {Q : Exit → Act → World → Prop} (hg : o.guard = none) (d s : Operand)
  (hop : o.op = .call { callee := .builtin .copy, args := #[d, s], argTypes := #[26, 26] }) (g dLen dCap : Nat) (hd : a.eval d = .slice (some ⟨g, 0, none⟩) dLen dCap)
  (A : Option Addr) (n c : Nat) (hs : a.eval s = .slice A n c) (L l : List Nat) (hrow : Row w g 58 .u64 0 [] L []) (hL : L.length = dLen) (h : Rd w .u64 W A n c l) (hle : n ≤ dLen)
  (hK : ∀ w', Row w' g 58 .u64 0 [] (l ++ L.drop n) [] → w.grownBy w' (some g) → wpList Tryz.prog ops Q rest (a.put o.dst (goInt n)) w') : wpList Tryz.prog ops Q (o :: rest) a w := by
 have hblk := hrow.blk
 rw [List.nil_append, List.append_nil] at hblk
 have hlen : (iv .u64 l).length = n := by rw [iv_length, h.len]
 by_cases h0 : n = 0
 ·refine wpList_copy_nothing hg d s 26 26 hop 58 Tryz.underlying26 (by kernel_rfl) _ _ _ _ _ _ hd hs (by rw [h0]; exact Nat.zero_min _) ?_
  subst h0
  have e := h.empty rfl
  subst e
  exact hK w (by simpa using hrow) (World.grownBy.refl _ _)
 obtain ⟨b, off, rfl, hb, hc⟩ := h.at_ h0
 refine wpList_copy_own hg d s 26 26 hop 58 Tryz.underlying26 (by kernel_rfl) g 0 dLen dCap ⟨b, off, none⟩ n c hd hs (iv .u64 L).toArray 58 hblk (iv .u64 l) (by rw [hlen]; exact (Nat.min_eq_left hle).symm) ?_ (by simp [hlen, iv_length, hL]; exact hle) ?_ ?_
 ·intro j v hj
  have hj' : j < n := by rw [← hlen]; exact (List.getElem?_eq_some_iff.1 hj).1
  rw [iv_get _ _ _ (by rw [h.len]; exact hj')] at hj
  rw [Addr.add_lit, hc j hj', hj]
 ·intro v hv
  obtain ⟨x, _, rfl⟩ := List.mem_map.1 hv
  rfl
 rw [hlen, Nat.zero_add, List.take_zero, List.nil_append]
 refine hK _ ⟨?_, rfl⟩ ?_
 ·rw [setRow_heap w g _ _ 58 _ hblk, iv_append]
  simp [iv, List.map_drop]
 exact ⟨rfl, rfl, rfl, by simp [World.setRow], fun k _ hne => setRow_other w g k _ (by intro e; exact hne (by rw [e]))⟩
def CloneDone (w : World) (n : Nat) (l : List Nat) (e : Ending) (w' : World) : Prop :=
 ∃ A' c', e = .returned (.slice A' n c') ∧ Rd w' .u64 W A' n c' l ∧ Below w.heap.size w w' ∧ (n ≠ 0 → ∃ g post, A' = some ⟨g, 0, none⟩ ∧ w.heap.size ≤ g ∧ Row w' g 58 .u64 0 [] l post)
theorem clone_any (h : Rd w .u64 W A n c l) (hn : n ≤ 10000000000000) :
  Calls Tryz.prog 51 #[.slice A n c] w fun e w' => CloneDone w n l e w' := by
 obtain ⟨i0, hi, hz0, hz1, hz2⟩ := info_parts info64
 have q22 : ∀ (w : World) (a : Option Addr) (n c n' c' : Nat), (binOp .eql 26 (.slice a n c) (.slice none n' c')).run Tryz.prog w = .ok (.bool a.isNone) w := fun w a n c n' c' => Lib.run_eql_slice_nil w _ _ a n c n' c' Tryz.underlying26
 rcases A with _ | ad
 ·have h0 : n = 0 := by
   rcases Nat.eq_zero_or_pos n with h0 | h0
   ·exact h0
   obtain ⟨_, _, e, _⟩ := h.at_ (by omega)
   cases e
  subst h0
  have e := h.empty rfl
  subst e
  go_enter Tryz.func51, Tryz.ntmps51
  go_wp2
  go_ret
  exact ⟨none, 0, rfl, Rd.nil _ _ _ _ (by omega), Below.refl _ _, fun h => absurd rfl h⟩
 have A : Aside (∀ j u, (iv .u64 l)[j]? = some u → w.cell? (ad.add j) = some u) := by
  intro j u hj
  have hj' : j < n := by
   have := (List.getElem?_eq_some_iff.1 hj).1
   rw [iv_length, h.len] at this; exact this
  obtain ⟨b, o, e, hb, hc⟩ := h.at_ (by omega)
  injection e with e
  subst e
  rw [iv_get _ _ _ (by rw [h.len]; exact hj')] at hj
  rw [Addr.add_lit, hc j hj', hj]
 have hl : (iv .u64 l).length = n * 1 := by rw [iv_length, h.len, Nat.mul_one]
 go_enter Tryz.func51, Tryz.ntmps51
 go_wp2_with (at_builtin; refine wpList_append_own _ rfl _ _ 26 rfl w.heap.size 58 i0 (.int .u64 0) 1 8 Tryz.underlying26 hi hz0 hz1 hz2 rfl (by decide) _ _ _ rfl (World.ownsRow_made w #[] 0 (Nat.le_refl _) (Nat.zero_le _) (by simp)) ad n c (iv .u64 l) rfl ?qc1 ?qc2 ?qc3 ?qc4 ?qc5 ?qc6 ?_)
 case qc1 => exact hl
 case qc2 =>
  intro j u hj
  exact Lib.cell?_alloc_some _ (A.out j u hj)
 case qc3 =>
  intro v hv
  obtain ⟨x, _, rfl⟩ := List.mem_map.1 hv
  rfl
 case qc4 => unfold maxLen; omega
 case qc5 => omega
 case qc6 => simp
 intro v' w1 hown hgrow hnil
 have hbel : Below w.heap.size w w1 := ((Below.refl _ w).alloc (Nat.le_refl _) _).grown hgrow (by simp) (by intro k hk; simp [Value.ownBlock] at hk; omega)
 have H : Hid (∃ A' c', v' = .slice A' n c' ∧ Rd w1 .u64 W A' n c' l ∧ (n ≠ 0 → ∃ g post, A' = some ⟨g, 0, none⟩ ∧ w.heap.size ≤ g ∧ Row w1 g 58 .u64 0 [] l post)) := by
  by_cases h0 : n = 0
  ·rcases hown.2 with ⟨e, _⟩ | ⟨g, cap, cur, e, _, _, _, hm, _⟩
   ·subst h0
    exact ⟨none, 0, e, by rw [h.empty rfl]; exact Rd.nil _ _ _ _ (by omega), fun h => absurd rfl h⟩
   subst h0
   refine ⟨_, cap, e, by rw [h.empty rfl]; exact Rd.nil _ _ _ _ (by unfold maxLen at hm; exact hm), fun h => absurd rfl h⟩
  obtain ⟨g, cap, post, e, hb, hcap, hm, hrow⟩ := Row.of_own hown h0
  exact ⟨_, cap, e, hrow.rd' h.lt h.len hcap (by unfold maxLen at hm; exact hm), fun _ => ⟨g, post, rfl, hb, hrow⟩⟩
 clear hown hgrow hnil hl
 go_wp2
 go_ret
 obtain ⟨A', c', e, h1, h2⟩ := H.out
 exact ⟨A', c', ret_eq e, h1, hbel, h2⟩
theorem mul64 (x y : Nat) (hx : x < 18446744073709551616) (hy : y < 18446744073709551616) (w : World) :
  Calls Tryz.prog 131 #[.int .u64 x, .int .u64 y] w fun e w' => ∃ hi lo : Nat, e = .returned (.tuple #[.int .u64 hi, .int .u64 lo]) ∧ Hid (lo + 18446744073709551616 * hi = x * y) ∧ lo < 18446744073709551616 ∧ hi < 18446744073709551615 ∧ w = w' :=
 (Tryz.bits_Mul64 x y hx hy w).mono fun e w' ⟨he, hw⟩ => by
  have hp : x * y ≤ 18446744073709551615 * 18446744073709551615 := Nat.mul_le_mul (by omega) (by omega)
  refine ⟨x * y / 18446744073709551616, x * y % 18446744073709551616, he, ?_, ?_, ?_, hw.symm⟩
  ·exact Nat.mod_add_div _ _
  ·omega
  omega
theorem add64 (x y : Nat) (hx : x < 18446744073709551616) (hy : y < 18446744073709551616) : ∃ s c : Nat,
  (∀ w, (callFunc 132 #[.int .u64 (x : Int), .int .u64 (y : Int), .int .u64 0]).run Tryz.prog w = .ok (.value (.tuple #[.int .u64 (s : Int), .int .u64 (c : Int)])) w) ∧
   s + 18446744073709551616 * c = x + y ∧ s < 18446744073709551616 ∧ c ≤ 1 :=
 ⟨(x + y + 0) % 18446744073709551616, (x + y + 0) / 18446744073709551616, fun w => Tryz.bits_Add64 x y 0 (by omega) w, by omega, by omega, by omega⟩
theorem add64z (y : Nat) (hy : y < 18446744073709551616) : ∃ s c : Nat,
  (∀ w, (callFunc 132 #[.int .u64 0, .int .u64 (y : Int), .int .u64 0]).run Tryz.prog w = .ok (.value (.tuple #[.int .u64 (s : Int), .int .u64 (c : Int)])) w) ∧
   s + 18446744073709551616 * c = 0 + y ∧ s < 18446744073709551616 ∧ c ≤ 1 := add64 0 y (by omega) hy
theorem sub64 (x y : Nat) (hx : x < 18446744073709551616) (hy : y < 18446744073709551616) : ∃ s c : Nat,
  (∀ w, (callFunc 155 #[.int .u64 (x : Int), .int .u64 (y : Int), .int .u64 0]).run Tryz.prog w = .ok (.value (.tuple #[.int .u64 (s : Int), .int .u64 (c : Int)])) w) ∧
   s + y = x + 18446744073709551616 * c ∧ s < 18446744073709551616 ∧ c ≤ 1 :=
 ⟨(x + 18446744073709551616 - y - 0) % 18446744073709551616, (if x < y + 0 then 1 else 0), fun w => Tryz.bits_Sub64 x y 0 (by omega) w, by split <;> omega, by omega, by split <;> omega⟩
theorem pow_succ_W (i : Nat) : W ^ (i + 1) = W ^ i * W := Nat.pow_succ ..
theorem take_val (B : Nat) (l : List Nat) (i : Nat) : val B (l.take (i + 1)) = val B (l.take i) + B ^ i * l.getD i 0 := by
 by_cases h : i < l.length
 ·rw [List.take_succ_eq_append_getElem h, val_snoc, List.length_take, Nat.min_eq_left (by omega), List.getD_eq_getElem?_getD, List.getElem?_eq_getElem h, Option.getD_some]
 rw [List.take_of_length_le (by omega), List.take_of_length_le (by omega), List.getD_eq_getElem?_getD, List.getElem?_eq_none (by omega)]
 simp
structure Added (x : Nat) (xs bs : List Nat) (i ca : Nat) (done : List Nat) : Prop where
 len : done.length = i
 lt : Lt W done
 eq : val W done + W ^ i * ca = val W (xs.take i) + x * val W (bs.take i)
theorem Added.zero (x : Nat) (xs bs : List Nat) : Added x xs bs 0 0 [] := ⟨rfl, Lt.nil, by simp [val]⟩
theorem Added.step {i ca : Nat} (h : Added x xs bs i ca done) {s ca' : Nat} (hs : s < W) (he : s + W * ca' = xs.getD i 0 + bs.getD i 0 * x + ca) : Added x xs bs (i + 1) ca' (done ++ [s]) := by
 refine ⟨by simp [h.len], h.lt.append (Lt.cons hs Lt.nil), ?_⟩
 have h1 := h.eq
 rw [val_snoc, h.len, take_val, take_val, pow_succ_W]
 have h2 : W ^ i * (s + W * ca') = W ^ i * (xs.getD i 0 + bs.getD i 0 * x + ca) := by rw [he]
 have h3 : W ^ i * W * ca' = W ^ i * (W * ca') := Nat.mul_assoc _ _ _
 have h4 : x * (val W (bs.take i) + W ^ i * bs.getD i 0) = x * val W (bs.take i) + W ^ i * (bs.getD i 0 * x) := by
  rw [Nat.mul_add, ← Nat.mul_assoc, Nat.mul_comm x (W ^ i), Nat.mul_assoc, Nat.mul_comm x (bs.getD i 0)]
 rw [Nat.mul_add, Nat.mul_add, Nat.mul_add] at h2
 rw [h3, h4]
 omega
structure Taken (x : Nat) (xs bs : List Nat) (i ow : Nat) (done : List Nat) : Prop where
 len : done.length = i
 lt : Lt W done
 eq : val W done + x * val W (bs.take i) = val W (xs.take i) + W ^ i * ow
theorem Taken.zero (x : Nat) (xs bs : List Nat) : Taken x xs bs 0 0 [] := ⟨rfl, Lt.nil, by simp [val]⟩
theorem Taken.step {i ow : Nat} (h : Taken x xs bs i ow done) {s ow' : Nat} (hs : s < W) (he : s + bs.getD i 0 * x + ow = xs.getD i 0 + W * ow') : Taken x xs bs (i + 1) ow' (done ++ [s]) := by
 refine ⟨by simp [h.len], h.lt.append (Lt.cons hs Lt.nil), ?_⟩
 have h1 := h.eq
 rw [val_snoc, h.len, take_val, take_val, pow_succ_W]
 have h2 : W ^ i * (s + bs.getD i 0 * x + ow) = W ^ i * (xs.getD i 0 + W * ow') := by rw [he]
 have h3 : W ^ i * W * ow' = W ^ i * (W * ow') := Nat.mul_assoc _ _ _
 have h4 : x * (val W (bs.take i) + W ^ i * bs.getD i 0) = x * val W (bs.take i) + W ^ i * (bs.getD i 0 * x) := by
  rw [Nat.mul_add, ← Nat.mul_assoc, Nat.mul_comm x (W ^ i), Nat.mul_assoc, Nat.mul_comm x (bs.getD i 0)]
 rw [Nat.mul_add, Nat.mul_add, Nat.mul_add] at h2
 rw [h3, h4]
 omega
theorem set_mid (hd : done.length = i) (hi : i < xs.length) : (done ++ xs.drop i).set i s = (done ++ [s]) ++ xs.drop (i + 1) := by
 rw [List.set_append_right _ _ (by omega), hd, Nat.sub_self, List.drop_eq_getElem_cons hi, List.set_cons_zero, List.append_assoc]
 rfl
theorem get_mid (hd : done.length = i) : (done ++ xs.drop i).getD i 0 = xs.getD i 0 := by
 simp only [List.getD_eq_getElem?_getD]
 rw [List.getElem?_append_right (by omega), hd, Nat.sub_self, List.getElem?_drop, Nat.add_zero]
theorem Added.all {i ca : Nat} (h : Added x xs bs i ca done) (hl : Lt W xs) (hi : i = xs.length) (hb : bs.length ≤ i) :
  (done ++ xs.drop i).length = xs.length ∧ Lt W (done ++ xs.drop i) ∧ val W (done ++ xs.drop i) + W ^ xs.length * ca = val W xs + x * val W bs := by
 subst hi
 refine ⟨by simp [h.len], h.lt.append (hl.drop _), ?_⟩
 have := h.eq
 rw [List.take_of_length_le hb, List.take_length] at this
 rw [List.drop_length, List.append_nil]
 exact this
theorem Added.early (h : Added x xs bs i 0 done) (hl : Lt W xs) (hi : i ≤ xs.length) (hb : bs.length ≤ i) :
  (done ++ xs.drop i).length = xs.length ∧ Lt W (done ++ xs.drop i) ∧ val W (done ++ xs.drop i) + W ^ xs.length * 0 = val W xs + x * val W bs := by
 refine ⟨by simp [h.len]; omega, h.lt.append (hl.drop _), ?_⟩
 have := h.eq
 rw [List.take_of_length_le hb] at this
 rw [val_append, h.len]
 have h2 := val_take_drop (B := W) xs i
 rw [List.length_take, Nat.min_eq_left hi] at h2
 rw [h2]
 omega
theorem Taken.all {i ow : Nat} (h : Taken x xs bs i ow done) (hl : Lt W xs) (hi : i = xs.length) (hb : bs.length ≤ i) :
  (done ++ xs.drop i).length = xs.length ∧ Lt W (done ++ xs.drop i) ∧ val W (done ++ xs.drop i) + x * val W bs = val W xs + W ^ xs.length * ow := by
 subst hi
 refine ⟨by simp [h.len], h.lt.append (hl.drop _), ?_⟩
 have := h.eq
 rw [List.take_of_length_le hb, List.take_length] at this
 rw [List.drop_length, List.append_nil]
 exact this
theorem Taken.early (h : Taken x xs bs i 0 done) (hl : Lt W xs) (hi : i ≤ xs.length) (hb : bs.length ≤ i) :
  (done ++ xs.drop i).length = xs.length ∧ Lt W (done ++ xs.drop i) ∧ val W (done ++ xs.drop i) + x * val W bs = val W xs + W ^ xs.length * 0 := by
 refine ⟨by simp [h.len]; omega, h.lt.append (hl.drop _), ?_⟩
 have := h.eq
 rw [List.take_of_length_le hb] at this
 rw [val_append, h.len]
 have h2 := val_take_drop (B := W) xs i
 rw [List.length_take, Nat.min_eq_left hi] at h2
 rw [h2]
 omega
def AddDone (w : World) (g off : Nat) (pre post : List Value) (xs bs : List Nat) (x : Nat) (e : Ending) (w' : World) : Prop :=
 e = .returned (.tuple #[]) ∧ ∃ xs' ca, Row w' g 58 .u64 off pre xs' post ∧ w.grownBy w' (some g) ∧ xs'.length = xs.length ∧ Lt W xs' ∧ val W xs' + W ^ xs.length * ca = val W xs + x * val W bs
def AddRel (w : World) (g off : Nat) (pre post : List Value) (xs bs : List Nat) (x : Nat) (i ca : Nat) (wr : World) : Prop :=
 ∃ done, Added x xs bs i ca done ∧ Row wr g 58 .u64 off pre (done ++ xs.drop i) post ∧ w.grownBy wr (some g)
theorem addTimes_any {g off n c nb cb x : Nat} {pre post : List Value}
  (h : Row w g 58 .u64 off pre xs post) (hl : Lt W xs) (hn : xs.length = n) (hc : n ≤ c) (hc' : c ≤ 9223372036854775807)
  (hb : Rd w .u64 W A nb cb bs) (hnb : nb ≤ n) (hne : nb ≠ 0 → ∀ a, A = some a → a.block ≠ g) (hx : x < 18446744073709551616) :
  Calls Tryz.prog 99 #[.slice (some ⟨g, off, none⟩) n c, .slice A nb cb, .int .u64 x] w fun e w' => AddDone w g off pre post xs bs x e w' := by
 have HN := hyd hn
 clear hn
 have hcb := hb.cap
 have hmb := hb.max
 go_enter Tryz.func99, Tryz.ntmps99
 go_wp2
 go_step3
 go_wp2
 go_step3
 go_wp2
 go_loopg [6, 13] n (fun gh vc vi wr => ∃ i ca : Nat, i + gh = n ∧ ca < 18446744073709551616 ∧ vi = .int .i64 i ∧ vc = .int .u64 ca ∧ AddRel w g off pre post xs bs x i ca wr)
 case atStart => exact ⟨0, 0, by omega, by omega, rfl, rfl, [], Added.zero _ _ _, by simpa using h, World.grownBy.refl _ _⟩
 case round =>
  obtain ⟨i, ca, hg, hca, rfl, rfl, hrel⟩ := hrel
  have HG := hyd hg
  by_cases hi : i < n
  ·have hn' := HN.out
   obtain ⟨done, hd, hrow, hgrow⟩ := hrel
   obtain ⟨a, ha⟩ : ∃ a, a = xs.getD i 0 := ⟨_, rfl⟩
   have haB : a < 18446744073709551616 := by rw [ha, ← W_eq]; exact hl.getD (by rw [W_eq]; omega) i
   have hcell : wr.cell? ⟨g, off + i, none⟩ = some (.int .u64 (a : Int)) := by
    rw [ha, ← get_mid (done := done) hd.len]
    exact hrow.cell (by simp [hd.len]; omega)
   have hfro : wr.frozen? ⟨g, off + i, none⟩ = false := hrow.frozen _
   have HA := hyd ha
   clear ha hg hn'
   by_cases hib : i < nb
   ·have hbr := hb.grown hgrow hne
    obtain ⟨bb, ob, rfl, hbb, hcb2⟩ := hbr.at_ (by omega)
    obtain ⟨b, hb'⟩ : ∃ b, b = bs.getD i 0 := ⟨_, rfl⟩
    have hbB : b < 18446744073709551616 := by rw [hb', ← W_eq]; exact hb.lt.getD (by rw [W_eq]; omega) i
    have hcellb : wr.cell? ⟨bb, ob + i, none⟩ = some (.int .u64 (b : Int)) := by rw [hb']; exact hcb2 i hib
    have HB := hyd hb'
    clear hb' hcb2 hne hbr
    go_wp2_with fail
    refine (mul64 b x hbB hx _).mono ?_
    rintro e w' ⟨hi1, lo, rfl, HP, hlo, hhi, rfl⟩
    obtain ⟨s1, c1, hr1, e1, hs1, hc1⟩ := add64 lo ca hlo hca
    obtain ⟨s, c2, hr2, e2, hs, hc2⟩ := add64 a s1 haB hs1
    have hp : b * x ≤ 18446744073709551615 * 18446744073709551615 := Nat.mul_le_mul (by omega) (by omega)
    have HE : Hid (s + 18446744073709551616 * (hi1 + c1 + c2) = a + b * x + ca) := by have := HP.out; unfold Hid; omega
    have hk1 : hi1 + c1 ≤ 18446744073709551615 := by have := HP.out; omega
    have hk2 : hi1 + c1 + c2 ≤ 18446744073709551615 := by have := HP.out; omega
    clear e1 e2 hp
    go_wp2
    go_roundg (gk - 1)
    case measure => have := HG.out; omega
    case rel => exact ⟨i + 1, hi1 + c1 + c2, by have := HG.out; omega, by omega, by go_num, by go_num, done ++ [s], hd.step (by rw [W_eq]; exact hs) (by rw [W_eq, ← HA.out, ← HB.out]; exact HE.out), by rw [← set_mid hd.len (by rw [HN.out]; exact hi)]; exact hrow.set (by simp [hd.len, HN.out]; omega) s, grownBy_trans hgrow (grownBy_set _ _ _ _)⟩
   by_cases h0 : ca = 0
   ·subst h0
    go_wp2
    rw [Exit.noGoto_normal]
    go_end0
    exact ⟨rfl, _, 0, hrow, hgrow, hd.early hl (by rw [HN.out]; omega) (by rw [hb.len]; omega)⟩
   have b1 : ((ca : Int) == 0) = false := by simp [h0]
   obtain ⟨s1, c1, hr1, e1, hs1, hc1⟩ := add64z ca hca
   obtain ⟨s, c2, hr2, e2, hs, hc2⟩ := add64 a s1 haB hs1
   have HE : Hid (s + 18446744073709551616 * (c1 + c2) = a + 0 * x + ca) := by unfold Hid; omega
   have hk1 : c1 + c2 ≤ 18446744073709551615 := by omega
   clear e1 e2
   go_wp2
   go_roundg (gk - 1)
   case measure => have := HG.out; omega
   case rel => exact ⟨i + 1, c1 + c2, by have := HG.out; omega, by omega, by go_num, by go_num, done ++ [s], hd.step (by rw [W_eq]; exact hs) (by rw [W_eq, ← HA.out, show bs.getD i 0 = 0 by rw [List.getD_eq_getElem?_getD, List.getElem?_eq_none (by rw [hb.len]; omega)]; rfl]; exact HE.out), by rw [← set_mid hd.len (by rw [HN.out]; exact hi)]; exact hrow.set (by simp [hd.len, HN.out]; omega) s, grownBy_trans hgrow (grownBy_set _ _ _ _)⟩
  have hi' : i = n := by omega
  obtain ⟨done, hd, hrow, hgrow⟩ := hrel
  have HI := hyd hi'
  clear hi' hg
  go_wp2
  rw [Exit.noGoto_normal]
  go_end0
  exact ⟨rfl, _, ca, hrow, hgrow, hd.all hl (by rw [HN.out]; exact HI.out) (by rw [hb.len, HI.out]; exact hnb)⟩
theorem compareInt_lt {a b : Int} (h : a < b) : Lib.compareInt a b = -1 := by unfold Lib.compareInt; rw [if_pos h]
theorem compareInt_gt {a b : Int} (h : b < a) : Lib.compareInt a b = 1 := by unfold Lib.compareInt; rw [if_neg (by omega), if_pos h]
def SameFrom (l r : List Nat) (m : Nat) : Prop := l.drop m = r.drop m
theorem sameFrom_step {l r : List Nat} {n k : Nat} (hl : l.length = n) (hr : r.length = n) (hk : k ≠ 0) (hkn : k ≤ n) (hs : SameFrom l r k) (hx : l.getD (k - 1) 0 = r.getD (k - 1) 0) : SameFrom l r (k - 1) := by
 unfold SameFrom at hs ⊢
 obtain ⟨j, rfl⟩ : ∃ j, k = j + 1 := ⟨k - 1, by omega⟩
 rw [Nat.add_sub_cancel] at hx ⊢
 have h1 : j < l.length := by omega
 have h2 : j < r.length := by omega
 rw [List.getD_eq_getElem?_getD, List.getD_eq_getElem?_getD, List.getElem?_eq_getElem h1, List.getElem?_eq_getElem h2, Option.getD_some, Option.getD_some] at hx
 rw [List.drop_eq_getElem_cons h1, List.drop_eq_getElem_cons h2, hs, hx]
theorem order_any {A B : Option Addr} {n c m d : Nat} {l r : List Nat} (h : Rd w .u64 W A n c l) (h' : Rd w .u64 W B m d r) (hl : Can W l) (hr : Can W r) :
  Calls Tryz.prog 92 #[.slice A n c, .slice B m d] w fun e w' => e = .returned (.int .i64 (cmpN (val W l) (val W r))) ∧ Below w.heap.size w w' := by
 have hcap := h.cap
 have hmax := h.max
 have hcap' := h'.cap
 have hmax' := h'.max
 obtain ⟨t, ht⟩ : ∃ t, t = cmpN (val W l) (val W r) := ⟨_, rfl⟩
 rw [← ht]
 have HT := hyd ht
 clear ht
 by_cases hnm : n = m
 ·subst hnm
  go_enter Tryz.func92, Tryz.ntmps92
  go_wp2
  go_step3
  go_wp2
  go_step3
  go_wp2
  go_loopg [5] n (fun g v wr => ∃ k : Nat, k ≤ g ∧ k ≤ n ∧ v = .int .i64 ((k : Int) - 1) ∧ SameFrom l r k ∧ Below w.heap.size w wr)
  case atStart => exact ⟨n, Nat.le_refl _, Nat.le_refl _, rfl, by unfold SameFrom; rw [List.drop_of_length_le (by rw [h.len]; omega), List.drop_of_length_le (by rw [h'.len]; omega)], Below.refl _ _⟩
  case round =>
   obtain ⟨k, hg, hk, rfl, hs, hb⟩ := hrel
   by_cases h0 : k = 0
   ·subst h0
    have e : t = 0 := by
     rw [HT.out, cmpN_eq]
     unfold SameFrom at hs
     rw [List.drop_zero, List.drop_zero] at hs
     rw [hs]
    subst e
    go_wp2
    rw [Exit.noGoto_ret]
    go_ret
    exact ⟨rfl, hb⟩
   obtain ⟨a, o, rfl, ha, hc⟩ := (h.below hb).at_ (by omega)
   obtain ⟨a', o', rfl, ha', hc'⟩ := (h'.below hb).at_ (by omega)
   obtain ⟨x, hx⟩ : ∃ x, x = l.getD (k - 1) 0 := ⟨_, rfl⟩
   obtain ⟨y, hy⟩ : ∃ y, y = r.getD (k - 1) 0 := ⟨_, rfl⟩
   have hcell : wr.cell? ⟨a, o + (k - 1), none⟩ = some (.int .u64 (x : Int)) := by rw [hx]; exact hc (k - 1) (by omega)
   have hcell' : wr.cell? ⟨a', o' + (k - 1), none⟩ = some (.int .u64 (y : Int)) := by rw [hy]; exact hc' (k - 1) (by omega)
   have hp : (0 : Int) ≤ (k : Int) - 1 := by omega
   have hp2 : (k : Int) - 1 < n := by omega
   have hp3 : ((k : Int) - 1).toNat = k - 1 := by omega
   have HX := hyd hx
   have HY := hyd hy
   clear hx hc hy hc'
   have HSS : Hid (SameFrom l r k) := hs
   by_cases hxy : x = y
   ·subst hxy
    go_wp2
    go_quiet (fail)
    go_wp2
    go_roundg (k - 1)
    case measure => omega
    case rel => exact ⟨k - 1, by omega, by omega, by rw [show ((k - 1 : Nat) : Int) = (k : Int) - 1 by omega], sameFrom_step h.len h'.len h0 hk HSS.out (by rw [← HX.out, ← HY.out]), below_drewN hb _⟩
   have b1 : ((x : Int) == y) = false := by simp; omega
   by_cases hlt : x < y
   ·have e : t = -1 := by
     rw [HT.out, cmpN_lt]
     exact val_lt_at (i := k - 1) hl.1 (by rw [h.len]; omega) (by rw [h'.len]; omega) (by rw [Nat.sub_add_cancel (by omega)]; exact HSS.out) (by rw [← HX.out, ← HY.out]; exact hlt)
    subst e
    have b2 : decide (x < y) = true := by simpa using hlt
    clear hxy
    go_wp2
    go_quiet (fail)
    go_wp2
    go_quiet (fail)
    go_wp2
    rw [Exit.noGoto_ret]
    go_ret
    exact ⟨rfl, below_drewN (below_drewN hb _) _⟩
   have e : t = 1 := by
    rw [HT.out, cmpN_gt]
    exact val_lt_at (i := k - 1) hr.1 (by rw [h'.len]; omega) (by rw [h.len]; omega) (by rw [Nat.sub_add_cancel (by omega)]; exact HSS.out.symm) (by rw [← HX.out, ← HY.out]; omega)
   subst e
   have b2 : decide (x < y) = false := by simpa using hlt
   clear hxy hlt
   go_wp2
   go_quiet (fail)
   go_wp2
   go_quiet (fail)
   go_wp2
   rw [Exit.noGoto_ret]
   go_ret
   exact ⟨rfl, below_drewN (below_drewN hb _) _⟩
 rcases Nat.lt_or_ge n m with hlt | hge
 ·have e : t = -1 := by
   rw [HT.out, cmpN_lt]
   exact val_lt_len W_two hl.1 hr (by rw [h.len, h'.len]; exact hlt)
  subst e
  have b1 : ((n : Int) != m) = true := by simp; omega
  clear hnm
  have hcmp : Lib.compareInt (n : Int) (m : Int) = -1 := compareInt_lt (by omega)
  go_enter Tryz.func92, Tryz.ntmps92
  go_wp2
  go_step3
  go_wp2_with (go_at_call 32; refine (Tryz.cmp_Compare_int _ _ _).mono ?_; rintro e w' ⟨rfl, rfl⟩)
  rw [Exit.noGoto_ret]
  go_ret
  exact ⟨rfl, Below.refl _ _⟩
 have e : t = 1 := by
  rw [HT.out, cmpN_gt]
  exact val_lt_len W_two hr.1 hl (by rw [h.len, h'.len]; omega)
 subst e
 have b1 : ((n : Int) != m) = true := by simp; omega
 have hcmp : Lib.compareInt (n : Int) (m : Int) = 1 := compareInt_gt (by omega)
 clear hnm
 go_enter Tryz.func92, Tryz.ntmps92
 go_wp2
 go_step3
 go_wp2_with (go_at_call 32; refine (Tryz.cmp_Compare_int _ _ _).mono ?_; rintro e w' ⟨rfl, rfl⟩)
 rw [Exit.noGoto_ret]
 go_ret
 exact ⟨rfl, Below.refl _ _⟩
def TakeDone (w : World) (g off : Nat) (pre post : List Value) (xs bs : List Nat) (x : Nat) (e : Ending) (w' : World) : Prop :=
 ∃ (xs' : List Nat) (ca : Nat), e = .returned (.int .u64 (ca : Int)) ∧ ca < 18446744073709551616 ∧ Row w' g 58 .u64 off pre xs' post ∧ w.grownBy w' (some g) ∧ xs'.length = xs.length ∧ Lt W xs' ∧ val W xs' + x * val W bs = val W xs + W ^ xs.length * ca
def TakeRel (w : World) (g off : Nat) (pre post : List Value) (xs bs : List Nat) (x : Nat) (i ca : Nat) (wr : World) : Prop :=
 ∃ done, Taken x xs bs i ca done ∧ Row wr g 58 .u64 off pre (done ++ xs.drop i) post ∧ w.grownBy wr (some g)
theorem takeTimes_any {g off n c nb cb x : Nat} {pre post : List Value}
  (h : Row w g 58 .u64 off pre xs post) (hl : Lt W xs) (hn : xs.length = n) (hc : n ≤ c) (hc' : c ≤ 9223372036854775807)
  (hb : Rd w .u64 W A nb cb bs) (hnb : nb ≤ n) (hne : nb ≠ 0 → ∀ a, A = some a → a.block ≠ g) (hx : x < 18446744073709551616) :
  Calls Tryz.prog 130 #[.slice (some ⟨g, off, none⟩) n c, .slice A nb cb, .int .u64 x] w fun e w' => TakeDone w g off pre post xs bs x e w' := by
 have HN := hyd hn
 clear hn
 have hcb := hb.cap
 have hmb := hb.max
 go_enter Tryz.func130, Tryz.ntmps130
 go_wp2
 go_step3
 go_wp2
 go_step3
 go_wp2
 go_loopg [7, 14] n (fun gh vc vi wr => ∃ i ca : Nat, i + gh = n ∧ ca < 18446744073709551616 ∧ vi = .int .i64 i ∧ vc = .int .u64 ca ∧ TakeRel w g off pre post xs bs x i ca wr)
 case atStart => exact ⟨0, 0, by omega, by omega, rfl, rfl, [], Taken.zero _ _ _, by simpa using h, World.grownBy.refl _ _⟩
 case round =>
  obtain ⟨i, ca, hg, hca, rfl, rfl, hrel⟩ := hrel
  have HG := hyd hg
  by_cases hi : i < n
  ·have hn' := HN.out
   obtain ⟨done, hd, hrow, hgrow⟩ := hrel
   obtain ⟨a, ha⟩ : ∃ a, a = xs.getD i 0 := ⟨_, rfl⟩
   have haB : a < 18446744073709551616 := by rw [ha, ← W_eq]; exact hl.getD (by rw [W_eq]; omega) i
   have hcell : wr.cell? ⟨g, off + i, none⟩ = some (.int .u64 (a : Int)) := by
    rw [ha, ← get_mid (done := done) hd.len]
    exact hrow.cell (by simp [hd.len]; omega)
   have hfro : wr.frozen? ⟨g, off + i, none⟩ = false := hrow.frozen _
   have HA := hyd ha
   clear ha hg hn'
   by_cases hib : i < nb
   ·have hbr := hb.grown hgrow hne
    obtain ⟨bb, ob, rfl, hbb, hcb2⟩ := hbr.at_ (by omega)
    obtain ⟨b, hb'⟩ : ∃ b, b = bs.getD i 0 := ⟨_, rfl⟩
    have hbB : b < 18446744073709551616 := by rw [hb', ← W_eq]; exact hb.lt.getD (by rw [W_eq]; omega) i
    have hcellb : wr.cell? ⟨bb, ob + i, none⟩ = some (.int .u64 (b : Int)) := by rw [hb']; exact hcb2 i hib
    have HB := hyd hb'
    clear hb' hcb2 hne hbr
    go_wp2_with fail
    refine (mul64 b x hbB hx _).mono ?_
    rintro e w' ⟨hi1, lo, rfl, HP, hlo, hhi, rfl⟩
    obtain ⟨s1, c1, hr1, e1, hs1, hc1⟩ := add64 lo ca hlo hca
    obtain ⟨s, c2, hr2, e2, hs, hc2⟩ := sub64 a s1 haB hs1
    have hp : b * x ≤ 18446744073709551615 * 18446744073709551615 := Nat.mul_le_mul (by omega) (by omega)
    have HE : Hid (s + b * x + ca = a + 18446744073709551616 * (hi1 + c1 + c2)) := by have := HP.out; unfold Hid; omega
    have hk1 : hi1 + c1 ≤ 18446744073709551615 := by have := HP.out; omega
    have hk2 : hi1 + c1 + c2 ≤ 18446744073709551615 := by have := HP.out; omega
    clear e1 e2 hp
    go_wp2
    go_roundg (gk - 1)
    case measure => have := HG.out; omega
    case rel => exact ⟨i + 1, hi1 + c1 + c2, by have := HG.out; omega, by omega, by go_num, by go_num, done ++ [s], hd.step (by rw [W_eq]; exact hs) (by rw [W_eq, ← HA.out, ← HB.out]; exact HE.out), by rw [← set_mid hd.len (by rw [HN.out]; exact hi)]; exact hrow.set (by simp [hd.len, HN.out]; omega) s, grownBy_trans hgrow (grownBy_set _ _ _ _)⟩
   by_cases h0 : ca = 0
   ·subst h0
    go_wp2
    rw [Exit.noGoto_ret]
    go_ret
    exact ⟨_, 0, rfl, by omega, hrow, hgrow, hd.early hl (by rw [HN.out]; omega) (by rw [hb.len]; omega)⟩
   have b1 : ((ca : Int) == 0) = false := by simp [h0]
   obtain ⟨s1, c1, hr1, e1, hs1, hc1⟩ := add64z ca hca
   obtain ⟨s, c2, hr2, e2, hs, hc2⟩ := sub64 a s1 haB hs1
   have HE : Hid (s + 0 * x + ca = a + 18446744073709551616 * (c1 + c2)) := by unfold Hid; omega
   have hk1 : c1 + c2 ≤ 18446744073709551615 := by omega
   clear e1 e2
   go_wp2
   go_roundg (gk - 1)
   case measure => have := HG.out; omega
   case rel => exact ⟨i + 1, c1 + c2, by have := HG.out; omega, by omega, by go_num, by go_num, done ++ [s], hd.step (by rw [W_eq]; exact hs) (by rw [W_eq, ← HA.out, show bs.getD i 0 = 0 by rw [List.getD_eq_getElem?_getD, List.getElem?_eq_none (by rw [hb.len]; omega)]; rfl]; exact HE.out), by rw [← set_mid hd.len (by rw [HN.out]; exact hi)]; exact hrow.set (by simp [hd.len, HN.out]; omega) s, grownBy_trans hgrow (grownBy_set _ _ _ _)⟩
  have hi' : i = n := by omega
  obtain ⟨done, hd, hrow, hgrow⟩ := hrel
  have HI := hyd hi'
  clear hi' hg
  go_wp2
  rw [Exit.noGoto_ret]
  go_ret
  exact ⟨_, ca, rfl, hca, hrow, hgrow, hd.all hl (by rw [HN.out]; exact HI.out) (by rw [hb.len, HI.out]; exact hnb)⟩
end Go.Proofs.YtehfdfjpmmpndaaGreatDoor
