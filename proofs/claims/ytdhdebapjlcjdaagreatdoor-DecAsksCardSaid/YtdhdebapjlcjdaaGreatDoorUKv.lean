/-
 Contract of dec's next, at this translation. Condition: the digits are the caller's own.
-/
import Derived.Test.YtdhdebapjlcjdaaGreatDoorUKu
import Derived.ArgAppend
import Derived.Lib.SlBytesConst
set_option maxHeartbeats 4000000
set_option maxRecDepth 100000
namespace Go.Proofs.YtdhdebapjlcjdaaGreatDoor
open Go Go.RowKit Go.Shelf
attribute [local go_sem] Oper.semAt_some

theorem Rd.kept {w w' : World} {row : Option Nat} {k : IntKind} {B : Nat} {A : Option Addr} {n c : Nat} {l : List Nat} (h : Rd w k B A n c l) (hg : w.grownBy w' row) (hne : ∀ g, row = some g → ∀ i (x : Nat), w.cell? ⟨g, i, none⟩ ≠ some (.int k (x : Int))) : Rd w' k B A n c l :=
 ⟨h.len, h.cap, h.max, h.lt, fun hn => by
  obtain ⟨b, o, e, hb, hc⟩ := h.at_ hn
  refine ⟨b, o, e, by have := hg.size; omega, fun j hj => ?_⟩
  exact hg.cell (hc j hj) (fun e2 => hne b e2.symm _ _ (hc j hj))⟩
theorem boxed_no {W : World} {g : Nat} {t : TypeId} {A : Option Addr} {n c : Nat} (h : Boxed W g t (.slice A n c)) (k : IntKind) (i x : Nat) : W.cell? ⟨g, i, none⟩ ≠ some (.int k (x : Int)) := by
 have e : W.cell? ⟨g, i, none⟩ = #[Value.slice A n c][i]? := cell_of_row W g i _ t (0, 0) h
 rw [e]
 match i with
 | 0 => intro hh; cases hh
 | i + 1 => intro hh; simp at hh
theorem def_no {W : World} {g : Nat} {ds : Option (List Deferred)} (h : W.heap[g]? = some (.deferred ds)) (k : IntKind) (i x : Nat) : W.cell? ⟨g, i, none⟩ ≠ some (.int k (x : Int)) := by
 simp [World.cell?, h]
/-- how a call ends that tells digits -/
def RdEnd (b0 : Nat) (l : List Nat) (w : World) (en : Ending) (w' : World) : Prop := ∃ A n c, en = .returned (.slice A n c) ∧ Rd w' .u8 256 A n c l ∧ Below b0 w w'
theorem own_keeps {β : Type} (b0 : Nat) (e : TypeId) (k : IntKind) (v : Value) (f : β → List Nat) : Go.Own (fun s W => Own b0 W e k v (f s)) := by
 rintro s X Y row hr hg hrow
 refine World.ownsRow.kept hr hg ?_
 rcases hr.2 with ⟨rfl, _⟩ | ⟨g, cap, cur, rfl, _, hgb, _⟩
 ·exact .inl rfl
 ·refine .inr fun e' => ?_
  obtain ⟨o, ho, hc⟩ := hrow g (by simpa [Value.ownBlock] using e'.symm)
  rw [hgb] at ho; cases ho; cases hc
/-- append of a slice's bytes behind the one byte of a constant -/
theorem run_one {t ty e : TypeId} (ht : Tryz.prog.underlying t = some (.slice e)) (hinfo : (Tryz.prog.info? e).map (fun i => (i.zero, i.size, i.bytes)) = some (some (.int .u8 0), 1, 1))
  {w : World} {g : Nat} {A : Option Addr} {n c : Nat} {l : List Nat} (hgl : g < w.heap.size) (hd : w.cell? ⟨g, 0, none⟩ = some (.int .u8 49)) (h : Rd w .u8 256 A n c l) (hn : n ≤ 1000000) :
  ∃ A' c' w', (Builtin.append_ #[t, t] ty #[.slice (some ⟨g, 0, none⟩) 1 1, .slice A n c]).run Tryz.prog w = .ok (.slice A' (n + 1) c') w' ∧ Rd w' .u8 256 A' (n + 1) c' (49 :: l) ∧ Below w.heap.size w w' := by
 obtain ⟨i0, hi, hz0, hz1, hz2⟩ := info_parts hinfo
 have hlt : Lt 256 (49 :: l) := Lt.cons (by decide) h.lt
 rcases Nat.eq_zero_or_pos n with rfl | h0
 ·obtain rfl := h.empty rfl
  refine ⟨some ⟨g, 0, none⟩, 1, w, ?_, ⟨rfl, Nat.le_refl _, by decide, hlt, fun _ => ⟨g, 0, rfl, hgl, fun j hj => ?_⟩⟩, Below.refl _ _⟩
  ·cases A <;> simp [Builtin.append_, run_underlying ht, sizeOf, typeInfo, hi, Builtin.lenOf, Builtin.firstCells, storeCells, go_sem]
  ·obtain rfl : j = 0 := by omega
   exact hd
 ·obtain ⟨b, o, rfl, hb, hc⟩ := h.at_ (by omega)
  obtain ⟨v', w', h1, h2, h3⟩ := run_append_arg_grows (P := Tryz.prog) (w := w) t ty e i0 (.int .u8 0) 1 1 ht hi hz0 hz1 hz2 rfl (by decide) ⟨g, 0, none⟩ 1 1 [.int .u8 49] rfl (fun j u hj => by
    match j, hj with
    | 0, hj => simp at hj; subst hj; rw [Lib.add_plain]; exact hd
    | (j + 1), hj => simp at hj) ⟨b, o, none⟩ n c (iv .u8 l) (by rw [iv_length, h.len, Nat.mul_one]) (fun j u hj => by
    rw [Lib.add_plain]
    have hjn : j < n := by
     rcases Nat.lt_or_ge j n with h5 | h5
     ·exact h5
     ·rw [List.getElem?_eq_none (by rw [iv_length, h.len]; exact h5)] at hj; cases hj
    rw [iv_get _ _ _ (by rw [h.len]; exact hjn)] at hj
    obtain rfl := Option.some.inj hj
    exact hc j hjn) (by omega) (by unfold maxLen; omega) (by omega)
  have h4 : Own w.heap.size w' e .u8 v' (49 :: l) := by
   unfold Own
   rw [List.length_cons, h.len, Nat.add_comm]
   exact h2
  obtain ⟨A', c', rfl, hr⟩ := h4.rd hlt
  rw [List.length_cons, h.len] at hr h1
  exact ⟨A', c', w', h1, hr, below_none h3⟩
theorem law_one {F : Fence} {n' : Nat} {t e : TypeId} (ht : Tryz.prog.underlying t = some (.slice e)) (hinfo : (Tryz.prog.info? e).map (fun i => (i.zero, i.size, i.bytes)) = some (some (.int .u8 0), 1, 1))
  {ops : Array Oper} {rest : List Oper} {o : Oper} {a : Act} {Q : Exit → Act → World → Prop} {w : World} (hg : o.guard = none) (s x : Operand)
  (hop : o.op = .call { callee := .builtin .append, args := #[s, x], argTypes := #[t, t] }) {g : Nat} {A : Option Addr} {n c : Nat} {l : List Nat} (hgl : g < w.heap.size) (hd : w.cell? ⟨g, 0, none⟩ = some (.int .u8 49)) (h : Rd w .u8 256 A n c l) (hn : n ≤ 1000000)
  (hs : a.eval s = .slice (some ⟨g, 0, none⟩) 1 1) (hx : a.eval x = .slice A n c)
  (hK : ∀ A' c' w', Rd w' .u8 256 A' (n + 1) c' (49 :: l) → Below w.heap.size w w' → wpListIn F n' Tryz.prog ops Q rest (a.put o.dst (.slice A' (n + 1) c')) w') : wpListIn F n' Tryz.prog ops Q (o :: rest) a w := by
 refine wpListIn_plain hg fun K hK' => ?_
 obtain ⟨A', c', w', hrun, r1, r2⟩ := run_one (ty := o.type) ht hinfo hgl hd h hn
 unfold Oper.wpIn
 refine ⟨?_, ?_⟩
 ·simp [Oper.about, hop, resolve, Target.leads, Sem.run_pure]
 ·rw [Oper.semAt_plain F _ _ (by rw [hop]; intro c hc'; cases hc')]
  simp [execOp, hop, resolve, invoke, builtin, hs, hx, hrun, Result.andThen]
  exact hK' _ _ (hK A' c' w' r1 r2)
theorem own_far {W : World} {b0 g q i n c : Nat} {e : TypeId} {k : IntKind} {l : List Nat} {u : Value} (h : Own b0 W e k (.slice (some ⟨g, 0, none⟩) n c) l) (hne : g ≠ q) : Own b0 (W.setCell ⟨q, i, none⟩ u) e k (.slice (some ⟨g, 0, none⟩) n c) l :=
 World.ownsRow.kept h (grownBy_set W q i u) (.inr fun e' => hne (by simpa [Value.ownBlock] using e'))
/-- X's digits, of which the last k are turned to noughts -/
def nextL (X k : Nat) : List Nat := (decD X).take ((decD X).length - k) ++ List.replicate k 0
theorem nextL_zero (X : Nat) : nextL X 0 = decD X := by unfold nextL; rw [Nat.sub_zero, List.take_length, List.replicate_zero, List.append_nil]
theorem nextL_len {X k : Nat} (h : k ≤ (decD X).length) : (nextL X k).length = (decD X).length := by unfold nextL; rw [List.length_append, List.length_take, List.length_replicate]; omega
theorem nextL_at {X k : Nat} (h : k < (decD X).length) : (nextL X k).getD ((decD X).length - 1 - k) 0 = (decD X).getD ((decD X).length - 1 - k) 0 := by
 unfold nextL
 rw [List.getD_eq_getElem?_getD, List.getD_eq_getElem?_getD, List.getElem?_append_left (by rw [List.length_take]; omega), List.getElem?_take, if_pos (by omega)]
theorem nextL_take {X k : Nat} (h : k < (decD X).length) : nextL X k = (decD X).take ((decD X).length - 1 - k) ++ (decD X).getD ((decD X).length - 1 - k) 0 :: List.replicate k 0 := by
 unfold nextL
 have hlt : (decD X).length - 1 - k < (decD X).length := by omega
 rw [show (decD X).length - k = (decD X).length - 1 - k + 1 by omega, List.take_succ_eq_append_getElem hlt, List.append_assoc]
 congr 1
 rw [List.getD_eq_getElem?_getD, List.getElem?_eq_getElem hlt]
 rfl
theorem set_at (a b : List Nat) (x y : Nat) (n : Nat) (h : a.length = n) : (a ++ x :: b).set n y = a ++ y :: b := by
 rw [List.set_append_right _ _ (by omega), show n - a.length = 0 by omega]
 rfl
theorem nextL_nine {X k : Nat} (h : k < (decD X).length) : (nextL X k).set ((decD X).length - 1 - k) 0 = nextL X (k + 1) := by
 rw [nextL_take h, set_at _ _ _ _ _ (by rw [List.length_take]; omega)]
 unfold nextL
 rw [show (decD X).length - (k + 1) = (decD X).length - 1 - k by omega, List.replicate_succ]
theorem nextL_stop {X k : Nat} (h : k < (decD X).length) (hn : ∀ x ∈ (decD X).drop ((decD X).length - k), x = 9) (h9 : (decD X).getD ((decD X).length - 1 - k) 0 ≠ 9) : (nextL X k).set ((decD X).length - 1 - k) ((decD X).getD ((decD X).length - 1 - k) 0 + 1) = decD (X + 1) := by
 rw [nextL_take h, set_at _ _ _ _ _ (by rw [List.length_take]; omega), next_stop k X h hn h9]
theorem asc_set (l : List Nat) (i y : Nat) : (asc l).set i (48 + y) = asc (l.set i y) := by unfold asc; rw [List.map_set]
theorem asc_getD {l : List Nat} {i : Nat} (h : i < l.length) : (asc l).getD i 0 = 48 + l.getD i 0 := by
 unfold asc
 rw [List.getD_eq_getElem?_getD, List.getD_eq_getElem?_getD, List.getElem?_map, List.getElem?_eq_getElem h]
 rfl
theorem nextL_all {X : Nat} (h : ∀ x ∈ (decD X).drop ((decD X).length - (decD X).length), x = 9) : 49 :: asc (nextL X (decD X).length) = asc (decD (X + 1)) := by
 rw [Nat.sub_self, List.drop_zero] at h
 rw [next_all X h]
 unfold nextL
 rw [Nat.sub_self, List.take_zero, List.nil_append]
 rfl
theorem dec_getD (X i : Nat) : (decD X).getD i 0 < 10 := by
 rw [List.getD_eq_getElem?_getD]
 cases h : (decD X)[i]? with
 | none => exact (by decide : 0 < 10)
 | some y => exact decD_lt X y (List.mem_of_getElem? h)
theorem lt_next (X k : Nat) : Lt 256 (asc (nextL X k)) := by
 intro x hx
 unfold asc nextL at hx
 obtain ⟨y, hy, rfl⟩ := List.mem_map.1 hx
 rcases List.mem_append.1 hy with hy | hy
 ·have := decD_lt X y (List.mem_of_mem_take hy)
  omega
 ·rw [(List.mem_replicate.1 hy).2]
  decide
theorem next_any {w : World} {b0 X : Nat} {v : Value} (hb : b0 ≤ w.heap.size) (hown : Own b0 w 5 .u8 v (asc (decD X))) (hlen : (decD X).length ≤ 10000) :
  Calls Tryz.prog 85 #[v] w (RdEnd b0 (asc (decD (X + 1))) w) := by
 obtain ⟨n, hn⟩ : ∃ n, n = (decD X).length := ⟨_, rfl⟩
 have hla : (asc (decD X)).length = n := (asc_len _).trans hn.symm
 obtain ⟨A, c, rfl, h0⟩ := hown.rd (dec_lt256 X)
 rw [hla] at h0 hown ⊢
 have hgA : n ≠ 0 → ∃ g, A = some ⟨g, 0, none⟩ ∧ b0 ≤ g ∧ g < w.heap.size := fun h1 => by
  obtain ⟨g, cap, hv, hb1, hg1, _⟩ := hown.store (j := 0) (by omega)
  injection hv with hv
  exact ⟨g, hv, hb1, hg1⟩
 rw [← hn] at hlen
 have HN := Lib.hid hn
 have HLA := Lib.hid hla
 have HOWN := Lib.hid hown
 clear hn hla hown h0
 obtain ⟨z, hz⟩ : ∃ z : Nat → Nat, ∀ j, z j = 48 + (decD X).getD j 0 := ⟨_, fun _ => rfl⟩
 have HZ : Hid (∀ j, z j = 48 + (decD X).getD j 0) := hz
 have hz10 : ∀ j, 48 ≤ z j ∧ z j ≤ 57 := fun j => by have := dec_getD X j; rw [hz]; omega
 have HZ10 : Hid (∀ j, 48 ≤ z j ∧ z j ≤ 57) := hz10
 clear hz hz10
 refine (callsIn_wide (n := 3)).1 ?_
 refine callsIn_of_wp_marks Tryz.func85 rfl trivial ?_ rfl
 simp only [Tryz.ntmps85, List.size_toArray, List.length_cons, List.length_nil, Nat.reduceAdd, Nat.reduceSub, Array.replicate_succ, Array.replicate_zero, List.push_toArray, List.append_toArray, List.nil_append, List.cons_append]
 have bX := Boxed.new w 77 (.slice A n c)
 have x0 := (bX.alloc (.cells #[.slice none 0 0] 77)).cell
 gi_wp2_with fail
 refine wpIn_scope_wide ?_
 gi_wp2_with fail
 refine wpIn_label ?_
 gi_wp2_with fail
 refine ⟨trivial, (back_u8 Fence.wide 2 trivial rfl _ _ _ _).mono ?_⟩
 rintro en w' ⟨rfl, rfl⟩
 have B2 := two_below w (.cells #[.slice A n c] 77) (.cells #[.slice none 0 0] 77)
 have bR := (Boxed.new (w.alloc (.cells #[.slice A n c] 77)) 77 (.slice none 0 0)).alloc (.cells #[.slice A n c] 77)
 have bB := Boxed.new ((w.alloc (.cells #[.slice A n c] 77)).alloc (.cells #[.slice none 0 0] 77)) 77 (.slice A n c)
 replace bX := (bX.alloc (.cells #[.slice none 0 0] 77)).alloc (.cells #[.slice A n c] 77)
 have b3 := below_alloc ((w.alloc (.cells #[.slice A n c] 77)).alloc (.cells #[.slice none 0 0] 77)) (.cells #[.slice A n c] 77)
 have BB : Below w.heap.size w _ := B2.trans (b3.mono B2.size)
 have hO := Own.below HOWN.out BB
 have sz : ((w.alloc (.cells #[.slice A n c] 77)).alloc (.cells #[.slice none 0 0] 77)).heap.size = w.heap.size + 2 := by simp
 have sz1 : (w.alloc (.cells #[.slice A n c] 77)).heap.size = w.heap.size + 1 := by simp
 have s0 : (((w.alloc (.cells #[.slice A n c] 77)).alloc (.cells #[.slice none 0 0] 77)).alloc (.cells #[.slice A n c] 77)).heap.size = w.heap.size + 3 := by simp
 rw [sz] at bB
 rw [sz1] at bR
 clear B2 b3 x0
 gi_wp2_with fail
 generalize (((w.alloc (.cells #[.slice A n c] 77)).alloc (.cells #[.slice none 0 0] 77)).alloc (.cells #[.slice A n c] 77)) = W0 at *
 have hs3 : w.heap.size + 3 ≤ W0.heap.size := by omega
 clear sz sz1 s0
 refine wpIn_rangeAs (F := Fence.wide) (n := 3) (fun t k => (((t.setIfInBounds 7 (.int .i64 ((n - 1 - k : Nat) : Int))).setIfInBounds 8 (.int .u8 (z (n - 1 - k) : Int))).setIfInBounds 3 (.int .i64 ((n - 1 - k : Nat) : Int))).setIfInBounds 4 (.int .u8 (z (n - 1 - k) : Int))) rfl (by omega) (gf := 151) (lb := #[.pointer (some ⟨w.heap.size + 2, 0, none⟩)]) rfl trivial (enters_of Tryz.func151 (by kernel_rfl) rfl)
  (backs_u8 Fence.wide 2 trivial rfl (by omega) (w.heap.size + 2) A n c z (by omega)) (fun _ => rfl)
  (fun k W => ((Boxed W w.heap.size 77 (.slice A n c) ∧ Boxed W (w.heap.size + 1) 77 (.slice none 0 0) ∧ Boxed W (w.heap.size + 2) 77 (.slice A n c)) ∧ Own b0 W 5 .u8 (.slice A n c) (asc (nextL X k)) ∧ Below b0 w W) ∧ Hid (∀ x ∈ (decD X).drop ((decD X).length - k), x = 9))
  (fun cd _ W => cd = .ret ∧ Boxed W (w.heap.size + 1) 77 (.slice A n c) ∧ Own b0 W 5 .u8 (.slice A n c) (asc (decD (X + 1))) ∧ Below b0 w W)
  (OwnFrom.and (OwnFrom.and (OwnFrom.and (Go.Own.from (boxed_keeps _ _ _) _) (OwnFrom.and (Go.Own.from (boxed_keeps _ _ _) _) (Go.Own.from (boxed_keeps _ _ _) _))) (OwnFrom.and (Go.Own.from (own_keeps b0 _ _ _ _) _) (ownFrom_below hb (Nat.le_trans hb BB.size)))) (fun _ _ _ _ hs _ _ => hs))
  (fun cd => OwnFrom.and (fun _ _ _ _ hs _ _ => hs) (OwnFrom.and (Go.Own.from (boxed_keeps _ _ _) _) (OwnFrom.and (Go.Own.from (own_keeps b0 _ _ _ _) _) (ownFrom_below hb (Nat.le_trans hb BB.size)))))
  (fun k W hi => ⟨hi.1.1.2.2.cell, fun hk => ?cells⟩)
  ⟨⟨⟨bX, bR, bB⟩, by rw [nextL_zero]; exact hO, BB.mono hb⟩, fun x hx => by rw [Nat.sub_zero, List.drop_length] at hx; cases hx⟩ ?assign ?body ?done ?stop
 case cells =>
  obtain ⟨g, rfl, _, _⟩ := hgA (by omega)
  obtain ⟨g', cap, hv, _, _, _, _, hc, _⟩ := hi.1.2.1.store (j := n - 1 - k) (by rw [asc_len, nextL_len (by rw [← HN.out]; omega), ← HN.out]; omega)
  injection hv with hv _ _
  injection hv with hv
  injection hv with hv
  subst hv
  refine ⟨g, 0, rfl, ?_⟩
  rw [Nat.zero_add, hc, asc_getD (by rw [nextL_len (by rw [← HN.out]; omega), ← HN.out]; omega), HN.out, nextL_at (by rw [← HN.out]; exact hk), HZ.out]
 case assign =>
  intro l' k W K hK
  gi_wp2
  exact hK
 case body =>
  rintro l' k W ⟨⟨⟨bx, br, bb⟩, ho, bl⟩, H9⟩ hk hs0
  obtain ⟨g, rfl, hbg, hgs⟩ := hgA (by omega)
  have hkX : k < (decD X).length := by rw [← HN.out]; exact hk
  have hjl : n - 1 - k < (asc (nextL X k)).length := by rw [asc_len, nextL_len (Nat.le_of_lt hkX), ← HN.out]; omega
  obtain ⟨g', cap, hv, _, _, _, _, hc, hf, hst⟩ := ho.store hjl
  injection hv with hv e8 e9
  clear e8 e9
  injection hv with hv
  injection hv with hv
  subst hv
  have hcz : W.cell? ⟨g, n - 1 - k, none⟩ = some (.int .u8 (z (n - 1 - k) : Int)) := by
   rw [hc, asc_getD (by rw [asc_len] at hjl; exact hjl), HN.out, nextL_at hkX, HZ.out]
  clear hc
  have HST : Hid (∀ y : Nat, Own b0 (W.setCell ⟨g, n - 1 - k, none⟩ (.int .u8 ((48 + y : Nat) : Int))) 5 .u8 (.slice (some ⟨g, 0, none⟩) n c) (asc ((nextL X k).set (n - 1 - k) y))) := fun y => by
   have := hst (48 + y)
   rw [asc_set] at this
   exact this
  clear hst hjl
  have HD : Hid (z (n - 1 - k) = 48 + (decD X).getD ((decD X).length - 1 - k) 0) := by
   show _ = _
   rw [HZ.out, HN.out]
  have HNINE := Lib.hid (nextL_nine hkX)
  rw [← HN.out] at HNINE
  have h57 := HZ10.out (n - 1 - k)
  have HE : Hid (n - 1 - k = (decD X).length - 1 - k) := by show _ = _; rw [← HN.out]
  obtain ⟨j, hj⟩ : ∃ j, j = n - 1 - k := ⟨_, rfl⟩
  rw [← hj] at hcz HST HNINE HE h57 hf HD
  dsimp only
  rw [← hj]
  have hjn : j < n := by omega
  clear hj
  obtain ⟨y, hy⟩ : ∃ y, y = z j := ⟨_, rfl⟩
  rw [← hy] at hcz h57 HD ⊢
  clear hy
  have x0 := bx.cell
  have kp := Keeps2.refl W0.heap.size W
  have hgne : ∀ u : Value, ∀ q, q ≠ g → (W.setCell ⟨g, j, none⟩ u).heap[q]? = W.heap[q]? := fun u q hq => Below.heap_setCell W _ _ _ (by simpa using hq)
  have HGNE := Lib.hid hgne
  clear hgne
  by_cases h9 : y = 57
  ·have d1 : ((y : Int) == 57) = true := by rw [h9]; rfl
   clear h57
   have H9' : Hid (∀ x ∈ (decD X).drop ((decD X).length - (k + 1)), x = 9) := nines_next hkX H9.out (by have := HD.out; omega)
   gi_wp2
   refine ⟨kp.trans (Keeps2.setCell (B := W0.heap.size) W _ _ (by show g < _; omega)), ⟨⟨(HGNE.out _ _ (by omega)).trans bx, (HGNE.out _ _ (by omega)).trans br, (HGNE.out _ _ (by omega)).trans bb⟩, ?_, bl.setCell (p := ⟨g, j, none⟩) hbg _⟩, H9'⟩
   have := HST.out 0
   rw [HNINE.out] at this
   exact this
  ·have d1 : ((y : Int) == 57) = false := beq_false_of_ne (by omega)
   have d2 : (y : Int) ≤ 56 := by omega
   have hstop := nextL_stop hkX H9.out (by have := HD.out; omega)
   have hd := HD.out
   generalize (decD X).getD ((decD X).length - 1 - k) 0 = d at hstop hd
   have HS := HST.out (d + 1)
   rw [HE.out, hstop, ← HE.out, show 48 + (d + 1) = y + 1 by omega] at HS
   clear hd
   have HSS : Hid (Own b0 (W.setCell ⟨g, j, none⟩ (.int .u8 ((y : Int) + 1))) 5 .u8 (.slice (some ⟨g, 0, none⟩) n c) (asc (decD (X + 1)))) := HS
   clear HS hstop h57 h9
   have x1 : (W.setCell ⟨g, j, none⟩ (.int .u8 ((y : Int) + 1))).cell? ⟨w.heap.size, 0, none⟩ = some (.slice (some ⟨g, 0, none⟩) n c) := Boxed.cell ((HGNE.out _ _ (by omega)).trans bx)
   have r1 : Boxed (W.setCell ⟨g, j, none⟩ (.int .u8 ((y : Int) + 1))) (w.heap.size + 1) 77 (.slice none 0 0) := (HGNE.out _ _ (by omega)).trans br
   have r1c := r1.cell
   have r1f := r1.frozen
   gi_wp2
   exact ⟨(kp.trans (Keeps2.setCell (B := W0.heap.size) W _ _ (by show g < _; omega))).trans (Keeps2.setCell (B := W0.heap.size) _ _ _ (by show w.heap.size + 1 < _; omega)), rfl, r1.set _, own_far HSS.out (by omega), (bl.setCell (p := ⟨g, j, none⟩) hbg _).setCell (p := ⟨w.heap.size + 1, 0, none⟩) (by show b0 ≤ w.heap.size + 1; omega) _⟩
 case done =>
  rintro W ⟨⟨⟨bx, br, bb⟩, ho, bl⟩, H9⟩ hsz hDf
  have kc := fun (w : World) (C : Array Value) (n c : Nat) => Lib.run_convert_bytes_const (P := Tryz.prog) w 77 5 C n c Tryz.underlying77 Tryz.underlying5
  obtain ⟨A', c', e, hr⟩ := ho.rd (lt_next X n)
  injection e with e1 e2 e3
  subst e1 e3
  rw [← e2] at hr
  clear e2
  have H9' := H9.out
  have H49 : Hid (49 :: asc (nextL X n) = asc (decD (X + 1))) := by
   show _ = _
   rw [HN.out] at H9' ⊢
   exact nextL_all H9'
  clear H9 H9' ho bb
  have b1 := below_alloc W (.cells #[.int .u8 49] 5 (1, 2))
  have x1 := (bx.belowB b1 bx.lt).cell
  have r1 := br.belowB b1 br.lt
  have hr1 := hr.below b1
  have k1 : (W.alloc (.cells #[.int .u8 49] 5 (1, 2))).cell? ⟨W.heap.size, 0, none⟩ = some (.int .u8 49) := World.cell?_alloc_mark W #[.int .u8 49] 5 (1, 2) 0
  have hgl : W.heap.size < (W.alloc (.cells #[.int .u8 49] 5 (1, 2))).heap.size := by simp
  have hD1 : (W.alloc (.cells #[.int .u8 49] 5 (1, 2))).heap[W0.heap.size]? = some (.deferred (some [])) := (b1.block _ (by omega)).trans hDf
  clear hr br
  have HN1 : n ≤ 1000000 := by omega
  gi_wp2_with (gi_at_builtin; refine law_one Tryz.underlying77 info8 rfl _ _ rfl hgl k1 hr1 HN1 rfl rfl ?_; intro A2 c2 W2 hr2 b2; rw [H49.out] at hr2; have r2 := r1.belowB b2 r1.lt; have r2c := r2.cell; have r2f := r2.frozen; clear k1 x1 kc)
  have hD2 := (b2.block _ (Array.getElem?_eq_some_iff.1 hD1).1).trans hD1
  have hD3 : (W2.setCell ⟨w.heap.size + 1, 0, none⟩ (.slice A2 (n + 1) c2)).heap[W0.heap.size]? = some (.deferred (some [])) := (Below.heap_setCell W2 _ _ _ (by simp; omega)).trans hD2
  have hr3 := hr2.kept (grownBy_set W2 (w.heap.size + 1) 0 (.slice A2 (n + 1) c2)) (fun g hg => by cases hg; exact boxed_no r2 .u8)
  have k3 := (r2.set (.slice A2 (n + 1) c2)).cell
  have kc : ((W2.setCell ⟨w.heap.size + 1, 0, none⟩ (.slice A2 (n + 1) c2)).putObj W0.heap.size (.deferred none)).cell? ⟨w.heap.size + 1, 0, none⟩ = some (.slice A2 (n + 1) c2) := cell_kept k3 (grownBy_putObj' _ W0.heap.size (.deferred none)) (fun r e => by cases e; exact ⟨_, hD3, rfl⟩)
  refine ⟨by simp, .inl ⟨_, _, rfl, run_takeDeferred hD3, ?_⟩⟩
  exact ⟨.slice A2 (n + 1) c2, by simp [results, Tryz.f85, go_sem, kc], A2, n + 1, c2, rfl, hr3.kept (grownBy_putObj' _ W0.heap.size (.deferred none)) (fun g hg => by cases hg; exact def_no hD3 .u8), (((bl.trans (b1.mono (by have := bl.size; omega))).trans (b2.mono (by have := bl.size; have := b1.size; omega))).setCell (p := ⟨w.heap.size + 1, 0, none⟩) (by show b0 ≤ w.heap.size + 1; omega) _).trans (belowK_b (w := w) hb _ W0.heap.size _ _ (by omega) hD3 rfl rfl)⟩
 case stop =>
  rintro cd k W hk ⟨rfl, br, ho, bl⟩ hsz hDf
  have k0 := br.cell
  gi_wp2
  rw [Exit.noGoto_ret]
  have kc : (W.putObj W0.heap.size (.deferred none)).cell? ⟨w.heap.size + 1, 0, none⟩ = some (.slice A n c) := cell_kept k0 (grownBy_putObj' _ W0.heap.size (.deferred none)) (fun r e => by cases e; exact ⟨_, hDf, rfl⟩)
  obtain ⟨A', c', e, hr⟩ := ho.rd (dec_lt256 (X + 1))
  injection e with e1 e2 e3
  subst e1 e3
  rw [← e2] at hr
  refine ⟨by simp, .inl ⟨_, _, rfl, run_takeDeferred hDf, ?_⟩⟩
  exact ⟨.slice A n c, by simp [results, Tryz.f85, go_sem, kc], A, n, c, rfl, hr.kept (grownBy_putObj' _ W0.heap.size (.deferred none)) (fun g hg => by cases hg; exact def_no hDf .u8), bl.trans (belowK_b (w := w) hb W W0.heap.size _ _ (by omega) hDf rfl rfl)⟩
end Go.Proofs.YtdhdebapjlcjdaaGreatDoor
