/-
 Contract of dec's written, at this translation. Conditions: the row is the caller's own; the table of powers of ten lies as its text lays it.
-/
import Derived.Test.YtdhdebapjlcjdaaGreatDoorUVc
import Derived.Deep.Onto
set_option maxHeartbeats 4000000
set_option maxRecDepth 100000
namespace Go.Proofs.YtdhdebapjlcjdaaGreatDoor
open Go Go.RowKit Go.Shelf
attribute [local go_sem] Oper.semAt_some

/-- the last k groups as one number -/
def topG (l : List Nat) (k : Nat) : Nat := val D19 (l.drop (l.length - k))
theorem topG_zero (l : List Nat) : topG l 0 = 0 := by unfold topG; rw [Nat.sub_zero, List.drop_length]; rfl
theorem topG_all (l : List Nat) : topG l l.length = val D19 l := by unfold topG; rw [Nat.sub_self]; rfl
theorem topG_next {l : List Nat} {k : Nat} (hk : k < l.length) : topG l (k + 1) = l.getD (l.length - 1 - k) 0 + D19 * topG l k := by
 unfold topG
 have e : l.length - (k + 1) = l.length - 1 - k := by omega
 have hlt : l.length - 1 - k < l.length := by omega
 rw [e, List.drop_eq_getElem_cons hlt, val_cons, show l.length - 1 - k + 1 = l.length - k by omega]
 have e2 : l.getD (l.length - 1 - k) 0 = l[l.length - 1 - k] := by rw [List.getD_eq_getElem?_getD, List.getElem?_eq_getElem hlt]; rfl
 rw [e2]
theorem topG_pos {l : List Nat} (hc : Can D19 l) : ∀ k, 0 < k → k ≤ l.length → topG l k ≠ 0
 | 1, _, h => by
  rw [topG_next (by omega), topG_zero, Nat.mul_zero, Nat.add_zero, Nat.sub_zero]
  exact hc.2 (by omega)
 | k + 2, _, h => by
  have ih := topG_pos hc (k + 1) (by omega) (by omega)
  rw [topG_next (by omega)]
  have : 1 * topG l (k + 1) ≤ D19 * topG l (k + 1) := Nat.mul_le_mul_right _ (by decide)
  omega
theorem fmt_len {g : Nat} (h : g < D19) : 1 ≤ (fmtD g).length ∧ (fmtD g).length ≤ 19 := by
 unfold fmtD
 by_cases h0 : g = 0
 ·rw [if_pos h0]
  decide
 ·rw [if_neg h0]
  refine ⟨?_, (decD_len (k := 19)).2 h⟩
  rw [decD_pos h0, List.length_append]
  exact Nat.le_add_left 1 _
theorem fmt_pad {g : Nat} (h : g < D19) : List.replicate (19 - (fmtD g).length) 0 ++ fmtD g = padD 19 g := by
 unfold fmtD
 by_cases h0 : g = 0
 ·rw [if_pos h0, h0, padD_zero]
  rfl
 ·rw [if_neg h0, padD_fill 19 g h]
theorem fmt_lt {g : Nat} : Lt 256 (asc (fmtD g)) := by
 unfold asc fmtD
 intro x hx
 obtain ⟨y, hy, rfl⟩ := List.mem_map.1 hx
 have : y < 10 := by
  by_cases h0 : g = 0
  ·rw [if_pos h0] at hy
   have := List.mem_singleton.1 hy
   omega
  ·rw [if_neg h0] at hy
   exact decD_lt g y hy
 omega
theorem dec_lt256 (V : Nat) : Lt 256 ((decD V).map (48 + ·)) := by
 intro x hx
 obtain ⟨y, hy, rfl⟩ := List.mem_map.1 hx
 have := decD_lt V y hy
 omega
theorem rep_txt (k : Nat) : (⟨(Lib.repeatL (ByteArray.mk #[48]).data.toList k).toArray⟩ : ByteArray) = txt (List.replicate k 48) := by
 have : ∀ k, Lib.repeatL [48] k = (List.replicate k 48).map UInt8.ofNat := fun k => by
  induction k with
  | zero => rfl
  | succ k ih => rw [List.replicate_succ, List.map_cons, Lib.repeatL, ih]; rfl
 unfold txt
 rw [← this]
theorem rep_lt (k : Nat) : Lt 256 (List.replicate k 48) := fun x hx => by rw [(List.mem_replicate.1 hx).2]; decide
/-- how written ends -/
def WrEnd (b0 V : Nat) (w : World) (en : Ending) (w' : World) : Prop := ∃ v, en = .returned v ∧ Own b0 w' 5 .u8 v ((decD V).map (48 + ·)) ∧ Below b0 w w'
theorem written_any {w : World} {b0 V : Nat} {v : Value} (hP : PowT w) (hb : b0 ≤ w.heap.size) (hown : Own b0 w 38 .u64 v (dig D19 V)) (hlen : (dig D19 V).length ≤ 10000) :
  Calls Tryz.prog 82 #[v] w (WrEnd b0 V w) := by
 have hC := can_dig D19_two V
 have hV := val_dig D19_two V
 obtain ⟨l, hl⟩ : ∃ l, l = dig D19 V := ⟨_, rfl⟩
 rw [← hl] at hC hV hown hlen
 clear hl
 obtain ⟨A, c, rfl, h⟩ := hown.rd hC.1
 obtain ⟨n, hn⟩ : ∃ n, n = l.length := ⟨_, rfl⟩
 rw [← hn] at h hlen ⊢
 clear hown
 have HN := Lib.hid hn
 clear hn
 have HC := Lib.hid hC
 have HV := Lib.hid hV
 clear hC hV
 obtain ⟨z, hz⟩ : ∃ z : Nat → Nat, ∀ j, z j = l.getD j 0 := ⟨_, fun _ => rfl⟩
 have HZ : Hid (∀ j, z j = l.getD j 0) := hz
 clear hz
 have HPW := Lib.hid hP
 clear hP
 refine (callsIn_wide (n := 3)).1 ?_
 refine callsIn_of_wp_marks Tryz.func82 rfl trivial ?_ rfl
 simp only [Tryz.ntmps82, List.size_toArray, List.length_cons, List.length_nil, Nat.reduceAdd, Nat.reduceSub, Array.replicate_succ, Array.replicate_zero, List.push_toArray, List.append_toArray, List.nil_append, List.cons_append]
 have bX := Boxed.new w 23 (.slice A n c)
 have x0 := (bX.alloc (.cells #[.slice none 0 0] 77)).cell
 gi_wp2_with fail
 refine wpIn_scope_wide ?_
 gi_wp2_with fail
 refine wpIn_label ?_
 gi_wp2_with fail
 refine ⟨trivial, (back_u64 Fence.wide 2 trivial rfl _ _ _ _).mono ?_⟩
 rintro en w' ⟨rfl, rfl⟩
 have B2 := two_below w (.cells #[.slice A n c] 23) (.cells #[.slice none 0 0] 77)
 have bS := (Boxed.new (w.alloc (.cells #[.slice A n c] 23)) 77 (.slice none 0 0)).alloc (.cells #[.slice A n c] 23)
 have bB := Boxed.new ((w.alloc (.cells #[.slice A n c] 23)).alloc (.cells #[.slice none 0 0] 77)) 23 (.slice A n c)
 replace bX := (bX.alloc (.cells #[.slice none 0 0] 77)).alloc (.cells #[.slice A n c] 23)
 have b3 := below_alloc ((w.alloc (.cells #[.slice A n c] 23)).alloc (.cells #[.slice none 0 0] 77)) (.cells #[.slice A n c] 23)
 have BB : Below w.heap.size w _ := B2.trans (b3.mono B2.size)
 have sz : ((w.alloc (.cells #[.slice A n c] 23)).alloc (.cells #[.slice none 0 0] 77)).heap.size = w.heap.size + 2 := by simp
 have sz1 : (w.alloc (.cells #[.slice A n c] 23)).heap.size = w.heap.size + 1 := by simp
 have s0 : (((w.alloc (.cells #[.slice A n c] 23)).alloc (.cells #[.slice none 0 0] 77)).alloc (.cells #[.slice A n c] 23)).heap.size = w.heap.size + 3 := by simp
 rw [sz] at bB
 rw [sz1] at bS
 clear B2 b3 x0
 gi_wp2_with fail
 generalize (((w.alloc (.cells #[.slice A n c] 23)).alloc (.cells #[.slice none 0 0] 77)).alloc (.cells #[.slice A n c] 23)) = W0 at *
 clear sz sz1
 have hlen2 := h.len
 refine wpIn_rangeAs (F := Fence.wide) (n := 3) (fun t k => (((t.setIfInBounds 9 (.int .i64 ((n - 1 - k : Nat) : Int))).setIfInBounds 10 (.int .u64 (z (n - 1 - k) : Int))).setIfInBounds 4 (.int .i64 ((n - 1 - k : Nat) : Int))).setIfInBounds 5 (.int .u64 (z (n - 1 - k) : Int))) rfl (by omega) (gf := 117) (lb := #[.pointer (some ⟨w.heap.size + 2, 0, none⟩)]) rfl trivial (enters_of Tryz.func117 (by kernel_rfl) rfl)
  (backs_u64 Fence.wide 2 trivial rfl (by omega) (w.heap.size + 2) A n c z (by omega)) (fun _ => rfl)
  (fun k W => (∃ v, Boxed W (w.heap.size + 1) 77 v ∧ Own (W0.heap.size + 2) W 5 .u8 v (asc (decD (topG l k))) ∧ (asc (decD (topG l k))).length ≤ 19 * k) ∧ (Boxed W (w.heap.size + 2) 23 (.slice A n c) ∧ Boxed W w.heap.size 23 (.slice A n c)) ∧ Below w.heap.size w W)
  (fun _ _ _ => False)
  (OwnFrom.and (Go.Own.from (holdsRow_own (W0.heap.size + 2) (w.heap.size + 1) 77 5 1 (fun k => (asc (decD (topG l k))).length) (fun k => iv .u8 (asc (decD (topG l k)))) (fun k _ => (asc (decD (topG l k))).length ≤ 19 * k)) _) (OwnFrom.and (OwnFrom.and (Go.Own.from (boxed_keeps _ _ _) _) (Go.Own.from (boxed_keeps _ _ _) _)) (ownFrom_below (Nat.le_refl _) BB.size)))
  (fun _ _ _ _ _ hs _ _ => hs)
  (fun k W hi => ⟨hi.2.1.1.cell, fun hk => ?cells⟩)
  ⟨⟨.slice none 0 0, bS, by rw [topG_zero, decD_zero]; exact Own.nil _ _ _ _, by rw [topG_zero, decD_zero]; exact Nat.zero_le _⟩, ⟨bB, bX⟩, BB⟩ ?assign ?body ?done ?stop
 case cells =>
  obtain ⟨b, o, e1, _, hc⟩ := (h.below hi.2.2).at_ (by omega)
  exact ⟨b, o, e1, by rw [HZ.out]; exact hc _ (by omega)⟩
 case assign =>
  intro l' k W K hK
  gi_wp2
  exact hK
 case body =>
  rintro l' k W ⟨⟨v, bv0, ho0, hl0⟩, ⟨bb0, bx0⟩, bl0⟩ hk hs0
  have hx : z (n - 1 - k) < D19 := by rw [HZ.out]; exact h.lt.getD (by decide) _
  have hG := topG_next (l := l) (k := k) (by omega)
  have hn0 := topG_pos HC.out k
  have hn1 := topG_pos HC.out (k + 1) (by omega) (by omega)
  rw [hlen2, ← HZ.out] at hG
  dsimp only
  obtain ⟨j, hj⟩ : ∃ j, j = n - 1 - k := ⟨_, rfl⟩
  rw [← hj] at hx hG ⊢
  have HJ := Lib.hid hj
  clear hj
  generalize z j = x at *
  have hx64 : x < 18446744073709551616 := by rw [D19_lit] at hx; omega
  have HDL := Lib.hid (fmt_lt (g := x))
  obtain ⟨hm1, hm2⟩ := fmt_len hx
  have hpad := fmt_pad hx
  have hm : (asc (fmtD x)).length = (fmtD x).length := asc_len _
  obtain ⟨P0, hP0⟩ : ∃ P0, P0 = asc (decD (topG l k)) := ⟨_, rfl⟩
  have HP1 : k ≠ 0 → P0 ++ List.replicate (19 - (fmtD x).length) 48 ++ asc (fmtD x) = asc (decD (topG l (k + 1))) := fun h0 => by
   rw [hG, decD_group hx (hn0 (by omega) (by omega)), asc_append, ← hpad, asc_append, asc_zeros, hP0, List.append_assoc]
  have HP0 : k = 0 → P0 ++ asc (fmtD x) = asc (decD (topG l (k + 1))) := fun h0 => by
   subst h0
   rw [topG_zero, Nat.mul_zero, Nat.add_zero] at hG
   rw [hP0, topG_zero, decD_zero, hG]
   unfold fmtD
   rw [if_neg (by rw [hG] at hn1; exact hn1)]
   rfl
  rw [← hP0] at ho0 hl0
  have hT0 : Lt 256 P0 := by rw [hP0]; exact dec_lt256 _
  clear hG hn0 hn1 hpad hP0
  obtain ⟨D, hD⟩ : ∃ D, D = asc (fmtD x) := ⟨_, rfl⟩
  have HDD := Lib.hid hD
  rw [← hD] at HDL hm HP1 HP0
  rw [← hm] at hm1 hm2 HP1
  clear hD hm
  obtain ⟨m, hmm⟩ : ∃ m, m = D.length := ⟨_, rfl⟩
  rw [← hmm] at hm1 hm2 HP1
  have hsD : (txt D).size = m := by rw [txt_size, hmm]
  have HM := Lib.hid hmm
  clear hmm
  have hlt1 : w.heap.size + 1 < W0.heap.size + 2 := by omega
  have hlt2 : w.heap.size + 2 < W0.heap.size + 2 := by omega
  have hlt3 : w.heap.size < W0.heap.size + 2 := by omega
  have kp0 := Keeps2.refl W0.heap.size W
  gi_wp2_with fail
  refine ⟨trivial, (CallsIn.inRound l' (callsIn_wide.2 (fmtu_any (u := x) hx64 (HPW.out.below bl0)))).mono ?_⟩
  rintro en W1 ⟨rfl, b1'⟩
  rw [← HDD.out]
  have b1 : Below (W0.heap.size + 2) W W1 := b1'.mono hs0
  have ho1 := Own.below ho0 b1'
  clear b1' ho0
  have bv1 := bv0.belowB b1 hlt1
  have bb1 := bb0.belowB b1 hlt2
  have bx1 := bx0.belowB b1 hlt3
  have bl1 := bl0.trans (b1.mono (by omega))
  have kp1 := kp0.trans (Keeps2.below b1)
  have hs1 : W0.heap.size + 2 ≤ W1.heap.size := Nat.le_trans hs0 b1.size
  clear bv0 bb0 bx0 bl0 kp0 b1
  have x1 := bx1.cell
  have k1 := bv1.cell
  have f1 := bv1.frozen
  clear hx64
  by_cases hk0 : k = 0
  ·have HPP := Lib.hid (HP0 hk0)
   have HLL : Hid ((asc (decD (topG l (k + 1)))).length ≤ 19 * (k + 1)) := by rw [← HP0 hk0, List.length_append, ← HM.out]; show _ ≤ _; omega
   have HL5 : Hid (P0.length + D.length ≤ 1000000) := by rw [← HM.out]; show _ ≤ _; omega
   have HZ5 : Hid (Lt 256 (asc (decD (topG l (k + 1))))) := dec_lt256 _
   have d1 : ((j : Int) == (n : Int) - 1) = true := by
    have := HJ.out
    have : (j : Int) = (n : Int) - 1 := by omega
    rw [this]
    exact beq_self_eq_true _
   clear HP0 HP1 hl0 hT0 hsD hm1 hm2 hx hk0
   gi_wp2_with (gi_at_builtin; refine law_txtIn Tryz.underlying77 Tryz.underlying9 info8 rfl _ _ rfl ho1 HDL.out HL5.out hs1 rfl rfl ?_; intro v5 W5 ho5 b5; rw [HPP.out] at ho5; obtain ⟨A5, c5, rfl, -⟩ := ho5.rd HZ5.out; have bv5 := bv1.belowB b5 hlt1; have k5 := bv5.cell; have f5 := bv5.frozen; clear k1 f1 x1)
   have bb5 := bb1.belowB b5 hlt2
   have bx5 := bx1.belowB b5 hlt3
   have bl5 := bl1.trans (b5.mono (by omega))
   have kp5 := kp1.trans (Keeps2.below b5)
   exact ⟨kp5.trans (Keeps2.setCell (B := W0.heap.size) W5 _ _ (by show w.heap.size + 1 < _; omega)), ⟨_, bv5.set _, ho5.setOther (g := w.heap.size + 1) (by omega) 0 _, HLL.out⟩, ⟨(Below.heap_setCell W5 _ _ _ (by simp)).trans bb5, (Below.heap_setCell W5 _ _ _ (by simp)).trans bx5⟩, bl5.setCell (p := ⟨w.heap.size + 1, 0, none⟩) (by simp) _⟩
  ·obtain ⟨r, hr⟩ : ∃ r, r = 19 - m := ⟨_, rfl⟩
   have HP1' := HP1 hk0
   rw [← hr] at HP1'
   have HPP := Lib.hid HP1'
   have HLL : Hid ((asc (decD (topG l (k + 1)))).length ≤ 19 * (k + 1)) := by rw [← HP1', List.length_append, List.length_append, List.length_replicate, ← HM.out]; show _ ≤ _; omega
   have HL4 : Hid ((P0 ++ List.replicate r 48).length + D.length ≤ 1000000) := by rw [← HM.out, List.length_append, List.length_replicate]; show _ ≤ _; omega
   have HZ3 : Hid (Lt 256 (P0 ++ List.replicate r 48)) := hT0.append (rep_lt r)
   have HZ5 : Hid (Lt 256 (asc (decD (topG l (k + 1))))) := dec_lt256 _
   obtain ⟨R3, hR3⟩ : ∃ R3, R3 = P0 ++ List.replicate r 48 := ⟨_, rfl⟩
   rw [← hR3] at HPP HL4 HZ3
   have HR3 := Lib.hid hR3
   clear hR3
   have d1 : ((j : Int) == (n : Int) - 1) = false := by
    have := HJ.out
    have : (j : Int) ≠ (n : Int) - 1 := by omega
    exact beq_false_of_ne this
   have hr1 : IntKind.i64.wrap (19 - (m : Int)) = (r : Int) := by rw [IntWalk.i64_in _ (by omega)]; omega
   have hr2 : r ≤ 19 := by omega
   have hl1 : P0.length + r ≤ 1000000 := by omega
   clear HP0 HP1 HP1' hl0 hT0 hm1 hm2 hx hr hk0
   gi_wp2_with fail
   clear x1
   refine round_region_held (S := fun _ => True) (by kernel_rfl) ?hO (by kernel_rfl) trivial (fun _ => ?_)
   case hO =>
    intro _ _ h
    exact h.2.elim
   have hs1d : W0.heap.size + 2 ≤ W1.drew.heap.size := hs1
   have ho1d : Own (W0.heap.size + 2) W1.drew 5 .u8 v P0 := ho1
   have bv1d : Boxed W1.drew (w.heap.size + 1) 77 v := bv1
   have bb1d : Boxed W1.drew (w.heap.size + 2) 23 (.slice A n c) := bb1
   have bx1d : Boxed W1.drew w.heap.size 23 (.slice A n c) := bx1
   have bl1d : Below w.heap.size w W1.drew := below_drewN bl1 1
   have kp1d : Keeps2 W0.heap.size W W1.drew := kp1
   clear hs1 ho1 bv1 bb1 bx1 bl1 kp1 k1 f1
   generalize World.drew W1 = wd at *
   have k1 := bv1d.cell
   refine wpAnyH_take (i := 1) (v := ?vv1) rfl (by kernel_rfl) (by kernel_rfl) (by kernel_rfl) (fun _ _ _ h => h) (Or.inl ⟨by rfl, ?vy1⟩) trivial ?_
   case vy1 => (intro w hSw; (try dsimp only at hSw); go_simp); try with_reducible rfl
   change wpAnyH _ _ _ _ _ _ _ (Act.put _ (some 22) _) _
   simp only [Act.put, List.setIfInBounds_toArray, List.set_cons_zero, List.set_cons_succ]
   refine wpAnyH_take (i := 2) (v := ?vv2) rfl (by kernel_rfl) (by kernel_rfl) (by kernel_rfl) (fun _ _ _ h => h) (Or.inl ⟨by rfl, ?vy2⟩) trivial ?_
   case vy2 => (intro w hSw; (try dsimp only at hSw); go_simp); try with_reducible rfl
   change wpAnyH _ _ _ _ _ _ _ (Act.put _ (some 23) _) _
   simp only [Act.put, List.setIfInBounds_toArray, List.set_cons_zero, List.set_cons_succ]
   refine wpAnyH_take (i := 3) (v := ?vv3) rfl (by kernel_rfl) (by kernel_rfl) (by kernel_rfl) (fun _ _ _ h => h) (Or.inl ⟨by rfl, ?vy3⟩) trivial ?_
   case vy3 => (intro w hSw; (try dsimp only at hSw); go_simp); try with_reducible rfl
   change wpAnyH _ _ _ _ _ _ _ (Act.put _ (some 24) _) _
   simp only [Act.put, List.setIfInBounds_toArray, List.set_cons_zero, List.set_cons_succ]
   refine wpAnyH_ready (rs := [0, 4]) (by kernel_rfl) (by simp) ?_
   refine AllReadyH.cons (o := _) rfl (fun K hK => ?_) (AllReadyH.cons (o := _) rfl (fun K hK => ?_) AllReadyH.nil)
   ·go_simp
    refine hK.out _ _ trivial (fun _ => ?_)
    clear hK K
    try simp only [Act.put, List.setIfInBounds_toArray, List.set_cons_zero, List.set_cons_succ]
    clear k1
    refine rdy 4 fun K hK => ?_
    go_simp
    refine (Tryz.strings_Repeat ⟨#[48]⟩ r _ (by omega) (by show 1 * r ≤ _; omega)).mono ?_
    rintro en W2 ⟨rfl, b2'⟩
    rw [rep_txt]
    have b2 : Below (W0.heap.size + 2) wd W2 := b2'.mono hs1d
    have ho2 := Own.below ho1d b2'
    clear b2' ho1d
    have bv2 := bv1d.belowB b2 hlt1
    have bb2 := bb1d.belowB b2 hlt2
    have bx2 := bx1d.belowB b2 hlt3
    have bl2 := bl1d.trans (b2.mono (by omega))
    have kp2 := kp1d.trans (Keeps2.below b2)
    have hs2 : W0.heap.size + 2 ≤ W2.heap.size := Nat.le_trans hs1d b2.size
    clear bv1d bb1d bx1d bl1d kp1d b2
    refine hK.out _ _ trivial (fun _ => ?_)
    clear hK K
    try simp only [Act.put, List.setIfInBounds_toArray, List.set_cons_zero, List.set_cons_succ]
    refine rdy 5 fun K hK => ?_
    refine held_txt Tryz.underlying77 Tryz.underlying9 info8 rfl _ _ rfl ho2 (rep_lt r) (by rw [List.length_replicate]; omega) hs2 rfl rfl ?_
    intro v3 W3 ho3 b3
    rw [← HR3.out] at ho3
    have bv3 := bv2.belowB b3 hlt1
    have bb3 := bb2.belowB b3 hlt2
    have bx3 := bx2.belowB b3 hlt3
    have bl3 := bl2.trans (b3.mono (by omega))
    have kp3 := kp2.trans (Keeps2.below b3)
    have hs3 : W0.heap.size + 2 ≤ W3.heap.size := Nat.le_trans hs2 b3.size
    clear bv2 bb2 bx2 bl2 kp2 b3
    obtain ⟨A3, c3, rfl, -⟩ := ho3.rd HZ3.out
    have k3 := bv3.cell
    have f3 := bv3.frozen
    refine hK.out _ _ trivial (fun _ => ?_)
    clear hK K
    try simp only [Act.put, List.setIfInBounds_toArray]
    refine rdy 6 fun K hK => ?_
    go_simp
    refine hK.out _ _ trivial (fun _ => ?_)
    clear hK K
    try simp only [Act.put, List.setIfInBounds_toArray, List.set_cons_zero, List.set_cons_succ]
    refine wpAnyH_done (by kernel_rfl) ?_ _
    clear k3 f3
    have ho4 := ho3.setOther (g := w.heap.size + 1) (by omega) 0 (.slice A3 R3.length c3)
    have bv4 := bv3.set (.slice A3 R3.length c3)
    have b4 : ∀ g, g ≠ w.heap.size + 1 → (W3.setCell ⟨w.heap.size + 1, 0, none⟩ (.slice A3 R3.length c3)).heap[g]? = W3.heap[g]? := fun g hg => Below.heap_setCell W3 _ _ _ (by simpa using hg)
    have bb4 : Boxed (W3.setCell ⟨w.heap.size + 1, 0, none⟩ (.slice A3 R3.length c3)) (w.heap.size + 2) 23 (.slice A n c) := (b4 _ (by omega)).trans bb3
    have bx4 : Boxed (W3.setCell ⟨w.heap.size + 1, 0, none⟩ (.slice A3 R3.length c3)) w.heap.size 23 (.slice A n c) := (b4 _ (by omega)).trans bx3
    have kp4 := kp3.trans (Keeps2.setCell (B := W0.heap.size) W3 ⟨w.heap.size + 1, 0, none⟩ (.slice A3 R3.length c3) (by show w.heap.size + 1 < _; omega))
    have bl4 := bl3.setCell (p := ⟨w.heap.size + 1, 0, none⟩) (by simp) (.slice A3 R3.length c3)
    have hs4 : W0.heap.size + 2 ≤ (W3.setCell ⟨w.heap.size + 1, 0, none⟩ (.slice A3 R3.length c3)).heap.size := by simp; exact hs3
    generalize W3.setCell ⟨w.heap.size + 1, 0, none⟩ (.slice A3 R3.length c3) = W4 at *
    clear b4 bv3 bb3 bx3 kp3 bl3 ho3 hs3
    have k4 := bv4.cell
    gi_wp2_with (gi_at_builtin; refine law_txtIn Tryz.underlying77 Tryz.underlying9 info8 rfl _ _ rfl ho4 HDL.out HL4.out hs4 rfl rfl ?_; intro v5 W5 ho5 b5; rw [HPP.out] at ho5; obtain ⟨A5, c5, rfl, -⟩ := ho5.rd HZ5.out; have bv5 := bv4.belowB b5 hlt1; have k5 := bv5.cell; have f5 := bv5.frozen; clear k4)
    have bb5 := bb4.belowB b5 hlt2
    have bx5 := bx4.belowB b5 hlt3
    have bl5 := bl4.trans (b5.mono (by omega))
    have kp5 := kp4.trans (Keeps2.below b5)
    exact ⟨kp5.trans (Keeps2.setCell (B := W0.heap.size) W5 _ _ (by show w.heap.size + 1 < _; omega)), ⟨_, bv5.set _, ho5.setOther (g := w.heap.size + 1) (by omega) 0 _, HLL.out⟩, ⟨(Below.heap_setCell W5 _ _ _ (by simp)).trans bb5, (Below.heap_setCell W5 _ _ _ (by simp)).trans bx5⟩, bl5.setCell (p := ⟨w.heap.size + 1, 0, none⟩) (by simp) _⟩
   ·go_simp
    refine (Tryz.strings_Repeat ⟨#[48]⟩ r _ (by omega) (by show 1 * r ≤ _; omega)).mono ?_
    rintro en W2 ⟨rfl, b2'⟩
    rw [rep_txt]
    have b2 : Below (W0.heap.size + 2) wd W2 := b2'.mono hs1d
    have ho2 := Own.below ho1d b2'
    clear b2' ho1d
    have bv2 := bv1d.belowB b2 hlt1
    have bb2 := bb1d.belowB b2 hlt2
    have bx2 := bx1d.belowB b2 hlt3
    have bl2 := bl1d.trans (b2.mono (by omega))
    have kp2 := kp1d.trans (Keeps2.below b2)
    have hs2 : W0.heap.size + 2 ≤ W2.heap.size := Nat.le_trans hs1d b2.size
    clear bv1d bb1d bx1d bl1d kp1d b2
    refine hK.out _ _ trivial (fun _ => ?_)
    clear hK K
    try simp only [Act.put, List.setIfInBounds_toArray, List.set_cons_zero, List.set_cons_succ]
    have k2 := bv2.cell
    refine rdy 0 fun K hK => ?_
    go_simp
    refine hK.out _ _ trivial (fun _ => ?_)
    clear hK K
    try simp only [Act.put, List.setIfInBounds_toArray, List.set_cons_zero, List.set_cons_succ]
    clear k1 k2
    refine rdy 5 fun K hK => ?_
    refine held_txt Tryz.underlying77 Tryz.underlying9 info8 rfl _ _ rfl ho2 (rep_lt r) (by rw [List.length_replicate]; omega) hs2 rfl rfl ?_
    intro v3 W3 ho3 b3
    rw [← HR3.out] at ho3
    have bv3 := bv2.belowB b3 hlt1
    have bb3 := bb2.belowB b3 hlt2
    have bx3 := bx2.belowB b3 hlt3
    have bl3 := bl2.trans (b3.mono (by omega))
    have kp3 := kp2.trans (Keeps2.below b3)
    have hs3 : W0.heap.size + 2 ≤ W3.heap.size := Nat.le_trans hs2 b3.size
    clear bv2 bb2 bx2 bl2 kp2 b3
    obtain ⟨A3, c3, rfl, -⟩ := ho3.rd HZ3.out
    have k3 := bv3.cell
    have f3 := bv3.frozen
    refine hK.out _ _ trivial (fun _ => ?_)
    clear hK K
    try simp only [Act.put, List.setIfInBounds_toArray]
    refine rdy 6 fun K hK => ?_
    go_simp
    refine hK.out _ _ trivial (fun _ => ?_)
    clear hK K
    try simp only [Act.put, List.setIfInBounds_toArray, List.set_cons_zero, List.set_cons_succ]
    refine wpAnyH_done (by kernel_rfl) ?_ _
    clear k3 f3
    have ho4 := ho3.setOther (g := w.heap.size + 1) (by omega) 0 (.slice A3 R3.length c3)
    have bv4 := bv3.set (.slice A3 R3.length c3)
    have b4 : ∀ g, g ≠ w.heap.size + 1 → (W3.setCell ⟨w.heap.size + 1, 0, none⟩ (.slice A3 R3.length c3)).heap[g]? = W3.heap[g]? := fun g hg => Below.heap_setCell W3 _ _ _ (by simpa using hg)
    have bb4 : Boxed (W3.setCell ⟨w.heap.size + 1, 0, none⟩ (.slice A3 R3.length c3)) (w.heap.size + 2) 23 (.slice A n c) := (b4 _ (by omega)).trans bb3
    have bx4 : Boxed (W3.setCell ⟨w.heap.size + 1, 0, none⟩ (.slice A3 R3.length c3)) w.heap.size 23 (.slice A n c) := (b4 _ (by omega)).trans bx3
    have kp4 := kp3.trans (Keeps2.setCell (B := W0.heap.size) W3 ⟨w.heap.size + 1, 0, none⟩ (.slice A3 R3.length c3) (by show w.heap.size + 1 < _; omega))
    have bl4 := bl3.setCell (p := ⟨w.heap.size + 1, 0, none⟩) (by simp) (.slice A3 R3.length c3)
    have hs4 : W0.heap.size + 2 ≤ (W3.setCell ⟨w.heap.size + 1, 0, none⟩ (.slice A3 R3.length c3)).heap.size := by simp; exact hs3
    generalize W3.setCell ⟨w.heap.size + 1, 0, none⟩ (.slice A3 R3.length c3) = W4 at *
    clear b4 bv3 bb3 bx3 kp3 bl3 ho3 hs3
    have k4 := bv4.cell
    gi_wp2_with (gi_at_builtin; refine law_txtIn Tryz.underlying77 Tryz.underlying9 info8 rfl _ _ rfl ho4 HDL.out HL4.out hs4 rfl rfl ?_; intro v5 W5 ho5 b5; rw [HPP.out] at ho5; obtain ⟨A5, c5, rfl, -⟩ := ho5.rd HZ5.out; have bv5 := bv4.belowB b5 hlt1; have k5 := bv5.cell; have f5 := bv5.frozen; clear k4)
    have bb5 := bb4.belowB b5 hlt2
    have bx5 := bx4.belowB b5 hlt3
    have bl5 := bl4.trans (b5.mono (by omega))
    have kp5 := kp4.trans (Keeps2.below b5)
    exact ⟨kp5.trans (Keeps2.setCell (B := W0.heap.size) W5 _ _ (by show w.heap.size + 1 < _; omega)), ⟨_, bv5.set _, ho5.setOther (g := w.heap.size + 1) (by omega) 0 _, HLL.out⟩, ⟨(Below.heap_setCell W5 _ _ _ (by simp)).trans bb5, (Below.heap_setCell W5 _ _ _ (by simp)).trans bx5⟩, bl5.setCell (p := ⟨w.heap.size + 1, 0, none⟩) (by simp) _⟩
 case done =>
  rintro W ⟨⟨v, bv, ho, hl4⟩, ⟨bb, bx⟩, bl⟩ hsz hDf
  rw [show topG l n = V by rw [← hlen2, topG_all, HV.out]] at ho
  have k0 := bv.cell
  gi_wp2
  refine ⟨by simp, .inl ⟨_, _, rfl, run_takeDeferred hDf, ?_⟩⟩
  exact ⟨v, by simp [results, Tryz.f82, go_sem], v, rfl, World.ownsRow.mono (ownsRow_putObj ho _ hDf rfl) (by omega), (bl.mono hb).trans (belowK_b (w := w) hb W W0.heap.size _ _ (by omega) hDf rfl rfl)⟩
 case stop =>
  rintro c k W _ h _ _
  exact h.elim
end Go.Proofs.YtdhdebapjlcjdaaGreatDoor
