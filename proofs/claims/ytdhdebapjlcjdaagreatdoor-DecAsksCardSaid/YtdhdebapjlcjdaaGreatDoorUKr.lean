/-
 Contract of dec's expanded, at this translation. Conditions: the slice reads as limbs; the table of powers of ten lies as its text lays it.
-/
import Derived.Test.YtdhdebapjlcjdaaGreatDoorUKu
import Derived.Lib.EndianBits
set_option maxHeartbeats 4000000
set_option maxRecDepth 100000
namespace Go.Proofs.YtdhdebapjlcjdaaGreatDoor
open Go Go.RowKit Go.Shelf
attribute [local go_sem] Oper.semAt_some

/-- the value of the last k limbs -/
def topV (l : List Nat) (k : Nat) : Nat := val W (l.drop (l.length - k))
theorem topV_zero (l : List Nat) : topV l 0 = 0 := by unfold topV; rw [Nat.sub_zero, List.drop_length]; rfl
theorem topV_all (l : List Nat) : topV l l.length = val W l := by unfold topV; rw [Nat.sub_self]; rfl
theorem topV_next {l : List Nat} {k : Nat} (hk : k < l.length) : topV l (k + 1) = (topV l k * 4294967296 + l.getD (l.length - 1 - k) 0 / 4294967296) * 4294967296 + l.getD (l.length - 1 - k) 0 % 4294967296 := by
 unfold topV
 have e : l.length - (k + 1) = l.length - 1 - k := by omega
 have hlt : l.length - 1 - k < l.length := by omega
 rw [e, List.drop_eq_getElem_cons hlt, val_cons, show l.length - 1 - k + 1 = l.length - k by omega]
 have e2 : l.getD (l.length - 1 - k) 0 = l[l.length - 1 - k] := by rw [List.getD_eq_getElem?_getD, List.getElem?_eq_getElem hlt]; rfl
 rw [e2, W_eq]
 generalize l[l.length - 1 - k] = x
 generalize val 18446744073709551616 (List.drop (l.length - k) l) = V
 omega
theorem expanded_any {w : World} {A : Option Addr} {n c : Nat} {l : List Nat} {s : Bool} {e : Int} (h : Rd w .u64 Go.Proofs.YtdhdebapjlcjdaaGreatDoor.W A n c l) (hn : n ≤ 64) (he1 : -2000 ≤ e) (he2 : e ≤ 2000) (hP : PowT w) :
  Calls Tryz.prog 39 #[.agg #[.bool s, .slice A n c, .int .i64 e]] w fun en w' => ∃ v, en = .returned (.tuple #[v, .int .i64 (if 0 ≤ e then 0 else -e)]) ∧ Own w.heap.size w' 5 .u8 v ((decD (if 0 ≤ e then val W l * 2 ^ e.toNat else val W l * 5 ^ (-e).toNat)).map (48 + ·)) ∧ Below w.heap.size w w' := by
 obtain ⟨a0, a1, a2⟩ := ((Box.new w s A n c e).alloc (.cells #[.slice none 0 0] 23)).held
 have bR := Boxed.new (w.alloc (.cells #[.bool s, .slice A n c, .int .i64 e] 25)) 23 (.slice none 0 0)
 obtain ⟨z, hz⟩ : ∃ z : Nat → Nat, ∀ j, z j = l.getD j 0 := ⟨_, fun _ => rfl⟩
 have HZ : Hid (∀ j, z j = l.getD j 0) := hz
 clear hz
 have HPW := Lib.hid hP
 clear hP
 refine (callsIn_wide (n := 3)).1 ?_
 refine callsIn_of_wp_marks Tryz.func39 rfl trivial ?_ rfl
 simp only [Tryz.ntmps39, List.size_toArray, List.length_cons, List.length_nil, Nat.reduceAdd, Nat.reduceSub, Array.replicate_succ, Array.replicate_zero, List.push_toArray, List.append_toArray, List.nil_append, List.cons_append]
 gi_wp2_with fail
 refine ⟨trivial, (back_u64 Fence.wide 2 trivial rfl _ _ _ _).mono ?_⟩
 rintro en w' ⟨rfl, rfl⟩
 have B2 := two_below w (.cells #[.bool s, .slice A n c, .int .i64 e] 25) (.cells #[.slice none 0 0] 23)
 have bB := Boxed.new ((w.alloc (.cells #[.bool s, .slice A n c, .int .i64 e] 25)).alloc (.cells #[.slice none 0 0] 23)) 23 (.slice A n c)
 replace bR := bR.alloc (.cells #[.slice A n c] 23)
 have b3 := below_alloc ((w.alloc (.cells #[.bool s, .slice A n c, .int .i64 e] 25)).alloc (.cells #[.slice none 0 0] 23)) (.cells #[.slice A n c] 23)
 have BB : Below w.heap.size w _ := B2.trans (b3.mono B2.size)
 clear a0 a1 a2
 have xa := ((Box.new w s A n c e).alloc (.cells #[.slice none 0 0] 23)).alloc (.cells #[.slice A n c] 23)
 obtain ⟨a0, a1, a2⟩ := xa.held
 have sz : ((w.alloc (.cells #[.bool s, .slice A n c, .int .i64 e] 25)).alloc (.cells #[.slice none 0 0] 23)).heap.size = w.heap.size + 2 := by simp
 have sz1 : (w.alloc (.cells #[.bool s, .slice A n c, .int .i64 e] 25)).heap.size = w.heap.size + 1 := by simp
 rw [sz] at bB
 rw [sz1] at bR
 clear B2 b3
 gi_wp2_with fail
 have s0 : (((w.alloc (.cells #[.bool s, .slice A n c, .int .i64 e] 25)).alloc (.cells #[.slice none 0 0] 23)).alloc (.cells #[.slice A n c] 23)).heap.size = w.heap.size + 3 := by simp
 generalize (((w.alloc (.cells #[.bool s, .slice A n c, .int .i64 e] 25)).alloc (.cells #[.slice none 0 0] 23)).alloc (.cells #[.slice A n c] 23)) = W0 at *
 clear sz sz1 a0 a1 a2
 have hlen := h.len
 refine wpIn_rangeAs (F := Fence.wide) (n := 3) (fun t k => ((t.setIfInBounds 10 (.int .i64 ((n - 1 - k : Nat) : Int))).setIfInBounds 11 (.int .u64 (z (n - 1 - k) : Int))).setIfInBounds 6 (.int .u64 (z (n - 1 - k) : Int))) rfl (by omega) (gf := 117) (lb := #[.pointer (some ⟨w.heap.size + 2, 0, none⟩)]) rfl trivial (enters_of Tryz.func117 (by kernel_rfl) rfl)
  (backs_u64 Fence.wide 2 trivial rfl (by omega) (w.heap.size + 2) A n c z (by omega)) (fun _ => rfl)
  (fun k W => (∃ v, Boxed W (w.heap.size + 1) 23 v ∧ Own (W0.heap.size + 2) W 38 .u64 v (dig D19 (topV l k)) ∧ (dig D19 (topV l k)).length ≤ 4 * k) ∧ (Boxed W (w.heap.size + 2) 23 (.slice A n c) ∧ Box W w.heap.size s A n c e) ∧ Below w.heap.size w W)
  (fun _ _ _ => False)
  (OwnFrom.and (Go.Own.from (holdsRow_own (W0.heap.size + 2) (w.heap.size + 1) 23 38 1 (fun k => (dig D19 (topV l k)).length) (fun k => iv .u64 (dig D19 (topV l k))) (fun k _ => (dig D19 (topV l k)).length ≤ 4 * k)) _) (OwnFrom.and (OwnFrom.and (Go.Own.from (boxed_keeps _ _ _) _) (Go.Own.from (box_keeps _ _ _ _ _ _) _)) (ownFrom_below (Nat.le_refl _) BB.size)))
  (fun _ _ _ _ _ hs _ _ => hs)
  (fun k W hi => ⟨hi.2.1.1.cell, fun hk => ?cells⟩)
  ⟨⟨.slice none 0 0, bR, by rw [topV_zero, dig_zero]; exact Own.nil _ _ _ _, by rw [topV_zero, dig_zero]; exact Nat.zero_le _⟩, ⟨bB, xa⟩, BB⟩ ?assign ?body ?done ?stop
 case cells =>
  obtain ⟨b, o, e1, _, hc⟩ := (h.below hi.2.2).at_ (by omega)
  exact ⟨b, o, e1, by rw [HZ.out]; exact hc _ (by omega)⟩
 case assign =>
  intro l' k W K hK
  gi_wp2
  exact hK
 case body =>
  rintro l' k W ⟨⟨v, bv, ho, hl4⟩, ⟨bb, bx⟩, bl⟩ hk hbs
  have hx : z (n - 1 - k) < 18446744073709551616 := by rw [HZ.out, ← W_eq]; exact h.lt.getD (by rw [W_eq]; omega) _
  have hV := topV_next (l := l) (k := k) (by omega)
  rw [hlen, ← HZ.out] at hV
  dsimp only
  generalize z (n - 1 - k) = x at *
  obtain ⟨q, hq⟩ : ∃ q, q = x / 4294967296 := ⟨_, rfl⟩
  obtain ⟨m, hm⟩ : ∃ m, m = x % 4294967296 := ⟨_, rfl⟩
  have r1 : (x : Int) / 4294967296 = (q : Int) := by omega
  have rand : bits BinOp.and IntKind.u64 (x : Int) 4294967295 = (m : Int) := by
   have h9 : bits BinOp.and IntKind.u64 (x : Int) 4294967295 = (x : Int) % 4294967296 := bits_mask .u64 64 (by decide) wraps_u64 32 (by decide) x (by omega) (by omega)
   rw [h9]
   omega
  have r2 : (x : Int) % 4294967296 = (m : Int) := by omega
  rw [← hq, ← hm] at hV
  have hq2 : q < 18446744073709551616 := by omega
  have hm2 : m < 18446744073709551616 := by omega
  have HV := Lib.hid hV
  clear hV hq hm
  have hlt1 : w.heap.size + 1 < W0.heap.size + 2 := by omega
  have hlt2 : w.heap.size + 2 < W0.heap.size + 2 := by omega
  have hlt3 : w.heap.size < W0.heap.size + 2 := by omega
  have c0 := bv.cell
  have f0 := bv.frozen
  gi_wp2_with fail
  refine ⟨trivial, (CallsIn.inRound l' (callsIn_wide.2 (times_any (f := 4294967296) (m0 := q) (n := (dig D19 (topV l k)).length) ho (can_dig D19_two _) (by decide) rfl (by omega) (by decide) hq2 hbs))).mono ?_⟩
  rw [val_dig D19_two]
  rintro en W1 ⟨v1, rfl, ho1, hl1, b1⟩
  obtain ⟨A1, c1, rfl, -⟩ := ho1.rd (lt_dig D19_two _)
  have bv1 := bv.belowB b1 hlt1
  have bb1 := bb.belowB b1 hlt2
  have bx1 := bx.below b1 hlt3
  have k0 := bv1.cell
  have f1 := bv1.frozen
  clear c0 f0 ho
  gi_wp2_with fail
  have bv2 := bv1.set (.slice A1 (dig D19 (topV l k * 4294967296 + q)).length c1)
  have bb2 : Boxed (W1.setCell ⟨w.heap.size + 1, 0, none⟩ (.slice A1 (dig D19 (topV l k * 4294967296 + q)).length c1)) (w.heap.size + 2) 23 (.slice A n c) := (Below.heap_setCell W1 _ _ _ (by simp)).trans bb1
  have bx2 := bx1.other (g' := w.heap.size + 1) (by omega) 0 (.slice A1 (dig D19 (topV l k * 4294967296 + q)).length c1)
  have kp := (Keeps2.below b1).trans (Keeps2.setCell (B := W0.heap.size) W1 ⟨w.heap.size + 1, 0, none⟩ (.slice A1 (dig D19 (topV l k * 4294967296 + q)).length c1) (by show w.heap.size + 1 < _; omega))
  have ho2 := ho1.setOther (g := w.heap.size + 1) (by omega) 0 (.slice A1 (dig D19 (topV l k * 4294967296 + q)).length c1)
  have bl2 := (bl.trans (b1.mono (by omega))).setCell (p := ⟨w.heap.size + 1, 0, none⟩) (by simp) (.slice A1 (dig D19 (topV l k * 4294967296 + q)).length c1)
  have hsz2 : W0.heap.size + 2 ≤ (W1.setCell ⟨w.heap.size + 1, 0, none⟩ (.slice A1 (dig D19 (topV l k * 4294967296 + q)).length c1)).heap.size := by have := b1.size; simp; omega
  generalize W1.setCell ⟨w.heap.size + 1, 0, none⟩ (.slice A1 (dig D19 (topV l k * 4294967296 + q)).length c1) = W2 at *
  clear k0 f1 ho1 bv1 bb1 bx1 b1 bl bb bx bv
  have k0 := bv2.cell
  refine ⟨trivial, (CallsIn.inRound l' (callsIn_wide.2 (times_any (f := 4294967296) (m0 := m) (n := (dig D19 (topV l k * 4294967296 + q)).length) ho2 (can_dig D19_two _) (by decide) rfl (by omega) (by decide) hm2 hsz2))).mono ?_⟩
  rw [val_dig D19_two, ← HV.out]
  rintro en W3 ⟨v3, rfl, ho3, hl3, b3⟩
  obtain ⟨A3, c3, rfl, -⟩ := ho3.rd (lt_dig D19_two _)
  have bv3 := bv2.belowB b3 hlt1
  have bb3 := bb2.belowB b3 hlt2
  have bx3 := bx2.below b3 hlt3
  have k3 := bv3.cell
  have f3 := bv3.frozen
  have HL3 := Lib.hid (And.intro hl1 hl3)
  clear k0 ho2 hl1 hl3
  gi_wp2
  exact ⟨(kp.trans (Keeps2.below b3)).trans (Keeps2.setCell (B := W0.heap.size) W3 _ _ (by show w.heap.size + 1 < _; omega)), ⟨_, bv3.set _, ho3.setOther (g := w.heap.size + 1) (by omega) 0 _, by have := HL3.out; omega⟩, ⟨(Below.heap_setCell W3 _ _ _ (by simp)).trans bb3, bx3.other (g' := w.heap.size + 1) (by omega) 0 _⟩, (bl2.trans (b3.mono (by omega))).setCell (p := ⟨w.heap.size + 1, 0, none⟩) (by simp) _⟩
 case done =>
  rintro W ⟨⟨v, bv, ho, hl4⟩, ⟨bb, bx⟩, bl⟩ hsz hDf
  rw [show topV l n = val Go.Proofs.YtdhdebapjlcjdaaGreatDoor.W l by rw [← hlen]; exact topV_all l] at ho hl4
  obtain ⟨c0, c1, c2⟩ := bx.held
  have k0 := bv.cell
  have hl5 : (dig D19 (val Go.Proofs.YtdhdebapjlcjdaaGreatDoor.W l)).length ≤ 256 := by omega
  by_cases he : 0 ≤ e
  ·obtain ⟨j, rfl⟩ := Int.eq_ofNat_of_zero_le he
   gi_wp2_with fail
   refine ⟨trivial, (callsIn_wide.2 (timesPower_any (base := 2) (k := j) (n := 256) ho hl5 (by decide) (by decide) (by decide) (by omega) hsz)).mono ?_⟩
   rintro en W1 ⟨v1, rfl, ho1, hl1, b1⟩
   clear c0 c1 c2 k0 bv bb bx ho
   gi_wp2_with fail
   refine ⟨trivial, (callsIn_wide.2 (written_any (HPW.out.below (bl.trans (b1.mono (by omega)))) (Nat.le_trans hsz b1.size) ho1 (by omega))).mono ?_⟩
   rintro en W2 ⟨v2, rfl, ho2, b2⟩
   have hD2 : W2.heap[W0.heap.size]? = some (.deferred (some [])) := (b2.block _ (by omega)).trans ((b1.block _ (by omega)).trans hDf)
   have bl2 := (bl.trans (b1.mono (by omega))).trans (b2.mono (by omega))
   gi_wp2
   rw [s0] at hD2
   refine ⟨by simp, .inl ⟨_, _, rfl, run_takeDeferred hD2, ?_⟩⟩
   exact ⟨.tuple #[v2, .int .i64 0], by simp [results, Tryz.f39, go_sem], v2, rfl, World.ownsRow.mono (ownsRow_putObj ho2 _ hD2 rfl) (by omega), bl2.trans (belowK_b (w := w) (Nat.le_refl _) W2 (w.heap.size + 3) _ _ (by omega) hD2 rfl rfl)⟩
  ·obtain ⟨j, rfl⟩ : ∃ j : Nat, e = -(j : Int) := ⟨(-e).toNat, by omega⟩
   have hj2 : j ≤ 2000 := by omega
   have hng : IntKind.i64.wrap (- -(j : Int)) = (j : Int) := by rw [Int.neg_neg]; exact IntWalk.i64_in _ (by omega)
   have hng2 : IntKind.i64.wrap (j : Int) = (j : Int) := IntWalk.i64_in _ (by omega)
   have hj0 : j ≠ 0 := by omega
   have d1 : decide ((0 : Int) ≤ -(j : Int)) = false := decide_eq_false he
   have d2 : decide (-(j : Int) ≥ 0) = false := decide_eq_false he
   have d3 : decide (j = 0) = false := decide_eq_false hj0
   have HE := Lib.hid he
   clear he
   gi_wp2_with fail
   refine wpIn_calm ?_
   have hszd : W0.heap.size + 2 ≤ W.drew.heap.size := hsz
   have c2d : W.drew.cell? ⟨w.heap.size, 2, none⟩ = some (.int .i64 (-(j : Int))) := c2
   have hod : Own (W0.heap.size + 2) W.drew 38 .u64 v (dig D19 (val Go.Proofs.YtdhdebapjlcjdaaGreatDoor.W l)) := ho
   have hDd : W.drew.heap[W0.heap.size]? = some (.deferred (some [])) := hDf
   have bld : Below w.heap.size w W.drew := below_drewN bl 1
   have k2d : W.drew.cell? ⟨w.heap.size + 1, 0, none⟩ = some v := k0
   clear c0 c1 bb bx
   refine wp_region_held_drew (S := fun w' => w'.cell? ⟨w.heap.size, 2, none⟩ = some (.int .i64 (-(j : Int))) ∧ w'.cell? ⟨w.heap.size + 1, 0, none⟩ = some v) (by kernel_rfl) (by exact ⟨c2, k0⟩) (fun hHeldv0 => ?_)
   generalize World.drew W = wd at *
   refine wpAnyH_take (i := 0) (v := ?vv0) rfl (by kernel_rfl) (by kernel_rfl) (by kernel_rfl) (fun _ _ _ h => h) (Or.inl ⟨by rfl, ?vy0⟩) (by assumption) ?_
   case vy0 => (intro w hSw; (try dsimp only at hSw); go_simp); try with_reducible rfl
   change wpAnyH _ _ _ _ _ _ _ (Act.put _ (some 28) _) _
   simp only [Act.put, List.setIfInBounds_toArray, List.set_cons_zero, List.set_cons_succ]
   refine wpAnyH_take (i := 1) (v := ?vv1) rfl (by kernel_rfl) (by kernel_rfl) (by kernel_rfl) (fun _ _ _ h => h) (Or.inl ⟨by rfl, ?vy1⟩) (by assumption) ?_
   case vy1 => (intro w hSw; (try dsimp only at hSw); go_simp); try with_reducible rfl
   change wpAnyH _ _ _ _ _ _ _ (Act.put _ (some 29) _) _
   simp only [Act.put, List.setIfInBounds_toArray, List.set_cons_zero, List.set_cons_succ]
   refine wpAnyH_take (i := 2) (v := ?vv2) rfl (by kernel_rfl) (by kernel_rfl) (by kernel_rfl) (fun _ _ _ h => h) (Or.inl ⟨by rfl, ?vy2⟩) (by assumption) ?_
   case vy2 => (intro w hSw; (try dsimp only at hSw); go_simp); try with_reducible rfl
   change wpAnyH _ _ _ _ _ _ _ (Act.put _ (some 30) _) _
   simp only [Act.put, List.setIfInBounds_toArray, List.set_cons_zero, List.set_cons_succ]
   refine wpAnyH_take (i := 3) (v := ?vv3) rfl (by kernel_rfl) (by kernel_rfl) (by kernel_rfl) (fun _ _ _ h => h) (Or.inl ⟨by rfl, ?vy3⟩) (by assumption) ?_
   case vy3 => (intro w hSw; (try dsimp only at hSw); go_simp); try with_reducible rfl
   change wpAnyH _ _ _ _ _ _ _ (Act.put _ (some 31) _) _
   simp only [Act.put, List.setIfInBounds_toArray, List.set_cons_zero, List.set_cons_succ]
   refine wpAnyH_take (i := 6) (v := ?vv6) rfl (by kernel_rfl) (by kernel_rfl) (by kernel_rfl) (fun _ _ _ h => h) (Or.inl ⟨by rfl, ?vy6⟩) (by assumption) ?_
   case vy6 => (intro w hSw; (try dsimp only at hSw); go_simp); try with_reducible rfl
   change wpAnyH _ _ _ _ _ _ _ (Act.put _ (some 34) _) _
   simp only [Act.put, List.setIfInBounds_toArray, List.set_cons_zero, List.set_cons_succ]
   refine wpAnyH_take (i := 7) (v := ?vv7) rfl (by kernel_rfl) (by kernel_rfl) (by kernel_rfl) (fun _ _ _ h => h) (Or.inl ⟨by rfl, ?vy7⟩) (by assumption) ?_
   case vy7 => (intro w hSw; (try dsimp only at hSw); go_simp); try with_reducible rfl
   change wpAnyH _ _ _ _ _ _ _ (Act.put _ (some 35) _) _
   simp only [Act.put, List.setIfInBounds_toArray, List.set_cons_zero, List.set_cons_succ]
   refine wpAnyH_take (i := 8) (v := ?vv8) rfl (by kernel_rfl) (by kernel_rfl) (by kernel_rfl) (fun _ _ _ h => h) (Or.inl ⟨by rfl, ?vy8⟩) (by assumption) ?_
   case vy8 => (intro w hSw; (try dsimp only at hSw); go_simp); try with_reducible rfl
   change wpAnyH _ _ _ _ _ _ _ (Act.put _ (some 36) _) _
   simp only [Act.put, List.setIfInBounds_toArray, List.set_cons_zero, List.set_cons_succ]
   refine rdy 4 fun K hK => ?_
   go_simp
   refine (timesPower_any (base := 5) (k := j) (n := 256) hod hl5 (by decide) (by decide) (by decide) hj2 hszd).mono ?_
   rintro en W1 ⟨v1, rfl, ho1, hl1, b1⟩
   have c3 := (b1.cell (p := ⟨w.heap.size, 2, none⟩) (by show w.heap.size < _; omega)).trans c2d
   have k3 := (b1.cell (p := ⟨w.heap.size + 1, 0, none⟩) (by show w.heap.size + 1 < _; omega)).trans k2d
   clear hod
   refine hK.out _ _ (by exact ⟨c3, k3⟩) (fun hHeldv1 => ?_)
   clear hK K hHeldv0
   try simp only [Act.put]
   refine rdy 5 fun K hK => ?_
   go_simp
   refine (written_any (HPW.out.below (bld.trans (b1.mono (by omega)))) (Nat.le_trans hszd b1.size) ho1 (by omega)).mono ?_
   rintro en W2 ⟨v2, rfl, ho2, b2⟩
   have c4 := (b2.cell (p := ⟨w.heap.size, 2, none⟩) (by show w.heap.size < _; omega)).trans c3
   have k4 := (b2.cell (p := ⟨w.heap.size + 1, 0, none⟩) (by show w.heap.size + 1 < _; omega)).trans k3
   clear ho1
   refine hK.out _ _ (by exact ⟨c4, k4⟩) (fun hHeldv2 => ?_)
   clear hK K hHeldv1
   try simp only [Act.put]
   refine wpAnyH_take (i := 9) (v := ?vv9) rfl (by kernel_rfl) (by kernel_rfl) (by kernel_rfl) (fun _ _ _ h => h) (Or.inl ⟨by rfl, ?vy9⟩) (by assumption) ?_
   case vy9 => (intro w hSw; (try dsimp only at hSw); go_simp); try with_reducible rfl
   change wpAnyH _ _ _ _ _ _ _ (Act.put _ (some 2) _) _
   simp only [Act.put, List.setIfInBounds_toArray, List.set_cons_zero, List.set_cons_succ]
   refine wpAnyH_take (i := 10) (v := ?vv10) rfl (by kernel_rfl) (by kernel_rfl) (by kernel_rfl) (fun _ _ _ h => h) (Or.inl ⟨by rfl, ?vy10⟩) (by assumption) ?_
   case vy10 => (intro w hSw; (try dsimp only at hSw); go_simp); try with_reducible rfl
   change wpAnyH _ _ _ _ _ _ _ (Act.put _ (some 3) _) _
   simp only [Act.put, List.setIfInBounds_toArray, List.set_cons_zero, List.set_cons_succ]
   refine wpAnyH_done (by kernel_rfl) ?_ _
   have hD2 : W2.heap[W0.heap.size]? = some (.deferred (some [])) := (b2.block _ (by omega)).trans ((b1.block _ (by omega)).trans hDd)
   have bl2 := (bld.trans (b1.mono (by omega))).trans (b2.mono (by omega))
   rw [s0] at hD2
   gi_wp2
   refine ⟨by simp, .inl ⟨_, _, rfl, run_takeDeferred hD2, ?_⟩⟩
   exact ⟨.tuple #[v2, .int .i64 (j : Int)], by simp [results, Tryz.f39, go_sem], v2, rfl, World.ownsRow.mono (ownsRow_putObj ho2 _ hD2 rfl) (by omega), bl2.trans (belowK_b (w := w) (Nat.le_refl _) W2 (w.heap.size + 3) _ _ (by omega) hD2 rfl rfl)⟩
 case stop =>
  rintro c k W _ h _ _
  exact h.elim
end Go.Proofs.YtdhdebapjlcjdaaGreatDoor
