/-
 Contracts of dec's pointed and Text, at this translation. Conditions: the slices read as digits, as limbs; the two tables lie as their texts lay them.
-/
import Derived.Test.YtdhdebapjlcjdaaGreatDoorUKw
import Derived.Test.YtdhdebapjlcjdaaGreatDoorUKr
set_option maxHeartbeats 4000000
set_option maxRecDepth 100000
namespace Go.Proofs.YtdhdebapjlcjdaaGreatDoor
open Go Go.RowKit Go.Shelf

theorem conv_txt {w : World} {A : Option Addr} {n c : Nat} {l : List Nat} (h : Rd w .u8 256 A n c l) : (convert 77 9 (.slice A n c)).run Tryz.prog w = .ok (.string (txt l)) w := by
 have back : ∀ a : Addr, (∀ j (hj : j < (l.map UInt8.ofNat).length), w.cell? (a.add j) = some (.int .u8 ((l.map UInt8.ofNat)[j].toNat : Int))) → (convert 77 9 (.slice (some a) n c)).run Tryz.prog w = .ok (.string (txt l)) w := fun a hc => by
  have := run_convert_bytes_back (P := Tryz.prog) w 77 9 5 a c (l.map UInt8.ofNat) Tryz.underlying77 Tryz.underlying5 Tryz.underlying9 hc
  rw [List.length_map, h.len] at this
  exact this
 rcases Nat.eq_zero_or_pos n with h0 | h0
 ·cases A with
  | none =>
   rw [h.empty h0]
   exact run_convert_bytes_nil (P := Tryz.prog) w 77 5 Tryz.underlying77 Tryz.underlying5 n c 9 Tryz.underlying9
  | some a => exact back a (fun j hj => by rw [List.length_map, h.len] at hj; omega)
 ·obtain ⟨b, o, rfl, hb, hc⟩ := h.at_ (by omega)
  refine back ⟨b, o, none⟩ (fun j hj => ?_)
  have hjn : j < n := by rw [List.length_map, h.len] at hj; exact hj
  rw [Lib.add_plain, hc j hjn]
  congr 2
  have hjl : j < l.length := by rw [h.len]; exact hjn
  rw [List.getElem_map, List.getD_eq_getElem?_getD, List.getElem?_eq_getElem hjl]
  show ((l[j] : Nat) : Int) = ((UInt8.ofNat l[j]).toNat : Int)
  rw [UInt8.toNat_ofNat_of_lt' (h.lt _ (List.getElem_mem hjl))]
theorem txt_to (l : List Nat) (i : Nat) : (txt l).extract 0 i = txt (l.take i) := by
 apply ByteArray.ext
 apply Array.toList_inj.1
 rw [Lib.extract_data]
 simp [txt, List.map_take]
theorem txt_from (l : List Nat) (i : Nat) : (txt l).extract i (txt l).size = txt (l.drop i) := by
 apply ByteArray.ext
 apply Array.toList_inj.1
 rw [Lib.extract_data, txt_size]
 simp only [txt]
 rw [List.map_drop, List.take_of_length_le (by simp)]
theorem pointed_any {w : World} {A : Option Addr} {n c N : Nat} {d : List Nat} (h : Rd w .u8 256 A n c (asc d)) (hn : n ≤ 100000) (hN : N ≤ 60) :
  Calls Tryz.prog 41 #[.slice A n c, .int .i64 (N : Int)] w fun en w' => en = .returned (.string (txt (pointT N (asc (List.replicate (N + 1 - d.length) 0 ++ d))))) ∧ Below w.heap.size w w' := by
 have hld : (asc d).length = n := h.len
 rw [asc_len] at hld
 obtain ⟨m, hm⟩ : ∃ m, m = N + 1 - n := ⟨_, rfl⟩
 rw [asc_append, asc_zeros, hld, ← hm]
 have hmx : max (0 : Int) ((N : Int) + 1 - (n : Int)) = (m : Int) := by omega
 have hmy : max ((N : Int) + 1 - (n : Int)) 0 = (m : Int) := by omega
 have hmz : IntKind.i64.wrap ((N : Int) + 1) = (N : Int) + 1 := IntWalk.i64_in _ (by omega)
 have hmw : IntKind.i64.wrap ((N : Int) + 1 - (n : Int)) = (N : Int) + 1 - (n : Int) := IntWalk.i64_in _ (by omega)
 have hm61 : m ≤ 61 := by omega
 have hrd := Lib.hid h
 have hs2 : (txt (asc d)).size = n := by rw [txt_size, asc_len, hld]
 have hlen : (List.replicate m 48 ++ asc d).length = m + n := by rw [List.length_append, List.length_replicate, asc_len, hld]
 have hNm : N + 1 ≤ m + n := by omega
 have HLEN := Lib.hid hlen
 clear h hm hld hlen
 generalize asc d = D at *
 obtain ⟨R, hR⟩ : ∃ R, R = List.replicate m 48 ++ D := ⟨_, rfl⟩
 rw [← hR] at HLEN ⊢
 have HR := Lib.hid hR
 clear hR
 go_enter Tryz.func41, Tryz.ntmps41
 go_wp2_with fail
 refine wp_region_held_drew (S := fun w' => (convert 77 9 (.slice A n c)).run Tryz.prog w' = .ok (.string (txt D)) w') (by kernel_rfl) (by exact conv_txt hrd.out.drew) (fun hHeldv0 => ?_)
 refine tl 0 ?_
 refine tl 1 ?_
 refine tl 2 ?_
 refine tl 3 ?_
 refine tl 4 ?_
 refine tl 5 ?_
 refine tl 7 ?_
 refine tl 8 ?_
 refine rdy 6 fun K hK => ?_
 go_simp
 refine (Tryz.strings_Repeat ⟨#[48]⟩ m _ (by omega) (by show 1 * m ≤ _; omega)).mono ?_
 rintro en w1 ⟨rfl, b1⟩
 rw [rep_txt]
 have hs1 : (txt (List.replicate m 48)).size = m := by rw [txt_size, List.length_replicate]
 refine hK.out _ _ (by exact conv_txt (hrd.out.drew.below b1)) (fun hHeldv1 => ?_)
 clear hK K hHeldv0
 try simp only [Act.put]
 refine wpAnyH_take (i := 9) (v := ?vv9) rfl (by kernel_rfl) (by kernel_rfl) (by kernel_rfl) (fun _ _ _ h => panic_put (P := Tryz.prog) (fn := Tryz.f41) (R := fun en w' => en = .returned (.string (txt (pointT N R))) ∧ Below w.heap.size w w') h) (Or.inl ⟨by rfl, ?vy9⟩) (by assumption) ?_
 case vy9 => (intro w hSw; (try dsimp only at hSw); go_simp; rw [if_neg (by omega), txt_append, ← HR.out]); try with_reducible rfl
 change wpAnyH _ _ _ _ _ _ _ (Act.put _ (some 16) _) _
 simp only [Act.put, List.setIfInBounds_toArray, List.set_cons_zero, List.set_cons_succ]
 refine tl 10 ?_
 refine wpAnyH_done (by kernel_rfl) ?_ _
 have bb := (below_drewN (Below.refl w.heap.size w) 1).trans b1
 clear hHeldv1 hs1 hs2 hmx hmy hmz hmw
 by_cases h0 : N = 0
 ·have d0 : ((N : Int) == 0) = true := by rw [h0]; rfl
  have HP : Hid (pointT N R = R) := by unfold pointT; rw [if_pos h0]; exact rfl
  clear h0
  go_wp2
  go_ret
  exact ⟨by rw [HP.out]; rfl, bb⟩
 ·have d0 : ((N : Int) == 0) = false := beq_false_of_ne (by omega)
  have hp : pointT N R = R.take (R.length - N) ++ 46 :: R.drop (R.length - N) := by unfold pointT; rw [if_neg h0]
  have hsR : (txt R).size = m + n := by rw [txt_size]; exact HLEN.out
  obtain ⟨i, hi⟩ : ∃ i, i = m + n - N := ⟨_, rfl⟩
  rw [HLEN.out, ← hi] at hp
  have HP := Lib.hid hp
  have hit : (R.take i).length = i := by rw [List.length_take, HLEN.out]; omega
  have hid : (R.drop i).length = N := by rw [List.length_drop, HLEN.out]; omega
  have ht1 : (txt (R.take i)).size = i := by rw [txt_size]; exact hit
  have ht2 : (txt (R.take i ++ [46])).size = i + 1 := by rw [txt_size, List.length_append, hit]; rfl
  have ht3 : (txt (R.drop i)).size = N := by rw [txt_size]; exact hid
  have hw1 : IntKind.i64.wrap (((m + n : Nat) : Int) - (N : Int)) = (i : Int) := by rw [IntWalk.i64_in _ (by omega)]; omega
  have hw2 : (m : Int) + (n : Int) - (N : Int) = (i : Int) := by omega
  have q1 : ∀ W : World, (Instr.slice 9 (.string (txt R)) none (some (.int .i64 (i : Int))) none).run Tryz.prog W = .ok (.string (txt (R.take i))) W := fun W => by
   rw [run_slice_string_h W 9 (txt R) Tryz.underlying9 .i64 (i : Int) (by omega) (by rw [hsR]; omega), Int.toNat_natCast, txt_to]
  have q2 : ∀ W : World, (Instr.slice 9 (.string (txt R)) (some (.int .i64 (i : Int))) none none).run Tryz.prog W = .ok (.string (txt (R.drop i))) W := fun W => by
   rw [run_slice_string_l W 9 (txt R) Tryz.underlying9 .i64 (i : Int) (by omega) (by rw [hsR]; omega), Int.toNat_natCast, txt_from]
  have hi9 : i ≤ 200000 := by omega
  clear hp hi hit hid
  go_upto_region 5 with (fail)
  refine wp_region_held_drew (S := fun w' => True) (by kernel_rfl) trivial (fun hHeldu0 => ?_)
  refine wpAnyH_take (i := 0) (v := ?uv0) rfl (by kernel_rfl) (by kernel_rfl) (by kernel_rfl) (fun _ _ _ h => panic_put (P := Tryz.prog) (fn := Tryz.f41) (R := fun en w' => en = .returned (.string (txt (pointT N R))) ∧ Below w.heap.size w w') h) (Or.inl ⟨by rfl, ?uy0⟩) trivial ?_
  case uy0 => (intro w hSw; (try dsimp only at hSw); go_simp); try with_reducible rfl
  change wpAnyH _ _ _ _ _ _ _ (Act.put _ (some 24) _) _
  simp only [Act.put, List.setIfInBounds_toArray, List.set_cons_zero, List.set_cons_succ]
  refine wpAnyH_take (i := 1) (v := ?uv1) rfl (by kernel_rfl) (by kernel_rfl) (by kernel_rfl) (fun _ _ _ h => panic_put (P := Tryz.prog) (fn := Tryz.f41) (R := fun en w' => en = .returned (.string (txt (pointT N R))) ∧ Below w.heap.size w w') h) (Or.inl ⟨by rfl, ?uy1⟩) trivial ?_
  case uy1 => (intro w hSw; (try dsimp only at hSw); go_simp); try with_reducible rfl
  change wpAnyH _ _ _ _ _ _ _ (Act.put _ (some 25) _) _
  simp only [Act.put, List.setIfInBounds_toArray, List.set_cons_zero, List.set_cons_succ]
  refine wpAnyH_take (i := 2) (v := ?uv2) rfl (by kernel_rfl) (by kernel_rfl) (by kernel_rfl) (fun _ _ _ h => panic_put (P := Tryz.prog) (fn := Tryz.f41) (R := fun en w' => en = .returned (.string (txt (pointT N R))) ∧ Below w.heap.size w w') h) (Or.inl ⟨by rfl, ?uy2⟩) trivial ?_
  case uy2 => (intro w hSw; (try dsimp only at hSw); go_simp); try with_reducible rfl
  change wpAnyH _ _ _ _ _ _ _ (Act.put _ (some 26) _) _
  simp only [Act.put, List.setIfInBounds_toArray, List.set_cons_zero, List.set_cons_succ]
  refine wpAnyH_take (i := 3) (v := ?uv3) rfl (by kernel_rfl) (by kernel_rfl) (by kernel_rfl) (fun _ _ _ h => panic_put (P := Tryz.prog) (fn := Tryz.f41) (R := fun en w' => en = .returned (.string (txt (pointT N R))) ∧ Below w.heap.size w w') h) (Or.inl ⟨by rfl, ?uy3⟩) trivial ?_
  case uy3 => (intro w hSw; (try dsimp only at hSw); go_simp; rw [if_neg (by omega), show (⟨#[46]⟩ : ByteArray) = txt [46] from rfl, txt_append]); try with_reducible rfl
  change wpAnyH _ _ _ _ _ _ _ (Act.put _ (some 27) _) _
  simp only [Act.put, List.setIfInBounds_toArray, List.set_cons_zero, List.set_cons_succ]
  refine wpAnyH_take (i := 4) (v := ?uv4) rfl (by kernel_rfl) (by kernel_rfl) (by kernel_rfl) (fun _ _ _ h => panic_put (P := Tryz.prog) (fn := Tryz.f41) (R := fun en w' => en = .returned (.string (txt (pointT N R))) ∧ Below w.heap.size w w') h) (Or.inl ⟨by rfl, ?uy4⟩) trivial ?_
  case uy4 => (intro w hSw; (try dsimp only at hSw); go_simp); try with_reducible rfl
  change wpAnyH _ _ _ _ _ _ _ (Act.put _ (some 28) _) _
  simp only [Act.put, List.setIfInBounds_toArray, List.set_cons_zero, List.set_cons_succ]
  refine wpAnyH_take (i := 5) (v := ?uv5) rfl (by kernel_rfl) (by kernel_rfl) (by kernel_rfl) (fun _ _ _ h => panic_put (P := Tryz.prog) (fn := Tryz.f41) (R := fun en w' => en = .returned (.string (txt (pointT N R))) ∧ Below w.heap.size w w') h) (Or.inl ⟨by rfl, ?uy5⟩) trivial ?_
  case uy5 => (intro w hSw; (try dsimp only at hSw); go_simp); try with_reducible rfl
  change wpAnyH _ _ _ _ _ _ _ (Act.put _ (some 29) _) _
  simp only [Act.put, List.setIfInBounds_toArray, List.set_cons_zero, List.set_cons_succ]
  refine wpAnyH_take (i := 6) (v := ?uv6) rfl (by kernel_rfl) (by kernel_rfl) (by kernel_rfl) (fun _ _ _ h => panic_put (P := Tryz.prog) (fn := Tryz.f41) (R := fun en w' => en = .returned (.string (txt (pointT N R))) ∧ Below w.heap.size w w') h) (Or.inl ⟨by rfl, ?uy6⟩) trivial ?_
  case uy6 => (intro w hSw; (try dsimp only at hSw); go_simp); try with_reducible rfl
  change wpAnyH _ _ _ _ _ _ _ (Act.put _ (some 30) _) _
  simp only [Act.put, List.setIfInBounds_toArray, List.set_cons_zero, List.set_cons_succ]
  refine wpAnyH_take (i := 7) (v := ?uv7) rfl (by kernel_rfl) (by kernel_rfl) (by kernel_rfl) (fun _ _ _ h => panic_put (P := Tryz.prog) (fn := Tryz.f41) (R := fun en w' => en = .returned (.string (txt (pointT N R))) ∧ Below w.heap.size w w') h) (Or.inl ⟨by rfl, ?uy7⟩) trivial ?_
  case uy7 => (intro w hSw; (try dsimp only at hSw); go_simp; rw [if_neg (by omega), txt_append, List.append_assoc, List.singleton_append]); try with_reducible rfl
  change wpAnyH _ _ _ _ _ _ _ (Act.put _ (some 31) _) _
  simp only [Act.put, List.setIfInBounds_toArray, List.set_cons_zero, List.set_cons_succ]
  refine wpAnyH_take (i := 8) (v := ?uv8) rfl (by kernel_rfl) (by kernel_rfl) (by kernel_rfl) (fun _ _ _ h => panic_put (P := Tryz.prog) (fn := Tryz.f41) (R := fun en w' => en = .returned (.string (txt (pointT N R))) ∧ Below w.heap.size w w') h) (Or.inl ⟨by rfl, ?uy8⟩) trivial ?_
  case uy8 => (intro w hSw; (try dsimp only at hSw); go_simp); try with_reducible rfl
  change wpAnyH _ _ _ _ _ _ _ (Act.put _ (some 4) _) _
  simp only [Act.put, List.setIfInBounds_toArray, List.set_cons_zero, List.set_cons_succ]
  refine wpAnyH_done (by kernel_rfl) ?_ _
  go_wp2
  go_ret
  refine ⟨?_, below_drewN bb 1⟩
  rw [HP.out]
  rfl

/-- which code Text tells -/
def textK (s : Bool) (l : List Nat) (e N : Int) : Int := if mayD s l e = true ∧ 0 ≤ N ∧ N ≤ 60 then (if -2000 ≤ e ∧ e ≤ 2000 then 0 else 2) else 1
/-- what it writes -/
def textS (s : Bool) (l : List Nat) (e N : Int) (up : Bool) : List Nat := if textK s l e N = 0 then textT s (val W l) e N.toNat up else []
theorem dec_small {m q j a : Nat} (hm : m < 2 ^ a) (hq : q ≤ 10) : (decD (m * q ^ j)).length ≤ a + j := by
 rw [decD_len, Nat.pow_add]
 have h1 : 2 ^ a ≤ 10 ^ a := Nat.pow_le_pow_left (by omega) a
 have h2 : q ^ j ≤ 10 ^ j := Nat.pow_le_pow_left hq j
 have h3 : 0 < 10 ^ j := Nat.pow_pos (by omega)
 calc m * q ^ j ≤ m * 10 ^ j := Nat.mul_le_mul_left _ h2
  _ < 10 ^ a * 10 ^ j := Nat.mul_lt_mul_of_pos_right (Nat.lt_of_lt_of_le hm h1) h3
theorem allV_small {m a : Nat} {e : Int} (hm : m < 2 ^ a) (h1 : -2000 ≤ e) (h2 : e ≤ 2000) : (decD (allV m e)).length ≤ a + 2000 := by
 unfold allV
 split
 ·exact Nat.le_trans (dec_small hm (by omega)) (by omega)
 ·exact Nat.le_trans (dec_small hm (by omega)) (by omega)
theorem shD_small {V : Nat} {k : Int} {away : Bool} (hk : -60 ≤ k) : (shD V k away).length ≤ (decD V).length + 61 := by
 unfold shD
 split
 ·rw [List.length_append, List.length_replicate]
  omega
 ·have h1 : V / 10 ^ k.toNat + (if away = true ∧ V % 10 ^ k.toNat ≠ 0 then 1 else 0) < 10 ^ ((decD V).length + 1) := by
   have h2 := (decD_len (V := V)).1 (Nat.le_refl _)
   have h3 := Nat.div_le_self V (10 ^ k.toNat)
   rw [Nat.pow_succ]
   split <;> omega
  have := (decD_len (k := (decD V).length + 1)).2 h1
  omega
theorem val_small {l : List Nat} (hl : Lt W l) (hn : l.length ≤ 64) : val W l < 2 ^ (64 * 64) := by
 have h1 := val_lt hl
 have h2 : W ^ l.length ≤ W ^ 64 := Nat.pow_le_pow_right (by decide) hn
 rw [← W64_pow]
 exact Nat.lt_of_lt_of_le h1 h2
theorem text_arg {w : World} {A : Option Addr} {n c : Nat} {l : List Nat} {s : Bool} {e N : Int} {up : Bool} (hT : Tab w) (h : Rd w .u64 Go.Proofs.YtdhdebapjlcjdaaGreatDoor.W A n c l) (hno : ¬ (mayD s l e = true ∧ 0 ≤ N ∧ N ≤ 60)) :
  Calls Tryz.prog 14 #[.agg #[.bool s, .slice A n c, .int .i64 e], .int .i64 N, .bool up] w fun en w' => en = .returned (.tuple #[.string ⟨#[]⟩, .int .i64 1]) ∧ Below w.heap.size w w' := by
 obtain ⟨b, hb⟩ : ∃ b, b = mayD s l e := ⟨_, rfl⟩
 have x := Box.new w s A n c e
 have BB := below_alloc w (.cells #[.bool s, .slice A n c, .int .i64 e] 25)
 have hm := dmay_any (s := s) (e := e) (hT.below BB) (h.below BB)
 rw [← hb] at hm hno
 have HM := Lib.hid hm
 clear hm hT h hb
 obtain ⟨x0, x1, x2⟩ := x.held
 go_enter Tryz.func14, Tryz.ntmps14
 go_wp2_with fail
 refine HM.out.mono ?_
 rintro en w1 ⟨rfl, b1⟩
 have bb := BB.trans (b1.mono BB.size)
 clear x0 x1 x2 HM
 cases b with
 | false =>
  go_wp2
  go_ret2
  exact ⟨rfl, bb⟩
 | true =>
  by_cases h0 : N < 0
  ·have d0 : decide (N < 0) = true := decide_eq_true h0
   go_wp2
   go_ret2
   exact ⟨rfl, bb⟩
  ·have d0 : decide (N < 0) = false := decide_eq_false h0
   have d1 : decide ((60 : Int) < N) = true := decide_eq_true (by
    rcases Int.lt_or_le 60 N with h1 | h1
    ·exact h1
    ·exact absurd ⟨rfl, by omega, h1⟩ hno)
   clear hno h0
   go_wp2
   go_ret2
   exact ⟨rfl, bb⟩
theorem text_limb {w : World} {A : Option Addr} {n c : Nat} {l : List Nat} {s : Bool} {e N : Int} {up : Bool} (hT : Tab w) (h : Rd w .u64 Go.Proofs.YtdhdebapjlcjdaaGreatDoor.W A n c l) (hd : mayD s l e = true) (hN : 0 ≤ N) (hN2 : N ≤ 60) (hno : ¬ (-2000 ≤ e ∧ e ≤ 2000)) :
  Calls Tryz.prog 14 #[.agg #[.bool s, .slice A n c, .int .i64 e], .int .i64 N, .bool up] w fun en w' => en = .returned (.tuple #[.string ⟨#[]⟩, .int .i64 2]) ∧ Below w.heap.size w w' := by
 have x := Box.new w s A n c e
 have BB := below_alloc w (.cells #[.bool s, .slice A n c, .int .i64 e] 25)
 have hm := dmay_any (s := s) (e := e) (hT.below BB) (h.below BB)
 rw [hd] at hm
 have HM := Lib.hid hm
 clear hm hT h hd
 obtain ⟨x0, x1, x2⟩ := x.held
 have d0 : decide (N < 0) = false := decide_eq_false (by omega)
 have d1 : decide ((60 : Int) < N) = false := decide_eq_false (by omega)
 go_enter Tryz.func14, Tryz.ntmps14
 go_wp2_with fail
 refine HM.out.mono ?_
 rintro en w1 ⟨rfl, b1⟩
 have bb := BB.trans (b1.mono BB.size)
 have y2 := (b1.cell (p := ⟨w.heap.size, 2, none⟩) (by simp)).trans x2
 clear x0 x1 x2 HM
 by_cases h0 : e < -2000
 ·have d2 : decide (e < -2000) = true := decide_eq_true h0
  go_wp2
  go_ret2
  exact ⟨rfl, bb⟩
 ·have d2 : decide (e < -2000) = false := decide_eq_false h0
  have d3 : decide ((2000 : Int) < e) = true := decide_eq_true (by omega)
  clear hno h0
  go_wp2
  go_ret2
  exact ⟨rfl, bb⟩
theorem text_ok {w : World} {A : Option Addr} {n c N : Nat} {l : List Nat} {s : Bool} {e : Int} {up : Bool} (hT : Tab w) (hP : PowT w) (h : Rd w .u64 Go.Proofs.YtdhdebapjlcjdaaGreatDoor.W A n c l) (hd : mayD s l e = true) (hn : n ≤ 64) (hN2 : N ≤ 60) (h1 : -2000 ≤ e) (h2 : e ≤ 2000) :
  Calls Tryz.prog 14 #[.agg #[.bool s, .slice A n c, .int .i64 e], .int .i64 (N : Int), .bool up] w fun en w' => en = .returned (.tuple #[.string (txt (textT s (val Go.Proofs.YtdhdebapjlcjdaaGreatDoor.W l) e N up)), .int .i64 0]) ∧ Below w.heap.size w w' := by
 have x := Box.new w s A n c e
 have BB := below_alloc w (.cells #[.bool s, .slice A n c, .int .i64 e] 25)
 have hm := dmay_any (s := s) (e := e) (hT.below BB) (h.below BB)
 rw [hd] at hm
 have HM := Lib.hid hm
 obtain ⟨M, hM⟩ : ∃ M, M = val Go.Proofs.YtdhdebapjlcjdaaGreatDoor.W l := ⟨_, rfl⟩
 obtain ⟨a, ha, hM2⟩ : ∃ a, a ≤ 4096 ∧ M < 2 ^ a := by rw [hM]; exact ⟨_, by decide, val_small h.lt (by rw [h.len]; exact hn)⟩
 obtain ⟨V, hV⟩ : ∃ V, V = allV M e := ⟨_, rfl⟩
 have hVl : (decD V).length ≤ 6096 := by
  rw [hV]
  have := allV_small hM2 h1 h2
  omega
 obtain ⟨k, hk⟩ : ∃ k, k = allB e - (N : Int) := ⟨_, rfl⟩
 have hk1 : -60 ≤ k ∧ k ≤ 2000 := by rw [hk]; unfold allB; split <;> omega
 obtain ⟨aw, haw⟩ : ∃ aw, aw = (up != s) := ⟨_, rfl⟩
 have hst := sh_text s M e N up
 rw [← hV, ← hk, ← haw] at hst
 obtain ⟨S, hS⟩ : ∃ S, S = shD V k aw := ⟨_, rfl⟩
 have hSl : S.length ≤ 6200 := by rw [hS]; exact Nat.le_trans (shD_small hk1.1) (by omega)
 have HEX : Hid (∀ W1 : World, Below w.heap.size w W1 → Calls Tryz.prog 39 #[.agg #[.bool s, .slice A n c, .int .i64 e]] W1 fun en w' => ∃ v, en = .returned (.tuple #[v, .int .i64 (k + (N : Int))]) ∧ Own W1.heap.size w' 5 .u8 v (asc (decD V)) ∧ Below W1.heap.size W1 w') := fun W1 b1 => by
  have := expanded_any (s := s) (h.below b1) hn h1 h2 (hP.below b1)
  rw [← hM] at this
  rw [hV, show k + (N : Int) = (if 0 ≤ e then 0 else -e) by rw [hk]; unfold allB; omega]
  exact this
 have HSH : Hid (∀ (W1 : World) (b0 : Nat) (v : Value), b0 ≤ W1.heap.size → Own b0 W1 5 .u8 v (asc (decD V)) → Calls Tryz.prog 40 #[v, .int .i64 k, .bool aw] W1 (RdEnd b0 (asc S) W1)) := fun W1 b0 v hb ho => by
  rw [hS]
  exact shortened_any hb ho (by omega) (by omega) (by omega)
 rw [← hS] at hst
 obtain ⟨Q, hQ⟩ : ∃ Q, Q = textQ s M e N up := ⟨_, rfl⟩
 have htt : textT s M e N up = (if s = true ∧ Q ≠ 0 then [45] else []) ++ pointT N (asc (List.replicate (N + 1 - S.length) 0 ++ S)) := by
  unfold textT
  rw [hst.1, ← hQ]
 rw [← hQ] at hst
 rw [← hM, htt]
 obtain ⟨R, hR⟩ : ∃ R, R = pointT N (asc (List.replicate (N + 1 - S.length) 0 ++ S)) := ⟨_, rfl⟩
 rw [← hR]
 obtain ⟨TX, hTX⟩ : ∃ TX, TX = txt ((if s = true ∧ Q ≠ 0 then [45] else []) ++ R) := ⟨_, rfl⟩
 rw [← hTX]
 have HTX := Lib.hid hTX
 clear hTX
 have HPT : Hid (∀ (W1 : World) (A2 : Option Addr) (n2 c2 : Nat), Rd W1 .u8 256 A2 n2 c2 (asc S) → Calls Tryz.prog 41 #[.slice A2 n2 c2, .int .i64 (N : Int)] W1 fun en w' => en = .returned (.string (txt R)) ∧ Below W1.heap.size W1 w') := fun W1 A2 n2 c2 hr => by
  rw [hR]
  exact pointed_any hr (by have := hr.len; rw [asc_len] at this; omega) hN2
 have hzq : zerosB S = decide (Q = 0) := by rw [Bool.eq_iff_iff, zerosB_iff, decide_eq_true_iff]; exact hst.2
 have HZQ := Lib.hid hzq
 have hRl : (txt R).size ≤ 7000 := by
  rw [txt_size, hR]
  have h3 : (asc (List.replicate (N + 1 - S.length) 0 ++ S)).length ≤ 6300 := by rw [asc_len, List.length_append, List.length_replicate]; omega
  unfold pointT
  split
  ·omega
  ·rw [List.length_append, List.length_cons, List.length_take, List.length_drop]
   omega
 have hw : IntKind.i64.wrap (k + (N : Int) - (N : Int)) = k := by rw [show k + (N : Int) - (N : Int) = k by omega]; exact IntWalk.i64_in _ (by omega)
 have hw2 : k + (N : Int) - (N : Int) = k := by omega
 have haw2 : (!(up == s)) = aw := by rw [haw]; rfl
 clear hm hT hP h hd hM hV hk haw hst hS hQ htt hR hzq hM2 hVl hSl hn
 obtain ⟨x0, x1, x2⟩ := x.held
 have d0 : decide ((N : Int) < 0) = false := decide_eq_false (by omega)
 have d1 : decide ((60 : Int) < (N : Int)) = false := decide_eq_false (by omega)
 have d2 : decide (e < -2000) = false := decide_eq_false (by omega)
 have d3 : decide ((2000 : Int) < e) = false := decide_eq_false (by omega)
 go_enter Tryz.func14, Tryz.ntmps14
 go_wp2_with fail
 refine HM.out.mono ?_
 rintro en w1 ⟨rfl, b1⟩
 have bb := BB.trans (b1.mono BB.size)
 replace x := x.below b1 x.gl
 clear x0 x1 x2 HM BB b1
 obtain ⟨x0, x1, x2⟩ := x.held
 have hx1 := x.gl
 go_wp2_with fail
 refine (HEX.out _ bb).mono ?_
 rintro en w2 ⟨v, rfl, ho, b2⟩
 replace x := x.below b2 x.gl
 replace bb := bb.trans (b2.mono bb.size)
 have hq2 := b2.size
 clear x0 x1 x2 HEX
 obtain ⟨x0, x1, x2⟩ := x.held
 go_wp2_with fail
 refine (HSH.out _ _ _ hq2 ho).mono ?_
 rintro en w3 ⟨A3, n3, c3, rfl, hr3, b3⟩
 replace x := x.below b3 hx1
 replace bb := bb.trans (b3.mono (by omega))
 clear x0 x1 x2 HSH ho b3 b2 hq2 hw hw2 haw2
 go_wp2_with fail
 refine (HPT.out _ _ _ _ hr3).mono ?_
 rintro en w4 ⟨rfl, b4⟩
 replace x := x.below b4 x.gl
 replace bb := bb.trans (b4.mono bb.size)
 have hr4 := hr3.below b4
 clear hr3 b4 HPT
 obtain ⟨x0, x1, x2⟩ := x.held
 cases s with
 | false =>
  go_wp2
  go_ret2
  exact ⟨by rw [HTX.out]; rfl, bb⟩
 | true =>
  go_wp2_with fail
  refine (zeros_dig hr4).mono ?_
  rintro en w5 ⟨rfl, b5⟩
  replace bb := bb.trans (b5.mono bb.size)
  rw [HZQ.out]
  clear x0 x1 x2 x hr4 b5
  by_cases hq : Q = 0
  ·have HQ := Lib.hid hq
   have dq : decide (Q = 0) = true := decide_eq_true hq
   clear hq
   go_wp2
   go_ret2
   exact ⟨by rw [HTX.out, if_neg (fun hh => hh.2 HQ.out)]; rfl, bb⟩
  ·have HQ := Lib.hid hq
   have dq : decide (Q = 0) = false := decide_eq_false hq
   have hcat : (⟨#[45]⟩ : ByteArray) ++ txt R = txt ([45] ++ R) := by
    rw [show (⟨#[45]⟩ : ByteArray) = txt [45] from rfl, txt_append]
   have HCAT := Lib.hid hcat
   clear hq hcat
   go_wp2
   try any_goals (exfalso; omega)
   go_ret2
   exact ⟨by rw [HTX.out, if_pos ⟨by trivial, HQ.out⟩, ← HCAT.out]; rfl, bb⟩
theorem dtext_any {w : World} {A : Option Addr} {n c : Nat} {l : List Nat} {s : Bool} {e N : Int} {up : Bool} (hT : Tab w) (hP : PowT w) (h : Rd w .u64 Go.Proofs.YtdhdebapjlcjdaaGreatDoor.W A n c l) :
  Calls Tryz.prog 14 #[.agg #[.bool s, .slice A n c, .int .i64 e], .int .i64 N, .bool up] w fun en w' => en = .returned (.tuple #[.string (txt (textS s l e N up)), .int .i64 (textK s l e N)]) ∧ Below w.heap.size w w' := by
 unfold textS textK
 by_cases h0 : mayD s l e = true ∧ 0 ≤ N ∧ N ≤ 60
 ·by_cases h1 : -2000 ≤ e ∧ e ≤ 2000
  ·rw [if_pos h0, if_pos h1, if_pos rfl]
   obtain ⟨N, rfl⟩ := Int.eq_ofNat_of_zero_le h0.2.1
   exact text_ok hT hP h h0.1 (by
    have h5 := (mayD_of h.lt h0.1).1
    unfold mayB at h5
    simp only [Bool.and_eq_true, decide_eq_true_eq] at h5
    rw [← h.len]
    exact h5.1) (by omega) h1.1 h1.2
  ·rw [if_pos h0, if_neg h1, if_neg (by decide)]
   exact text_limb hT h h0.1 h0.2.1 h0.2.2 h1
 ·rw [if_neg h0, if_neg (by decide)]
  exact text_arg hT h h0
end Go.Proofs.YtdhdebapjlcjdaaGreatDoor
