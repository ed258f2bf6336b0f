/-
 Contract of the statement DecSigns' function at this translation: it returns true, whatever its arguments. Conditions: the slice reads as limbs; the two tables, and the two errors of strconv, lie as their texts lay them.
-/
import Derived.Test.YtefofejgogokpaaGreatDoorQKz
set_option maxHeartbeats 8000000
set_option maxRecDepth 100000
namespace Go.Proofs.YtefofejgogokpaaGreatDoor
open Go.RowKit

theorem Box.set0 {w : World} {g : Nat} {s t : Bool} {A : Option Addr} {n c : Nat} {e : Int} (h : Box w g s A n c e) : Box (w.setCell ⟨g, 0, none⟩ (.bool t)) g t A n c e := ⟨by
 have hb := h.blk
 simp [World.setCell, Array.getElem?_modify, hb]⟩
/-- noughts and points alone, as far as i -/
def zB (s : ByteArray) (i : Nat) : Bool := (s.data.toList.take i).all fun c => c == 48 || c == 46
theorem zB_next {s : ByteArray} {i : Nat} (h : i < s.size) : zB s (i + 1) = (zB s i && (s[i] == 48 || s[i] == 46)) := by
 have e : s.data.toList.take (i + 1) = s.data.toList.take i ++ [s[i]] := by
  rw [List.take_succ_eq_append_getElem (by simpa using h)]; rfl
 unfold zB
 rw [e, List.all_append]
 simp
theorem byte_is {c : UInt8} (b : UInt8) : ((c.toNat : Int) == (b.toNat : Int)) = (c == b) := by
 rw [Bool.eq_iff_iff, beq_iff_eq, beq_iff_eq]
 constructor
 ·intro h
  exact UInt8.toNat_inj.1 (by omega)
 ·intro h
  rw [h]
theorem mayD_pos {s t : Bool} {l : List Nat} {e : Int} (h : mayD s l e = true) (h0 : l ≠ []) : mayD t l e = true := by
 unfold mayD at h ⊢
 rw [if_neg h0] at h ⊢
 exact h
theorem mayD_false {s : Bool} {l : List Nat} {e : Int} (h : mayD s l e = true) : mayD false l e = true := by
 by_cases h0 : l = []
 ·unfold mayD at h ⊢
  rw [if_pos h0] at h ⊢
  cases s
  ·exact h
  ·cases h
 ·exact mayD_pos h h0
theorem all_text (n Q : Nat) : zB (txt (pointT n (asc (padT n Q)))) (txt (pointT n (asc (padT n Q)))).size = decide (Q = 0) := by
 have h1 : ∀ c : Nat, c < 10 → ((UInt8.ofNat (48 + c) == 48 || UInt8.ofNat (48 + c) == 46) = true ↔ c = 0) := by decide
 have hz : (∀ x ∈ padT n Q, x = 0) ↔ Q = 0 := by
  rw [← zeros_dec Q]
  unfold padT
  exact ⟨fun h x hx => h x (List.mem_append.2 (.inr hx)), fun h x hx => (List.mem_append.1 hx).elim (fun hh => (List.mem_replicate.1 hh).2) (h x)⟩
 have hlt : ∀ x ∈ padT n Q, x < 10 := fun x hx => (List.mem_append.1 hx).elim (fun hh => by rw [(List.mem_replicate.1 hh).2]; decide) (decD_lt Q x)
 have hp : (∀ y ∈ pointT n (asc (padT n Q)), (UInt8.ofNat y == 48 || UInt8.ofNat y == 46) = true) ↔ ∀ y ∈ asc (padT n Q), (UInt8.ofNat y == 48 || UInt8.ofNat y == 46) = true := by
  unfold pointT
  split
  ·exact Iff.rfl
  ·generalize (asc (padT n Q)).length - n = k
   constructor
   ·intro h y hy
    rw [← List.take_append_drop k (asc (padT n Q))] at hy
    exact (List.mem_append.1 hy).elim (fun hh => h y (List.mem_append.2 (.inl hh))) (fun hh => h y (List.mem_append.2 (.inr (List.mem_cons.2 (.inr hh)))))
   ·intro h y hy
    rcases List.mem_append.1 hy with hh | hh
    ·exact h y (List.mem_of_mem_take hh)
    ·rcases List.mem_cons.1 hh with rfl | hh
     ·decide
     ·exact h y (List.mem_of_mem_drop hh)
 rw [Bool.eq_iff_iff, decide_eq_true_iff, ← hz]
 unfold zB
 rw [txt_list, List.take_of_length_le (by rw [txt_size, List.length_map]; exact Nat.le_refl _), List.all_eq_true]
 constructor
 ·intro h x hx
  have := hp.1 (fun y hy => h _ (List.mem_map.2 ⟨y, hy, rfl⟩)) (48 + x) (List.mem_map.2 ⟨x, hx, rfl⟩)
  exact (h1 x (hlt x hx)).1 this
 ·intro h y hy
  obtain ⟨z, hz2, rfl⟩ := List.mem_map.1 hy
  refine hp.2 (fun y hy => ?_) z hz2
  obtain ⟨x, hx, rfl⟩ := List.mem_map.1 hy
  exact (h1 x (hlt x hx)).2 (h x hx)
theorem textQ_none {s : Bool} {e : Int} {n : Nat} {up : Bool} : textQ s 0 e n up = 0 := by
 unfold textQ
 rw [Nat.zero_mul, Nat.zero_mul, Nat.zero_mod, Nat.zero_div]
 split
 ·rfl
 ·rw [if_neg (fun hh => hh.2 rfl)]
/-- what is written of a number and of its opposite -/
theorem signs_fact {s t : Bool} {l : List Nat} {e : Int} {n : Nat} (hl : Lt W l) (hd : mayD s l e = true) (ht : t = if val W l = 0 then false else !false) :
  textK t l e n = textK false l e n ∧ (textK false l e n ≠ 0 → textS false l e n true = [] ∧ textS t l e n false = []) ∧ (textK false l e n = 0 → (zB (txt (textS false l e n true)) (txt (textS false l e n true)).size = true → textS t l e n false = textS false l e n true) ∧ (zB (txt (textS false l e n true)) (txt (textS false l e n true)).size = false → textS t l e n false = 45 :: textS false l e n true)) := by
 have hf := mayD_false hd
 have hm := dig_may hl (mayD_of hl hd).1
 have hk : textK t l e n = textK false l e n := by
  by_cases h0 : val W l = 0
  ·rw [ht, if_pos h0]
  ·have h1 : l ≠ [] := fun h => h0 (by rw [h]; rfl)
   unfold textK
   rw [hf, mayD_pos hd h1]
 refine ⟨hk, fun h => ?_, fun h => ?_⟩
 ·unfold textS
  exact ⟨by rw [if_neg h], by rw [hk, if_neg h]⟩
 ·have ha : textS false l e n true = pointT n (asc (padT n (textQ false (val W l) e n true))) := by
   unfold textS textT
   rw [if_pos h, Int.toNat_natCast, if_neg (fun hh => by cases hh.1), List.nil_append]
  have hb : textS t l e n false = (if t = true ∧ textQ t (val W l) e n false ≠ 0 then [45] else []) ++ pointT n (asc (padT n (textQ t (val W l) e n false))) := by
   unfold textS textT
   rw [hk, if_pos h, Int.toNat_natCast]
  have hq : textQ t (val W l) e n false = textQ false (val W l) e n true := by
   by_cases h0 : val W l = 0
   ·rw [h0, textQ_none, textQ_none]
   ·rw [ht, if_neg h0]
    rfl
  rw [ha, all_text, hb, hq]
  constructor
  ·intro h1
   have h2 := of_decide_eq_true h1
   rw [if_neg (fun hh => hh.2 h2), List.nil_append]
  ·intro h1
   have h2 := of_decide_eq_false h1
   have h3 : t = true := by
    rw [ht, if_neg]
    ·rfl
    ·intro h0
     apply h2
     rw [h0, textQ_none]
   rw [if_pos ⟨h3, h2⟩]
   rfl
theorem dneg_to4 {w : World} {A : Option Addr} {n c m : Nat} {s t : Bool} {e : Int} (hT : Tab w) (h : Nt w A n c m) (hd : OkD s m e) (ht : t = if m = 0 then s else !s) :
  Calls Tryz.prog 27 #[.agg #[.bool s, .slice A n c, .int .i64 e]] w (Goods t m e w) := by
 rw [ht]; exact dneg_any hT h hd
theorem textT_len {s : Bool} {m a n : Nat} {e : Int} {up : Bool} (hm : m < 2 ^ a) (ha : a ≤ 4096) (h1 : -2000 ≤ e) (h2 : e ≤ 2000) (hn : n ≤ 60) : (textT s m e n up).length ≤ 6400 := by
 have h := (sh_text s m e n up).1
 have hS := shD_small (V := allV m e) (k := allB e - (n : Int)) (away := up != s) (by unfold allB; split <;> omega)
 have hV := allV_small hm h1 h2
 unfold textT
 rw [← h]
 generalize shD (allV m e) (allB e - (n : Int)) (up != s) = S at *
 have h3 : (asc (List.replicate (n + 1 - S.length) 0 ++ S)).length ≤ 6300 := by rw [asc_len, List.length_append, List.length_replicate]; omega
 generalize asc (List.replicate (n + 1 - S.length) 0 ++ S) = R at *
 have h4 : (pointT n R).length ≤ 6301 := by
  unfold pointT
  split
  ·omega
  ·rw [List.length_append, List.length_cons, List.length_take, List.length_drop]
   omega
 rw [List.length_append]
 split
 ·show 1 + _ ≤ _
  omega
 ·show 0 + _ ≤ _
  omega
theorem textS_len {s : Bool} {l : List Nat} {e N : Int} {up : Bool} (hl : Lt W l) : (textS s l e N up).length ≤ 10000 := by
 unfold textS
 split
 ·rename_i hk
  unfold textK at hk
  split at hk
  ·rename_i h0
   split at hk
   ·rename_i h1
    have h5 := (mayD_of hl h0.1).1
    unfold mayB at h5
    simp only [Bool.and_eq_true, decide_eq_true_eq] at h5
    obtain ⟨a, ha, hM2⟩ : ∃ a, a ≤ 4096 ∧ val W l < 2 ^ a := ⟨_, by decide, val_small hl h5.1⟩
    have := textT_len (s := s) (n := N.toNat) (up := up) hM2 ha h1.1 h1.2 (by omega)
    omega
   ·cases hk
  ·cases hk
 ·exact Nat.zero_le _
theorem signs_any {w : World} {A1 : Option Addr} {n1 c1 : Nat} {l1 : List Nat} {s1 : Bool} {e1 p : Int} (hE : Errs w) (hT : Tab w) (hP : PowT w) (h1 : Rd w .u64 Go.Proofs.YtefofejgogokpaaGreatDoor.W A1 n1 c1 l1) :
  Calls Tryz.prog 7 #[.agg #[.bool s1, .slice A1 n1 c1, .int .i64 e1], .int .i64 p] w fun en w' => ToldEnd w en w' := by
 have xn1 : n1 ≤ 9223372036854775807 := Nat.le_trans h1.cap h1.max
 obtain ⟨rn, hrn⟩ := Int.eq_ofNat_of_zero_le (show 0 ≤ IntKind.u64.wrap p by rw [IntKind.wrap_u64]; omega)
 obtain ⟨qn, hqn⟩ : ∃ q, q = rn % 31 := ⟨_, rfl⟩
 have uun : (rn : Int) % 31 = (qn : Int) := by omega
 have uxn : (qn : Int) ≤ 30 := by omega
 have uwn : (0 : Int) ≤ (rn : Int) := by omega
 clear hqn
 have BB := below_alloc w (.cells #[.bool s1, .slice A1 n1 c1, .int .i64 e1] 25)
 have x := Box.new w s1 A1 n1 c1 e1
 have E0 := Lib.hid (And.intro hE (And.intro hT (And.intro hP h1)))
 have G := mv BB rfl <| And.intro hE <| And.intro hT <| And.intro hP h1
 clear hE hT hP h1
 obtain ⟨hE, hT, hP, h1⟩ := G
 obtain ⟨a0, a1, a2⟩ := x.held
 go_enter Tryz.func7, Tryz.ntmps7
 by_cases q1 : 6 < n1
 ·have d1 : decide ((6 : Int) < (n1 : Int)) = true := decide_eq_true (by omega)
  go_wp2_with fail
  refine (told4_any hE hT hP).mono ?_
  rintro en w99 ⟨rfl, b⟩
  replace BB := bnx BB b
  clear b
  go_wp2
  go_ret
  exact ⟨by first | rfl | simp, BB⟩
 have d1 : decide ((6 : Int) < (n1 : Int)) = false := decide_eq_false (by omega)
 go_wp2_with fail
 refine (dmay_any (s := s1) (e := e1) hT h1).mono ?_
 rintro en w2 ⟨rfl, b⟩
 replace BB := bnx BB b
 have G := mv b rfl (J8 hE hT hP h1 x a0 a1 a2)
 clear b hE hT hP h1 x a0 a1 a2
 obtain ⟨hE, hT, hP, h1, x, a0, a1, a2⟩ := G
 cases hd1 : mayD s1 l1 e1
 ·clear hd1
  go_wp2_with fail
  refine (told4_any hE hT hP).mono ?_
  rintro en w99 ⟨rfl, b⟩
  replace BB := bnx BB b
  clear b
  go_wp2
  go_ret
  exact ⟨by first | rfl | simp, BB⟩
 obtain ⟨hm, hok⟩ := mayD_of h1.lt hd1
 have hdl : dig Go.Proofs.YtefofejgogokpaaGreatDoor.W (val Go.Proofs.YtefofejgogokpaaGreatDoor.W l1) = l1 := dig_may h1.lt hm
 obtain ⟨t, ht⟩ : ∃ t, t = if val Go.Proofs.YtefofejgogokpaaGreatDoor.W l1 = 0 then false else !false := ⟨_, rfl⟩
 have SF := signs_fact (n := qn) h1.lt hd1 ht
 have hof := (mayD_of h1.lt (mayD_false hd1)).2
 have HM := Lib.hid hm
 have HDL := Lib.hid hdl
 have HTT := Lib.hid ht
 clear hdl ht hm hok hd1 q1 d1 xn1
 obtain ⟨f0, f1, f2⟩ := x.open
 go_wp2_with fail
 have BB3 := BB.setCell (p := ⟨w.heap.size, 0, none⟩) (Nat.le_refl _) (.bool false)
 have z := x.set0 (t := false)
 generalize w2.setCell ⟨w.heap.size, 0, none⟩ (.bool false) = w3 at *
 clear BB a0 a1 a2 f0 f1 f2 x h1 hE hT hP
 have G := mv BB3 rfl E0.out
 obtain ⟨hE, hT, hP, h1⟩ := G
 have N1 := (nt_of h1 HM.out).1
 have BB := BB3
 clear BB3
 obtain ⟨a0, a1, a2⟩ := z.held
 obtain ⟨s1', hs1'⟩ : ∃ z, z = textS false l1 e1 (qn : Int) true := ⟨_, rfl⟩
 obtain ⟨s2', hs2'⟩ : ∃ z, z = textS t l1 e1 (qn : Int) false := ⟨_, rfl⟩
 have HLEN : Hid (s1'.length ≤ 10000) := by rw [hs1']; exact textS_len h1.lt
 obtain ⟨k, hk⟩ : ∃ z, z = textK false l1 e1 (qn : Int) := ⟨_, rfl⟩
 rw [← hs1', ← hs2', ← hk] at SF
 obtain ⟨hk2, hk3, hk4⟩ := SF
 have C1 : Hid (∀ W1 : World, Tab W1 → PowT W1 → Rd W1 .u64 Go.Proofs.YtefofejgogokpaaGreatDoor.W A1 n1 c1 l1 → Calls Tryz.prog 18 #[.agg #[.bool false, .slice A1 n1 c1, .int .i64 e1], .int .i64 (qn : Int), .bool true] W1 fun en w' => en = .returned (.tuple #[.string (txt s1'), .int .i64 k]) ∧ Below W1.heap.size W1 w') := fun W1 t p r => by
  rw [hs1', hk]
  exact dtext_any t p r
 have C2 : Hid (∀ (W1 : World) (A3 : Option Addr) (n3 c3 : Nat), Tab W1 → PowT W1 → Nt W1 A3 n3 c3 (val Go.Proofs.YtefofejgogokpaaGreatDoor.W l1) → Calls Tryz.prog 18 #[.agg #[.bool t, .slice A3 n3 c3, .int .i64 e1], .int .i64 (qn : Int), .bool false] W1 fun en w' => en = .returned (.tuple #[.string (txt s2'), .int .i64 k]) ∧ Below W1.heap.size W1 w') := fun W1 A3 n3 c3 t' p r => by
  have r2 := r.rd
  rw [HDL.out] at r2
  rw [hs2', ← hk2]
  exact dtext_any t' p r2
 have HK := Lib.hid (And.intro hk3 hk4)
 clear hs1' hs2' hk hk2 hk3 hk4 HDL HM
 refine (C1.out _ hT hP h1).mono ?_
 rintro en w4 ⟨rfl, b⟩
 clear h1
 replace BB := bnx BB b
 have G := mv b rfl (J7 hE hT hP N1 a0 a1 a2)
 clear b hE hT hP N1 a0 a1 a2
 obtain ⟨hE, hT, hP, N1, a0, a1, a2⟩ := G
 go_wp2_with fail
 refine (dneg_to4 hT N1 hof HTT.out).mono ?_
 rintro en w5 ⟨A5, n5, c5, rfl, N5, b⟩
 clear N1 a0 a1 a2
 replace BB := bnx BB b
 have G := mv b rfl (J3 hE hT hP)
 clear b hE hT hP
 obtain ⟨hE, hT, hP⟩ := G
 go_wp2_with fail
 refine (C2.out _ _ _ _ hT hP N5).mono ?_
 rintro en w6 ⟨rfl, b⟩
 clear N5
 replace BB := bnx BB b
 have G := mv b rfl (J3 hE hT hP)
 clear b hE hT hP
 obtain ⟨hE, hT, hP⟩ := G
 clear C1 C2 HTT hof z uun uwn hrn
 by_cases hk0 : k = 0
 rotate_left
 ·obtain ⟨rfl, rfl⟩ := HK.out.1 hk0
  rw [show txt [] = (⟨#[]⟩ : ByteArray) from rfl]
  have d0 : (k == 0) = false := by simp [hk0]
  have d1 : (k != 0) = true := by simp [hk0]
  clear hk0 HK
  go_wp2_with fail
  refine (told4_any hE hT hP).mono ?_
  rintro en w99 ⟨rfl, b⟩
  replace BB := bnx BB b
  clear b
  go_wp2
  go_ret
  exact ⟨by first | rfl | simp, BB⟩
 have HQ := Lib.hid (HK.out.2 hk0)
 subst hk0
 clear HK
 obtain ⟨sa, hsa⟩ : ∃ z, z = txt s1' := ⟨_, rfl⟩
 have hssz : sa.size ≤ 10000 := by rw [hsa, txt_size]; exact HLEN.out
 have HSA := Lib.hid hsa
 rw [← hsa]
 rw [← hsa] at HQ
 clear hsa HLEN
 go_wp2
 go_loop [10, 11] (fun z i => ∃ k : Nat, k ≤ sa.size ∧ i = .int .i64 k ∧ z = .bool (zB sa k)) (fun _ i => sa.size - (intOf i).toNat)
 case atStart => exact ⟨0, Nat.zero_le _, rfl, rfl⟩
 case round =>
  obtain ⟨k, hk, rfl, rfl⟩ := hrel
  by_cases hlt : k < sa.size
  ·have hn := zB_next hlt
   have HN := Lib.hid hn
   have b1 := byte_is (c := sa[k]) 48
   have b2 := byte_is (c := sa[k]) 46
   rw [show ((48 : UInt8).toNat : Int) = 48 from rfl] at b1
   rw [show ((46 : UInt8).toNat : Int) = 46 from rfl] at b2
   clear hn
   cases hz : zB sa k
   all_goals cases h8 : sa[k] == 48
   all_goals cases h6 : sa[k] == 46
   all_goals rw [h8] at b1
   all_goals rw [h6] at b2
   all_goals rw [hz, h8, h6] at HN
   all_goals clear hz h8 h6
   all_goals go_wp2
   all_goals go_round
   all_goals (first | (case rel => exact ⟨k + 1, by omega, by go_num, by rw [HN.out]; rfl⟩) | (case measure => simp [intOf]; omega))
  ·obtain rfl : k = sa.size := by omega
   have HE := Lib.hid hlt
   clear hlt
   cases hz : zB sa sa.size
   ·have hb := HQ.out.2 hz
    clear hz
    subst hb
    rw [show txt (45 :: s1') = (⟨#[45]⟩ : ByteArray) ++ sa from by rw [HSA.out]; exact (txt_append [45] s1').symm]
    go_wp2_with fail
    refine (told4_any hE hT hP).mono ?_
    rintro en w99 ⟨rfl, b⟩
    replace BB := bnx BB b
    clear b
    go_wp2
    try any_goals (exfalso; omega)
    go_ret
    exact ⟨by first | rfl | simp, BB⟩
   ·have hb := HQ.out.1 hz
    clear hz
    subst hb
    rw [← HSA.out]
    go_wp2_with fail
    refine (told4_any hE hT hP).mono ?_
    rintro en w99 ⟨rfl, b⟩
    replace BB := bnx BB b
    clear b
    go_wp2
    go_ret
    exact ⟨by first | rfl | simp, BB⟩
end Go.Proofs.YtefofejgogokpaaGreatDoor
