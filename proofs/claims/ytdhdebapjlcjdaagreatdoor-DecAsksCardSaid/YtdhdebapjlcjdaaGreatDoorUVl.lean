/-
 Contract of dec's Exact, at this translation. Condition: the two errors of strconv are interfaces, or nil; the table of math/bits reads as its text lays it.
-/
import Derived.Test.YtdhdebapjlcjdaaGreatDoorUKg
import Derived.Test.YtdhdebapjlcjdaaGreatDoorURf
import Derived.Test.YtdhdebapjlcjdaaGreatDoorURa
set_option maxHeartbeats 8000000
set_option maxRecDepth 100000
namespace Go.Proofs.YtdhdebapjlcjdaaGreatDoor
open Go.RowKit

theorem part_some {l p r : List UInt8} (h : partD l = some (p, r)) : Digs p ∧ p.length ≤ l.length := by
 unfold partD at h
 split at h
 ·split at h
  ·cases h
  ·injection h with h
   injection h with h1 h2
   rw [← h1]
   exact ⟨digs_span _, Nat.le_trans (span_len _) (trim_le _ _)⟩
 ·injection h with h
  injection h with h1 h2
  rw [← h1]
  exact ⟨fun c hc => (List.not_mem_nil hc).elim, Nat.zero_le _⟩
theorem ten_some {l r : List UInt8} {t : Int} (h : tenD l = some (t, r)) : -100 ≤ t ∧ t ≤ 100 := by
 unfold tenD at h
 split at h
 ·exact pow_bound h.symm
 ·injection h with h
  injection h with h1 h2
  omega
theorem digs_append {l r : List UInt8} (h : Digs l) (h' : Digs r) : Digs (l ++ r) := fun c hc => (List.mem_append.1 hc).elim (h c) (h' c)
/-- what a literal's parts are -/
theorem read_some {l d : List UInt8} {t : Int} (h : readD l = some (d, t)) : Digs d ∧ d.length ≤ 60 ∧ -160 ≤ t ∧ t ≤ 100 := by
 unfold readD at h
 split at h
 ·cases h
 ·rename_i hn
  have hn1 : ¬ 60 < l.length := fun x => hn (.inl x)
  cases hp : partD (restD l) with
  | none => rw [hp] at h; cases h
  | some pr =>
   obtain ⟨p, r⟩ := pr
   rw [hp] at h
   dsimp only at h
   cases ht : tenD r with
   | none => rw [ht] at h; cases h
   | some tr =>
    obtain ⟨t2, r2⟩ := tr
    rw [ht] at h
    dsimp only at h
    split at h
    ·injection h with h
     injection h with h1 h2
     obtain ⟨p1, p2⟩ := part_some hp
     have b2 := ten_some ht
     have e := congrArg List.length (span_rest l)
     rw [List.length_append] at e
     rw [← h1]
     refine ⟨digs_append (digs_span l) p1, ?_, by omega, by omega⟩
     rw [List.length_append]
     omega
    ·cases h
/-- what Exact tells -/
def ExP (o : Option (List UInt8 × Int)) (k : Int) (s : Bool) (m : Nat) (e : Int) : Prop := match o with
 | none => k = 6 ∧ s = false ∧ m = 0 ∧ e = 0
 | some (d, t) => if numV d * 5 ^ t.toNat % 5 ^ (-t).toNat = 0 then Nm false (numV d * 5 ^ t.toNat / 5 ^ (-t).toNat) t k s m e else k = 6 ∧ s = false ∧ m = 0 ∧ e = 0
theorem exact1_any {w : World} {s : ByteArray} {g : Nat} (hE : Errs w) (hT : Tab w) (hs : w.cell? ⟨g, 0, none⟩ = some (.string s)) :
  Calls Tryz.prog 31 #[.pointer (some ⟨g, 0, none⟩)] w (Ran (ExP (readD s.data.toList)) w) := by
 obtain ⟨o, ho⟩ : ∃ o, o = readD s.data.toList := ⟨_, rfl⟩
 rw [← ho]
 have HO := Lib.hid ho
 clear ho
 have BB := below_alloc w (.cells #[.bool false, .slice none 0 0, .int .i64 0] 25)
 have r := Box.new w false none 0 0 0
 have b := BB
 have G := mv b rfl (J3 hE hT hs)
 clear b hE hT hs
 obtain ⟨hE, hT, hs⟩ := G
 go_enter Tryz.func31, Tryz.ntmps31
 go_wp2_with fail
 refine (show Calls Tryz.prog 20 #[.string s] _ (NumEnd o _) from by rw [HO.out]; exact dread_any hE).mono ?_
 clear hE hs
 rcases o with _ | ⟨d, t⟩
 ·rintro en w1 ⟨rfl, b⟩
  replace BB := bnx BB b
  clear b
  go_wp2
  exact ⟨rfl, ran_fault ⟨rfl, BB⟩ (by decide) ⟨rfl, rfl, rfl, rfl⟩⟩
 obtain ⟨hd, hl, t1, t2⟩ := read_some HO.out.symm
 clear HO
 rintro en w1 ⟨rfl, b⟩
 replace BB := bnx BB b
 have G := mv b rfl <| And.intro hT <| r
 clear b hT r
 obtain ⟨hT, r⟩ := G
 have xn := Nbx.new w1 ⟨d.toArray⟩ t
 have b := below_alloc w1 (.cells #[.string ⟨d.toArray⟩, .int .i64 t] 45)
 replace BB := bnx BB b
 have G := mv b rfl <| And.intro hT <| r
 clear b hT r
 obtain ⟨hT, r⟩ := G
 obtain ⟨m0, m1⟩ := xn.held
 clear xn
 obtain ⟨X, hX⟩ : ∃ X, X = numV d * 5 ^ t.toNat := ⟨_, rfl⟩
 obtain ⟨Y, hY⟩ : ∃ Y, Y = 5 ^ (-t).toNat := ⟨_, rfl⟩
 have hY0 : Y ≠ 0 := by rw [hY]; exact Nat.ne_of_gt (Nat.pow_pos (by omega))
 have HS : Hid (∀ k s m e, (if X % Y = 0 then Nm false (X / Y) t k s m e else k = 6 ∧ s = false ∧ m = 0 ∧ e = 0) → ExP (some (d, t)) k s m e) := Lib.hid (by rw [hX, hY]; exact fun _ _ _ _ h => h)
 have HC : Hid (∀ W2 : World, Calls Tryz.prog 21 #[.agg #[.string ⟨d.toArray⟩, .int .i64 t]] W2 fun en w' => ∃ A n c B m e, en = .returned (.tuple #[.slice A n c, .slice B m e]) ∧ Nt w' A n c X ∧ Nt w' B m e Y ∧ Below W2.heap.size W2 w') := Lib.hid (by rw [hX, hY]; exact fun _ => dratio_any hd hl t1 t2)
 clear hX hY hd hl
 go_wp2_with fail
 refine (HC.out _).mono ?_
 rintro en w2 ⟨A1, n1, c1, A2, n2, c2, rfl, N1, N2, b⟩
 replace BB := bnx BB b
 have G := mv b rfl (J4 hT r m0 m1)
 clear b hT r m0 m1
 obtain ⟨hT, r, m0, m1⟩ := G
 go_wp2_with fail
 refine (div_ok N1 N2 hY0).mono ?_
 rintro en w3 ⟨A3, n3, c3, A4, n4, c4, rfl, N3, N4, b⟩
 clear N1 N2
 replace BB := bnx BB b
 have G := mv b rfl (J4 hT r m0 m1)
 clear b hT r m0 m1
 obtain ⟨hT, r, m0, m1⟩ := G
 go_wp2_with fail
 refine check_ok.mono ?_
 rintro en w4 ⟨rfl, rfl⟩
 by_cases hz : X % Y = 0
 ·obtain rfl : n4 = 0 := N4.zero.2 hz
  clear N4
  replace HS : Hid (∀ k s m e, Nm false (X / Y) t k s m e → ExP (some (d, t)) k s m e) := Lib.hid fun k s m e h => HS.out k s m e (by rw [if_pos hz]; exact h)
  clear hz
  obtain ⟨Q, hQ⟩ : ∃ Q, Q = X / Y := ⟨_, rfl⟩
  rw [← hQ] at N3 HS
  clear hQ hY0 HC
  have hB := blen_nt N3
  go_wp2_with fail
  refine (dnorm_ok (s := false) (e := t) hT N3).mono ?_
  rintro en w5 ⟨k, s', A5, n5, c5, m', e', rfl, hP, N5, b⟩
  obtain rfl : k = 0 := nm_good hP hB (by omega) (by omega)
  replace HS := Lib.hid (HS.out _ _ _ _ hP)
  clear hP hB
  clear N3
  replace BB := bnx BB b
  have G := mv b rfl (J4 hT r m0 m1)
  clear b hT r m0 m1
  obtain ⟨hT, r, m0, m1⟩ := G
  go_wp2_with fail
  refine (must_ok N5).mono ?_
  rintro en w6 ⟨A6, n6, c6, rfl, N6, b⟩
  clear N5
  replace BB := bnx BB b
  have G := mv b rfl (J4 hT r m0 m1)
  clear b hT r m0 m1
  obtain ⟨hT, r, m0, m1⟩ := G
  obtain ⟨f0, f1, f2⟩ := r.open
  obtain ⟨z0, z1, z2⟩ := r.held
  go_wp2
  have qq := r.put s' A6 n6 c6 e'
  have hN := N6.put3 r (.bool s') (.slice A6 n6 c6) (.int .i64 e')
  have HB3 := below_put3 (g := w.heap.size) BB (Nat.le_refl _) (.bool s') (.slice A6 n6 c6) (.int .i64 e')
  obtain ⟨z0, z1, z2⟩ := qq.held
  exact bodyPost_ret (v := .agg #[.bool s', .slice A6 n6 c6, .int .i64 e']) (by simp [results, Tryz.results31, go_sem, z0, z1, z2]) rfl (.inl ⟨_, _, _, _, _, _, rfl, HS.out, hN, HB3⟩)
 ·have hn4 : n4 ≠ 0 := fun h => hz (N4.zero.1 h)
  have hn5 : (0 : Int) < (n4 : Int) := by omega
  replace HS := Lib.hid (HS.out 6 false 0 0 (by rw [if_neg hz]; exact ⟨rfl, rfl, rfl, rfl⟩))
  clear hz N3 N4 HC hY0
  go_wp2
  exact ⟨rfl, ran_fault ⟨rfl, BB⟩ (by decide) HS.out⟩
theorem exact_any {w : World} {s : ByteArray} (hE : Errs w) (hT : Tab w) :
  Calls Tryz.prog 8 #[.string s] w (Tells (ExP (readD s.data.toList)) w) := by
 have hmf := make_func
 obtain ⟨P, hP⟩ : ∃ P, P = ExP (readD s.data.toList) := ⟨_, rfl⟩
 rw [← hP]
 have HP := Lib.hid hP
 clear hP
 have BB := two_below w (.cells #[.string s] 9) (.cells #[.bool false, .slice none 0 0, .int .i64 0] 25)
 have hs : (w.alloc (.cells #[.string s] 9)).cell? ⟨w.heap.size, 0, none⟩ = some (.string s) := cell_of_row _ _ 0 _ 9 (0, 0) (heap_alloc_new w _)
 replace hs := mv (below_alloc (w.alloc (.cells #[.string s] 9)) (.cells #[.bool false, .slice none 0 0, .int .i64 0] 25)) rfl hs
 have r := box_one w (.cells #[.string s] 9) false none 0 0 0
 have G := mv BB rfl <| And.intro hE <| hT
 clear hE hT
 obtain ⟨hE, hT⟩ := G
 go_enter Tryz.func8, Tryz.ntmps8
 go_wp2_with fail
 refine (told_face (P := P) (fun _ => by kernel_rfl) (fun W2 h2 => ?_)).mono ?_
 ·subst h2
  have b2 := two_below ((w.alloc (.cells #[.string s] 9)).alloc (.cells #[.bool false, .slice none 0 0, .int .i64 0] 25)) (.cells #[.bool false, .slice none 0 0, .int .i64 0] 25) (.cells #[.int .i64 0] 3)
  rw [HP.out]
  exact exact1_any (mv b2 rfl hE) (mv b2 rfl hT) (mv b2 rfl hs)
 rintro en w5 ⟨k, s', A5, n5, c5, m', e', rfl, hQ, h5, b⟩
 have HQ := Lib.hid hQ
 clear hE hT hs HP hQ
 replace BB := bnx BB b
 replace r := mv b rfl r
 clear b
 obtain ⟨f0, f1, f2⟩ := r.open
 obtain ⟨z0, z1, z2⟩ := r.held
 go_wp2
 have qq := r.put s' A5 n5 c5 e'
 have hN := h5.put3 r (.bool s') (.slice A5 n5 c5) (.int .i64 e')
 have HB3 := below_put3 (g := w.heap.size + 1) BB (by omega) (.bool s') (.slice A5 n5 c5) (.int .i64 e')
 obtain ⟨z0, z1, z2⟩ := qq.held
 exact bodyPost_ret (v := .tuple #[.agg #[.bool s', .slice A5 n5 c5, .int .i64 e'], .int .i64 k]) (by simp [results, Tryz.results8, go_sem, z0, z1, z2]) rfl ⟨_, _, _, _, _, _, _, rfl, HQ.out, hN, HB3⟩
end Go.Proofs.YtdhdebapjlcjdaaGreatDoor
namespace Go.Proofs.YtdhdebapjlcjdaaGreatDoor

/-- how far the scan goes on at a point -/
def litP (r : List UInt8) : Nat := if r.head? = some 46 then (if spanD r.tail = [] then 0 else 1 + (spanD r.tail).length) else 0
/-- one for a sign -/
def litG (t : List UInt8) : Nat := if t.head? = some 43 ∨ t.head? = some 45 then 1 else 0
/-- how far it goes on at a power of ten -/
def litE (r : List UInt8) : Nat :=
 if r.head? = some 101 then
  (if 0 < min (spanD (r.tail.drop (litG r.tail))).length 4 ∧ min (spanD (r.tail.drop (litG r.tail))).length 4 ≤ 3 ∧ numV ((spanD (r.tail.drop (litG r.tail))).take 4) ≤ 100 then 1 + litG r.tail + min (spanD (r.tail.drop (litG r.tail))).length 4 else 0)
 else 0
/-- the literal's length -/
def litN (l : List UInt8) : Nat := if spanD l = [] then 0 else (spanD l).length + litP (restD l) + litE ((restD l).drop (litP (restD l)))

theorem pre_cons (c x : UInt8) (t : List UInt8) : Lib.hasPrefix (c :: t) [x] = (c == x) := by
 cases h : c == x with
 | true => rw [beq_iff_eq] at h; subst h; simp [Lib.hasPrefix]
 | false =>
  have h2 : (x == c) = false := by rw [beq_eq_false_iff_ne] at h ⊢; exact fun e => h e.symm
  show List.isPrefixOf [x] (c :: t) = false
  simp [List.isPrefixOf, h2]
theorem pre_nil (x : UInt8) : Lib.hasPrefix [] [x] = false := rfl
theorem trim_cons (c x : UInt8) (t : List UInt8) : Lib.trimPrefix (c :: t) [x] = if c = x then t else c :: t := by
 unfold Lib.trimPrefix
 rw [pre_cons]
 by_cases h : c = x
 ·rw [if_pos h, if_pos (by rw [h]; simp)]; rfl
 ·rw [if_neg h, if_neg (by simp [h])]
theorem trim_nil (x : UInt8) : Lib.trimPrefix [] [x] = [] := rfl
theorem span_all (l : List UInt8) : (spanD l).length = l.length ↔ restD l = [] := by
 have h := congrArg List.length (span_rest l)
 rw [List.length_append] at h
 constructor
 ·intro h1; exact List.eq_nil_of_length_eq_zero (by omega)
 ·intro h1; rw [h1] at h; simp at h; exact h
theorem pow_is (t : List UInt8) : powD t = (if spanD (t.drop (litG t)) = [] ∨ 3 < (spanD (t.drop (litG t))).length ∨ 100 < numV (spanD (t.drop (litG t))) then none else some (if Lib.hasPrefix t [45] = true then -(numV (spanD (t.drop (litG t))) : Int) else (numV (spanD (t.drop (litG t))) : Int), restD (t.drop (litG t)))) := by
 have h : (if Lib.hasPrefix t [45] = true then Lib.trimPrefix t [45] else Lib.trimPrefix t [43]) = t.drop (litG t) := by
  cases t with
  | nil => rfl
  | cons c u =>
   rw [pre_cons, trim_cons, trim_cons]
   unfold litG
   by_cases h1 : c = 45
   ·subst h1; simp
   ·by_cases h2 : c = 43
    ·subst h2; simp
    ·simp [h1, h2]
 unfold powD
 dsimp only
 rw [h]
theorem ten_all (r : List UInt8) : litE r = r.length ↔ ∃ x, tenD r = some (x, []) := by
 cases r with
 | nil => exact ⟨fun _ => ⟨0, rfl⟩, fun _ => rfl⟩
 | cons c t =>
  unfold tenD
  rw [pre_cons, trim_cons]
  by_cases hc : c = 101
  ·subst hc
   rw [if_pos (by simp), if_pos rfl, pow_is]
   unfold litE
   rw [if_pos (by simp), List.tail_cons, List.length_cons]
   have hg : t.length = litG t + (t.drop (litG t)).length := by
    rw [List.length_drop]
    have : litG t ≤ t.length := by
     unfold litG
     cases t with
     | nil => simp
     | cons c u => split <;> simp
    omega
   generalize litG t = g at *
   generalize t.drop g = r1 at *
   have ha := span_all r1
   have hl := span_len r1
   have he : spanD r1 = [] ↔ (spanD r1).length = 0 := List.length_eq_zero_iff.symm
   by_cases h4 : (spanD r1).length ≤ 3
   ·rw [List.take_of_length_le (by omega), Nat.min_eq_left (by omega)]
    by_cases h5 : spanD r1 = [] ∨ 3 < (spanD r1).length ∨ 100 < numV (spanD r1)
    ·rw [if_pos h5, if_neg (by rw [he] at h5; omega)]
     exact ⟨fun h => (by omega), fun ⟨x, h⟩ => (by cases h)⟩
    ·rw [if_neg h5, if_pos (by rw [he] at h5; omega)]
     constructor
     ·intro h
      rw [ha.1 (by omega)]
      exact ⟨_, rfl⟩
     ·rintro ⟨x, h⟩
      injection h with h
      injection h with _ h
      have := ha.2 h
      omega
   ·rw [Nat.min_eq_right (by omega), if_neg (by omega), if_pos (.inr (.inl (by omega)))]
    exact ⟨fun h => (by omega), fun ⟨x, h⟩ => (by cases h)⟩
  ·rw [if_neg (by simp [hc])]
   unfold litE
   rw [if_neg (by simp [hc]), List.length_cons]
   exact ⟨fun h => (by omega), fun ⟨x, h⟩ => (by injection h with h; injection h with _ h; cases h)⟩
/-- the scan takes all of a text just if it is a literal -/
theorem lit_all {l : List UInt8} (h60 : l.length ≤ 60) (h0 : l ≠ []) : litN l = l.length ↔ (readD l).isSome = true := by
 have hl := congrArg List.length (span_rest l)
 rw [List.length_append] at hl
 have hn : 0 < l.length := List.length_pos_iff.2 h0
 unfold litN readD
 by_cases hs : spanD l = []
 ·rw [if_pos hs, if_pos (.inr hs)]
  exact ⟨fun h => (by omega), fun h => (by cases h)⟩
 rw [if_neg hs, if_neg (fun h => h.elim (fun h => by omega) hs)]
 generalize restD l = r at *
 have fin : ∀ (p r2 : List UInt8), litE r2 = r2.length ↔ (match tenD r2 with | none => (none : Option (List UInt8 × Int)) | some (t, r3) => if r3 = [] then some (spanD l ++ p, t - (p.length : Int)) else none).isSome = true := by
  intro p r2
  rw [ten_all]
  cases tenD r2 with
  | none => exact ⟨fun ⟨x, h⟩ => (by cases h), fun h => (by cases h)⟩
  | some y =>
   obtain ⟨t, r3⟩ := y
   dsimp only
   by_cases h : r3 = []
   ·rw [if_pos h, h]
    exact ⟨fun _ => rfl, fun _ => ⟨t, rfl⟩⟩
   ·rw [if_neg h]
    exact ⟨fun ⟨x, h2⟩ => (by injection h2 with h2; injection h2 with _ h2; exact absurd h2 h), fun h => (by cases h)⟩
 unfold litP partD
 cases r with
 | nil =>
  rw [pre_nil, if_neg (by simp), if_neg (by simp)]
  dsimp only
  refine Iff.trans ?_ (fin [] [])
  rw [List.drop_nil]
  have h7 : litE [] = 0 := rfl
  rw [h7]
  simp at hl ⊢
  omega
 | cons c t =>
  rw [pre_cons, trim_cons]
  rw [List.length_cons] at hl
  by_cases hc : c = 46
  ·subst hc
   have hh : (46 :: t : List UInt8).head? = some 46 := rfl
   have hb : ((46 : UInt8) == 46) = true := rfl
   rw [if_pos hh, if_pos hb, if_pos rfl, List.tail_cons]
   by_cases ht : spanD t = []
   ·rw [if_pos ht, if_pos ht]
    dsimp only
    have : litE (46 :: t) = 0 := by unfold litE; rw [if_neg (by simp)]
    rw [List.drop_zero, this]
    exact ⟨fun h => (by omega), fun h => (by cases h)⟩
   ·rw [if_neg ht, if_neg ht]
    dsimp only
    refine Iff.trans ?_ (fin (spanD t) (restD t))
    rw [Nat.add_comm 1, List.drop_succ_cons, ← rest_drop]
    have h9 := congrArg List.length (span_rest t)
    rw [List.length_append] at h9
    omega
  ·have hh : ¬ (c :: t : List UInt8).head? = some 46 := by simp [hc]
   have hb : ¬ (c == 46) = true := by simp [hc]
   rw [if_neg hh, if_neg hb]
   dsimp only
   refine Iff.trans ?_ (fin [] (c :: t))
   rw [List.drop_zero, List.length_cons]
   omega
end Go.Proofs.YtdhdebapjlcjdaaGreatDoor
