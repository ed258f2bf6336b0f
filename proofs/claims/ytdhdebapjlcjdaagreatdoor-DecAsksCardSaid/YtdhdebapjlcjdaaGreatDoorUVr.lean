/-
 Plain facts on the document's Value: what it knows behind each byte, and that behind a literal this is what its parts are. No condition; nothing of the program is named here.
-/
import Derived.Test.YtdhdebapjlcjdaaGreatDoorUVl
import Derived.Test.YtdhdebapjlcjdaaGreatDoorURu
import Derived.Test.YtdhdebapjlcjdaaGreatDoorUVe
import Derived.Test.YtdhdebapjlcjdaaGreatDoorUVn
namespace Go.Proofs.YtdhdebapjlcjdaaGreatDoor

/-- what is known behind some bytes -/
structure VSt where
 m : Nat
 k : Int
 e : Nat
 neg : Bool
 pt : Bool
 pw : Bool
def vst0 : VSt := ⟨0, 0, 0, false, false, false⟩
def vstep (s : VSt) (c : UInt8) : VSt :=
 if c = 46 then ⟨s.m, s.k, s.e, s.neg, true, s.pw⟩ else if c = 101 then ⟨s.m, s.k, s.e, s.neg, s.pt, true⟩ else if c = 45 then ⟨s.m, s.k, s.e, true, s.pt, s.pw⟩ else if c = 43 then s
 else if s.pw = true then ⟨s.m, s.k, s.e * 10 + (c.toNat - 48), s.neg, s.pt, s.pw⟩ else ⟨s.m * 10 + (c.toNat - 48), if s.pt = true then s.k - 1 else s.k, s.e, s.neg, s.pt, s.pw⟩
def vfold (l : List UInt8) : VSt := l.foldl vstep vst0
theorem vst_ne {c : UInt8} (h : isDig c = true) : c ≠ 46 ∧ c ≠ 101 ∧ c ≠ 45 ∧ c ≠ 43 := by
 have h1 := isDig_iff.1 h
 refine ⟨?_, ?_, ?_, ?_⟩ <;> rintro rfl <;> revert h1 <;> decide
theorem vstep_dig {s : VSt} {c : UInt8} (h : isDig c = true) : vstep s c = if s.pw = true then ⟨s.m, s.k, s.e * 10 + (c.toNat - 48), s.neg, s.pt, s.pw⟩ else ⟨s.m * 10 + (c.toNat - 48), if s.pt = true then s.k - 1 else s.k, s.e, s.neg, s.pt, s.pw⟩ := by
 obtain ⟨h1, h2, h3, h4⟩ := vst_ne h
 unfold vstep
 rw [if_neg h1, if_neg h2, if_neg h3, if_neg h4]
theorem numV_cons (x : UInt8) (xs : List UInt8) : numV (x :: xs) = (x.toNat - 48) * 10 ^ xs.length + numV xs := by
 have h := numV_append [x] xs
 have e1 : numV [x] = x.toNat - 48 := by unfold numV; simp
 rw [e1] at h
 exact h
theorem vfold_digs {a : List UInt8} (ha : Digs a) : ∀ {m : Nat} {k : Int} {e : Nat} {g p : Bool}, a.foldl vstep ⟨m, k, e, g, p, false⟩ = ⟨m * 10 ^ a.length + numV a, if p = true then k - a.length else k, e, g, p, false⟩ := by
 induction a with
 | nil =>
  intro m k e g p
  rw [List.foldl_nil, List.length_nil, Nat.pow_zero, Nat.mul_one, show numV [] = 0 from rfl, Nat.add_zero]
  congr 1
  split <;> simp
 | cons x xs ih =>
  intro m k e g p
  rw [List.foldl_cons, vstep_dig (ha x List.mem_cons_self), if_neg Bool.false_ne_true, ih (fun c hc => ha c (List.mem_cons_of_mem _ hc)), List.length_cons, numV_cons]
  dsimp only
  congr 1
  ·rw [Nat.pow_succ, Nat.add_mul]
   have : m * 10 * 10 ^ xs.length = m * (10 ^ xs.length * 10) := by ac_rfl
   omega
  ·cases p <;> simp
   omega
theorem vfold_pow {a : List UInt8} (ha : Digs a) : ∀ {m : Nat} {k : Int} {e : Nat} {g p : Bool}, a.foldl vstep ⟨m, k, e, g, p, true⟩ = ⟨m, k, e * 10 ^ a.length + numV a, g, p, true⟩ := by
 induction a with
 | nil =>
  intro m k e g p
  rw [List.foldl_nil, List.length_nil, Nat.pow_zero, Nat.mul_one, show numV [] = 0 from rfl, Nat.add_zero]
 | cons x xs ih =>
  intro m k e g p
  rw [List.foldl_cons, vstep_dig (ha x List.mem_cons_self), if_pos rfl, ih (fun c hc => ha c (List.mem_cons_of_mem _ hc)), List.length_cons, numV_cons]
  dsimp only
  congr 1
  rw [Nat.pow_succ, Nat.add_mul]
  have : e * 10 * 10 ^ xs.length = e * (10 ^ xs.length * 10) := by ac_rfl
  omega
/-- a byte that a literal may have -/
def LitB (c : UInt8) : Prop := c = 46 ∨ c = 101 ∨ c = 45 ∨ c = 43 ∨ isDig c = true
theorem digs_litb {a : List UInt8} (h : Digs a) : ∀ c ∈ a, LitB c := fun c hc => .inr (.inr (.inr (.inr (h c hc))))
theorem part_shape {r p q : List UInt8} (h : partD r = some (p, q)) : (p = [] ∧ q = r) ∨ (r = 46 :: (p ++ q) ∧ Digs p) := by
 unfold partD at h
 cases r with
 | nil =>
  rw [pre_nil, if_neg Bool.false_ne_true] at h
  injection h with h
  injection h with h1 h2
  exact .inl ⟨h1.symm, h2.symm⟩
 | cons c r =>
  rw [pre_cons] at h
  by_cases hc : c = 46
  ·subst hc
   rw [if_pos (show ((46 : UInt8) == 46) = true from rfl), show Lib.trimPrefix (46 :: r) [46] = r from rfl] at h
   split at h
   ·cases h
   ·injection h with h
    injection h with h1 h2
    refine .inr ⟨?_, ?_⟩
    ·rw [← h1, ← h2, span_rest]
    ·rw [← h1]; exact digs_span r
  ·rw [if_neg (fun h2 => hc (by simpa using h2))] at h
   injection h with h
   injection h with h1 h2
   exact .inl ⟨h1.symm, h2.symm⟩
theorem pow_shape {l : List UInt8} {t : Int} (h : powD l = some (t, [])) : ∃ g c, l = g ++ c ∧ Digs c ∧ numV c ≤ 100 ∧ ((g = [45] ∧ t = -(numV c : Int)) ∨ ((g = [43] ∨ g = []) ∧ t = (numV c : Int))) := by
 unfold powD at h
 dsimp only at h
 have fin : ∀ (b : Bool) (r : List UInt8), (if spanD r = [] ∨ 3 < (spanD r).length ∨ 100 < numV (spanD r) then none else some (if b = true then -(numV (spanD r) : Int) else (numV (spanD r) : Int), restD r)) = some (t, []) → Digs r ∧ numV r ≤ 100 ∧ t = if b = true then -(numV r : Int) else (numV r : Int) := fun b r h => by
  split at h
  ·cases h
  ·rename_i hn
   injection h with h
   injection h with h1 h2
   have e := span_rest r
   rw [h2, List.append_nil] at e
   rw [e] at hn h1
   refine ⟨by rw [← e]; exact digs_span r, ?_, h1.symm⟩
   exact Nat.le_of_not_lt fun h3 => hn (.inr (.inr h3))
 cases l with
 | nil =>
  rw [pre_nil, if_neg Bool.false_ne_true, show Lib.trimPrefix [] [43] = [] from rfl] at h
  obtain ⟨h1, h2, h3⟩ := fin false [] h
  exact ⟨[], [], rfl, h1, h2, .inr ⟨.inr rfl, h3⟩⟩
 | cons c r =>
  rw [pre_cons] at h
  by_cases hc : c = 45
  ·subst hc
   rw [show ((45 : UInt8) == 45) = true from rfl, if_pos rfl, show Lib.trimPrefix (45 :: r) [45] = r from rfl] at h
   obtain ⟨h1, h2, h3⟩ := fin true r h
   exact ⟨[45], r, rfl, h1, h2, .inl ⟨rfl, h3⟩⟩
  ·rw [show (c == 45) = false from beq_false_of_ne hc, if_neg Bool.false_ne_true] at h
   by_cases hc2 : c = 43
   ·subst hc2
    rw [show Lib.trimPrefix (43 :: r) [43] = r from rfl] at h
    obtain ⟨h1, h2, h3⟩ := fin false r h
    exact ⟨[43], r, rfl, h1, h2, .inr ⟨.inl rfl, h3⟩⟩
   ·rw [show Lib.trimPrefix (c :: r) [43] = c :: r by unfold Lib.trimPrefix; rw [pre_cons, if_neg (fun h2 => hc2 (by simpa using h2))]] at h
    obtain ⟨h1, h2, h3⟩ := fin false (c :: r) h
    exact ⟨[], c :: r, rfl, h1, h2, .inr ⟨.inr rfl, h3⟩⟩
theorem ten_shape {q : List UInt8} {t : Int} (h : tenD q = some (t, [])) : (q = [] ∧ t = 0) ∨ ∃ g c, q = 101 :: (g ++ c) ∧ Digs c ∧ numV c ≤ 100 ∧ ((g = [45] ∧ t = -(numV c : Int)) ∨ ((g = [43] ∨ g = []) ∧ t = (numV c : Int))) := by
 unfold tenD at h
 cases q with
 | nil =>
  rw [pre_nil, if_neg Bool.false_ne_true] at h
  injection h with h
  injection h with h1 h2
  exact .inl ⟨rfl, h1.symm⟩
 | cons x q =>
  rw [pre_cons] at h
  by_cases hx : x = 101
  ·subst hx
   rw [if_pos (show ((101 : UInt8) == 101) = true from rfl), show Lib.trimPrefix (101 :: q) [101] = q from rfl] at h
   obtain ⟨g, c, rfl, h1⟩ := pow_shape h
   exact .inr ⟨g, c, rfl, h1⟩
  ·rw [if_neg (fun h2 => hx (by simpa using h2))] at h
   injection h with h
   injection h with h1 h2
   cases h2
/-- behind a literal Value knows what its parts are -/
theorem vfold_read {l d : List UInt8} {t : Int} (h : readD l = some (d, t)) :
  (vfold l).m = numV d ∧ (if (vfold l).neg = true then (vfold l).k - ((vfold l).e : Int) else (vfold l).k + ((vfold l).e : Int)) = t ∧ (vfold l).e ≤ 100 ∧ ∀ c ∈ l, LitB c := by
 unfold readD at h
 split at h
 ·cases h
 ·cases hp : partD (restD l) with
  | none => rw [hp] at h; cases h
  | some pq =>
   obtain ⟨p, q⟩ := pq
   rw [hp] at h
   dsimp only at h
   cases hq : tenD q with
   | none => rw [hq] at h; cases h
   | some tr =>
    obtain ⟨t2, r2⟩ := tr
    rw [hq] at h
    dsimp only at h
    split at h
    ·rename_i hr
     subst hr
     injection h with h
     injection h with h1 h2
     have e := span_rest l
     obtain ⟨a, ha⟩ : ∃ a, a = spanD l := ⟨_, rfl⟩
     have had : Digs a := by rw [ha]; exact digs_span l
     rw [← ha] at e h1
     -- behind the digits and the part behind the point
     have s2 : ∃ b, (a ++ restD l).foldl vstep vst0 = q.foldl vstep ⟨numV d, -(p.length : Int), 0, false, b, false⟩ ∧ (∀ c ∈ a ++ restD l, LitB c ∨ c ∈ q) := by
      rw [List.foldl_append, show vst0 = ⟨0, 0, 0, false, false, false⟩ from rfl, vfold_digs had, Nat.zero_mul, Nat.zero_add, if_neg Bool.false_ne_true]
      rcases part_shape hp with ⟨rfl, rfl⟩ | ⟨hs, hpd⟩
      ·refine ⟨false, by rw [← h1, List.append_nil]; rfl, fun c hc => ?_⟩
       rcases List.mem_append.1 hc with hc | hc
       ·exact .inl (digs_litb had c hc)
       ·exact .inr hc
      ·refine ⟨true, ?_, fun c hc => ?_⟩
       ·rw [hs, List.foldl_cons, show vstep ⟨numV a, 0, 0, false, false, false⟩ 46 = ⟨numV a, 0, 0, false, true, false⟩ from rfl, List.foldl_append, vfold_digs hpd, if_pos rfl, ← numV_append, h1, Int.zero_sub]
       ·rw [hs] at hc
        rcases List.mem_append.1 hc with hc | hc
        ·exact .inl (digs_litb had c hc)
        ·rcases List.mem_cons.1 hc with rfl | hc
         ·exact .inl (.inl rfl)
         ·rcases List.mem_append.1 hc with hc | hc
          ·exact .inl (digs_litb hpd c hc)
          ·exact .inr hc
     obtain ⟨b, s2, hb⟩ := s2
     rw [e] at s2 hb
     have s3 : vfold l = q.foldl vstep ⟨numV d, -(p.length : Int), 0, false, b, false⟩ := s2
     rcases ten_shape hq with ⟨rfl, rfl⟩ | ⟨g, c, rfl, hcd, hc100, hg⟩
     ·rw [s3, List.foldl_nil]
      refine ⟨rfl, ?_, Nat.zero_le _, fun c hc => (hb c hc).elim id fun h => (List.not_mem_nil h).elim⟩
      show -(p.length : Int) + 0 = t
      omega
     ·have hl : ∀ c' ∈ l, LitB c' := fun c' hc' => by
       rcases hb c' hc' with h | h
       ·exact h
       ·rcases List.mem_cons.1 h with rfl | h
        ·exact .inr (.inl rfl)
        ·rcases List.mem_append.1 h with h | h
         ·rcases hg with ⟨rfl, _⟩ | ⟨rfl | rfl, _⟩
          ·exact .inr (.inr (.inl (List.mem_singleton.1 h)))
          ·exact .inr (.inr (.inr (.inl (List.mem_singleton.1 h))))
          ·exact (List.not_mem_nil h).elim
         ·exact digs_litb hcd c' h
      rw [s3, List.foldl_cons, show vstep ⟨numV d, -(p.length : Int), 0, false, b, false⟩ 101 = ⟨numV d, -(p.length : Int), 0, false, b, true⟩ from rfl, List.foldl_append]
      rcases hg with ⟨rfl, ht⟩ | ⟨hg, ht⟩
      ·rw [List.foldl_cons, List.foldl_nil, show vstep ⟨numV d, -(p.length : Int), 0, false, b, true⟩ 45 = ⟨numV d, -(p.length : Int), 0, true, b, true⟩ from rfl, vfold_pow hcd, Nat.zero_mul, Nat.zero_add]
       refine ⟨rfl, ?_, hc100, hl⟩
       show -(p.length : Int) - (numV c : Int) = t
       omega
      ·have hs : g.foldl vstep ⟨numV d, -(p.length : Int), 0, false, b, true⟩ = ⟨numV d, -(p.length : Int), 0, false, b, true⟩ := by
        rcases hg with rfl | rfl <;> rfl
       rw [hs, vfold_pow hcd, Nat.zero_mul, Nat.zero_add]
       refine ⟨rfl, ?_, hc100, hl⟩
       show -(p.length : Int) + (numV c : Int) = t
       omega
    ·cases h
theorem vfold_snoc (l : List UInt8) (c : UInt8) : vfold (l ++ [c]) = vstep (vfold l) c := by
 unfold vfold
 rw [List.foldl_append]
 rfl
/-- the power never falls -/
theorem vstep_e (s : VSt) (c : UInt8) : s.e ≤ (vstep s c).e := by
 unfold vstep
 repeat' split
 all_goals first | exact Nat.le_refl _ | (show s.e ≤ s.e * 10 + _; omega)
theorem vfold_e (l r : List UInt8) : (vfold l).e ≤ (vfold (l ++ r)).e := by
 induction r generalizing l with
 | nil => rw [List.append_nil]; exact Nat.le_refl _
 | cons x xs ih =>
  have h1 := ih (l ++ [x])
  rw [vfold_snoc, List.append_assoc] at h1
  exact Nat.le_trans (vstep_e _ x) h1
theorem vfold_small (l : List UInt8) : (vfold l).m < 2 ^ (10 + 8 * l.length) ∧ -(l.length : Int) ≤ (vfold l).k ∧ (vfold l).k ≤ 0 := by
 have key : ∀ (n : Nat) (l : List UInt8), l.length = n → (vfold l).m < 2 ^ (10 + 8 * l.length) ∧ -(l.length : Int) ≤ (vfold l).k ∧ (vfold l).k ≤ 0 := fun n => by
  induction n with
  | zero =>
   intro l hl
   obtain rfl := List.eq_nil_of_length_eq_zero hl
   refine ⟨?_, ?_, ?_⟩ <;> decide
  | succ n ih =>
   intro l hl
   have hne : l ≠ [] := fun h => by rw [h] at hl; cases hl
   obtain ⟨xs, x, rfl⟩ : ∃ xs x, l = xs ++ [x] := ⟨l.dropLast, l.getLast hne, (List.dropLast_concat_getLast hne).symm⟩
   rw [List.length_append] at hl ⊢
   have h1 : xs.length = n := by simpa using hl
   obtain ⟨h2, h3, h4⟩ := ih xs h1
   rw [vfold_snoc]
   have hx : x.toNat < 256 := UInt8.toNat_lt x
   have hlen : ([x] : List UInt8).length = 1 := rfl
   have hpw : 2 ^ (10 + 8 * (xs.length + 1)) = 2 ^ (10 + 8 * xs.length) * 256 := by
    rw [show 10 + 8 * (xs.length + 1) = 10 + 8 * xs.length + 8 by omega, Nat.pow_add]
   have hpos : 1024 ≤ 2 ^ (10 + 8 * xs.length) := Nat.le_trans (show 1024 ≤ 2 ^ 10 by decide) (Nat.pow_le_pow_right (by omega) (by omega))
   rw [hlen, hpw]
   generalize vfold xs = s at *
   generalize 2 ^ (10 + 8 * xs.length) = P at *
   unfold vstep
   repeat' split
   all_goals (refine ⟨?_, ?_, ?_⟩ <;> (try dsimp only) <;> omega)
 exact key _ l rfl
theorem vfold_next {s : ByteArray} {i : Nat} (h : i < s.size) : vfold (s.data.toList.take (i + 1)) = vstep (vfold (s.data.toList.take i)) s[i] := by
 have hsl := size_list s
 rw [List.take_succ_eq_append_getElem (by rw [hsl]; exact h), vfold_snoc]
 congr 1
theorem read_size {l d : List UInt8} {t : Int} (h : readD l = some (d, t)) : l.length ≤ 60 := by
 unfold readD at h
 split at h
 ·cases h
 ·rename_i hn
  exact Nat.le_of_not_lt fun h2 => hn (.inl h2)
end Go.Proofs.YtdhdebapjlcjdaaGreatDoor
set_option maxHeartbeats 8000000
set_option maxRecDepth 100000
namespace Go.Proofs.YtdhdebapjlcjdaaGreatDoor
open Go.RowKit

theorem row_single {w : World} {u : Nat} (hu : u < 18446744073709551616) : Rd (w.alloc (.cells #[.int .u64 (u : Int)] 38)) .u64 Go.Proofs.YtdhdebapjlcjdaaGreatDoor.W (some ⟨w.heap.size, 0, none⟩) 1 1 [u] :=
 (row_lit w [u]).rd' (Lt.cons (by rw [W_eq]; exact hu) Lt.nil) rfl (Nat.le_refl _) (by omega)
theorem rsmall_any {w : World} {u : Nat} (hu : u < 18446744073709551616) :
  Calls Tryz.prog 63 #[.int .u64 (u : Int)] w fun en w' => ∃ A n c, en = .returned (.slice A n c) ∧ Dg w' A n c u ∧ Below w.heap.size w w' := by
 have BB := below_alloc w (.cells #[.int .u64 (u : Int)] 38)
 have h := row_single (w := w) hu
 go_enter Tryz.func63, Tryz.ntmps63
 go_wp2_with fail
 refine (rfrom_any h (by omega)).mono ?_
 rintro en w1 ⟨A1, n1, c1, rfl, h1, b⟩
 have e1 : val Go.Proofs.YtdhdebapjlcjdaaGreatDoor.W [u] = u := by simp [val]
 rw [e1] at h1
 replace BB := bnx BB b
 clear b
 go_wp2
 go_ret
 exact ⟨_, _, _, rfl, h1, BB⟩

end Go.Proofs.YtdhdebapjlcjdaaGreatDoor
set_option maxHeartbeats 8000000
set_option maxRecDepth 100000
namespace Go.Proofs.YtdhdebapjlcjdaaGreatDoor
open Go.RowKit

theorem byte_num (c : UInt8) (b : Nat) (hb : b < 256) : ((c.toNat : Int) == (b : Int)) = decide (c = UInt8.ofNat b) := by
 rw [Bool.eq_iff_iff, beq_iff_eq, decide_eq_true_iff]
 constructor
 ·intro h
  apply UInt8.toNat_inj.1
  rw [UInt8.toNat_ofNat_of_lt' (by omega)]
  omega
 ·rintro rfl
  rw [UInt8.toNat_ofNat_of_lt' (by omega)]
theorem dg_fits {w : World} {A : Option Addr} {n c x b : Nat} (h : Dg w A n c x) (hx : x < 2 ^ b) (hb : b ≤ 496) : n ≤ 31 := by
 obtain ⟨k, hk⟩ : ∃ k, k = 31 := ⟨_, rfl⟩
 have := dg_small2 (k := k) h (Nat.lt_of_lt_of_le hx (Nat.pow_le_pow_right (by omega) (by omega)))
 omega
theorem rvalue_any {w : World} {s : ByteArray} {d : List UInt8} {t : Int} (hr : readD s.data.toList = some (d, t)) :
  Calls Tryz.prog 25 #[.string s] w fun en w' => ∃ A n c, en = .returned (.tuple #[.slice A n c, .int .i64 t]) ∧ Dg w' A n c (numV d) ∧ Below w.heap.size w w' := by
 have hsl := size_list s
 have h60 := read_size hr
 rw [hsl] at h60
 have HR := Lib.hid (vfold_read hr)
 have D0 := Dg.nil w none (c := 0) (by omega)
 clear hr
 have BB := Below.refl w.heap.size w
 go_enter Tryz.func25, Tryz.ntmps25
 go_wp2
 go_loopg [4, 5, 6, 7, 8, 9, 10] s.size (fun gk v4 v5 v6 v7 v8 v9 v10 wr => ∃ (i : Nat) (A : Option Addr) (n c m : Nat) (k : Int) (e : Nat) (g p q : Bool), i + gk = s.size ∧ v10 = .int .i64 i ∧ v4 = .slice A n c ∧ v5 = .int .i64 k ∧ v6 = .int .i64 e ∧ v7 = .bool g ∧ v8 = .bool p ∧ v9 = .bool q ∧ Dg wr A n c m ∧ Hid (vfold (s.data.toList.take i) = ⟨m, k, e, g, p, q⟩) ∧ Below w.heap.size w wr)
 case atStart => exact ⟨0, none, 0, 0, 0, 0, 0, false, false, false, by omega, rfl, rfl, rfl, rfl, rfl, rfl, rfl, D0, Lib.hid rfl, BB⟩
 case round =>
  clear D0 BB
  obtain ⟨i, A1, n1, c1, m, k, e, g, p, q, hg, rfl, rfl, rfl, rfl, rfl, rfl, rfl, D1, HF, BB⟩ := hrel
  have HG := Lib.hid hg
  have hsm := vfold_small (s.data.toList.take i)
  have hee := vfold_e (s.data.toList.take i) (s.data.toList.drop i)
  rw [List.take_append_drop, HF.out] at hee
  rw [HF.out, List.length_take, hsl] at hsm
  dsimp only at hsm hee
  have he : e ≤ 100 := Nat.le_trans hee HR.out.2.2.1
  have hk1 : -60 ≤ k := by have := hsm.2.1; omega
  have hk2 : k ≤ 0 := hsm.2.2
  have HM : Hid (m < 2 ^ 490) := Lib.hid (by
   obtain ⟨b, hb⟩ : ∃ b, b = 490 := ⟨_, rfl⟩
   rw [← hb]
   exact Nat.lt_of_lt_of_le hsm.1 (Nat.pow_le_pow_right (by omega) (by omega)))
  clear hsm hee hg
  by_cases hi : i < s.size
  ·obtain ⟨gq, rfl⟩ : ∃ z, gk = z + 1 := ⟨gk - 1, by have := HG.out; omega⟩
   have HN := Lib.hid (vfold_next hi)
   have HB := HR.out.2.2.2 s[i] (by
    rw [show s[i] = s.data.toList[i]'(by rw [hsl]; exact hi) by rw [Array.getElem_toList]; rfl]
    exact List.getElem_mem _)
   have b1 := byte_num s[i] 46 (by omega)
   have b2 := byte_num s[i] 101 (by omega)
   have b3 := byte_num s[i] 45 (by omega)
   have b4 := byte_num s[i] 43 (by omega)
   rw [show ((46 : Nat) : Int) = 46 from rfl] at b1
   rw [show ((101 : Nat) : Int) = 101 from rfl] at b2
   rw [show ((45 : Nat) : Int) = 45 from rfl] at b3
   rw [show ((43 : Nat) : Int) = 43 from rfl] at b4
   have hee := vfold_e (s.data.toList.take (i + 1)) (s.data.toList.drop (i + 1))
   rw [List.take_append_drop, HN.out, HF.out] at hee
   have he2 := Nat.le_trans hee HR.out.2.2.1
   rw [HF.out] at HN
   clear hee HF
   by_cases x1 : s[i] = 46
   ·rw [decide_eq_true (show s[i] = UInt8.ofNat 46 from x1)] at b1
    have HN2 : Hid (vfold (s.data.toList.take (i + 1)) = ⟨m, k, e, g, true, q⟩) := Lib.hid (by rw [HN.out, x1]; rfl)
    clear b2 b3 b4 HB HN he2 x1 HM
    go_wp2
    go_roundg gq
    case measure => have := HG.out; omega
    case rel => exact ⟨i + 1, A1, n1, c1, m, k, e, g, true, q, by have := HG.out; omega, by go_num, rfl, rfl, rfl, rfl, rfl, rfl, D1, HN2, BB⟩
   rw [decide_eq_false (show ¬ s[i] = UInt8.ofNat 46 from x1)] at b1
   by_cases x2 : s[i] = 101
   ·rw [decide_eq_true (show s[i] = UInt8.ofNat 101 from x2)] at b2
    have HN2 : Hid (vfold (s.data.toList.take (i + 1)) = ⟨m, k, e, g, p, true⟩) := Lib.hid (by rw [HN.out, x2]; rfl)
    clear b3 b4 HB HN he2 x1 x2 HM
    go_wp2
    go_roundg gq
    case measure => have := HG.out; omega
    case rel => exact ⟨i + 1, A1, n1, c1, m, k, e, g, p, true, by have := HG.out; omega, by go_num, rfl, rfl, rfl, rfl, rfl, rfl, D1, HN2, BB⟩
   rw [decide_eq_false (show ¬ s[i] = UInt8.ofNat 101 from x2)] at b2
   by_cases x3 : s[i] = 45
   ·rw [decide_eq_true (show s[i] = UInt8.ofNat 45 from x3)] at b3
    have HN2 : Hid (vfold (s.data.toList.take (i + 1)) = ⟨m, k, e, true, p, q⟩) := Lib.hid (by rw [HN.out, x3]; rfl)
    clear b4 HB HN he2 x1 x2 x3 HM
    go_wp2
    go_roundg gq
    case measure => have := HG.out; omega
    case rel => exact ⟨i + 1, A1, n1, c1, m, k, e, true, p, q, by have := HG.out; omega, by go_num, rfl, rfl, rfl, rfl, rfl, rfl, D1, HN2, BB⟩
   rw [decide_eq_false (show ¬ s[i] = UInt8.ofNat 45 from x3)] at b3
   by_cases x4 : s[i] = 43
   ·rw [decide_eq_true (show s[i] = UInt8.ofNat 43 from x4)] at b4
    have HN2 : Hid (vfold (s.data.toList.take (i + 1)) = ⟨m, k, e, g, p, q⟩) := Lib.hid (by rw [HN.out, x4]; rfl)
    clear HB HN he2 x1 x2 x3 x4 HM
    go_wp2
    go_roundg gq
    case measure => have := HG.out; omega
    case rel => exact ⟨i + 1, A1, n1, c1, m, k, e, g, p, q, by have := HG.out; omega, by go_num, rfl, rfl, rfl, rfl, rfl, rfl, D1, HN2, BB⟩
   rw [decide_eq_false (show ¬ s[i] = UInt8.ofNat 43 from x4)] at b4
   have hdg : isDig s[i] = true := by
    rcases HB with h | h | h | h | h
    ·exact absurd h x1
    ·exact absurd h x2
    ·exact absurd h x3
    ·exact absurd h x4
    ·exact h
   have hd2 := isDig_iff.1 hdg
   rw [vstep_dig hdg] at he2 HN
   obtain ⟨z, hz⟩ : ∃ z, z = s[i].toNat - 48 := ⟨_, rfl⟩
   rw [← hz] at he2 HN
   have hz9 : z ≤ 9 := by omega
   have hw : IntKind.u8.wrap ((s[i].toNat : Int) - 48) = (z : Int) := by rw [show (s[i].toNat : Int) - 48 = (z : Int) by omega, IntKind.wrap_u8]; omega
   clear hdg hd2 hz HB x1 x2 x3 x4
   cases q with
   | true =>
    rw [if_pos rfl] at he2 HN
    have he3 : e * 10 + z ≤ 100 := he2
    obtain ⟨e2, he4⟩ : ∃ y, y = e * 10 + z := ⟨_, rfl⟩
    have y1 : IntKind.i64.wrap ((e : Int) * 10) = (e : Int) * 10 := IntWalk.i64_in _ (by omega)
    have y2 : IntKind.i64.wrap ((e : Int) * 10 + (z : Int)) = (e2 : Int) := by rw [IntWalk.i64_in _ (by omega)]; omega
    rw [← he4] at HN
    clear he2 he3 he4 HM
    go_wp2
    go_roundg gq
    case measure => have := HG.out; omega
    case rel => exact ⟨i + 1, A1, n1, c1, m, k, e2, g, p, true, by have := HG.out; omega, by go_num, rfl, rfl, rfl, rfl, rfl, rfl, D1, HN, BB⟩
   | false =>
    rw [if_neg Bool.false_ne_true] at HN
    clear he2
    have l1 := dg_fits D1 HM.out (by omega)
    have HM2 : Hid (m * 10 < 2 ^ 494) := Lib.hid (by
     have h := HM.out
     obtain ⟨b, hb⟩ : ∃ b, b = 490 := ⟨_, rfl⟩
     obtain ⟨b2, hb2⟩ : ∃ b2, b2 = 494 := ⟨_, rfl⟩
     rw [← hb] at h
     rw [← hb2]
     have e : 2 ^ b2 = 2 ^ b * 16 := by rw [show b2 = b + 4 by omega, Nat.pow_add]
     rw [e]
     omega)
    clear HM
    go_wp2_with fail
    have b : Below wr.heap.size wr (World.drew wr) := below_drewN (Below.refl _ _) 1
    replace BB := bnx BB b
    replace D1 := mv b rfl D1
    clear b
    refine wp_region_held_drew (S := fun w' => True) (by kernel_rfl) trivial (fun hHeldv0 => ?_)
    generalize World.drew wr = wd at *
    refine tl 0 ?_
    refine tl 3 ?_
    refine tl 4 ?_
    refine tl 5 ?_
    refine tl 6 ?_
    refine tl 7 ?_
    refine rdy 1 fun K hK => ?_
    go_simp
    have D10 := dg_lit wd (v := 10) (by omega) (by rw [H_eq]; omega)
    have b := below_alloc wd (.cells #[.int .u32 10] 59)
    replace BB := bnx BB b
    replace D1 := mv b rfl D1
    clear b
    refine hK.out _ _ trivial (fun hHeldv1 => ?_)
    clear hK K hHeldv0
    try simp only [Act.put]
    refine rdy 2 fun K hK => ?_
    go_simp
    refine (rmul_any D1 D10 (by omega) (by omega)).mono ?_
    rintro en w2 ⟨A3, n3, c3, rfl, D3, b⟩
    clear D1 D10
    have l3 := dg_fits D3 HM2.out (by omega)
    replace BB := below_next BB BB.size b (by rfl) (by rfl) (by rfl) (by rfl)
    clear b
    refine hK.out _ _ trivial (fun hHeldv2 => ?_)
    clear hK K hHeldv1
    try simp only [Act.put]
    refine rdy 8 fun K hK => ?_
    go_simp
    have hw2 : IntKind.u64.wrap (z : Int) = (z : Int) := by rw [IntKind.wrap_u64]; omega
    rw [hw2]
    refine (rsmall_any (u := z) (by omega)).mono ?_
    rintro en w3 ⟨A4, n4, c4, rfl, D4, b⟩
    have l4 := dg_fits (b := 4) D4 (by omega) (by omega)
    replace BB := bnx BB b
    replace D3 := mv b rfl D3
    clear b
    refine hK.out _ _ trivial (fun hHeldv3 => ?_)
    clear hK K hHeldv2
    try simp only [Act.put]
    refine rdy 9 fun K hK => ?_
    go_simp
    refine (radd_any D3 D4 (by omega) (by omega)).mono ?_
    rintro en w4 ⟨A5, n5, c5, rfl, D5, b⟩
    clear D3 D4
    replace BB := below_next BB BB.size b (by rfl) (by rfl) (by rfl) (by rfl)
    clear b
    refine hK.out _ _ trivial (fun hHeldv4 => ?_)
    clear hK K hHeldv3
    try simp only [Act.put]
    refine tl 10 ?_
    refine wpAnyH_done (by kernel_rfl) ?_ _
    cases p with
    | true =>
     have y3 : IntKind.i64.wrap (k - 1) = k - 1 := IntWalk.i64_in _ (by omega)
     go_wp2
     go_roundg gq
     case measure => have := HG.out; omega
     case rel => exact ⟨i + 1, A5, n5, c5, m * 10 + z, k - 1, e, g, true, false, by have := HG.out; omega, by go_num, rfl, rfl, rfl, rfl, rfl, rfl, D5, HN, BB⟩
    | false =>
     go_wp2
     go_roundg gq
     case measure => have := HG.out; omega
     case rel => exact ⟨i + 1, A5, n5, c5, m * 10 + z, k, e, g, false, false, by have := HG.out; omega, by go_num, rfl, rfl, rfl, rfl, rfl, rfl, D5, HN, BB⟩
  ·obtain rfl : i = s.size := by have := HG.out; omega
   have HV := HR.out
   rw [show vfold s.data.toList = ⟨m, k, e, g, p, q⟩ from by rw [← HF.out, ← hsl, List.take_length]] at HV
   obtain ⟨r1, r2, -, -⟩ := HV
   have R1 := Lib.hid r1
   cases g with
   | true =>
    rw [if_pos rfl] at r2
    have r3 : k - (e : Int) = t := r2
    have y1 : IntKind.i64.wrap (-(e : Int)) = -(e : Int) := IntWalk.i64_in _ (by omega)
    have y2 : IntKind.i64.wrap (k + -(e : Int)) = t := by rw [IntWalk.i64_in _ (by omega)]; omega
    clear r1 r2 r3 HF HR HM
    go_wp2
    exact bodyPost_ret (v := .tuple #[.slice A1 n1 c1, .int .i64 t]) (by simp [results, Tryz.results25, go_sem]) rfl ⟨A1, n1, c1, rfl, by rw [← R1.out]; exact D1, BB⟩
   | false =>
    rw [if_neg Bool.false_ne_true] at r2
    have r3 : k + (e : Int) = t := r2
    have y2 : IntKind.i64.wrap (k + (e : Int)) = t := by rw [IntWalk.i64_in _ (by omega)]; omega
    clear r1 r2 r3 HF HR HM
    go_wp2
    exact bodyPost_ret (v := .tuple #[.slice A1 n1 c1, .int .i64 t]) (by simp [results, Tryz.results25, go_sem]) rfl ⟨A1, n1, c1, rfl, by rw [← R1.out]; exact D1, BB⟩
end Go.Proofs.YtdhdebapjlcjdaaGreatDoor
