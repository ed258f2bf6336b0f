/-
 Contract of dec's read, at this translation. Condition: the two errors of strconv are interfaces, or nil.
-/
import Derived.Test.YtdhdebapjlcjdaaGreatDoorUKc
import Derived.Test.YtdhdebapjlcjdaaGreatDoorUIm
set_option maxHeartbeats 8000000
set_option maxRecDepth 100000
namespace Go.Proofs.YtdhdebapjlcjdaaGreatDoor
open Go.RowKit

/-- a block that holds a number: its digits and its power of ten -/
structure Nbx (w : World) (g : Nat) (s : ByteArray) (t : Int) : Prop where
 blk : w.heap[g]? = some (.cells #[.string s, .int .i64 t] 45 (0, 0))
section
variable {w w' w2 : World} {g : Nat} {s : ByteArray} {t : Int}
theorem Nbx.gl (h : Nbx w g s t) : g < w.heap.size := by
 rcases Nat.lt_or_ge g w.heap.size with hlt | hge
 ·exact hlt
 ·have := h.blk; rw [Array.getElem?_eq_none hge] at this; cases this
theorem Nbx.at (h : Nbx w g s t) (i : Nat) : w.cell? ⟨g, i, none⟩ = #[Value.string s, .int .i64 t][i]? := cell_of_row w g i _ 45 (0, 0) h.blk
theorem Nbx.held (h : Nbx w g s t) : w.cell? ⟨g, 0, none⟩ = some (.string s) ∧ w.cell? ⟨g, 1, none⟩ = some (.int .i64 t) := ⟨h.at 0, h.at 1⟩
theorem Nbx.frozen (h : Nbx w g s t) (i : Nat) : w.frozen? ⟨g, i, none⟩ = false := by
 have := h.blk
 simp [World.frozen?, this]
theorem Nbx.open (h : Nbx w g s t) : w.frozen? ⟨g, 0, none⟩ = false ∧ w.frozen? ⟨g, 1, none⟩ = false := ⟨h.frozen 0, h.frozen 1⟩
theorem Nbx.new (w : World) (s : ByteArray) (t : Int) : Nbx (w.alloc (.cells #[.string s, .int .i64 t] 45)) w.heap.size s t := ⟨heap_alloc_new w _⟩
theorem Nbx.put (h : Nbx w g s t) (s' : ByteArray) (t' : Int) : Nbx ((w.setCell ⟨g, 0, none⟩ (.string s')).setCell ⟨g, 1, none⟩ (.int .i64 t')) g s' t' := by
 have := h.blk
 refine ⟨?_⟩
 simp [World.setCell, Array.getElem?_modify, this]
theorem Nbx.next {X : World} (h : Nbx w g s t) (b : Below X.heap.size X w2) (e : X.heap = w.heap) : Nbx w2 g s t :=
 ⟨(b.block g (by rw [e]; exact h.gl)).trans (by rw [e]; exact h.blk)⟩
instance : Moves w w2 (Nbx w g s t) (Nbx w2 g s t) := ⟨fun _ b e h => h.next b e⟩
instance : Moves w w2 (Errs w) (Errs w2) := ⟨fun _ b e h => h.next b e⟩
theorem below_put2 {b0 : Nat} {w0 : World} (h : Below b0 w0 w) (hg : b0 ≤ g) (u0 u1 : Value) : Below b0 w0 ((w.setCell ⟨g, 0, none⟩ u0).setCell ⟨g, 1, none⟩ u1) := (h.setCell hg u0).setCell hg u1
end
/-- how read ends -/
def NumEnd (o : Option (List UInt8 × Int)) (w : World) (en : Ending) (w' : World) : Prop := match o with
 | none => Faults 6 w en w'
 | some (d, t) => en = .returned (.agg #[.string ⟨d.toArray⟩, .int .i64 t]) ∧ Below w.heap.size w w'
def tailD (d p r : List UInt8) : Option (List UInt8 × Int) := match tenD r with
 | none => none
 | some (t, r2) => if r2 = [] then some (d ++ p, t - (p.length : Int)) else none
theorem read_long {l : List UInt8} (h : 60 < l.length) : readD l = none := by
 unfold readD
 rw [if_pos (.inl h)]
theorem read_none {l : List UInt8} (h : spanD l = []) : readD l = none := by
 unfold readD
 rw [if_pos (.inr h)]
theorem read_nopart {l : List UInt8} (h : ¬ 60 < l.length) (h0 : spanD l ≠ []) (hb : Lib.hasPrefix (restD l) [46] = true) (h1 : spanD (Lib.trimPrefix (restD l) [46]) = []) : readD l = none := by
 unfold readD partD
 rw [if_neg (fun x => x.elim h h0), if_pos hb, if_pos h1]
theorem read_part {l : List UInt8} (h : ¬ 60 < l.length) (h0 : spanD l ≠ []) (hb : Lib.hasPrefix (restD l) [46] = true) (h1 : spanD (Lib.trimPrefix (restD l) [46]) ≠ []) : readD l = tailD (spanD l) (spanD (Lib.trimPrefix (restD l) [46])) (restD (Lib.trimPrefix (restD l) [46])) := by
 unfold readD partD
 rw [if_neg (fun x => x.elim h h0), if_pos hb, if_neg h1]
 rfl
theorem read_whole {l : List UInt8} (h : ¬ 60 < l.length) (h0 : spanD l ≠ []) (hb : Lib.hasPrefix (restD l) [46] = false) : readD l = tailD (spanD l) [] (restD l) := by
 unfold readD partD
 rw [if_neg (fun x => x.elim h h0), if_neg (by rw [hb]; exact Bool.false_ne_true)]
 rfl
theorem tail_none {d p r : List UInt8} (hb : Lib.hasPrefix r [101] = true) (hz : none = powD (Lib.trimPrefix r [101])) : tailD d p r = none := by
 unfold tailD tenD
 rw [if_pos hb, ← hz]
theorem tail_some {d p r r2 : List UInt8} {t : Int} (hb : Lib.hasPrefix r [101] = true) (hz : some (t, r2) = powD (Lib.trimPrefix r [101])) : tailD d p r = if r2 = [] then some (d ++ p, t - (p.length : Int)) else none := by
 unfold tailD tenD
 rw [if_pos hb, ← hz]
theorem tail_no {d p r : List UInt8} (hb : Lib.hasPrefix r [101] = false) : tailD d p r = if r = [] then some (d ++ p, 0 - (p.length : Int)) else none := by
 unfold tailD tenD
 rw [if_neg (by rw [hb]; exact Bool.false_ne_true)]
theorem pow_bound {l r : List UInt8} {t : Int} (h : some (t, r) = powD l) : -100 ≤ t ∧ t ≤ 100 := by
 unfold powD at h
 dsimp only at h
 cases hb : Lib.hasPrefix l [45]
 ·simp only [hb, Bool.false_eq_true, reduceIte] at h
  split at h
  ·cases h
  ·rename_i hn
   have h3 := fun h => hn (.inr (.inr h))
   injection h with h
   injection h with h1 h2
   omega
 ·simp only [hb, reduceIte] at h
  split at h
  ·cases h
  ·rename_i hn
   have h3 := fun h => hn (.inr (.inr h))
   injection h with h
   injection h with h1 h2
   omega
theorem append_text (d p : List UInt8) : (ByteArray.mk d.toArray) ++ (ByteArray.mk p.toArray) = ByteArray.mk (d ++ p).toArray := by
 apply ByteArray.ext
 simp
theorem rest_len (l : List UInt8) : (restD l).length ≤ l.length := by
 have := congrArg List.length (span_rest l)
 rw [List.length_append] at this
 omega
theorem dread_any {w : World} {s : ByteArray} (hE : Errs w) :
  Calls Tryz.prog 20 #[.string s] w (NumEnd (readD s.data.toList) w) := by
 obtain ⟨l, hl⟩ : ∃ l, l = s.data.toList := ⟨_, rfl⟩
 obtain rfl : s = ⟨l.toArray⟩ := by rw [hl]
 clear hl
 rw [show (ByteArray.mk l.toArray).data.toList = l from rfl]
 obtain ⟨o, ho⟩ : ∃ o, o = readD l := ⟨_, rfl⟩
 rw [← ho]
 have HP := Lib.hid ho
 clear ho
 have BB := below_alloc w (.cells #[.string ⟨#[]⟩, .int .i64 0] 45)
 have r0 := Nbx.new w ⟨#[]⟩ 0
 have b := BB
 replace hE : Errs (w.alloc (.cells #[.string ⟨#[]⟩, .int .i64 0] 45)) := mv b rfl hE
 clear b
 go_enter Tryz.func20, Tryz.ntmps20
 by_cases h60 : 60 < l.length
 ·have g60 : (60 : Int) < ((ByteArray.mk l.toArray).size : Int) := by rw [← size_list]; show (60 : Int) < (l.length : Int); omega
  have g61 : (60 : Int) < (l.length : Int) := by omega
  obtain rfl : o = none := HP.out.trans (read_long h60)
  go_wp2
  try any_goals (exfalso; omega)
  exact ⟨rfl, rfl, BB⟩
 have g60 : ¬ (60 : Int) < ((ByteArray.mk l.toArray).size : Int) := by rw [← size_list]; show ¬ (60 : Int) < (l.length : Int); omega
 have g61 : ¬ (60 : Int) < (l.length : Int) := by omega
 have hll : l.length ≤ 60 := by omega
 obtain ⟨k, hk⟩ : ∃ k, (spanD l).length = k := ⟨_, rfl⟩
 by_cases h0k : k = 0
 ·go_wp2_with fail
  refine (drun_no (s := ⟨l.toArray⟩) (hk.trans h0k)).mono ?_
  rintro en w1 ⟨rfl, b⟩
  replace BB := bnx BB b
  clear b
  obtain rfl : o = none := HP.out.trans (read_none (List.eq_nil_of_length_eq_zero (hk.trans h0k)))
  go_wp2
  exact ⟨rfl, rfl, BB⟩
 go_wp2_with fail
 refine (drun_ok (s := ⟨l.toArray⟩) (by rw [← size_list]; exact Nat.le_trans hll (by omega)) hk h0k).mono ?_
 rintro en w1 ⟨rfl, b⟩
 replace BB := bnx BB b
 have G := mv b rfl <| And.intro r0 <| hE
 clear b r0 hE
 obtain ⟨r0, hE⟩ := G
 rw [show (ByteArray.mk l.toArray).data.toList = l from rfl]
 have hnk : spanD l ≠ [] := fun h => h0k (by rw [← hk, h]; rfl)
 have hl9 := Nat.le_trans (rest_len l) hll
 obtain ⟨d, hd⟩ : ∃ d, d = spanD l := ⟨_, rfl⟩
 obtain ⟨r, hr⟩ : ∃ r, r = restD l := ⟨_, rfl⟩
 have hld : d.length ≤ 60 := by rw [hd]; exact Nat.le_trans (span_len l) hll
 rw [← hd, ← hr]
 rw [← hr] at hl9
 have hlr := hl9
 have HD := Lib.hid hd
 have HR := Lib.hid hr
 clear hd hr
 go_wp2_with fail
 refine (Tryz.strings_CutPrefix ⟨r.toArray⟩ ⟨#[46]⟩ _).mono ?_
 rintro en w' ⟨rfl, rfl⟩
 rw [show (ByteArray.mk r.toArray).data.toList = r from rfl, show (ByteArray.mk #[46]).data.toList = [46] from rfl]
 cases hb1 : Lib.hasPrefix r [46]
 ·replace HP : Hid (o = tailD d [] r) := Lib.hid (by rw [HD.out, HR.out]; exact HP.out.trans (read_whole h60 hnk (by rw [← HR.out]; exact hb1)))
  rw [not_prefix hb1]
  have hlp : ([] : List UInt8).length ≤ 60 := by decide
  clear HD HR hnk g60 g61 h60 hk h0k hl9
  go_wp2_with fail
  refine (Tryz.strings_CutPrefix ⟨r.toArray⟩ ⟨#[101]⟩ _).mono ?_
  rintro en w' ⟨rfl, rfl⟩
  rw [show (ByteArray.mk r.toArray).data.toList = r from rfl, show (ByteArray.mk #[101]).data.toList = [101] from rfl]
  cases hb2 : Lib.hasPrefix r [101]
  ·replace HP := Lib.hid (HP.out.trans (tail_no hb2))
   rw [not_prefix hb2]
   by_cases hz9 : r = []
   ·obtain rfl : o = some (d, (0 : Int)) := (HP.out.trans (if_pos hz9)).trans (by simp)
    subst hz9
    have hw : IntKind.i64.wrap ((0 : Int) - (([] : List UInt8).length : Int)) = (0 : Int) - (([] : List UInt8).length : Int) := IntWalk.i64_in _ (by omega)
    obtain ⟨f0, f1⟩ := r0.open
    obtain ⟨z0, z1⟩ := r0.held
    go_wp2
    try any_goals (exfalso; omega)
    rw [show (ByteArray.mk d.toArray) ++ (ByteArray.mk #[]) = ByteArray.mk d.toArray from (append_text d ([] : List UInt8)).trans (by rw [List.append_nil])]
    have qq := r0.put ⟨d.toArray⟩ (0 : Int)
    have HB3 := below_put2 (g := w.heap.size) BB (Nat.le_refl _) (.string ⟨d.toArray⟩) (.int .i64 (0 : Int))
    obtain ⟨z0, z1⟩ := qq.held
    exact bodyPost_ret (v := .agg #[.string ⟨d.toArray⟩, .int .i64 (0 : Int)]) (by simp [results, Tryz.results20, go_sem, z0, z1]) rfl ⟨rfl, HB3⟩
   ·have hz8 : ¬ ((ByteArray.mk r.toArray) = ByteArray.mk #[]) := fun h => hz9 (by have := congrArg (fun x : ByteArray => x.data.toList) h; exact this)
    have hz7 : r.isEmpty = false := by cases r with | nil => exact absurd rfl hz9 | cons => rfl
    obtain rfl : o = none := HP.out.trans (if_neg hz9)
    go_wp2
    exact ⟨rfl, rfl, BB⟩
  ·have hlq : (Lib.trimPrefix r [101]).length ≤ 60 := Nat.le_trans (trim_le _ _) hlr
   obtain ⟨q, hq⟩ : ∃ q, q = Lib.trimPrefix r [101] := ⟨_, rfl⟩
   rw [← hq]
   rw [← hq] at hlq
   have HQ := Lib.hid hq
   clear hq
   obtain ⟨z, hz⟩ : ∃ z, z = powD q := ⟨_, rfl⟩
   go_wp2_with fail
   refine (dpower_any (s := ⟨q.toArray⟩) hE (by rw [← size_list]; exact Nat.le_trans hlq (by omega))).mono ?_
   rw [show (ByteArray.mk q.toArray).data.toList = q from rfl, ← hz]
   rcases z with _ | ⟨t, r2⟩
   ·rintro en w8 ⟨rfl, b⟩
    replace BB := bnx BB b
    clear b
    obtain rfl : o = none := HP.out.trans (tail_none hb2 (by rw [← HQ.out]; exact hz))
    go_wp2
    exact ⟨rfl, rfl, BB⟩
   ·rintro en w8 ⟨rfl, b⟩
    replace BB := bnx BB b
    replace r0 := mv b rfl r0
    clear b
    obtain ⟨t1, t2⟩ := pow_bound hz
    replace HP := Lib.hid (HP.out.trans (tail_some hb2 (by rw [← HQ.out]; exact hz)))
    clear hz HQ hb2 hE
    by_cases hz9 : r2 = []
    ·obtain rfl : o = some (d, t) := (HP.out.trans (if_pos hz9)).trans (by simp)
     subst hz9
     have hw : IntKind.i64.wrap (t - (([] : List UInt8).length : Int)) = t - (([] : List UInt8).length : Int) := IntWalk.i64_in _ (by omega)
     obtain ⟨f0, f1⟩ := r0.open
     obtain ⟨z0, z1⟩ := r0.held
     go_wp2
     try any_goals (exfalso; omega)
     rw [show (ByteArray.mk d.toArray) ++ (ByteArray.mk #[]) = ByteArray.mk d.toArray from (append_text d ([] : List UInt8)).trans (by rw [List.append_nil])]
     have qq := r0.put ⟨d.toArray⟩ t
     have HB3 := below_put2 (g := w.heap.size) BB (Nat.le_refl _) (.string ⟨d.toArray⟩) (.int .i64 t)
     obtain ⟨z0, z1⟩ := qq.held
     exact bodyPost_ret (v := .agg #[.string ⟨d.toArray⟩, .int .i64 t]) (by simp [results, Tryz.results20, go_sem, z0, z1]) rfl ⟨rfl, HB3⟩
    ·have hz8 : ¬ ((ByteArray.mk r2.toArray) = ByteArray.mk #[]) := fun h => hz9 (by have := congrArg (fun x : ByteArray => x.data.toList) h; exact this)
     have hz7 : r2.isEmpty = false := by cases r2 with | nil => exact absurd rfl hz9 | cons => rfl
     obtain rfl : o = none := HP.out.trans (if_neg hz9)
     go_wp2
     exact ⟨rfl, rfl, BB⟩
 ·have hlq := Nat.le_trans (trim_le r [46]) hlr
  obtain ⟨v, hv⟩ : ∃ v, v = Lib.trimPrefix r [46] := ⟨_, rfl⟩
  rw [← hv]
  rw [← hv] at hlq
  have hlv := hlq
  have HV := Lib.hid hv
  clear hv
  obtain ⟨j, hj⟩ : ∃ k, (spanD v).length = k := ⟨_, rfl⟩
  by_cases h0j : j = 0
  ·go_wp2_with fail
   refine (drun_no (s := ⟨v.toArray⟩) (hj.trans h0j)).mono ?_
   rintro en w2 ⟨rfl, b⟩
   replace BB := bnx BB b
   clear b
   obtain rfl : o = none := HP.out.trans (read_nopart h60 hnk (by rw [← HR.out]; exact hb1) (by rw [← HR.out, ← HV.out]; exact List.eq_nil_of_length_eq_zero (hj.trans h0j)))
   go_wp2
   exact ⟨rfl, rfl, BB⟩
  go_wp2_with fail
  refine (drun_ok (s := ⟨v.toArray⟩) (by rw [← size_list]; exact Nat.le_trans hlv (by omega)) hj h0j).mono ?_
  rintro en w2 ⟨rfl, b⟩
  replace BB := bnx BB b
  have G := mv b rfl <| And.intro r0 <| hE
  clear b r0 hE
  obtain ⟨r0, hE⟩ := G
  rw [show (ByteArray.mk v.toArray).data.toList = v from rfl]
  have hnj : spanD v ≠ [] := fun h => h0j (by rw [← hj, h]; rfl)
  have hlp := Nat.le_trans (span_len v) hlv
  have hlu := Nat.le_trans (rest_len v) hlv
  obtain ⟨p, hp⟩ : ∃ p, p = spanD v := ⟨_, rfl⟩
  obtain ⟨u, hu⟩ : ∃ u, u = restD v := ⟨_, rfl⟩
  rw [← hp, ← hu]
  rw [← hp] at hlp
  rw [← hu] at hlu
  replace HP : Hid (o = tailD d p u) := Lib.hid (by rw [HD.out, hp, hu, HV.out, HR.out]; rw [HV.out, HR.out] at hnj; exact HP.out.trans (read_part h60 hnk (by rw [← HR.out]; exact hb1) hnj))
  clear HD HR hnk hnj HV hp hu g60 g61 h60 hk h0k hj h0j hl9
  go_wp2_with fail
  refine (Tryz.strings_CutPrefix ⟨u.toArray⟩ ⟨#[101]⟩ _).mono ?_
  rintro en w' ⟨rfl, rfl⟩
  rw [show (ByteArray.mk u.toArray).data.toList = u from rfl, show (ByteArray.mk #[101]).data.toList = [101] from rfl]
  cases hb2 : Lib.hasPrefix u [101]
  ·replace HP := Lib.hid (HP.out.trans (tail_no hb2))
   rw [not_prefix hb2]
   by_cases hz9 : u = []
   ·obtain rfl : o = some ((d ++ p), (-(p.length : Int))) := (HP.out.trans (if_pos hz9)).trans (by simp)
    subst hz9
    have hw : IntKind.i64.wrap ((0 : Int) - (p.length : Int)) = (0 : Int) - (p.length : Int) := IntWalk.i64_in _ (by omega)
    obtain ⟨f0, f1⟩ := r0.open
    obtain ⟨z0, z1⟩ := r0.held
    go_wp2
    try any_goals (exfalso; omega)
    rw [show (ByteArray.mk d.toArray) ++ (ByteArray.mk p.toArray) = ByteArray.mk (d ++ p).toArray from (append_text d p)]
    have qq := r0.put ⟨(d ++ p).toArray⟩ (-(p.length : Int))
    have HB3 := below_put2 (g := w.heap.size) BB (Nat.le_refl _) (.string ⟨(d ++ p).toArray⟩) (.int .i64 (-(p.length : Int)))
    obtain ⟨z0, z1⟩ := qq.held
    exact bodyPost_ret (v := .agg #[.string ⟨(d ++ p).toArray⟩, .int .i64 (-(p.length : Int))]) (by simp [results, Tryz.results20, go_sem, z0, z1]) rfl ⟨rfl, HB3⟩
   ·have hz8 : ¬ ((ByteArray.mk u.toArray) = ByteArray.mk #[]) := fun h => hz9 (by have := congrArg (fun x : ByteArray => x.data.toList) h; exact this)
    have hz7 : u.isEmpty = false := by cases u with | nil => exact absurd rfl hz9 | cons => rfl
    obtain rfl : o = none := HP.out.trans (if_neg hz9)
    go_wp2
    exact ⟨rfl, rfl, BB⟩
  ·have hlq : (Lib.trimPrefix u [101]).length ≤ 60 := Nat.le_trans (trim_le _ _) hlu
   obtain ⟨q, hq⟩ : ∃ q, q = Lib.trimPrefix u [101] := ⟨_, rfl⟩
   rw [← hq]
   rw [← hq] at hlq
   have HQ := Lib.hid hq
   clear hq
   obtain ⟨z, hz⟩ : ∃ z, z = powD q := ⟨_, rfl⟩
   go_wp2_with fail
   refine (dpower_any (s := ⟨q.toArray⟩) hE (by rw [← size_list]; exact Nat.le_trans hlq (by omega))).mono ?_
   rw [show (ByteArray.mk q.toArray).data.toList = q from rfl, ← hz]
   rcases z with _ | ⟨t, r2⟩
   ·rintro en w8 ⟨rfl, b⟩
    replace BB := bnx BB b
    clear b
    obtain rfl : o = none := HP.out.trans (tail_none hb2 (by rw [← HQ.out]; exact hz))
    go_wp2
    exact ⟨rfl, rfl, BB⟩
   ·rintro en w8 ⟨rfl, b⟩
    replace BB := bnx BB b
    replace r0 := mv b rfl r0
    clear b
    obtain ⟨t1, t2⟩ := pow_bound hz
    replace HP := Lib.hid (HP.out.trans (tail_some hb2 (by rw [← HQ.out]; exact hz)))
    clear hz HQ hb2 hE
    by_cases hz9 : r2 = []
    ·obtain rfl : o = some ((d ++ p), (t - (p.length : Int))) := (HP.out.trans (if_pos hz9)).trans (by simp)
     subst hz9
     have hw : IntKind.i64.wrap (t - (p.length : Int)) = t - (p.length : Int) := IntWalk.i64_in _ (by omega)
     obtain ⟨f0, f1⟩ := r0.open
     obtain ⟨z0, z1⟩ := r0.held
     go_wp2
     try any_goals (exfalso; omega)
     rw [show (ByteArray.mk d.toArray) ++ (ByteArray.mk p.toArray) = ByteArray.mk (d ++ p).toArray from (append_text d p)]
     have qq := r0.put ⟨(d ++ p).toArray⟩ (t - (p.length : Int))
     have HB3 := below_put2 (g := w.heap.size) BB (Nat.le_refl _) (.string ⟨(d ++ p).toArray⟩) (.int .i64 (t - (p.length : Int)))
     obtain ⟨z0, z1⟩ := qq.held
     exact bodyPost_ret (v := .agg #[.string ⟨(d ++ p).toArray⟩, .int .i64 (t - (p.length : Int))]) (by simp [results, Tryz.results20, go_sem, z0, z1]) rfl ⟨rfl, HB3⟩
    ·have hz8 : ¬ ((ByteArray.mk r2.toArray) = ByteArray.mk #[]) := fun h => hz9 (by have := congrArg (fun x : ByteArray => x.data.toList) h; exact this)
     have hz7 : r2.isEmpty = false := by cases r2 with | nil => exact absurd rfl hz9 | cons => rfl
     obtain rfl : o = none := HP.out.trans (if_neg hz9)
     go_wp2
     exact ⟨rfl, rfl, BB⟩
end Go.Proofs.YtdhdebapjlcjdaaGreatDoor
