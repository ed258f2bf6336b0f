/-
 Contracts of dec's shortened and pointed, at this translation. Conditions: the digits are the caller's own; there are few of them.
-/
import Derived.Test.YtdhdebapjlcjdaaGreatDoorUKv
import Derived.Test.YtdhdebapjlcjdaaGreatDoorUKc
import Derived.WalkLawsBesides
import Derived.IntWalk
set_option maxHeartbeats 2000000
set_option maxRecDepth 100000
namespace Go.Proofs.YtdhdebapjlcjdaaGreatDoor
open Go Go.RowKit Go.Shelf

theorem dropW_nil {p : UInt8 → Bool} : ∀ l : List UInt8, l.dropWhile p = [] ↔ ∀ x ∈ l, p x = true
 | [] => ⟨(fun _ x hx => by cases hx), fun _ => rfl⟩
 | y :: l => by
  rw [List.dropWhile_cons]
  by_cases hy : p y = true
  ·rw [if_pos hy, dropW_nil l]
   exact ⟨fun h x hx => (List.mem_cons.1 hx).elim (fun e => e ▸ hy) (h x), fun h x hx => h x (List.mem_cons.2 (.inr hx))⟩
  ·rw [if_neg hy]
   exact ⟨fun h => (List.cons_ne_nil _ _ h).elim, fun h => absurd (h y (List.mem_cons.2 (.inl rfl))) hy⟩
theorem dropW_head {p : UInt8 → Bool} : ∀ (l : List UInt8) (x : UInt8) (r : List UInt8), l.dropWhile p = x :: r → p x = false
 | [], x, r, h => by cases h
 | y :: l, x, r, h => by
  rw [List.dropWhile_cons] at h
  by_cases hy : p y = true
  ·rw [if_pos hy] at h
   exact dropW_head l x r h
  ·rw [if_neg hy] at h
   injection h with h _
   rw [← h]
   simpa using hy
theorem trim_all (l : List UInt8) : (Lib.trimS l [48]).length = 0 ↔ ∀ x ∈ l, x = 48 := by
 unfold Lib.trimS Lib.trimLeftS Lib.trimRightS
 have hp : ∀ x : UInt8, (fun x => ([48] : List UInt8).contains x) x = true ↔ x = 48 := fun x => by simp
 generalize (fun x => ([48] : List UInt8).contains x) = p at *
 rw [List.length_eq_zero_iff, dropW_nil]
 constructor
 ·intro h x hx
  cases hn : l.reverse.dropWhile p with
  | nil => exact (hp x).1 ((dropW_nil _).1 hn x (List.mem_reverse.2 hx))
  | cons y r =>
   exfalso
   have h1 := dropW_head _ y r hn
   have h2 := h y (by rw [hn]; exact List.mem_reverse.2 (List.mem_cons.2 (.inl rfl)))
   rw [h2] at h1
   cases h1
 ·intro h x hx
  exact (hp x).2 (h x (List.mem_reverse.1 ((List.dropWhile_sublist _).subset (List.mem_reverse.1 hx))))
/-- no digit but noughts -/
def zerosB (d : List Nat) : Bool := d.all fun x => x == 0
theorem zerosB_iff (d : List Nat) : zerosB d = true ↔ ∀ x ∈ d, x = 0 := by
 unfold zerosB
 rw [List.all_eq_true]
 exact ⟨fun h x hx => by simpa using h x hx, fun h x hx => by simpa using h x hx⟩
theorem bytes_in {w : World} {A : Option Addr} {n c : Nat} {l : List Nat} (h : Rd w .u8 256 A n c l) : Lib.BytesIn w A n (l.map fun x : Nat => (x : Int)) := fun hn => by
 obtain ⟨b, o, e, _, hc⟩ := h.at_ (by omega)
 refine ⟨b, o, e, fun i hi => ?_⟩
 rw [hc i hi]
 congr 2
 rw [List.getD_eq_getElem?_getD, List.getD_eq_getElem?_getD, List.getElem?_map, List.getElem?_eq_getElem (by rw [h.len]; exact hi)]
 rfl
theorem zeros_dig {w : World} {A : Option Addr} {n c : Nat} {d : List Nat} (h : Rd w .u8 256 A n c (asc d)) :
  Calls Tryz.prog 42 #[.slice A n c] w fun e w' => e = .returned (.bool (zerosB d)) ∧ Below w.heap.size w w' := by
 have hr : ∀ x ∈ (asc d).map (fun x : Nat => (x : Int)), 0 ≤ x ∧ x < 256 := fun x hx => by
  obtain ⟨y, hy, rfl⟩ := List.mem_map.1 hx
  have := h.lt y hy
  omega
 have hz := zeros_any (xs := (asc d).map fun x : Nat => (x : Int)) (by rw [List.length_map, h.len]) h.cap h.max (bytes_in h) hr
 refine hz.mono ?_
 rintro e w' ⟨rfl, b⟩
 refine ⟨?_, b⟩
 congr 2
 rw [Bool.eq_iff_iff, decide_eq_true_iff, trim_all, zerosB_iff]
 unfold Lib.bytesOf asc
 rw [List.map_map, List.map_map]
 have hlt : ∀ x ∈ d, 48 + x < 256 := fun x hx => h.lt _ (List.mem_map.2 ⟨x, hx, rfl⟩)
 have hval : ∀ x, 48 + x < 256 → (UInt8.ofNat (48 + x) = 48 ↔ x = 0) := fun x hx => by
  constructor
  ·intro e
   have : (UInt8.ofNat (48 + x)).toNat = 48 := by rw [e]; rfl
   rw [UInt8.toNat_ofNat_of_lt' hx] at this
   omega
  ·rintro rfl
   rfl
 constructor
 ·intro hh x hx
  exact (hval x (hlt x hx)).1 (hh _ (List.mem_map.2 ⟨x, hx, rfl⟩))
 ·intro hh y hy
  obtain ⟨x, hx, rfl⟩ := List.mem_map.1 hy
  exact (hval x (hlt x hx)).2 (hh x hx)
theorem elem8 : Tryz.prog.underlying 77 = some (.slice (Tryz.prog.elem 77)) := by kernel_rfl
/-- what stands from a place on -/
theorem slice_from {w : World} {A : Option Addr} {n c i : Nat} {l : List Nat} (h : Rd w .u8 256 A n c l) (hi : i ≤ n) :
  ∃ A1, (∀ W : World, (Instr.slice 77 (.slice A n c) (some (.int .i64 (i : Int))) none none).run Tryz.prog W = .ok (.slice A1 (n - i) (c - i)) W) ∧ Rd w .u8 256 A1 (n - i) (c - i) (l.drop i) := by
 have hsz : ∀ W : World, (sizeOf (Tryz.prog.elem 77)).run Tryz.prog W = .ok 1 W := fun W => by kernel_rfl
 refine ⟨if c = i then A else A.map (·.add (i * 1)), fun W => ?_, ?_⟩
 ·rw [run_slice_l W _ _ _ _ elem8 .i64 (i : Int) (by omega) (by omega)]
  simp only [hsz, Result.andThen, sliced, Int.toNat_natCast]
 ·rcases Nat.eq_zero_or_pos (n - i) with h0 | h0
  ·have hl : l.drop i = [] := List.eq_nil_of_length_eq_zero (by rw [List.length_drop, h.len, h0])
   rw [h0, hl]
   exact Rd.nil _ _ _ _ (by have := h.max; omega)
  ·obtain ⟨b, o, rfl, hb, hc⟩ := h.at_ (by omega)
   rw [if_neg (by have := h.cap; omega)]
   have := h.sub hi b o rfl (c - i) (by have := h.cap; omega) (by have := h.max; omega)
   rw [Nat.mul_one, Option.map_some, Lib.add_plain]
   exact this
/-- what stands ahead of a place -/
theorem slice_to {A : Option Addr} {n c i : Nat} (hi : i ≤ c) (W : World) : (Instr.slice 77 (.slice A n c) none (some (.int .i64 (i : Int))) none).run Tryz.prog W = .ok (.slice A i c) W := by
 have hsz : ∀ W : World, (sizeOf (Tryz.prog.elem 77)).run Tryz.prog W = .ok 1 W := fun W => by kernel_rfl
 rw [run_slice_h W _ _ _ _ elem8 .i64 (i : Int) (by omega) (by omega)]
 simp only [hsz, Result.andThen, sliced, Int.toNat_natCast, Nat.zero_mul, Nat.sub_zero]
 split
 ·rfl
 ·cases A with
  | none => rfl
  | some a =>
   obtain ⟨b, o, s⟩ := a
   simp [Addr.add]
theorem Own.take {b0 : Nat} {w : World} {e : TypeId} {k : IntKind} {A : Option Addr} {n c i : Nat} {l : List Nat} (h : Own b0 w e k (.slice A n c) l) (hl : l.length = n) (hi : i ≤ n) : Own b0 w e k (.slice A i c) (l.take i) := by
 have hil : (l.take i).length = i := by rw [List.length_take]; omega
 refine ⟨by rw [iv_length, Nat.mul_one], ?_⟩
 rw [hil]
 rcases h.2 with ⟨hv, h0⟩ | ⟨g, cap, cur, hv, h1, h2, h3, h4, h5, h6⟩
 ·injection hv with e1 e2 e3
  subst e1 e3
  obtain rfl : i = 0 := by omega
  exact .inl ⟨rfl, rfl⟩
 ·injection hv with e1 e2 e3
  subst e1 e3
  refine .inr ⟨g, c, cur, rfl, h1, h2, by omega, h4, h5, ?_⟩
  have : iv k (l.take i) = (iv k l).take i := by unfold iv; rw [List.map_take]
  rw [this, ← h6, List.take_take]
  congr 1
  omega

theorem shortened_any {w : World} {b0 V : Nat} {k : Int} {v : Value} {away : Bool} (hb : b0 ≤ w.heap.size) (hown : Own b0 w 5 .u8 v (asc (decD V))) (hlen : (decD V).length ≤ 10000) (hk1 : -1000 ≤ k) (hk2 : k ≤ 10000) :
  Calls Tryz.prog 40 #[v, .int .i64 k, .bool away] w (RdEnd b0 (asc (shD V k away)) w) := by
 unfold shD
 by_cases hk : k < 0
 ·obtain ⟨j, rfl⟩ : ∃ j : Nat, k = -(j : Int) := ⟨(-k).toNat, by omega⟩
  rw [if_pos hk, show (-(-(j : Int))).toNat = j by omega, asc_append, asc_zeros]
  have d1 : decide (-(j : Int) < 0) = true := decide_eq_true hk
  have d3 : decide (0 < j) = true := decide_eq_true (by omega)
  have hng : IntKind.i64.wrap (- -(j : Int)) = (j : Int) := by rw [Int.neg_neg]; exact IntWalk.i64_in _ (by omega)
  have hng2 : IntKind.i64.wrap (j : Int) = (j : Int) := IntWalk.i64_in _ (by omega)
  have hl0 : (asc (decD V)).length = (decD V).length := asc_len _
  have hlt := dec_lt256 V
  obtain ⟨R, hR⟩ : ∃ R, R = asc (decD V) ++ List.replicate j 48 := ⟨_, rfl⟩
  have HT : Hid (Lt 256 R) := by rw [hR]; exact Lt.append hlt (rep_lt j)
  rw [← hR]
  have HR := Lib.hid hR
  clear hR
  have HL : Hid ((asc (decD V)).length + (List.replicate j 48).length ≤ 1000000) := by rw [List.length_replicate]; show _ ≤ _; omega
  have hj : j ≤ 1000 := by omega
  clear hk hl0 hlt
  go_enter Tryz.func40, Tryz.ntmps40
  go_wp2_with fail
  refine (Tryz.strings_Repeat ⟨#[48]⟩ j _ (by omega) (by show 1 * j ≤ _; omega)).mono ?_
  rintro en w1 ⟨rfl, b1⟩
  rw [rep_txt]
  have ho1 := Own.below hown b1
  have hs1 : b0 ≤ w1.heap.size := Nat.le_trans hb b1.size
  clear d1 d3 hng hng2
  go_wp2_with (at_builtin; refine law_txt Tryz.underlying77 Tryz.underlying9 info8 rfl _ _ rfl ho1 (rep_lt j) HL.out hs1 rfl rfl ?_; intro v2 w2 ho2 b2; rw [← HR.out] at ho2; obtain ⟨A2, c2, rfl, hr2⟩ := ho2.rd HT.out)
  go_ret
  exact ⟨_, _, _, rfl, hr2, (b1.mono hb).trans b2⟩
 ·obtain ⟨j, rfl⟩ := Int.eq_ofNat_of_zero_le (by omega : 0 ≤ k)
  rw [if_neg hk, Int.toNat_natCast]
  clear hk
  obtain ⟨n, hn⟩ : ∃ n, n = (decD V).length := ⟨_, rfl⟩
  have hla : (asc (decD V)).length = n := (asc_len _).trans hn.symm
  rw [← hn] at hlen
  obtain ⟨A, c, rfl, hr⟩ := hown.rd (dec_lt256 V)
  rw [hla] at hr hown ⊢
  have hcap := hr.cap
  have hmax := hr.max
  obtain ⟨i, hi⟩ : ∃ i, i = n - j := ⟨_, rfl⟩
  have hin : i ≤ n := by omega
  have hmx : max (0 : Int) ((n : Int) - (j : Int)) = (i : Int) := by omega
  have hmy : max ((n : Int) - (j : Int)) 0 = (i : Int) := by omega
  -- what is cut off, and what stays
  have htk : (decD V).take i = decD (V / 10 ^ j) := by rw [hi, hn]; exact take_decD j V
  have hdr : zerosB ((decD V).drop i) = decide (V % 10 ^ j = 0) := by
   rw [Bool.eq_iff_iff, zerosB_iff, decide_eq_true_iff, hi, hn]
   exact drop_zeros j V
  obtain ⟨A1, hs1, hr1⟩ := slice_from hr hin
  have hs2 := fun W => slice_to (A := A) (n := n) (show i ≤ c by omega) W
  rw [← asc_drop] at hr1
  have HTK := Lib.hid htk
  have HDR := Lib.hid hdr
  have HN := Lib.hid hn
  have HI := Lib.hid hi
  clear htk hdr hn hi hr
  by_cases hz : away = true ∧ V % 10 ^ j ≠ 0
  ·obtain ⟨rfl, hz⟩ := hz
   rw [if_pos ⟨rfl, hz⟩]
   have HZ : Hid (zerosB ((decD V).drop i) = false) := by show _ = _; rw [HDR.out, decide_eq_false hz]
   go_enter Tryz.func40, Tryz.ntmps40
   go_wp2_with fail
   refine (zeros_dig hr1).mono ?_
   rintro en w1 ⟨rfl, b1⟩
   rw [HZ.out]
   have ho1 := Own.take (Own.below hown b1) hla hin
   rw [← asc_take, HTK.out] at ho1
   have hl1 : (decD (V / 10 ^ j)).length ≤ 10000 := by rw [← HTK.out, List.length_take]; have := HN.out; omega
   have hq1 : b0 ≤ w1.heap.size := Nat.le_trans hb b1.size
   clear hr1 hs1
   go_wp2_with fail
   refine (next_any hq1 ho1 hl1).mono ?_
   rintro en w2 ⟨A2, n2, c2, rfl, hr2, b2⟩
   go_wp2
   go_ret
   exact ⟨_, _, _, rfl, hr2, (b1.mono hb).trans b2⟩
  ·rw [if_neg hz, Nat.add_zero, ← HTK.out, asc_take]
   have hL : Lt 256 ((asc (decD V)).take i) := (dec_lt256 V).take i
   have hli : ((asc (decD V)).take i).length = i := by rw [List.length_take]; omega
   have hfin : ∀ w1 : World, Below w.heap.size w w1 → Rd w1 .u8 256 A i c ((asc (decD V)).take i) := fun w1 b1 => by
    obtain ⟨A2, c2, e, hr2⟩ := (Own.take (Own.below hown b1) hla hin).rd hL
    injection e with e1 _ e3
    subst e1 e3
    rw [hli] at hr2
    exact hr2
   have HF := Lib.hid hfin
   clear hL hli hfin hown
   cases away with
   | false =>
    go_enter Tryz.func40, Tryz.ntmps40
    go_wp2
    go_ret
    exact ⟨_, _, _, rfl, HF.out w (Below.refl _ _), Below.refl _ _⟩
   | true =>
    have HZ : Hid (zerosB ((decD V).drop i) = true) := by
     show _ = _
     rw [HDR.out, decide_eq_true_iff]
     exact Classical.not_not.1 (fun h => hz ⟨rfl, h⟩)
    clear hz
    go_enter Tryz.func40, Tryz.ntmps40
    go_wp2_with fail
    refine (zeros_dig hr1).mono ?_
    rintro en w1 ⟨rfl, b1⟩
    rw [HZ.out]
    clear hr1 hs1
    go_wp2
    go_ret
    exact ⟨_, _, _, rfl, HF.out w1 b1, b1.mono hb⟩
end Go.Proofs.YtdhdebapjlcjdaaGreatDoor
