/-
 Contracts of the reference's May and of the statements' helper is, at this translation. Condition: the slices read as limbs, or as digits of sixteen bits.
-/
import Derived.Test.YtefofejgogokpaaGreatDoorPCaps
import Derived.OwnWalk
set_option maxHeartbeats 400000
set_option maxRecDepth 512
namespace Go.Proofs.YtefofejgogokpaaGreatDoor
open Go.RowKit

theorem nt_of {w : World} {A : Option Addr} {n c : Nat} {l : List Nat} (h : Rd w .u64 W A n c l) (hb : mayB l = true) : Nt w A n c (val W l) ∧ Can W l ∧ n ≤ 64 := by
 unfold mayB at hb
 simp only [Bool.and_eq_true, Bool.or_eq_true, decide_eq_true_eq] at hb
 have hn : n ≤ 64 := by rw [← h.len]; exact hb.1
 have hc : Can W l := ⟨h.lt, fun h0 => hb.2.resolve_left h0⟩
 refine ⟨⟨by rw [dig_val W_two hc]; exact h, ?_⟩, hc, hn⟩
 have h1 := val_lt h.lt
 rw [h.len] at h1
 exact Nat.lt_of_lt_of_le h1 (Nat.pow_le_pow_right (by rw [W_eq]; omega) hn)
/-- whatever the guard at a law's head finds -/
def ToldEnd (w : World) (e : Ending) (w' : World) : Prop := e = .returned (.bool true) ∧ Below w.heap.size w w'

end Go.Proofs.YtefofejgogokpaaGreatDoor

namespace Go.Proofs.YtefofejgogokpaaGreatDoor
open Go.RowKit

theorem infoD : (Tryz.prog.info? 67).map (fun i => (i.zero, i.size, i.bytes)) = some (some (.int .u32 0), 1, 4) := by kernel_rfl

/-- what a call has made by append reads as numbers -/
def Own (base : Nat) (w : World) (e : TypeId) (k : IntKind) (v : Value) (l : List Nat) : Prop := w.ownsRow base e 1 v l.length (iv k l)
theorem Own.nil (base : Nat) (w : World) (e : TypeId) (k : IntKind) : Own base w e k (.slice none 0 0) [] := World.ownsRow_nil ..
theorem Own.rd {base B : Nat} {w : World} {e : TypeId} {k : IntKind} {v : Value} {l : List Nat} (h : Own base w e k v l) (hl : Lt B l) : ∃ A c, v = .slice A l.length c ∧ Rd w k B A l.length c l := by
 by_cases h0 : l.length = 0
 ·obtain rfl : l = [] := List.eq_nil_of_length_eq_zero h0
  rcases h.2 with ⟨rfl, _⟩ | ⟨g, cap, cur, rfl, _, _, _, hm, _⟩
  ·exact ⟨none, 0, rfl, Rd.nil _ _ _ _ (by omega)⟩
  ·exact ⟨some ⟨g, 0, none⟩, cap, rfl, Rd.nil _ _ _ _ (by unfold maxLen at hm; omega)⟩
 ·obtain ⟨g, cap, post, rfl, _, hc, hm, hrow⟩ := Row.of_own h h0
  exact ⟨_, _, rfl, hrow.rd hl hc (by unfold maxLen at hm; omega)⟩
theorem Own.below {base : Nat} {w w' : World} {e : TypeId} {k : IntKind} {v : Value} {l : List Nat} (h : Own base w e k v l) (hb : Below w.heap.size w w') : Own base w' e k v l :=
 h.kept (grownBy_below hb none) (by cases hv : v.ownBlock <;> simp)

theorem Own.drew {base : Nat} {w : World} {e : TypeId} {k : IntKind} {v : Value} {l : List Nat} (h : Own base w e k v l) : Own base w.drew e k v l := h
/-- a place of such a row: it reads, is not frozen, and may be stored into -/
theorem Own.store {base : Nat} {w : World} {e : TypeId} {k : IntKind} {v : Value} {l : List Nat} (h : Own base w e k v l) {j : Nat} (hj : j < l.length) : ∃ g cap, v = .slice (some ⟨g, 0, none⟩) l.length cap ∧ base ≤ g ∧ g < w.heap.size ∧ l.length ≤ cap ∧ cap ≤ 9223372036854775807 ∧
  w.cell? ⟨g, j, none⟩ = some (.int k ((l.getD j 0 : Nat) : Int)) ∧ w.frozen? ⟨g, j, none⟩ = false ∧ ∀ y : Nat, Own base (w.setCell ⟨g, j, none⟩ (.int k (y : Int))) e k v (l.set j y) := by
 obtain ⟨g0, cap0, post0, hv0, _, _, _, hrow⟩ := Row.of_own h (by omega)
 rcases h.2 with ⟨_, h0⟩ | ⟨g, cap, cur, hv, hb, hg, hc, hm, hs, ht⟩
 ·omega
 ·rw [hv] at hv0
  injection hv0 with hv1 _ hv2
  injection hv1 with hv1
  injection hv1 with hv1
  subst hv1 hv2
  have hgl := hrow.gl
  refine ⟨g, cap, hv, hb, hgl, hc, by unfold maxLen at hm; omega, hrow.cell0 hj, hrow.frozen j, fun y => ?_⟩
  unfold Own
  rw [List.length_set]
  refine ⟨by rw [iv_length, List.length_set, Nat.mul_one], .inr ⟨g, cap, cur.setIfInBounds j (.int k (y : Int)), hv, hb, ?_, hc, hm, by simp [hs], ?_⟩⟩
  ·simp [World.setCell, Array.getElem?_modify, hg]
  ·rw [iv_set, ← ht]
   simp [List.take_set]

/-- append of one number, which the walk has laid in a block of its own -/
theorem law_app {t e : TypeId} {k : IntKind} {bytes : Nat} (ht : Tryz.prog.underlying t = some (.slice e)) (hinfo : (Tryz.prog.info? e).map (fun i => (i.zero, i.size, i.bytes)) = some (some (.int k 0), 1, bytes)) (hby : bytes ≤ 8)
  {ops : Array Oper} {rest : List Oper} {o : Oper} {a : Act} {Q : Exit → Act → World → Prop} {w : World} (hg : o.guard = none) (s x : Operand)
  (hop : o.op = .call { callee := .builtin .append, args := #[s, x], argTypes := #[t, t] }) {base : Nat} {v : Value} {l : List Nat} {y : Nat} (hown : Own base w e k v l) (hn : l.length ≤ 1000000) (hbase : base ≤ w.heap.size)
  (hs : a.eval s = v) (hx : a.eval x = .slice (some ⟨w.heap.size, 0, none⟩) 1 1)
  (hK : ∀ v' w', Own base w' e k v' (l ++ [y]) → Below base w w' → wpList Tryz.prog ops Q rest (a.put o.dst v') w') : wpList Tryz.prog ops Q (o :: rest) a (w.alloc (.cells #[.int k (y : Int)] e)) := by
 obtain ⟨i0, hi, hz0, hz1, hz2⟩ := info_parts hinfo
 have hlt := hown.lt
 refine wpList_append_own _ hg s x t hop base e i0 (.int k 0) 1 bytes ht hi hz0 hz1 hz2 rfl (by decide) v l.length (iv k l) hs (World.ownsRow.alloc hown _) ⟨w.heap.size, 0, none⟩ 1 1 [.int k (y : Int)] hx rfl ?_ ?_ (by unfold maxLen; omega) ?_ (by simp; omega) ?_
 ·intro j u hj
  match j, hj with
  | 0, hj => simp at hj; subst hj; simp [Addr.add]
 ·intro u hu; simp at hu; subst hu; rfl
 ·have : (l.length + 1) * bytes ≤ (l.length + 1) * 8 := Nat.mul_le_mul_left _ hby
  omega
 ·intro v' w' h1 h2 _
  refine hK v' w' ?_ ?_
  ·unfold Own
   rw [List.length_append, iv_append]
   exact h1
  ·exact ((Below.refl _ _).alloc hbase _).grown h2 (by simp; omega) (fun b hb => (hlt b hb).1)

theorem rtrim_any {w : World} {A : Option Addr} {n c : Nat} {l : List Nat} (h : Rd w .u32 H A n c l) :
  Calls Tryz.prog 84 #[.slice A n c] w fun e w' => e = .returned (.slice A (dig H (val H l)).length c) ∧ w = w' := by
 have hcap := h.cap
 have hmax := h.max
 obtain ⟨t, ht⟩ : ∃ t, t = (dig H (val H l)).length := ⟨_, rfl⟩
 rw [← ht]
 have HT := Lib.hid ht
 clear ht
 go_enter Tryz.func84, Tryz.ntmps84
 go_wp2
 go_loopg [3] n (fun g v wr => ∃ m : Nat, m ≤ g ∧ m ≤ n ∧ v = .int .i64 m ∧ Zero l n m ∧ wr = w)
 case atStart => exact ⟨n, Nat.le_refl _, Nat.le_refl _, rfl, fun j h1 h2 => absurd h2 (by omega), rfl⟩
 case round =>
  obtain ⟨m, hg, hm, rfl, hz, rfl⟩ := hrel
  by_cases h0 : m = 0
  ·subst h0
   have e : t = 0 := by
    rw [HT.out]; exact trim_len H_two h.lt (by rw [h.len]; exact hm) (fun j h1 h2 => hz j h1 (by rw [← h.len]; exact h2)) (.inl rfl)
   subst e
   go_wp2
   go_ret
   exact ⟨rfl, rfl⟩
  ·obtain ⟨b, o, rfl, hb, hc⟩ := h.at_ (by omega)
   obtain ⟨x, hx⟩ : ∃ x, x = l.getD (m - 1) 0 := ⟨_, rfl⟩
   have hcell : wr.cell? ⟨b, o + (m - 1), none⟩ = some (.int .u32 (x : Int)) := by rw [hx]; exact hc (m - 1) (by omega)
   have hp : (0 : Int) ≤ m - 1 := by omega
   have hp0 : 0 < m := by omega
   have d0 : decide (0 < m) = true := decide_eq_true hp0
   have HX := Lib.hid hx
   clear hx hc
   by_cases h2 : x = 0
   ·subst h2
    go_wp2
    go_roundg (m - 1)
    case measure => omega
    case rel => exact ⟨m - 1, by omega, by omega, by go_num, fun j h1 h2 => by
     rcases Nat.lt_or_ge j m with h3 | h3
     ·have : j = m - 1 := by omega
      rw [this]; exact HX.out.symm
     ·exact hz j h3 h2, rfl⟩
   ·have b1 : ((x : Int) == 0) = false := by simp [h2]
    have e : t = m := by
     rw [HT.out]; exact trim_len H_two h.lt (by rw [h.len]; exact hm) (fun j h1 h2 => hz j h1 (by rw [← h.len]; exact h2)) (.inr (by rw [← HX.out]; exact h2))
    subst e
    clear h2
    go_wp2
    go_ret
    exact ⟨rfl, rfl⟩

/-- a slice that reads as the digits of a number -/
def Dg (w : World) (A : Option Addr) (n c x : Nat) : Prop := Rd w .u32 H A n c (dig H x)
theorem Dg.below {w w' : World} {A : Option Addr} {n c x : Nat} (h : Dg w A n c x) (hb : Below w.heap.size w w') : Dg w' A n c x := Rd.below h hb
theorem rd_rtrim {w : World} {A : Option Addr} {n c : Nat} {l : List Nat} (h : Rd w .u32 H A n c l) : Dg w A (dig H (val H l)).length c (val H l) := by
 obtain ⟨h1, h2⟩ := take_dig H_two h.lt
 rw [h.len] at h1
 have := h.take h1
 unfold Dg
 rwa [h2] at this
end Go.Proofs.YtefofejgogokpaaGreatDoor

namespace Go.Proofs.YtefofejgogokpaaGreatDoor
open Go.RowKit

theorem W_H : W = H ^ 4 := by rw [W_pow, H_pow, ← Nat.pow_mul]
theorem W_pow_H (i : Nat) : W ^ i = H ^ (4 * i) := by rw [W_H, ← Nat.pow_mul]

/-- the digits that are made of the first i limbs, and of k digits of the next one -/
def FromRel (base : Nat) (l : List Nat) (i k : Nat) (v : Value) (w : World) : Prop :=
 ∃ out, Own base w 67 .u32 v out ∧ out.length = 4 * i + k ∧ Lt H out ∧ val H out = val W (l.take i) + W ^ i * (l.getD i 0 % H ^ k)

theorem mask16 (q : Nat) : bits .and .u32 ((q : Int) % 4294967296) 65535 = ((q % H : Nat) : Int) := by
 have h := bits_mask .u32 32 (by decide) (fun n h0 h1 => by rw [IntKind.wrap_u32]; omega) 16 (by decide) ((q : Int) % 4294967296) (by omega) (by omega)
 have e : (2 : Int) ^ 16 - 1 = 65535 := by decide
 rw [e] at h
 rw [h, H_eq]
 omega
theorem from_mask (x k : Nat) : bits .and .u32 ((x : Int) / 2 ^ (16 * k) % 4294967296) 65535 = ((x / H ^ k % H : Nat) : Int) := by
 have e : ((2 : Int) ^ (16 * k)) = ((2 ^ (16 * k) : Nat) : Int) := by rw [Int.natCast_pow]; rfl
 rw [e, ← Int.natCast_ediv, mask16, Nat.pow_mul, ← H_pow]

theorem from_digit {l out : List Nat} {i k x y : Nat} (hx : x = l.getD i 0) (hy : y = x / H ^ k % H) (hl : out.length = 4 * i + k) (hlt : Lt H out) (hv : val H out = val W (l.take i) + W ^ i * (l.getD i 0 % H ^ k)) :
  (out ++ [y]).length = 4 * i + (k + 1) ∧ Lt H (out ++ [y]) ∧ val H (out ++ [y]) = val W (l.take i) + W ^ i * (l.getD i 0 % H ^ (k + 1)) := by
 refine ⟨by simp [hl]; omega, hlt.append (Lt.cons (by rw [hy]; exact Nat.mod_lt _ (by rw [H_eq]; omega)) Lt.nil), ?_⟩
 rw [val_snoc, hv, hl, hy, Nat.mod_pow_succ, ← hx, Nat.pow_add, ← W_pow_H, Nat.mul_add, Nat.mul_assoc, Nat.add_assoc]
theorem from_next {l out : List Nat} {i : Nat} (hlt : Lt W l) (hv : val H out = val W (l.take i) + W ^ i * (l.getD i 0 % H ^ 4)) : val H out = val W (l.take (i + 1)) + W ^ (i + 1) * (l.getD (i + 1) 0 % H ^ 0) := by
 rw [Nat.pow_zero, Nat.mod_one, Nat.mul_zero, Nat.add_zero, take_val', hv, ← W_H, Nat.mod_eq_of_lt (hlt.getD (by rw [W_eq]; omega) _)]

theorem rfrom_any {w : World} {A : Option Addr} {n c : Nat} {l : List Nat} (h : Rd w .u64 W A n c l) (hn : n ≤ 1000) :
  Calls Tryz.prog 53 #[.slice A n c] w fun e w' => ∃ A' n' c', e = .returned (.slice A' n' c') ∧ Dg w' A' n' c' (val W l) ∧ Below w.heap.size w w' := by
 have hcap := h.cap
 have hmax := h.max
 go_enter Tryz.func53, Tryz.ntmps53
 go_wp2
 go_loopg [3, 4] n (fun g v3 v4 wr => ∃ i : Nat, i + g = n ∧ v4 = .int .i64 i ∧ FromRel w.heap.size l i 0 v3 wr ∧ Below w.heap.size w wr)
 case atStart => exact ⟨0, by omega, rfl, ⟨[], Own.nil _ _ _ _, rfl, Lt.nil, by simp [val, Nat.mod_one]⟩, Below.refl _ _⟩
 case round =>
  obtain ⟨i, hg, rfl, ⟨out, hown, hlen, hlt, hval⟩, hb⟩ := hrel
  have HG := Lib.hid hg
  have HL := Lib.hid hlen
  have HV := Lib.hid hval
  clear hg hlen hval
  by_cases hi : i < n
  ·obtain ⟨x, hx⟩ : ∃ x, x = l.getD i 0 := ⟨_, rfl⟩
   obtain ⟨b, o, rfl, hbl, hc⟩ := h.at_ (by omega)
   have hcell0 : w.cell? ⟨b, o + i, none⟩ = some (.int .u64 (x : Int)) := by rw [hx]; exact hc i hi
   have hxB : x < 18446744073709551616 := by rw [hx, ← W_eq]; exact h.lt.getD (by rw [W_eq]; omega) i
   have HX := Lib.hid hx
   clear hx hc
   go_wp2
   go_loopg [3, 5] 4 (fun g v3 v5 wr => ∃ k : Nat, k + g = 4 ∧ v5 = .int .i64 k ∧ FromRel w.heap.size l i k v3 wr ∧ Below w.heap.size w wr)
   case atStart => exact ⟨0, by omega, rfl, ⟨out, hown, HL.out, hlt, HV.out⟩, hb⟩
   case round =>
    obtain ⟨k, hk, rfl, ⟨out2, hown2, hlen2, hlt2, hval2⟩, hb2⟩ := hrel
    have HK := Lib.hid hk
    have HL2 := Lib.hid hlen2
    have HV2 := Lib.hid hval2
    have hcell := (hb2.cell (p := ⟨b, o + i, none⟩) hbl).trans hcell0
    have hbs := hb2.size
    have hk4 : k ≤ 4 := by omega
    clear hk hlen2 hval2 HL HV hown hlt hb
    by_cases hlk : k < 4
    ·obtain ⟨y, hy⟩ : ∃ y, y = x / H ^ k % H := ⟨_, rfl⟩
     have hD := from_digit HX.out hy HL2.out hlt2 HV2.out
     have hE : bits .and .u32 ((x : Int) / 2 ^ (16 * k) % 4294967296) 65535 = (y : Int) := by rw [hy]; exact from_mask x k
     have HD := Lib.hid hD
     have HY := Lib.hid hy
     have hl3 : out2.length ≤ 1000000 := by rw [HL2.out]; omega
     clear hD hy
     have p0 : (0 : Int) ≤ 16 * k := by omega
     go_wp2_with (at_builtin; refine law_app Tryz.underlying62 infoD (by decide) rfl _ _ rfl hown2 hl3 hbs rfl rfl ?_; intro v' w1 hown3 hb3)
     go_roundg (4 - (k + 1))
     case measure => have := HK.out; omega
     case rel => exact ⟨k + 1, by omega, by go_num, ⟨_, hown3, HD.out.1, HD.out.2.1, HD.out.2.2⟩, hb2.trans hb3⟩
    ·obtain rfl : k = 4 := by omega
     have hN := from_next h.lt HV2.out
     have HN := Lib.hid hN
     clear hN
     go_wp2
     go_roundg (n - (i + 1))
     case measure => have := HG.out; omega
     case rel => exact ⟨i + 1, by have := HG.out; omega, by go_num, ⟨out2, hown2, by rw [HL2.out]; omega, hlt2, HN.out⟩, hb2⟩
  ·have hi' : i = n := by have := HG.out; omega
   obtain ⟨A2, c2, rfl, hrd⟩ := hown.rd hlt
   have hv : val H out = val W l := by rw [HV.out, hi', List.take_of_length_le (by rw [h.len]; omega), Nat.pow_zero, Nat.mod_one, Nat.mul_zero, Nat.add_zero]
   have hD := rd_rtrim hrd
   rw [hv] at hD
   have HVV := Lib.hid hv
   have HDD := Lib.hid hD
   clear hv hD hown
   go_wp2_with fail
   refine (rtrim_any hrd).mono ?_
   rintro e w' ⟨rfl, rfl⟩
   rw [HVV.out]
   go_wp2
   go_ret
   exact ⟨_, _, _, rfl, HDD.out, hb⟩
end Go.Proofs.YtefofejgogokpaaGreatDoor

namespace Go.Proofs.YtefofejgogokpaaGreatDoor
open Go.RowKit

end Go.Proofs.YtefofejgogokpaaGreatDoor

namespace Go.Proofs.YtefofejgogokpaaGreatDoor
open Go.RowKit

theorem rmay_any {w : World} {A : Option Addr} {n c : Nat} {l : List Nat} (h : Rd w .u64 W A n c l) :
  Calls Tryz.prog 103 #[.slice A n c] w fun e w' => e = .returned (.bool (mayB l)) ∧ w = w' := by
 have hcap := h.cap
 have hmax := h.max
 by_cases h0 : n = 0
 ·subst h0
  have e : mayB l = true := by simp [mayB, h.empty rfl]
  rw [e]
  go_enter Tryz.func103, Tryz.ntmps103
  go_wp2
  go_ret
  exact ⟨rfl, rfl⟩
 ·obtain ⟨b, o, rfl, hb, hc⟩ := h.at_ h0
  have hl := h.len
  by_cases h1 : n ≤ 64
  ·obtain ⟨x, hx⟩ : ∃ x, x = l.getD (n - 1) 0 := ⟨_, rfl⟩
   have hcell : w.cell? ⟨b, o + (n - 1), none⟩ = some (.int .u64 (x : Int)) := by rw [hx]; exact hc (n - 1) (by omega)
   have hp : (0 : Int) ≤ n - 1 := by omega
   have b0 : ((n : Int) == 0) = false := by simp [h0]
   have d1 : decide ((n : Int) ≤ 64) = true := decide_eq_true (by omega)
   have d2 : decide ((64 : Int) < (n : Int)) = false := decide_eq_false (by omega)
   have i1 : (n : Int) ≤ 64 := by omega
   by_cases h2 : x = 0
   ·have e : mayB l = false := by unfold mayB; rw [hl, ← hx]; simp [h0, h2]
    rw [e]
    clear hc hl hx
    subst h2
    go_enter Tryz.func103, Tryz.ntmps103
    go_wp2
    go_ret
    exact ⟨rfl, rfl⟩
   ·have e : mayB l = true := by unfold mayB; rw [hl, ← hx]; simp [h1, h2]
    rw [e]
    have b1 : ((x : Int) != 0) = true := by simp [h2]
    clear hc hl hx h2 h0
    go_enter Tryz.func103, Tryz.ntmps103
    go_wp2
    go_ret
    exact ⟨rfl, rfl⟩
  ·have e : mayB l = false := by simp [mayB, hl]; omega
   rw [e]
   clear hc hl
   go_enter Tryz.func103, Tryz.ntmps103
   go_wp2
   go_ret
   exact ⟨rfl, rfl⟩


end Go.Proofs.YtefofejgogokpaaGreatDoor
