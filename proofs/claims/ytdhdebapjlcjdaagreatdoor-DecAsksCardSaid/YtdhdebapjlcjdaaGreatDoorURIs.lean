/-
 Contracts of the reference's May and of the statements' helper is, at this translation. Condition: the slices read as limbs, or as digits of sixteen bits.
-/
import Derived.Test.YtdhdebapjlcjdaaGreatDoorUCaps
import Derived.OwnWalk
set_option maxHeartbeats 400000
set_option maxRecDepth 512
namespace Go.Proofs.YtdhdebapjlcjdaaGreatDoor
open Go.RowKit

theorem nt_of {w : World} {A : Option Addr} {n c : Nat} {l : List Nat} (h : Rd w .u64 W A n c l) (hb : mayB l = true) : Nt w A n c (val W l) ∧ Can W l ∧ n ≤ 64 := by
 unfold mayB at hb
 simp only [Bool.and_eq_true, Bool.or_eq_true, decide_eq_true_eq] at hb
 have hn : n ≤ 64 := by rw [← h.len]; exact hb.1
 have hc : Can W l := ⟨h.lt, fun h0 => hb.2.resolve_left h0⟩
 refine ⟨⟨by rw [dig_val W_two hc]; exact h, ?_⟩, hc, hn⟩
 have h1 := val_lt h.lt
 rw [h.len] at h1
 exact Nat.lt_of_lt_of_le h1 (Nat.pow_le_pow_right (by rw [W_eq]; omega) hn)
/-- whatever the guard at a law's head finds -/
def ToldEnd (w : World) (e : Ending) (w' : World) : Prop := e = .returned (.bool true) ∧ Below w.heap.size w w'

end Go.Proofs.YtdhdebapjlcjdaaGreatDoor

namespace Go.Proofs.YtdhdebapjlcjdaaGreatDoor
open Go.RowKit

theorem infoD : (Tryz.prog.info? 59).map (fun i => (i.zero, i.size, i.bytes)) = some (some (.int .u32 0), 1, 4) := by kernel_rfl

/-- what a call has made by append reads as numbers -/
def Own (base : Nat) (w : World) (e : TypeId) (k : IntKind) (v : Value) (l : List Nat) : Prop := w.ownsRow base e 1 v l.length (iv k l)
theorem Own.nil (base : Nat) (w : World) (e : TypeId) (k : IntKind) : Own base w e k (.slice none 0 0) [] := World.ownsRow_nil ..
theorem Own.rd {base B : Nat} {w : World} {e : TypeId} {k : IntKind} {v : Value} {l : List Nat} (h : Own base w e k v l) (hl : Lt B l) : ∃ A c, v = .slice A l.length c ∧ Rd w k B A l.length c l := by
 by_cases h0 : l.length = 0
 ·obtain rfl : l = [] := List.eq_nil_of_length_eq_zero h0
  rcases h.2 with ⟨rfl, _⟩ | ⟨g, cap, cur, rfl, _, _, _, hm, _⟩
  ·exact ⟨none, 0, rfl, Rd.nil _ _ _ _ (by omega)⟩
  ·exact ⟨some ⟨g, 0, none⟩, cap, rfl, Rd.nil _ _ _ _ (by unfold maxLen at hm; omega)⟩
 ·obtain ⟨g, cap, post, rfl, _, hc, hm, hrow⟩ := Row.of_own h h0
  exact ⟨_, _, rfl, hrow.rd hl hc (by unfold maxLen at hm; omega)⟩
theorem Own.below {base : Nat} {w w' : World} {e : TypeId} {k : IntKind} {v : Value} {l : List Nat} (h : Own base w e k v l) (hb : Below w.heap.size w w') : Own base w' e k v l :=
 h.kept (grownBy_below hb none) (by cases hv : v.ownBlock <;> simp)

theorem Own.drew {base : Nat} {w : World} {e : TypeId} {k : IntKind} {v : Value} {l : List Nat} (h : Own base w e k v l) : Own base w.drew e k v l := h
/-- a place of such a row: it reads, is not frozen, and may be stored into -/
theorem Own.store {base : Nat} {w : World} {e : TypeId} {k : IntKind} {v : Value} {l : List Nat} (h : Own base w e k v l) {j : Nat} (hj : j < l.length) : ∃ g cap, v = .slice (some ⟨g, 0, none⟩) l.length cap ∧ base ≤ g ∧ g < w.heap.size ∧ l.length ≤ cap ∧ cap ≤ 9223372036854775807 ∧
  w.cell? ⟨g, j, none⟩ = some (.int k ((l.getD j 0 : Nat) : Int)) ∧ w.frozen? ⟨g, j, none⟩ = false ∧ ∀ y : Nat, Own base (w.setCell ⟨g, j, none⟩ (.int k (y : Int))) e k v (l.set j y) := by
 obtain ⟨g0, cap0, post0, hv0, _, _, _, hrow⟩ := Row.of_own h (by omega)
 rcases h.2 with ⟨_, h0⟩ | ⟨g, cap, cur, hv, hb, hg, hc, hm, hs, ht⟩
 ·omega
 ·rw [hv] at hv0
  injection hv0 with hv1 _ hv2
  injection hv1 with hv1
  injection hv1 with hv1
  subst hv1 hv2
  have hgl := hrow.gl
  refine ⟨g, cap, hv, hb, hgl, hc, by unfold maxLen at hm; omega, hrow.cell0 hj, hrow.frozen j, fun y => ?_⟩
  unfold Own
  rw [List.length_set]
  refine ⟨by rw [iv_length, List.length_set, Nat.mul_one], .inr ⟨g, cap, cur.setIfInBounds j (.int k (y : Int)), hv, hb, ?_, hc, hm, by simp [hs], ?_⟩⟩
  ·simp [World.setCell, Array.getElem?_modify, hg]
  ·rw [iv_set, ← ht]
   simp [List.take_set]

/-- append of one number, which the walk has laid in a block of its own -/
theorem law_app {t e : TypeId} {k : IntKind} {bytes : Nat} (ht : Tryz.prog.underlying t = some (.slice e)) (hinfo : (Tryz.prog.info? e).map (fun i => (i.zero, i.size, i.bytes)) = some (some (.int k 0), 1, bytes)) (hby : bytes ≤ 8)
  {ops : Array Oper} {rest : List Oper} {o : Oper} {a : Act} {Q : Exit → Act → World → Prop} {w : World} (hg : o.guard = none) (s x : Operand)
  (hop : o.op = .call { callee := .builtin .append, args := #[s, x], argTypes := #[t, t] }) {base : Nat} {v : Value} {l : List Nat} {y : Nat} (hown : Own base w e k v l) (hn : l.length ≤ 1000000) (hbase : base ≤ w.heap.size)
  (hs : a.eval s = v) (hx : a.eval x = .slice (some ⟨w.heap.size, 0, none⟩) 1 1)
  (hK : ∀ v' w', Own base w' e k v' (l ++ [y]) → Below base w w' → wpList Tryz.prog ops Q rest (a.put o.dst v') w') : wpList Tryz.prog ops Q (o :: rest) a (w.alloc (.cells #[.int k (y : Int)] e)) := by
 obtain ⟨i0, hi, hz0, hz1, hz2⟩ := info_parts hinfo
 have hlt := hown.lt
 refine wpList_append_own _ hg s x t hop base e i0 (.int k 0) 1 bytes ht hi hz0 hz1 hz2 rfl (by decide) v l.length (iv k l) hs (World.ownsRow.alloc hown _) ⟨w.heap.size, 0, none⟩ 1 1 [.int k (y : Int)] hx rfl ?_ ?_ (by unfold maxLen; omega) ?_ (by simp; omega) ?_
 ·intro j u hj
  match j, hj with
  | 0, hj => simp at hj; subst hj; simp [Addr.add]
 ·intro u hu; simp at hu; subst hu; rfl
 ·have : (l.length + 1) * bytes ≤ (l.length + 1) * 8 := Nat.mul_le_mul_left _ hby
  omega
 ·intro v' w' h1 h2 _
  refine hK v' w' ?_ ?_
  ·unfold Own
   rw [List.length_append, iv_append]
   exact h1
  ·exact ((Below.refl _ _).alloc hbase _).grown h2 (by simp; omega) (fun b hb => (hlt b hb).1)

theorem rtrim_any {w : World} {A : Option Addr} {n c : Nat} {l : List Nat} (h : Rd w .u32 H A n c l) :
  Calls Tryz.prog 64 #[.slice A n c] w fun e w' => e = .returned (.slice A (dig H (val H l)).length c) ∧ w = w' := by
 have hcap := h.cap
 have hmax := h.max
 obtain ⟨t, ht⟩ : ∃ t, t = (dig H (val H l)).length := ⟨_, rfl⟩
 rw [← ht]
 have HT := Lib.hid ht
 clear ht
 go_enter Tryz.func64, Tryz.ntmps64
 go_wp2
 go_loopg [3] n (fun g v wr => ∃ m : Nat, m ≤ g ∧ m ≤ n ∧ v = .int .i64 m ∧ Zero l n m ∧ wr = w)
 case atStart => exact ⟨n, Nat.le_refl _, Nat.le_refl _, rfl, fun j h1 h2 => absurd h2 (by omega), rfl⟩
 case round =>
  obtain ⟨m, hg, hm, rfl, hz, rfl⟩ := hrel
  by_cases h0 : m = 0
  ·subst h0
   have e : t = 0 := by
    rw [HT.out]; exact trim_len H_two h.lt (by rw [h.len]; exact hm) (fun j h1 h2 => hz j h1 (by rw [← h.len]; exact h2)) (.inl rfl)
   subst e
   go_wp2
   go_ret
   exact ⟨rfl, rfl⟩
  ·obtain ⟨b, o, rfl, hb, hc⟩ := h.at_ (by omega)
   obtain ⟨x, hx⟩ : ∃ x, x = l.getD (m - 1) 0 := ⟨_, rfl⟩
   have hcell : wr.cell? ⟨b, o + (m - 1), none⟩ = some (.int .u32 (x : Int)) := by rw [hx]; exact hc (m - 1) (by omega)
   have hp : (0 : Int) ≤ m - 1 := by omega
   have hp0 : 0 < m := by omega
   have d0 : decide (0 < m) = true := decide_eq_true hp0
   have HX := Lib.hid hx
   clear hx hc
   by_cases h2 : x = 0
   ·subst h2
    go_wp2
    go_roundg (m - 1)
    case measure => omega
    case rel => exact ⟨m - 1, by omega, by omega, by go_num, fun j h1 h2 => by
     rcases Nat.lt_or_ge j m with h3 | h3
     ·have : j = m - 1 := by omega
      rw [this]; exact HX.out.symm
     ·exact hz j h3 h2, rfl⟩
   ·have b1 : ((x : Int) == 0) = false := by simp [h2]
    have e : t = m := by
     rw [HT.out]; exact trim_len H_two h.lt (by rw [h.len]; exact hm) (fun j h1 h2 => hz j h1 (by rw [← h.len]; exact h2)) (.inr (by rw [← HX.out]; exact h2))
    subst e
    clear h2
    go_wp2
    go_ret
    exact ⟨rfl, rfl⟩

/-- a slice that reads as the digits of a number -/
def Dg (w : World) (A : Option Addr) (n c x : Nat) : Prop := Rd w .u32 H A n c (dig H x)
theorem Dg.below {w w' : World} {A : Option Addr} {n c x : Nat} (h : Dg w A n c x) (hb : Below w.heap.size w w') : Dg w' A n c x := Rd.below h hb
theorem rd_rtrim {w : World} {A : Option Addr} {n c : Nat} {l : List Nat} (h : Rd w .u32 H A n c l) : Dg w A (dig H (val H l)).length c (val H l) := by
 obtain ⟨h1, h2⟩ := take_dig H_two h.lt
 rw [h.len] at h1
 have := h.take h1
 unfold Dg
 rwa [h2] at this
end Go.Proofs.YtdhdebapjlcjdaaGreatDoor

namespace Go.Proofs.YtdhdebapjlcjdaaGreatDoor
open Go.RowKit

theorem W_H : W = H ^ 4 := by rw [W_pow, H_pow, ← Nat.pow_mul]
theorem W_pow_H (i : Nat) : W ^ i = H ^ (4 * i) := by rw [W_H, ← Nat.pow_mul]

/-- the digits that are made of the first i limbs, and of k digits of the next one -/
def FromRel (base : Nat) (l : List Nat) (i k : Nat) (v : Value) (w : World) : Prop :=
 ∃ out, Own base w 59 .u32 v out ∧ out.length = 4 * i + k ∧ Lt H out ∧ val H out = val W (l.take i) + W ^ i * (l.getD i 0 % H ^ k)

theorem mask16 (q : Nat) : bits .and .u32 ((q : Int) % 4294967296) 65535 = ((q % H : Nat) : Int) := by
 have h := bits_mask .u32 32 (by decide) (fun n h0 h1 => by rw [IntKind.wrap_u32]; omega) 16 (by decide) ((q : Int) % 4294967296) (by omega) (by omega)
 have e : (2 : Int) ^ 16 - 1 = 65535 := by decide
 rw [e] at h
 rw [h, H_eq]
 omega
theorem from_mask (x k : Nat) : bits .and .u32 ((x : Int) / 2 ^ (16 * k) % 4294967296) 65535 = ((x / H ^ k % H : Nat) : Int) := by
 have e : ((2 : Int) ^ (16 * k)) = ((2 ^ (16 * k) : Nat) : Int) := by rw [Int.natCast_pow]; rfl
 rw [e, ← Int.natCast_ediv, mask16, Nat.pow_mul, ← H_pow]

theorem from_digit {l out : List Nat} {i k x y : Nat} (hx : x = l.getD i 0) (hy : y = x / H ^ k % H) (hl : out.length = 4 * i + k) (hlt : Lt H out) (hv : val H out = val W (l.take i) + W ^ i * (l.getD i 0 % H ^ k)) :
  (out ++ [y]).length = 4 * i + (k + 1) ∧ Lt H (out ++ [y]) ∧ val H (out ++ [y]) = val W (l.take i) + W ^ i * (l.getD i 0 % H ^ (k + 1)) := by
 refine ⟨by simp [hl]; omega, hlt.append (Lt.cons (by rw [hy]; exact Nat.mod_lt _ (by rw [H_eq]; omega)) Lt.nil), ?_⟩
 rw [val_snoc, hv, hl, hy, Nat.mod_pow_succ, ← hx, Nat.pow_add, ← W_pow_H, Nat.mul_add, Nat.mul_assoc, Nat.add_assoc]
theorem from_next {l out : List Nat} {i : Nat} (hlt : Lt W l) (hv : val H out = val W (l.take i) + W ^ i * (l.getD i 0 % H ^ 4)) : val H out = val W (l.take (i + 1)) + W ^ (i + 1) * (l.getD (i + 1) 0 % H ^ 0) := by
 rw [Nat.pow_zero, Nat.mod_one, Nat.mul_zero, Nat.add_zero, take_val', hv, ← W_H, Nat.mod_eq_of_lt (hlt.getD (by rw [W_eq]; omega) _)]

theorem rfrom_any {w : World} {A : Option Addr} {n c : Nat} {l : List Nat} (h : Rd w .u64 W A n c l) (hn : n ≤ 1000) :
  Calls Tryz.prog 103 #[.slice A n c] w fun e w' => ∃ A' n' c', e = .returned (.slice A' n' c') ∧ Dg w' A' n' c' (val W l) ∧ Below w.heap.size w w' := by
 have hcap := h.cap
 have hmax := h.max
 go_enter Tryz.func103, Tryz.ntmps103
 go_wp2
 go_loopg [3, 4] n (fun g v3 v4 wr => ∃ i : Nat, i + g = n ∧ v4 = .int .i64 i ∧ FromRel w.heap.size l i 0 v3 wr ∧ Below w.heap.size w wr)
 case atStart => exact ⟨0, by omega, rfl, ⟨[], Own.nil _ _ _ _, rfl, Lt.nil, by simp [val, Nat.mod_one]⟩, Below.refl _ _⟩
 case round =>
  obtain ⟨i, hg, rfl, ⟨out, hown, hlen, hlt, hval⟩, hb⟩ := hrel
  have HG := Lib.hid hg
  have HL := Lib.hid hlen
  have HV := Lib.hid hval
  clear hg hlen hval
  by_cases hi : i < n
  ·obtain ⟨x, hx⟩ : ∃ x, x = l.getD i 0 := ⟨_, rfl⟩
   obtain ⟨b, o, rfl, hbl, hc⟩ := h.at_ (by omega)
   have hcell0 : w.cell? ⟨b, o + i, none⟩ = some (.int .u64 (x : Int)) := by rw [hx]; exact hc i hi
   have hxB : x < 18446744073709551616 := by rw [hx, ← W_eq]; exact h.lt.getD (by rw [W_eq]; omega) i
   have HX := Lib.hid hx
   clear hx hc
   go_wp2
   go_loopg [3, 5] 4 (fun g v3 v5 wr => ∃ k : Nat, k + g = 4 ∧ v5 = .int .i64 k ∧ FromRel w.heap.size l i k v3 wr ∧ Below w.heap.size w wr)
   case atStart => exact ⟨0, by omega, rfl, ⟨out, hown, HL.out, hlt, HV.out⟩, hb⟩
   case round =>
    obtain ⟨k, hk, rfl, ⟨out2, hown2, hlen2, hlt2, hval2⟩, hb2⟩ := hrel
    have HK := Lib.hid hk
    have HL2 := Lib.hid hlen2
    have HV2 := Lib.hid hval2
    have hcell := (hb2.cell (p := ⟨b, o + i, none⟩) hbl).trans hcell0
    have hbs := hb2.size
    have hk4 : k ≤ 4 := by omega
    clear hk hlen2 hval2 HL HV hown hlt hb
    by_cases hlk : k < 4
    ·obtain ⟨y, hy⟩ : ∃ y, y = x / H ^ k % H := ⟨_, rfl⟩
     have hD := from_digit HX.out hy HL2.out hlt2 HV2.out
     have hE : bits .and .u32 ((x : Int) / 2 ^ (16 * k) % 4294967296) 65535 = (y : Int) := by rw [hy]; exact from_mask x k
     have HD := Lib.hid hD
     have HY := Lib.hid hy
     have hl3 : out2.length ≤ 1000000 := by rw [HL2.out]; omega
     clear hD hy
     have p0 : (0 : Int) ≤ 16 * k := by omega
     go_wp2_with (at_builtin; refine law_app Tryz.underlying54 infoD (by decide) rfl _ _ rfl hown2 hl3 hbs rfl rfl ?_; intro v' w1 hown3 hb3)
     go_roundg (4 - (k + 1))
     case measure => have := HK.out; omega
     case rel => exact ⟨k + 1, by omega, by go_num, ⟨_, hown3, HD.out.1, HD.out.2.1, HD.out.2.2⟩, hb2.trans hb3⟩
    ·obtain rfl : k = 4 := by omega
     have hN := from_next h.lt HV2.out
     have HN := Lib.hid hN
     clear hN
     go_wp2
     go_roundg (n - (i + 1))
     case measure => have := HG.out; omega
     case rel => exact ⟨i + 1, by have := HG.out; omega, by go_num, ⟨out2, hown2, by rw [HL2.out]; omega, hlt2, HN.out⟩, hb2⟩
  ·have hi' : i = n := by have := HG.out; omega
   obtain ⟨A2, c2, rfl, hrd⟩ := hown.rd hlt
   have hv : val H out = val W l := by rw [HV.out, hi', List.take_of_length_le (by rw [h.len]; omega), Nat.pow_zero, Nat.mod_one, Nat.mul_zero, Nat.add_zero]
   have hD := rd_rtrim hrd
   rw [hv] at hD
   have HVV := Lib.hid hv
   have HDD := Lib.hid hD
   clear hv hD hown
   go_wp2_with fail
   refine (rtrim_any hrd).mono ?_
   rintro e w' ⟨rfl, rfl⟩
   rw [HVV.out]
   go_wp2
   go_ret
   exact ⟨_, _, _, rfl, HDD.out, hb⟩
end Go.Proofs.YtdhdebapjlcjdaaGreatDoor

namespace Go.Proofs.YtdhdebapjlcjdaaGreatDoor
open Go.RowKit

/-- the limbs that are made of the first 4 q + r digits -/
def LimbsRel (base : Nat) (l : List Nat) (q r : Nat) (v : Value) (w : World) : Prop :=
 ∃ out, Own base w 38 .u64 v out ∧ (r = 0 → out.length = q) ∧ (r ≠ 0 → out.length = q + 1 ∧ out.getD q 0 < H ^ r) ∧ Lt W out ∧ val W out = val H (l.take (4 * q + r))

theorem limb_digit {l out : List Nat} {q r y d : Nat} (hr : r < 4) (hd : d = l.getD (4 * q + r) 0) (hlt : Lt H l) (hl : out.length = q + 1) (hy : out.getD q 0 = y) (hyr : y < H ^ r) (ho : Lt W out) (hv : val W out = val H (l.take (4 * q + r))) :
  y + d * 2 ^ (16 * r) % 18446744073709551616 < H ^ (r + 1) ∧ Lt W (out.set q (y + d * 2 ^ (16 * r) % 18446744073709551616)) ∧ val W (out.set q (y + d * 2 ^ (16 * r) % 18446744073709551616)) = val H (l.take (4 * q + r + 1)) := by
 have hdH : d < H := by rw [hd]; exact hlt.getD (by rw [H_eq]; omega) _
 have h1 : y + d * H ^ r < H ^ (r + 1) := by
  have a1 : (d + 1) * H ^ r ≤ H * H ^ r := Nat.mul_le_mul_right _ hdH
  rw [Nat.add_mul, Nat.one_mul, Nat.mul_comm H] at a1
  rw [Nat.pow_succ]
  omega
 have h2 : H ^ (r + 1) ≤ W := by rw [W_H]; exact Nat.pow_le_pow_right (by rw [H_eq]; omega) (by omega)
 have h3 : d * 2 ^ (16 * r) % 18446744073709551616 = d * H ^ r := by
  rw [← W_eq, Nat.pow_mul, ← H_pow]
  exact Nat.mod_eq_of_lt (by omega)
 rw [h3]
 refine ⟨h1, ho.set _ (by omega), ?_⟩
 have h4 := val_set (B := W) (l := out) (i := q) (by omega) (y + d * H ^ r)
 rw [hy, Nat.mul_add, hv] at h4
 rw [take_val', ← hd, Nat.pow_add, ← W_pow_H, Nat.mul_assoc, Nat.mul_comm (H ^ r) d]
 omega
theorem limb_next {base : Nat} {l out : List Nat} {q r : Nat} {v : Value} {w : World} (hr : r < 4) (hown : Own base w 38 .u64 v out) (hl : out.length = q + 1) (hy : out.getD q 0 < H ^ (r + 1)) (ho : Lt W out) (hv : val W out = val H (l.take (4 * q + r + 1))) :
  ∃ q' r', 4 * q + r + 1 = 4 * q' + r' ∧ r' < 4 ∧ LimbsRel base l q' r' v w := by
 by_cases h3 : r = 3
 ·exact ⟨q + 1, 0, by omega, by omega, out, hown, fun _ => hl, fun h => absurd rfl h, ho, by rw [hv]; congr 2; omega⟩
 ·exact ⟨q, r + 1, by omega, by omega, out, hown, fun h => absurd h (by omega), fun _ => ⟨hl, hy⟩, ho, hv⟩

theorem rlimbs_any {w : World} {A : Option Addr} {n c : Nat} {l : List Nat} (h : Rd w .u32 H A n c l) (hn : n ≤ 10000) :
  Calls Tryz.prog 105 #[.slice A n c] w fun e w' => ∃ A' n' c' out, e = .returned (.slice A' n' c') ∧ Rd w' .u64 W A' n' c' out ∧ val W out = val H l ∧ out.length = (n + 3) / 4 ∧ Below w.heap.size w w' := by
 have hcap := h.cap
 have hmax := h.max
 go_enter Tryz.func105, Tryz.ntmps105
 go_wp2
 go_loopg [3, 4] n (fun g v3 v4 wr => ∃ i q r : Nat, i + g = n ∧ i = 4 * q + r ∧ r < 4 ∧ v4 = .int .i64 i ∧ LimbsRel w.heap.size l q r v3 wr ∧ Below w.heap.size w wr)
 case atStart => exact ⟨0, 0, 0, by omega, rfl, by omega, rfl, ⟨[], Own.nil _ _ _ _, fun _ => rfl, fun h => absurd rfl h, Lt.nil, rfl⟩, Below.refl _ _⟩
 case round =>
  obtain ⟨i, q, r, hg, hi4, hr4, rfl, ⟨out, hown, hl0, hl1, hlt, hval⟩, hb⟩ := hrel
  have e1 : (i : Int) / 4 = (q : Int) := by omega
  have e2 : (i : Int) % 4 = (r : Int) := by omega
  have hgi : gk = n - i := by omega
  have HG := Lib.hid hgi
  have HI := Lib.hid hi4
  have HV := Lib.hid hval
  have hin : i ≤ n := by omega
  have hq : q ≤ i := by omega
  clear hg hval hi4 hgi
  by_cases hi : i < n
  ·obtain ⟨d, hd⟩ : ∃ d, d = l.getD i 0 := ⟨_, rfl⟩
   obtain ⟨b, o, rfl, hbl, hc⟩ := h.at_ (by omega)
   have hcell0 : w.cell? ⟨b, o + i, none⟩ = some (.int .u32 (d : Int)) := by rw [hd]; exact hc i hi
   have hdB : d < 65536 := by rw [hd, ← H_eq]; exact h.lt.getD (by rw [H_eq]; omega) i
   have hcell := (hb.cell (p := ⟨b, o + i, none⟩) hbl).trans hcell0
   have hbs := hb.size
   rw [HI.out] at hd
   have HD := Lib.hid hd
   clear hd hc
   by_cases hr0 : r = 0
   ·have f0 : ((r : Int) == 0) = true := by simp [hr0]
    have hll := hl0 hr0
    have HR := Lib.hid hr0
    have hl3 : out.length ≤ 1000000 := by omega
    clear hl0 hl1 hr0
    go_wp2_with (at_builtin; refine law_app (y := 0) Tryz.underlying23 info64 (by decide) rfl _ _ rfl hown hl3 hbs rfl rfl ?_; intro v' w1 hown3 hb3)
    have hlen3 : (out ++ [0]).length = q + 1 := by simp [hll]
    have hv3 : val W (out ++ [0]) = val H (l.take (4 * q + r)) := by rw [val_snoc, Nat.mul_zero, Nat.add_zero]; exact HV.out
    have hy3 : (out ++ [0]).getD q 0 < H ^ r := by
     have : (out ++ [0]).getD q 0 = 0 := by rw [← hll]; simp
     rw [this]; exact Nat.pow_pos (by rw [H_eq]; omega)
    have hlt3 : Lt W (out ++ [0]) := hlt.append (Lt.cons (by rw [W_eq]; omega) Lt.nil)
    have hbx := hb.trans hb3
    have hcell1 := (hbx.cell (p := ⟨b, o + i, none⟩) hbl).trans hcell0
    generalize out ++ [0] = out3 at *
    obtain ⟨y, hy⟩ : ∃ y, y = out3.getD q 0 := ⟨_, rfl⟩
    rw [← hy] at hy3
    have hS := limb_digit hr4 HD.out h.lt hlen3 hy.symm hy3 hlt3 hv3
    obtain ⟨g, cap, rfl, hg1, hg2, hcp, hcm, hce, hfz, hst⟩ := hown3.store (j := q) (by rw [hlen3]; omega)
    rw [← hy] at hce
    rw [hlen3] at hcp hst ⊢
    have hOr := or_shl (x := d) (y := y) (p := 16 * r) (by rw [Nat.pow_mul, ← H_pow]; exact hy3) (by omega)
    generalize y + d * 2 ^ (16 * r) % 18446744073709551616 = z at hS hOr
    have HSS := Lib.hid hS
    have hsv := hst z
    have HSV := Lib.hid hsv
    have HLN : Hid (out3.length = q + 1) := Lib.hid hlen3
    have HY := Lib.hid hy
    clear hS hst hsv hy3 hlen3 hv3 hy hcell0
    go_wp2
    go_region
    go_wp2
    go_roundg (n - (i + 1))
    case measure => have := HG.out; omega
    case rel =>
     obtain ⟨q', r', he, hr', hR⟩ := limb_next hr4 HSV.out.drew (by rw [List.length_set]; exact HLN.out) (by rw [getD_set_self (by rw [HLN.out]; omega)]; exact HSS.out.1) HSS.out.2.1 HSS.out.2.2
     refine ⟨i + 1, q', r', by omega, by have := HI.out; omega, hr', by go_num, hR, ?_⟩
     exact below_drewN (hbx.setCell hg1 _) 1
   ·have f0 : ((r : Int) == 0) = false := by simp [hr0]
    obtain ⟨hlen3, hy3⟩ := hl1 hr0
    have hv3 : val W out = val H (l.take (4 * q + r)) := HV.out
    clear hl0 hl1 hr0
    have hlt3 := hlt
    have hbx := hb
    have hown3 := hown
    have hcell1 := hcell
    generalize out = out3 at *
    obtain ⟨y, hy⟩ : ∃ y, y = out3.getD q 0 := ⟨_, rfl⟩
    rw [← hy] at hy3
    have hS := limb_digit hr4 HD.out h.lt hlen3 hy.symm hy3 hlt3 hv3
    obtain ⟨g, cap, rfl, hg1, hg2, hcp, hcm, hce, hfz, hst⟩ := hown3.store (j := q) (by rw [hlen3]; omega)
    rw [← hy] at hce
    rw [hlen3] at hcp hst ⊢
    have hOr := or_shl (x := d) (y := y) (p := 16 * r) (by rw [Nat.pow_mul, ← H_pow]; exact hy3) (by omega)
    generalize y + d * 2 ^ (16 * r) % 18446744073709551616 = z at hS hOr
    have HSS := Lib.hid hS
    have hsv := hst z
    have HSV := Lib.hid hsv
    have HLN : Hid (out3.length = q + 1) := Lib.hid hlen3
    have HY := Lib.hid hy
    clear hS hst hsv hy3 hlen3 hv3 hy hcell0
    go_wp2
    go_region
    go_wp2
    go_roundg (n - (i + 1))
    case measure => have := HG.out; omega
    case rel =>
     obtain ⟨q', r', he, hr', hR⟩ := limb_next hr4 HSV.out.drew (by rw [List.length_set]; exact HLN.out) (by rw [getD_set_self (by rw [HLN.out]; omega)]; exact HSS.out.1) HSS.out.2.1 HSS.out.2.2
     refine ⟨i + 1, q', r', by omega, by have := HI.out; omega, hr', by go_num, hR, ?_⟩
     exact below_drewN (hbx.setCell hg1 _) 1
  ·have hi' : i = n := by omega
   obtain ⟨A2, c2, rfl, hrd⟩ := hown.rd hlt
   have hv : val W out = val H l := by rw [HV.out, ← HI.out, hi', List.take_of_length_le (by rw [h.len]; omega)]
   have hlen : out.length = (n + 3) / 4 := by
    have := HI.out
    by_cases hr0 : r = 0
    ·rw [hl0 hr0]; omega
    ·rw [(hl1 hr0).1]; omega
   have HVV := Lib.hid hv
   have HLL := Lib.hid hlen
   clear hv hlen hown hl0 hl1
   go_wp2
   go_ret
   exact ⟨_, _, _, out, rfl, hrd, HVV.out, HLL.out, hb⟩
end Go.Proofs.YtdhdebapjlcjdaaGreatDoor

namespace Go.Proofs.YtdhdebapjlcjdaaGreatDoor
open Go.RowKit

theorem can_of_len {B : Nat} {l : List Nat} {m : Nat} (hlt : Lt B l) (hm : l.length = m + 1) (hv : B ^ m ≤ val B l) : Can B l := by
 refine ⟨hlt, fun _ h0 => ?_⟩
 rw [hm, Nat.add_sub_cancel] at h0
 have h1 := take_val' (B := B) l m
 rw [List.take_of_length_le (by omega), h0, Nat.mul_zero, Nat.add_zero] at h1
 have h2 := val_lt (hlt.take m)
 rw [List.length_take, Nat.min_eq_left (by omega)] at h2
 omega
theorem limbs_dig {out : List Nat} {x : Nat} (hlt : Lt W out) (hv : val W out = x) (hl : out.length = ((dig H x).length + 3) / 4) : out = dig W x := by
 have : Can W out := by
  by_cases h0 : x = 0
  ·subst h0
   rw [dig_zero] at hl
   have : out = [] := List.eq_nil_of_length_eq_zero (by rw [hl]; rfl)
   rw [this]; exact Can.nil
  ·have hp := len_dig_pos H_two h0
   have hn := dig_ne_nil H_two h0
   obtain ⟨m, hm⟩ : ∃ m, ((dig H x).length + 3) / 4 = m + 1 := ⟨((dig H x).length + 3) / 4 - 1, by omega⟩
   rw [hm] at hl
   refine can_of_len hlt hl ?_
   rw [hv, W_pow_H]
   exact Nat.le_trans (Nat.pow_le_pow_right (by rw [H_eq]; omega) (by omega)) hp
 have e := dig_val W_two this
 rw [hv] at e
 exact e.symm

theorem rlimbs_dg {w : World} {A : Option Addr} {n c x : Nat} (h : Dg w A n c x) (hn : n ≤ 10000) :
  Calls Tryz.prog 105 #[.slice A n c] w fun e w' => ∃ A' c', e = .returned (.slice A' (dig W x).length c') ∧ Rd w' .u64 W A' (dig W x).length c' (dig W x) ∧ Below w.heap.size w w' := by
 refine (rlimbs_any h hn).mono ?_
 rintro e w' ⟨A', n', c', out, rfl, hrd, hv, hl, hb⟩
 rw [val_dig H_two] at hv
 have e := limbs_dig hrd.lt hv (by rw [h.len]; exact hl)
 subst e
 have := hrd.len
 subst this
 exact ⟨A', c', rfl, hrd, hb⟩

end Go.Proofs.YtdhdebapjlcjdaaGreatDoor
