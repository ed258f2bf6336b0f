/-
  Contract of nat.takeTimes at this translation: a row of a block of the call's own, from which a number's digits times a limb are taken in place; what is owed is told. Condition: the row and the number read as limbs, the number is no longer than the row and lies in another block.
-/
import Derived.Test.YtkpcmgfpmekkjaaDoorRows
import Derived.Test.YtkpcmgfpmekkjaaDoorShelf
import Derived.Test.YtkpcmgfpmekkjaaDoorQMem
import Derived.Lib.Hide
import Derived.WalkKit
import Derived.WalkSpells
import Derived.BigQuiet
import Derived.Deep.QuietTactic
import Derived.Deep.LoopGhost
import Derived.Test.YtkpcmgfpmekkjaaDoorQOps
namespace Go.Proofs.YtkpcmgfpmekkjaaDoor
open Go.RowKit

theorem mul64 (x y : Nat) (hx : x < 18446744073709551616) (hy : y < 18446744073709551616) (w : World) :
    Calls Tryd.prog 102 #[.int .u64 x, .int .u64 y] w fun e w' => ∃ hi lo : Nat, e = .returned (.tuple #[.int .u64 hi, .int .u64 lo]) ∧ Hid (lo + 18446744073709551616 * hi = x * y) ∧ lo < 18446744073709551616 ∧ hi < 18446744073709551615 ∧ w = w' :=
  (Tryd.bits_Mul64 x y hx hy w).mono fun e w' ⟨he, hw⟩ => by
    have hp : x * y ≤ 18446744073709551615 * 18446744073709551615 := Nat.mul_le_mul (by omega) (by omega)
    refine ⟨x * y / 18446744073709551616, x * y % 18446744073709551616, he, ?_, ?_, ?_, hw.symm⟩
    · exact Nat.mod_add_div _ _
    · omega
    · omega

theorem add64 (x y : Nat) (hx : x < 18446744073709551616) (hy : y < 18446744073709551616) : ∃ s c : Nat,
    (∀ w, (callFunc 103 #[.int .u64 (x : Int), .int .u64 (y : Int), .int .u64 0]).run Tryd.prog w = .ok (.value (.tuple #[.int .u64 (s : Int), .int .u64 (c : Int)])) w) ∧
      s + 18446744073709551616 * c = x + y ∧ s < 18446744073709551616 ∧ c ≤ 1 :=
  ⟨(x + y + 0) % 18446744073709551616, (x + y + 0) / 18446744073709551616, fun w => Tryd.bits_Add64 x y 0 (by omega) w, by omega, by omega, by omega⟩

theorem add64z (y : Nat) (hy : y < 18446744073709551616) : ∃ s c : Nat,
    (∀ w, (callFunc 103 #[.int .u64 0, .int .u64 (y : Int), .int .u64 0]).run Tryd.prog w = .ok (.value (.tuple #[.int .u64 (s : Int), .int .u64 (c : Int)])) w) ∧
      s + 18446744073709551616 * c = 0 + y ∧ s < 18446744073709551616 ∧ c ≤ 1 := add64 0 y (by omega) hy

theorem sub64 (x y : Nat) (hx : x < 18446744073709551616) (hy : y < 18446744073709551616) : ∃ s c : Nat,
    (∀ w, (callFunc 104 #[.int .u64 (x : Int), .int .u64 (y : Int), .int .u64 0]).run Tryd.prog w = .ok (.value (.tuple #[.int .u64 (s : Int), .int .u64 (c : Int)])) w) ∧
      s + y = x + 18446744073709551616 * c ∧ s < 18446744073709551616 ∧ c ≤ 1 :=
  ⟨(x + 18446744073709551616 - y - 0) % 18446744073709551616, (if x < y + 0 then 1 else 0), fun w => Tryd.bits_Sub64 x y 0 (by omega) w, by split <;> omega, by omega, by split <;> omega⟩

theorem pow_succ_W (i : Nat) : W ^ (i + 1) = W ^ i * W := Nat.pow_succ ..
theorem take_val (B : Nat) (l : List Nat) (i : Nat) : val B (l.take (i + 1)) = val B (l.take i) + B ^ i * l.getD i 0 := by
  by_cases h : i < l.length
  · rw [List.take_succ_eq_append_getElem h, val_snoc, List.length_take, Nat.min_eq_left (by omega), List.getD_eq_getElem?_getD, List.getElem?_eq_getElem h, Option.getD_some]
  · rw [List.take_of_length_le (by omega), List.take_of_length_le (by omega), List.getD_eq_getElem?_getD, List.getElem?_eq_none (by omega)]
    simp

/-- what has been added up to place i: the digits done, the carry -/
structure Added (x : Nat) (xs bs : List Nat) (i ca : Nat) (done : List Nat) : Prop where
  len : done.length = i
  lt : Lt W done
  eq : val W done + W ^ i * ca = val W (xs.take i) + x * val W (bs.take i)
theorem Added.zero (x : Nat) (xs bs : List Nat) : Added x xs bs 0 0 [] := ⟨rfl, Lt.nil, by simp [val]⟩
theorem Added.step {x : Nat} {xs bs : List Nat} {i ca : Nat} {done : List Nat} (h : Added x xs bs i ca done) {s ca' : Nat} (hs : s < W) (he : s + W * ca' = xs.getD i 0 + bs.getD i 0 * x + ca) : Added x xs bs (i + 1) ca' (done ++ [s]) := by
  refine ⟨by simp [h.len], h.lt.append (Lt.cons hs Lt.nil), ?_⟩
  have h1 := h.eq
  rw [val_snoc, h.len, take_val, take_val, pow_succ_W]
  have h2 : W ^ i * (s + W * ca') = W ^ i * (xs.getD i 0 + bs.getD i 0 * x + ca) := by rw [he]
  have h3 : W ^ i * W * ca' = W ^ i * (W * ca') := Nat.mul_assoc _ _ _
  have h4 : x * (val W (bs.take i) + W ^ i * bs.getD i 0) = x * val W (bs.take i) + W ^ i * (bs.getD i 0 * x) := by
    rw [Nat.mul_add, ← Nat.mul_assoc, Nat.mul_comm x (W ^ i), Nat.mul_assoc, Nat.mul_comm x (bs.getD i 0)]
  rw [Nat.mul_add, Nat.mul_add, Nat.mul_add] at h2
  rw [h3, h4]
  omega

/-- what has been taken away up to place i: the digits done, what is owed -/
structure Taken (x : Nat) (xs bs : List Nat) (i ow : Nat) (done : List Nat) : Prop where
  len : done.length = i
  lt : Lt W done
  eq : val W done + x * val W (bs.take i) = val W (xs.take i) + W ^ i * ow
theorem Taken.zero (x : Nat) (xs bs : List Nat) : Taken x xs bs 0 0 [] := ⟨rfl, Lt.nil, by simp [val]⟩
theorem Taken.step {x : Nat} {xs bs : List Nat} {i ow : Nat} {done : List Nat} (h : Taken x xs bs i ow done) {s ow' : Nat} (hs : s < W) (he : s + bs.getD i 0 * x + ow = xs.getD i 0 + W * ow') : Taken x xs bs (i + 1) ow' (done ++ [s]) := by
  refine ⟨by simp [h.len], h.lt.append (Lt.cons hs Lt.nil), ?_⟩
  have h1 := h.eq
  rw [val_snoc, h.len, take_val, take_val, pow_succ_W]
  have h2 : W ^ i * (s + bs.getD i 0 * x + ow) = W ^ i * (xs.getD i 0 + W * ow') := by rw [he]
  have h3 : W ^ i * W * ow' = W ^ i * (W * ow') := Nat.mul_assoc _ _ _
  have h4 : x * (val W (bs.take i) + W ^ i * bs.getD i 0) = x * val W (bs.take i) + W ^ i * (bs.getD i 0 * x) := by
    rw [Nat.mul_add, ← Nat.mul_assoc, Nat.mul_comm x (W ^ i), Nat.mul_assoc, Nat.mul_comm x (bs.getD i 0)]
  rw [Nat.mul_add, Nat.mul_add, Nat.mul_add] at h2
  rw [h3, h4]
  omega

/-- the row in the middle of such a walk -/
theorem set_mid {done xs : List Nat} {i s : Nat} (hd : done.length = i) (hi : i < xs.length) : (done ++ xs.drop i).set i s = (done ++ [s]) ++ xs.drop (i + 1) := by
  rw [List.set_append_right _ _ (by omega), hd, Nat.sub_self, List.drop_eq_getElem_cons hi, List.set_cons_zero, List.append_assoc]
  rfl
theorem get_mid {done xs : List Nat} {i : Nat} (hd : done.length = i) : (done ++ xs.drop i).getD i 0 = xs.getD i 0 := by
  simp only [List.getD_eq_getElem?_getD]
  rw [List.getElem?_append_right (by omega), hd, Nat.sub_self, List.getElem?_drop, Nat.add_zero]
theorem Added.all {x : Nat} {xs bs : List Nat} {i ca : Nat} {done : List Nat} (h : Added x xs bs i ca done) (hl : Lt W xs) (hi : i = xs.length) (hb : bs.length ≤ i) :
    (done ++ xs.drop i).length = xs.length ∧ Lt W (done ++ xs.drop i) ∧ val W (done ++ xs.drop i) + W ^ xs.length * ca = val W xs + x * val W bs := by
  subst hi
  refine ⟨by simp [h.len], h.lt.append (hl.drop _), ?_⟩
  have := h.eq
  rw [List.take_of_length_le hb, List.take_length] at this
  rw [List.drop_length, List.append_nil]
  exact this
theorem Added.early {x : Nat} {xs bs : List Nat} {i : Nat} {done : List Nat} (h : Added x xs bs i 0 done) (hl : Lt W xs) (hi : i ≤ xs.length) (hb : bs.length ≤ i) :
    (done ++ xs.drop i).length = xs.length ∧ Lt W (done ++ xs.drop i) ∧ val W (done ++ xs.drop i) + W ^ xs.length * 0 = val W xs + x * val W bs := by
  refine ⟨by simp [h.len]; omega, h.lt.append (hl.drop _), ?_⟩
  have := h.eq
  rw [List.take_of_length_le hb] at this
  rw [val_append, h.len]
  have h2 := val_take_drop (B := W) xs i
  rw [List.length_take, Nat.min_eq_left hi] at h2
  rw [h2]
  omega
theorem Taken.all {x : Nat} {xs bs : List Nat} {i ow : Nat} {done : List Nat} (h : Taken x xs bs i ow done) (hl : Lt W xs) (hi : i = xs.length) (hb : bs.length ≤ i) :
    (done ++ xs.drop i).length = xs.length ∧ Lt W (done ++ xs.drop i) ∧ val W (done ++ xs.drop i) + x * val W bs = val W xs + W ^ xs.length * ow := by
  subst hi
  refine ⟨by simp [h.len], h.lt.append (hl.drop _), ?_⟩
  have := h.eq
  rw [List.take_of_length_le hb, List.take_length] at this
  rw [List.drop_length, List.append_nil]
  exact this
theorem Taken.early {x : Nat} {xs bs : List Nat} {i : Nat} {done : List Nat} (h : Taken x xs bs i 0 done) (hl : Lt W xs) (hi : i ≤ xs.length) (hb : bs.length ≤ i) :
    (done ++ xs.drop i).length = xs.length ∧ Lt W (done ++ xs.drop i) ∧ val W (done ++ xs.drop i) + x * val W bs = val W xs + W ^ xs.length * 0 := by
  refine ⟨by simp [h.len]; omega, h.lt.append (hl.drop _), ?_⟩
  have := h.eq
  rw [List.take_of_length_le hb] at this
  rw [val_append, h.len]
  have h2 := val_take_drop (B := W) xs i
  rw [List.length_take, Nat.min_eq_left hi] at h2
  rw [h2]
  omega
end Go.Proofs.YtkpcmgfpmekkjaaDoor

namespace Go.Proofs.YtkpcmgfpmekkjaaDoor
open Go.RowKit

/-- what addTimes leaves -/
def AddDone (w : World) (g off : Nat) (pre post : List Value) (xs bs : List Nat) (x : Nat) (e : Ending) (w' : World) : Prop :=
  e = .returned (.tuple #[]) ∧ ∃ xs' ca, Row w' g 52 .u64 off pre xs' post ∧ w.grownBy w' (some g) ∧ xs'.length = xs.length ∧ Lt W xs' ∧ val W xs' + W ^ xs.length * ca = val W xs + x * val W bs

def AddRel (w : World) (g off : Nat) (pre post : List Value) (xs bs : List Nat) (x : Nat) (i ca : Nat) (wr : World) : Prop :=
  ∃ done, Added x xs bs i ca done ∧ Row wr g 52 .u64 off pre (done ++ xs.drop i) post ∧ w.grownBy wr (some g)

theorem addTimes_any {w : World} {g off n c nb cb x : Nat} {pre post : List Value} {xs bs : List Nat} {A : Option Addr}
    (h : Row w g 52 .u64 off pre xs post) (hl : Lt W xs) (hn : xs.length = n) (hc : n ≤ c) (hc' : c ≤ 9223372036854775807)
    (hb : Rd w .u64 W A nb cb bs) (hnb : nb ≤ n) (hne : nb ≠ 0 → ∀ a, A = some a → a.block ≠ g) (hx : x < 18446744073709551616) :
    Calls Tryd.prog 101 #[.slice (some ⟨g, off, none⟩) n c, .slice A nb cb, .int .u64 x] w fun e w' => AddDone w g off pre post xs bs x e w' := by
  have HN := Lib.hid hn
  clear hn
  have hcb := hb.cap
  have hmb := hb.max
  go_enter Tryd.func101, Tryd.ntmps101
  go_wp2
  go_step3
  go_wp2
  go_step3
  go_wp2
  go_loopg [6, 13] n (fun gh vc vi wr => ∃ i ca : Nat, i + gh = n ∧ ca < 18446744073709551616 ∧ vi = .int .i64 i ∧ vc = .int .u64 ca ∧ AddRel w g off pre post xs bs x i ca wr)
  case atStart => exact ⟨0, 0, by omega, by omega, rfl, rfl, [], Added.zero _ _ _, by simpa using h, World.grownBy.refl _ _⟩
  case round =>
    obtain ⟨i, ca, hg, hca, rfl, rfl, hrel⟩ := hrel
    have HG := Lib.hid hg
    by_cases hi : i < n
    · have hn' := HN.out
      obtain ⟨done, hd, hrow, hgrow⟩ := hrel
      obtain ⟨a, ha⟩ : ∃ a, a = xs.getD i 0 := ⟨_, rfl⟩
      have haB : a < 18446744073709551616 := by rw [ha, ← W_eq]; exact hl.getD (by rw [W_eq]; omega) i
      have hcell : wr.cell? ⟨g, off + i, none⟩ = some (.int .u64 (a : Int)) := by
        rw [ha, ← get_mid (done := done) hd.len]
        exact hrow.cell (by simp [hd.len]; omega)
      have hfro : wr.frozen? ⟨g, off + i, none⟩ = false := hrow.frozen _
      have HA := Lib.hid ha
      clear ha hg hn'
      by_cases hib : i < nb
      · have hbr := hb.grown hgrow hne
        obtain ⟨bb, ob, rfl, hbb, hcb2⟩ := hbr.at_ (by omega)
        obtain ⟨b, hb'⟩ : ∃ b, b = bs.getD i 0 := ⟨_, rfl⟩
        have hbB : b < 18446744073709551616 := by rw [hb', ← W_eq]; exact hb.lt.getD (by rw [W_eq]; omega) i
        have hcellb : wr.cell? ⟨bb, ob + i, none⟩ = some (.int .u64 (b : Int)) := by rw [hb']; exact hcb2 i hib
        have HB := Lib.hid hb'
        clear hb' hcb2 hne hbr
        go_wp2_with fail
        refine (mul64 b x hbB hx _).mono ?_
        rintro e w' ⟨hi1, lo, rfl, HP, hlo, hhi, rfl⟩
        obtain ⟨s1, c1, hr1, e1, hs1, hc1⟩ := add64 lo ca hlo hca
        obtain ⟨s, c2, hr2, e2, hs, hc2⟩ := add64 a s1 haB hs1
        have hp : b * x ≤ 18446744073709551615 * 18446744073709551615 := Nat.mul_le_mul (by omega) (by omega)
        have HE : Hid (s + 18446744073709551616 * (hi1 + c1 + c2) = a + b * x + ca) := by have := HP.out; unfold Hid; omega
        have hk1 : hi1 + c1 ≤ 18446744073709551615 := by have := HP.out; omega
        have hk2 : hi1 + c1 + c2 ≤ 18446744073709551615 := by have := HP.out; omega
        clear e1 e2 hp
        go_wp2
        go_roundg (gk - 1)
        case measure => have := HG.out; omega
        case rel => exact ⟨i + 1, hi1 + c1 + c2, by have := HG.out; omega, by omega, by go_num, by go_num, done ++ [s], hd.step (by rw [W_eq]; exact hs) (by rw [W_eq, ← HA.out, ← HB.out]; exact HE.out), by rw [← set_mid hd.len (by rw [HN.out]; exact hi)]; exact hrow.set (by simp [hd.len, HN.out]; omega) s, grownBy_trans hgrow (grownBy_set _ _ _ _)⟩
      · by_cases h0 : ca = 0
        · subst h0
          go_wp2
          rw [Exit.noGoto_normal]
          go_end0
          exact ⟨rfl, _, 0, hrow, hgrow, hd.early hl (by rw [HN.out]; omega) (by rw [hb.len]; omega)⟩
        · have b1 : ((ca : Int) == 0) = false := by simp [h0]
          obtain ⟨s1, c1, hr1, e1, hs1, hc1⟩ := add64z ca hca
          obtain ⟨s, c2, hr2, e2, hs, hc2⟩ := add64 a s1 haB hs1
          have HE : Hid (s + 18446744073709551616 * (c1 + c2) = a + 0 * x + ca) := by unfold Hid; omega
          have hk1 : c1 + c2 ≤ 18446744073709551615 := by omega
          clear e1 e2
          go_wp2
          go_roundg (gk - 1)
          case measure => have := HG.out; omega
          case rel => exact ⟨i + 1, c1 + c2, by have := HG.out; omega, by omega, by go_num, by go_num, done ++ [s], hd.step (by rw [W_eq]; exact hs) (by rw [W_eq, ← HA.out, show bs.getD i 0 = 0 by rw [List.getD_eq_getElem?_getD, List.getElem?_eq_none (by rw [hb.len]; omega)]; rfl]; exact HE.out), by rw [← set_mid hd.len (by rw [HN.out]; exact hi)]; exact hrow.set (by simp [hd.len, HN.out]; omega) s, grownBy_trans hgrow (grownBy_set _ _ _ _)⟩
    · have hi' : i = n := by omega
      obtain ⟨done, hd, hrow, hgrow⟩ := hrel
      have HI := Lib.hid hi'
      clear hi' hg
      go_wp2
      rw [Exit.noGoto_normal]
      go_end0
      exact ⟨rfl, _, ca, hrow, hgrow, hd.all hl (by rw [HN.out]; exact HI.out) (by rw [hb.len, HI.out]; exact hnb)⟩
end Go.Proofs.YtkpcmgfpmekkjaaDoor

namespace Go.Proofs.YtkpcmgfpmekkjaaDoor
open Go.RowKit

theorem compareInt_lt {a b : Int} (h : a < b) : Lib.compareInt a b = -1 := by unfold Lib.compareInt; rw [if_pos h]
theorem compareInt_gt {a b : Int} (h : b < a) : Lib.compareInt a b = 1 := by unfold Lib.compareInt; rw [if_neg (by omega), if_pos h]

/-- Those behind place m are the same. -/
def SameFrom (l r : List Nat) (m : Nat) : Prop := l.drop m = r.drop m

theorem sameFrom_step {l r : List Nat} {n k : Nat} (hl : l.length = n) (hr : r.length = n) (hk : k ≠ 0) (hkn : k ≤ n) (hs : SameFrom l r k) (hx : l.getD (k - 1) 0 = r.getD (k - 1) 0) : SameFrom l r (k - 1) := by
  unfold SameFrom at hs ⊢
  obtain ⟨j, rfl⟩ : ∃ j, k = j + 1 := ⟨k - 1, by omega⟩
  rw [Nat.add_sub_cancel] at hx ⊢
  have h1 : j < l.length := by omega
  have h2 : j < r.length := by omega
  rw [List.getD_eq_getElem?_getD, List.getD_eq_getElem?_getD, List.getElem?_eq_getElem h1, List.getElem?_eq_getElem h2, Option.getD_some, Option.getD_some] at hx
  rw [List.drop_eq_getElem_cons h1, List.drop_eq_getElem_cons h2, hs, hx]

theorem order_any {w : World} {A B : Option Addr} {n c m d : Nat} {l r : List Nat} (h : Rd w .u64 W A n c l) (h' : Rd w .u64 W B m d r) (hl : Can W l) (hr : Can W r) :
    Calls Tryd.prog 65 #[.slice A n c, .slice B m d] w fun e w' => e = .returned (.int .i64 (cmpN (val W l) (val W r))) ∧ Below w.heap.size w w' := by
  have hcap := h.cap
  have hmax := h.max
  have hcap' := h'.cap
  have hmax' := h'.max
  obtain ⟨t, ht⟩ : ∃ t, t = cmpN (val W l) (val W r) := ⟨_, rfl⟩
  rw [← ht]
  have HT := Lib.hid ht
  clear ht
  by_cases hnm : n = m
  · subst hnm
    go_enter Tryd.func65, Tryd.ntmps65
    go_wp2
    go_step3
    go_wp2
    go_step3
    go_wp2
    go_loopg [5] n (fun g v wr => ∃ k : Nat, k ≤ g ∧ k ≤ n ∧ v = .int .i64 ((k : Int) - 1) ∧ SameFrom l r k ∧ Below w.heap.size w wr)
    case atStart => exact ⟨n, Nat.le_refl _, Nat.le_refl _, rfl, by unfold SameFrom; rw [List.drop_of_length_le (by rw [h.len]; omega), List.drop_of_length_le (by rw [h'.len]; omega)], Below.refl _ _⟩
    case round =>
      obtain ⟨k, hg, hk, rfl, hs, hb⟩ := hrel
      by_cases h0 : k = 0
      · subst h0
        have e : t = 0 := by
          rw [HT.out, cmpN_eq]
          unfold SameFrom at hs
          rw [List.drop_zero, List.drop_zero] at hs
          rw [hs]
        subst e
        go_wp2
        rw [Exit.noGoto_ret]
        go_ret
        exact ⟨rfl, hb⟩
      · obtain ⟨a, o, rfl, ha, hc⟩ := (h.below hb).at_ (by omega)
        obtain ⟨a', o', rfl, ha', hc'⟩ := (h'.below hb).at_ (by omega)
        obtain ⟨x, hx⟩ : ∃ x, x = l.getD (k - 1) 0 := ⟨_, rfl⟩
        obtain ⟨y, hy⟩ : ∃ y, y = r.getD (k - 1) 0 := ⟨_, rfl⟩
        have hcell : wr.cell? ⟨a, o + (k - 1), none⟩ = some (.int .u64 (x : Int)) := by rw [hx]; exact hc (k - 1) (by omega)
        have hcell' : wr.cell? ⟨a', o' + (k - 1), none⟩ = some (.int .u64 (y : Int)) := by rw [hy]; exact hc' (k - 1) (by omega)
        have hp : (0 : Int) ≤ (k : Int) - 1 := by omega
        have hp2 : (k : Int) - 1 < n := by omega
        have hp3 : ((k : Int) - 1).toNat = k - 1 := by omega
        have HX := Lib.hid hx
        have HY := Lib.hid hy
        clear hx hc hy hc'
        have HSS : Hid (SameFrom l r k) := hs
        by_cases hxy : x = y
        · subst hxy
          go_wp2
          go_quiet (fail)
          go_wp2
          go_roundg (k - 1)
          case measure => omega
          case rel => exact ⟨k - 1, by omega, by omega, by rw [show ((k - 1 : Nat) : Int) = (k : Int) - 1 by omega], sameFrom_step h.len h'.len h0 hk HSS.out (by rw [← HX.out, ← HY.out]), below_drewN hb _⟩
        · have b1 : ((x : Int) == y) = false := by simp; omega
          by_cases hlt : x < y
          · have e : t = -1 := by
              rw [HT.out, cmpN_lt]
              exact val_lt_at (i := k - 1) hl.1 (by rw [h.len]; omega) (by rw [h'.len]; omega) (by rw [Nat.sub_add_cancel (by omega)]; exact HSS.out) (by rw [← HX.out, ← HY.out]; exact hlt)
            subst e
            have b2 : decide (x < y) = true := by simpa using hlt
            clear hxy
            go_wp2
            go_quiet (fail)
            go_wp2
            go_quiet (fail)
            go_wp2
            rw [Exit.noGoto_ret]
            go_ret
            exact ⟨rfl, below_drewN (below_drewN hb _) _⟩
          · have e : t = 1 := by
              rw [HT.out, cmpN_gt]
              exact val_lt_at (i := k - 1) hr.1 (by rw [h'.len]; omega) (by rw [h.len]; omega) (by rw [Nat.sub_add_cancel (by omega)]; exact HSS.out.symm) (by rw [← HX.out, ← HY.out]; omega)
            subst e
            have b2 : decide (x < y) = false := by simpa using hlt
            clear hxy hlt
            go_wp2
            go_quiet (fail)
            go_wp2
            go_quiet (fail)
            go_wp2
            rw [Exit.noGoto_ret]
            go_ret
            exact ⟨rfl, below_drewN (below_drewN hb _) _⟩
  · rcases Nat.lt_or_ge n m with hlt | hge
    · have e : t = -1 := by
        rw [HT.out, cmpN_lt]
        exact val_lt_len W_two hl.1 hr (by rw [h.len, h'.len]; exact hlt)
      subst e
      have b1 : ((n : Int) != m) = true := by simp; omega
      clear hnm
      have hcmp : Lib.compareInt (n : Int) (m : Int) = -1 := compareInt_lt (by omega)
      go_enter Tryd.func65, Tryd.ntmps65
      go_wp2
      go_step3
      go_wp2_with (go_at_call 26; refine (Tryd.cmp_Compare_int _ _ _).mono ?_; rintro e w' ⟨rfl, rfl⟩)
      rw [Exit.noGoto_ret]
      go_ret
      exact ⟨rfl, Below.refl _ _⟩
    · have e : t = 1 := by
        rw [HT.out, cmpN_gt]
        exact val_lt_len W_two hr.1 hl (by rw [h.len, h'.len]; omega)
      subst e
      have b1 : ((n : Int) != m) = true := by simp; omega
      have hcmp : Lib.compareInt (n : Int) (m : Int) = 1 := compareInt_gt (by omega)
      clear hnm
      go_enter Tryd.func65, Tryd.ntmps65
      go_wp2
      go_step3
      go_wp2_with (go_at_call 26; refine (Tryd.cmp_Compare_int _ _ _).mono ?_; rintro e w' ⟨rfl, rfl⟩)
      rw [Exit.noGoto_ret]
      go_ret
      exact ⟨rfl, Below.refl _ _⟩
end Go.Proofs.YtkpcmgfpmekkjaaDoor

namespace Go.Proofs.YtkpcmgfpmekkjaaDoor
open Go.RowKit

/-- what takeTimes leaves -/
def TakeDone (w : World) (g off : Nat) (pre post : List Value) (xs bs : List Nat) (x : Nat) (e : Ending) (w' : World) : Prop :=
  ∃ (xs' : List Nat) (ca : Nat), e = .returned (.int .u64 (ca : Int)) ∧ ca < 18446744073709551616 ∧ Row w' g 52 .u64 off pre xs' post ∧ w.grownBy w' (some g) ∧ xs'.length = xs.length ∧ Lt W xs' ∧ val W xs' + x * val W bs = val W xs + W ^ xs.length * ca

def TakeRel (w : World) (g off : Nat) (pre post : List Value) (xs bs : List Nat) (x : Nat) (i ca : Nat) (wr : World) : Prop :=
  ∃ done, Taken x xs bs i ca done ∧ Row wr g 52 .u64 off pre (done ++ xs.drop i) post ∧ w.grownBy wr (some g)

theorem takeTimes_any {w : World} {g off n c nb cb x : Nat} {pre post : List Value} {xs bs : List Nat} {A : Option Addr}
    (h : Row w g 52 .u64 off pre xs post) (hl : Lt W xs) (hn : xs.length = n) (hc : n ≤ c) (hc' : c ≤ 9223372036854775807)
    (hb : Rd w .u64 W A nb cb bs) (hnb : nb ≤ n) (hne : nb ≠ 0 → ∀ a, A = some a → a.block ≠ g) (hx : x < 18446744073709551616) :
    Calls Tryd.prog 99 #[.slice (some ⟨g, off, none⟩) n c, .slice A nb cb, .int .u64 x] w fun e w' => TakeDone w g off pre post xs bs x e w' := by
  have HN := Lib.hid hn
  clear hn
  have hcb := hb.cap
  have hmb := hb.max
  go_enter Tryd.func99, Tryd.ntmps99
  go_wp2
  go_step3
  go_wp2
  go_step3
  go_wp2
  go_loopg [7, 14] n (fun gh vc vi wr => ∃ i ca : Nat, i + gh = n ∧ ca < 18446744073709551616 ∧ vi = .int .i64 i ∧ vc = .int .u64 ca ∧ TakeRel w g off pre post xs bs x i ca wr)
  case atStart => exact ⟨0, 0, by omega, by omega, rfl, rfl, [], Taken.zero _ _ _, by simpa using h, World.grownBy.refl _ _⟩
  case round =>
    obtain ⟨i, ca, hg, hca, rfl, rfl, hrel⟩ := hrel
    have HG := Lib.hid hg
    by_cases hi : i < n
    · have hn' := HN.out
      obtain ⟨done, hd, hrow, hgrow⟩ := hrel
      obtain ⟨a, ha⟩ : ∃ a, a = xs.getD i 0 := ⟨_, rfl⟩
      have haB : a < 18446744073709551616 := by rw [ha, ← W_eq]; exact hl.getD (by rw [W_eq]; omega) i
      have hcell : wr.cell? ⟨g, off + i, none⟩ = some (.int .u64 (a : Int)) := by
        rw [ha, ← get_mid (done := done) hd.len]
        exact hrow.cell (by simp [hd.len]; omega)
      have hfro : wr.frozen? ⟨g, off + i, none⟩ = false := hrow.frozen _
      have HA := Lib.hid ha
      clear ha hg hn'
      by_cases hib : i < nb
      · have hbr := hb.grown hgrow hne
        obtain ⟨bb, ob, rfl, hbb, hcb2⟩ := hbr.at_ (by omega)
        obtain ⟨b, hb'⟩ : ∃ b, b = bs.getD i 0 := ⟨_, rfl⟩
        have hbB : b < 18446744073709551616 := by rw [hb', ← W_eq]; exact hb.lt.getD (by rw [W_eq]; omega) i
        have hcellb : wr.cell? ⟨bb, ob + i, none⟩ = some (.int .u64 (b : Int)) := by rw [hb']; exact hcb2 i hib
        have HB := Lib.hid hb'
        clear hb' hcb2 hne hbr
        go_wp2_with fail
        refine (mul64 b x hbB hx _).mono ?_
        rintro e w' ⟨hi1, lo, rfl, HP, hlo, hhi, rfl⟩
        obtain ⟨s1, c1, hr1, e1, hs1, hc1⟩ := add64 lo ca hlo hca
        obtain ⟨s, c2, hr2, e2, hs, hc2⟩ := sub64 a s1 haB hs1
        have hp : b * x ≤ 18446744073709551615 * 18446744073709551615 := Nat.mul_le_mul (by omega) (by omega)
        have HE : Hid (s + b * x + ca = a + 18446744073709551616 * (hi1 + c1 + c2)) := by have := HP.out; unfold Hid; omega
        have hk1 : hi1 + c1 ≤ 18446744073709551615 := by have := HP.out; omega
        have hk2 : hi1 + c1 + c2 ≤ 18446744073709551615 := by have := HP.out; omega
        clear e1 e2 hp
        go_wp2
        go_roundg (gk - 1)
        case measure => have := HG.out; omega
        case rel => exact ⟨i + 1, hi1 + c1 + c2, by have := HG.out; omega, by omega, by go_num, by go_num, done ++ [s], hd.step (by rw [W_eq]; exact hs) (by rw [W_eq, ← HA.out, ← HB.out]; exact HE.out), by rw [← set_mid hd.len (by rw [HN.out]; exact hi)]; exact hrow.set (by simp [hd.len, HN.out]; omega) s, grownBy_trans hgrow (grownBy_set _ _ _ _)⟩
      · by_cases h0 : ca = 0
        · subst h0
          go_wp2
          rw [Exit.noGoto_ret]
          go_ret
          exact ⟨_, 0, rfl, by omega, hrow, hgrow, hd.early hl (by rw [HN.out]; omega) (by rw [hb.len]; omega)⟩
        · have b1 : ((ca : Int) == 0) = false := by simp [h0]
          obtain ⟨s1, c1, hr1, e1, hs1, hc1⟩ := add64z ca hca
          obtain ⟨s, c2, hr2, e2, hs, hc2⟩ := sub64 a s1 haB hs1
          have HE : Hid (s + 0 * x + ca = a + 18446744073709551616 * (c1 + c2)) := by unfold Hid; omega
          have hk1 : c1 + c2 ≤ 18446744073709551615 := by omega
          clear e1 e2
          go_wp2
          go_roundg (gk - 1)
          case measure => have := HG.out; omega
          case rel => exact ⟨i + 1, c1 + c2, by have := HG.out; omega, by omega, by go_num, by go_num, done ++ [s], hd.step (by rw [W_eq]; exact hs) (by rw [W_eq, ← HA.out, show bs.getD i 0 = 0 by rw [List.getD_eq_getElem?_getD, List.getElem?_eq_none (by rw [hb.len]; omega)]; rfl]; exact HE.out), by rw [← set_mid hd.len (by rw [HN.out]; exact hi)]; exact hrow.set (by simp [hd.len, HN.out]; omega) s, grownBy_trans hgrow (grownBy_set _ _ _ _)⟩
    · have hi' : i = n := by omega
      obtain ⟨done, hd, hrow, hgrow⟩ := hrel
      have HI := Lib.hid hi'
      clear hi' hg
      go_wp2
      rw [Exit.noGoto_ret]
      go_ret
      exact ⟨_, ca, rfl, hca, hrow, hgrow, hd.all hl (by rw [HN.out]; exact HI.out) (by rw [hb.len, HI.out]; exact hnb)⟩
end Go.Proofs.YtkpcmgfpmekkjaaDoor
