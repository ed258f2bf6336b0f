/-
  Contract of nat.product at this translation. Condition: both slices read as limbs, of at most a million each.
-/
import Derived.Test.YtdklekiknhhfdaaDoorSum
import Derived.Deep.DeepFit
namespace Go.Proofs.YtdklekiknhhfdaaDoor
open Go.RowKit

/-- what holds of the product's limbs ahead of row i -/
def ProdRel (w1 : World) (g len : Nat) (l r : List Nat) (i : Nat) (wr : World) : Prop :=
  ∃ cur, Row wr g 49 .u64 0 [] cur [] ∧ cur.length = len ∧ Lt W cur ∧ val W cur = val W (l.take i) * val W r ∧ w1.grownBy wr (some g)

theorem val_take_skip {l : List Nat} {i : Nat} (h : l.getD i 0 = 0) : val W (l.take (i + 1)) = val W (l.take i) := by
  rw [take_val, h, Nat.mul_zero, Nat.add_zero]

set_option maxHeartbeats 400000 in
theorem product_any {w : World} {A B : Option Addr} {n c m d : Nat} {l r : List Nat} (h : Rd w .u64 W A n c l) (h' : Rd w .u64 W B m d r) (hn : n ≤ 1000000) (hm : m ≤ 1000000) :
    Calls Tryd.prog 76 #[.slice A n c, .slice B m d] w fun e w' => Gives w (val W l * val W r) e w' := by
  go_enter Tryd.func76, Tryd.ntmps76
  go_wp2
  go_step3
  go_wp2_with (at_make; refine law_make rfl (.tmp 12) rfl _ (n + m) rfl (by omega) (by omega) ?_; intro w1 hrow1 hgrow1)
  go_step3
  go_wp2
  have hs1 := hgrow1.size
  have hne : ∀ {X : Option Addr} {k e : Nat} {t : List Nat}, Rd w .u64 W X k e t → k ≠ 0 → ∀ a, X = some a → a.block ≠ w.heap.size := by
    intro X k e t hX h0 a ha
    obtain ⟨b, o, e, hb, _⟩ := hX.at_ h0
    rw [e] at ha
    injection ha with ha
    subst ha
    show b ≠ _
    omega
  have NE : Hid ((n ≠ 0 → ∀ a, A = some a → a.block ≠ w.heap.size) ∧ (m ≠ 0 → ∀ a, B = some a → a.block ≠ w.heap.size)) := ⟨hne h, hne h'⟩
  clear hne
  go_loopg [16] n (fun g vi wr => ∃ i : Nat, i + g = n ∧ vi = .int .i64 i ∧ ProdRel w1 w.heap.size (n + m) l r i wr)
  case atStart => exact ⟨0, by omega, rfl, _, hrow1, by simp, Lt.replicate _ (by rw [W_eq]; omega), by rw [val_replicate]; simp [val], World.grownBy.refl _ _⟩
  case round =>
    obtain ⟨i, hg, rfl, cur, hrow, hlen, hlt, hval, hgrow⟩ := hrel
    have HG := Lib.hid hg
    have HL := Lib.hid hlen
    have HV := Lib.hid hval
    have hwr := hgrow.size
    clear hg hlen hval
    by_cases hi : i < n
    · have hr1 := (h.grownNone hgrow1).grown hgrow NE.out.1
      have hr2 := (h'.grownNone hgrow1).grown hgrow NE.out.2
      obtain ⟨b, o, rfl, hb, hc⟩ := hr1.at_ (by omega)
      obtain ⟨x, hx⟩ : ∃ x, x = l.getD i 0 := ⟨_, rfl⟩
      have hxB : x < 18446744073709551616 := by rw [hx, ← W_eq]; exact h.lt.getD (by rw [W_eq]; omega) i
      have hcell : wr.cell? ⟨b, o + i, none⟩ = some (.int .u64 (x : Int)) := by rw [hx]; exact hc i hi
      have HX := Lib.hid hx
      clear hx hc
      by_cases h0 : x = 0
      · subst h0
        go_wp2
        go_roundg (gk - 1)
        case measure => have := HG.out; omega
        case rel => exact ⟨i + 1, by have := HG.out; omega, by go_num, cur, hrow, HL.out, hlt, by rw [val_take_skip HX.out.symm]; exact HV.out, hgrow⟩
      · have b1 : ((x : Int) == 0) = false := by simp [h0]
        have hrow2 := hrow.tail0 i (by rw [HL.out]; omega)
        clear h0
        go_wp2_with fail
        go_fit (addTimes_any (xs := cur.drop i) hrow2 (hlt.drop i) (by rw [List.length_drop, HL.out]) (Nat.le_refl _) (by omega) hr2 (by omega) NE.out.2 hxB)
        rintro e w3 ⟨rfl, xs', ca, hrow3, hgrow3, hlen3, hlt3, hval3⟩
        have HV3 := Lib.hid hval3
        have HL3 := Lib.hid hlen3
        clear hval3 hlen3
        go_wp2
        go_roundg (gk - 1)
        case measure => have := HG.out; omega
        case rel => exact ⟨i + 1, by have := HG.out; omega, by go_num, cur.take i ++ xs', hrow3.untail0, by rw [List.length_append, HL3.out, List.length_take, List.length_drop, HL.out]; omega, (hlt.take i).append hlt3, prod_step W_two h.len h'.len hi h.lt h'.lt HL.out HV.out (by rw [← HX.out]; exact HV3.out), grownBy_trans hgrow hgrow3⟩
    · have hi' : Hid (i = n) := by have := HG.out; unfold Hid; omega
      have hb3 : Below w.heap.size w wr := ((Below.refl _ _).grown hgrow1 (Nat.le_refl _) (fun _ e => by cases e)).grown hgrow (by omega) (fun k e => by injection e with e; omega)
      have hrd := hrow.rd' hlt HL.out (Nat.le_refl _) (by omega)
      have HVV : Hid (val W cur = val W l * val W r) := by have := HV.out; rw [hi'.out, List.take_of_length_le (by rw [h.len]; omega)] at this; exact this
      go_wp2_with fail
      refine (trimmed_any hrd).mono ?_
      rintro e w' ⟨rfl, rfl⟩
      rw [HVV.out]
      have hrd4 := rd_trimmed hrd
      rw [HVV.out] at hrd4
      go_wp2
      rw [Exit.noGoto_ret]
      go_ret
      exact ⟨_, _, _, rfl, hrd4, hb3⟩
end Go.Proofs.YtdklekiknhhfdaaDoor
