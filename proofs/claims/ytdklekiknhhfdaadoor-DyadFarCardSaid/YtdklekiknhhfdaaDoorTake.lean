/-
  Contract of nat.takeTimes at this translation: a row of a block of the call's own, from which a number's digits times a limb are taken in place; what is owed is told. Condition: the row and the number read as limbs, the number is no longer than the row and lies in another block.
-/
import Derived.Test.YtdklekiknhhfdaaDoorBits
import Derived.WalkKit
import Derived.WalkSpells
import Derived.BigQuiet
import Derived.Deep.QuietTactic
import Derived.Deep.LoopGhost
namespace Go.Proofs.YtdklekiknhhfdaaDoor
open Go.RowKit

/-- what takeTimes leaves -/
def TakeDone (w : World) (g off : Nat) (pre post : List Value) (xs bs : List Nat) (x : Nat) (e : Ending) (w' : World) : Prop :=
  ∃ (xs' : List Nat) (ca : Nat), e = .returned (.int .u64 (ca : Int)) ∧ ca < 18446744073709551616 ∧ Row w' g 49 .u64 off pre xs' post ∧ w.grownBy w' (some g) ∧ xs'.length = xs.length ∧ Lt W xs' ∧ val W xs' + x * val W bs = val W xs + W ^ xs.length * ca

def TakeRel (w : World) (g off : Nat) (pre post : List Value) (xs bs : List Nat) (x : Nat) (i ca : Nat) (wr : World) : Prop :=
  ∃ done, Taken x xs bs i ca done ∧ Row wr g 49 .u64 off pre (done ++ xs.drop i) post ∧ w.grownBy wr (some g)

theorem takeTimes_any {w : World} {g off n c nb cb x : Nat} {pre post : List Value} {xs bs : List Nat} {A : Option Addr}
    (h : Row w g 49 .u64 off pre xs post) (hl : Lt W xs) (hn : xs.length = n) (hc : n ≤ c) (hc' : c ≤ 9223372036854775807)
    (hb : Rd w .u64 W A nb cb bs) (hnb : nb ≤ n) (hne : nb ≠ 0 → ∀ a, A = some a → a.block ≠ g) (hx : x < 18446744073709551616) :
    Calls Tryd.prog 74 #[.slice (some ⟨g, off, none⟩) n c, .slice A nb cb, .int .u64 x] w fun e w' => TakeDone w g off pre post xs bs x e w' := by
  have HN := Lib.hid hn
  clear hn
  have hcb := hb.cap
  have hmb := hb.max
  go_enter Tryd.func74, Tryd.ntmps74
  go_wp2
  go_step3
  go_wp2
  go_step3
  go_wp2
  go_loopg [7, 14] n (fun gh vc vi wr => ∃ i ca : Nat, i + gh = n ∧ ca < 18446744073709551616 ∧ vi = .int .i64 i ∧ vc = .int .u64 ca ∧ TakeRel w g off pre post xs bs x i ca wr)
  case atStart => exact ⟨0, 0, by omega, by omega, rfl, rfl, [], Taken.zero _ _ _, by simpa using h, World.grownBy.refl _ _⟩
  case round =>
    obtain ⟨i, ca, hg, hca, rfl, rfl, hrel⟩ := hrel
    have HG := Lib.hid hg
    by_cases hi : i < n
    · have hn' := HN.out
      obtain ⟨done, hd, hrow, hgrow⟩ := hrel
      obtain ⟨a, ha⟩ : ∃ a, a = xs.getD i 0 := ⟨_, rfl⟩
      have haB : a < 18446744073709551616 := by rw [ha, ← W_eq]; exact hl.getD (by rw [W_eq]; omega) i
      have hcell : wr.cell? ⟨g, off + i, none⟩ = some (.int .u64 (a : Int)) := by
        rw [ha, ← get_mid (done := done) hd.len]
        exact hrow.cell (by simp [hd.len]; omega)
      have hfro : wr.frozen? ⟨g, off + i, none⟩ = false := hrow.frozen _
      have HA := Lib.hid ha
      clear ha hg hn'
      by_cases hib : i < nb
      · have hbr := hb.grown hgrow hne
        obtain ⟨bb, ob, rfl, hbb, hcb2⟩ := hbr.at_ (by omega)
        obtain ⟨b, hb'⟩ : ∃ b, b = bs.getD i 0 := ⟨_, rfl⟩
        have hbB : b < 18446744073709551616 := by rw [hb', ← W_eq]; exact hb.lt.getD (by rw [W_eq]; omega) i
        have hcellb : wr.cell? ⟨bb, ob + i, none⟩ = some (.int .u64 (b : Int)) := by rw [hb']; exact hcb2 i hib
        have HB := Lib.hid hb'
        clear hb' hcb2 hne hbr
        go_wp2_with fail
        refine (mul64 b x hbB hx _).mono ?_
        rintro e w' ⟨hi1, lo, rfl, HP, hlo, hhi, rfl⟩
        obtain ⟨s1, c1, hr1, e1, hs1, hc1⟩ := add64 lo ca hlo hca
        obtain ⟨s, c2, hr2, e2, hs, hc2⟩ := sub64 a s1 haB hs1
        have hp : b * x ≤ 18446744073709551615 * 18446744073709551615 := Nat.mul_le_mul (by omega) (by omega)
        have HE : Hid (s + b * x + ca = a + 18446744073709551616 * (hi1 + c1 + c2)) := by have := HP.out; unfold Hid; omega
        have hk1 : hi1 + c1 ≤ 18446744073709551615 := by have := HP.out; omega
        have hk2 : hi1 + c1 + c2 ≤ 18446744073709551615 := by have := HP.out; omega
        clear e1 e2 hp
        go_wp2
        go_roundg (gk - 1)
        case measure => have := HG.out; omega
        case rel => exact ⟨i + 1, hi1 + c1 + c2, by have := HG.out; omega, by omega, by go_num, by go_num, done ++ [s], hd.step (by rw [W_eq]; exact hs) (by rw [W_eq, ← HA.out, ← HB.out]; exact HE.out), by rw [← set_mid hd.len (by rw [HN.out]; exact hi)]; exact hrow.set (by simp [hd.len, HN.out]; omega) s, grownBy_trans hgrow (grownBy_set _ _ _ _)⟩
      · by_cases h0 : ca = 0
        · subst h0
          go_wp2
          rw [Exit.noGoto_ret]
          go_ret
          exact ⟨_, 0, rfl, by omega, hrow, hgrow, hd.early hl (by rw [HN.out]; omega) (by rw [hb.len]; omega)⟩
        · have b1 : ((ca : Int) == 0) = false := by simp [h0]
          obtain ⟨s1, c1, hr1, e1, hs1, hc1⟩ := add64z ca hca
          obtain ⟨s, c2, hr2, e2, hs, hc2⟩ := sub64 a s1 haB hs1
          have HE : Hid (s + 0 * x + ca = a + 18446744073709551616 * (c1 + c2)) := by unfold Hid; omega
          have hk1 : c1 + c2 ≤ 18446744073709551615 := by omega
          clear e1 e2
          go_wp2
          go_roundg (gk - 1)
          case measure => have := HG.out; omega
          case rel => exact ⟨i + 1, c1 + c2, by have := HG.out; omega, by omega, by go_num, by go_num, done ++ [s], hd.step (by rw [W_eq]; exact hs) (by rw [W_eq, ← HA.out, show bs.getD i 0 = 0 by rw [List.getD_eq_getElem?_getD, List.getElem?_eq_none (by rw [hb.len]; omega)]; rfl]; exact HE.out), by rw [← set_mid hd.len (by rw [HN.out]; exact hi)]; exact hrow.set (by simp [hd.len, HN.out]; omega) s, grownBy_trans hgrow (grownBy_set _ _ _ _)⟩
    · have hi' : i = n := by omega
      obtain ⟨done, hd, hrow, hgrow⟩ := hrel
      have HI := Lib.hid hi'
      clear hi' hg
      go_wp2
      rw [Exit.noGoto_ret]
      go_ret
      exact ⟨_, ca, rfl, hca, hrow, hgrow, hd.all hl (by rw [HN.out]; exact HI.out) (by rw [hb.len, HI.out]; exact hnb)⟩
end Go.Proofs.YtdklekiknhhfdaaDoor
