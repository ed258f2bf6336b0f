/-
  Of points with few bits sums, products, squares, negatives are exact. No condition; a call's ending that tells a known number.
-/
import Derived.Test.YtcbkhmejlaaieaaGreatDoorLo
import Derived.Test.YtcbkhmejlaaieaaGreatDoorLs
namespace Go.Proofs.YtcbkhmejlaaieaaGreatDoor
open Go.RowKit

/-- how one ends that tells the number c, without an error -/
def ToldC (c : Rw) (w : World) (en : Ending) (w' : World) : Prop := ∃ A n d, en = .returned (.tuple #[.agg #[.bool c.s, .slice A n d, .int .i64 c.e], .int .i64 0]) ∧ Rd w' .u64 Go.Proofs.YtcbkhmejlaaieaaGreatDoor.W A n d c.l ∧ Below w.heap.size w w'
theorem told_c {f : FuncId} {args : Array Value} {w : World} {P : Int → Bool → Nat → Int → Prop} {c : Rw} (hc : c.may = true) (h : Calls Tryz.prog f args w (Tells P w)) (hP : ∀ k s m e, P k s m e → k = 0 ∧ s = c.s ∧ m = val W c.l ∧ e = c.e) : Calls Tryz.prog f args w (ToldC c w) := h.mono fun en w' => by
  rintro ⟨k, s, A, n, d, m, x, rfl, hp, hN, b⟩
  obtain ⟨rfl, rfl, rfl, rfl⟩ := hP _ _ _ _ hp
  have h3 := hN.rd
  rw [dig_may c.lt (mayD_of c.lt hc).1] at h3
  exact ⟨A, n, d, rfl, h3, b⟩
/-- of at most so many bits, with an exponent that is not far -/
def Few2 (a : Rw) : Prop := a.may = true ∧ blen (val W a.l) ≤ 128 ∧ -100 ≤ a.e ∧ a.e ≤ 100
theorem blen_none : blen 0 = 0 := by unfold blen; rw [dig_zero]; rfl
theorem norm_has {K : Nat} (hK : 4194304 ≤ K) {s : Bool} {M : Nat} {e : Int} (hM : blen M ≤ 600) (he : -1000 ≤ e) (he' : e ≤ 1000) : ∃ c : Rw, c.may = true ∧ c.v K = vz K s M e ∧ blen (val W c.l) ≤ 600 := by
  obtain ⟨k, s', m', e', h⟩ := nm_total s M e
  have hk := nm_good h (by omega) (by omega) (by omega)
  subst hk
  refine ⟨Rw.of s' m' e', Rw.of_may (nm_ok h), by rw [Rw.of_v, nm_value (by omega) h], ?_⟩
  have e1 : val W (Rw.of s' m' e').l = m' := val_dig W_two m'
  rw [e1]
  rcases nm_small_e h (by omega) with h2 | ⟨h2, _⟩
  · exact Nat.le_trans h2.1 hM
  · rw [h2, blen_none]; exact Nat.zero_le _
section
variable {S : Sc} {a b c : Rw}
theorem small_add (ha : Few2 a) (hb : Few2 b) : ∃ c : Rw, c.may = true ∧ c.v S.K = a.v S.K + b.v S.K ∧ blen (val W c.l) ≤ 600 := by
  obtain ⟨_, la, ea, ea'⟩ := ha
  obtain ⟨_, lb, eb, eb'⟩ := hb
  have hK := S.big
  obtain ⟨lo, hlo⟩ : ∃ lo, lo = min a.e b.e := ⟨_, rfl⟩
  have va : a.v S.K = _ := vz_at (K := S.K) (s := a.s) (x := val W a.l) (e := a.e) (lo := lo) (by omega) (by omega)
  have vb : b.v S.K = _ := vz_at (K := S.K) (s := b.s) (x := val W b.l) (e := b.e) (lo := lo) (by omega) (by omega)
  obtain ⟨L, hL⟩ : ∃ L, L = 328 := ⟨_, rfl⟩
  have bits : ∀ x i : Nat, blen x ≤ 128 → i ≤ 200 → x * 2 ^ i < 2 ^ L := fun x i hx hi => by
    have h1 := (blen_le x 128).1 hx
    have h2 : x * 2 ^ i < 2 ^ 128 * 2 ^ i := Nat.mul_lt_mul_of_pos_right h1 (pow_pos2 i)
    rw [← Nat.pow_add] at h2
    exact Nat.lt_of_lt_of_le h2 (Nat.pow_le_pow_right (by omega) (by omega))
  have hX := bits (val W a.l) (a.e - lo).toNat la (by omega)
  have hY := bits (val W b.l) (b.e - lo).toNat lb (by omega)
  generalize val W a.l * 2 ^ (a.e - lo).toNat = X at *
  generalize val W b.l * 2 ^ (b.e - lo).toNat = Y at *
  obtain ⟨s, M, hv, hM⟩ : ∃ s M, vz S.K a.s X lo + vz S.K b.s Y lo = vz S.K s M lo ∧ M ≤ X + Y := by
    by_cases hs : a.s = b.s
    · exact ⟨a.s, X + Y, by rw [vz_add, hs], Nat.le_refl _⟩
    · have hs2 : b.s = !a.s := by
        cases h1 : a.s <;> cases h2 : b.s <;> first | rfl | (rw [h1, h2] at hs; exact absurd rfl hs)
      rcases Nat.le_total Y X with h | h
      · exact ⟨a.s, X - Y, by rw [vz_sub h, hs2], by omega⟩
      · refine ⟨b.s, Y - X, ?_, by omega⟩
        rw [vz_sub h, hs2, Bool.not_not, Int.add_comm]
  have hb2 : blen M ≤ L + 1 := (blen_le M (L + 1)).2 (by rw [Nat.pow_succ]; omega)
  obtain ⟨c, c1, c2, c3⟩ := norm_has hK (s := s) (M := M) (e := lo) (by omega) (by omega) (by omega)
  exact ⟨c, c1, by rw [c2, va, vb, hv], c3⟩
theorem small_mul (ha : Few2 a) (hb : Few2 b) : ∃ c : Rw, c.may = true ∧ c.v S.K * ((2 ^ S.K : Nat) : Int) = a.v S.K * b.v S.K ∧ blen (val W c.l) ≤ 600 := by
  obtain ⟨_, la, ea, ea'⟩ := ha
  obtain ⟨_, lb, eb, eb'⟩ := hb
  have hK := S.big
  have hM : blen (val W a.l * val W b.l) ≤ 256 := by
    have h1 := (blen_le _ 128).1 la
    have h2 := (blen_le _ 128).1 lb
    refine (blen_le _ 256).2 ?_
    have h3 : val W a.l * val W b.l < 2 ^ 128 * 2 ^ 128 := Nat.mul_lt_mul'' h1 h2
    rwa [← Nat.pow_add] at h3
  obtain ⟨c, c1, c2, c3⟩ := norm_has hK (s := a.s != b.s) (M := val W a.l * val W b.l) (e := a.e + b.e) (by omega) (by omega) (by omega)
  exact ⟨c, c1, by rw [c2]; exact (vz_mul (by omega) (by omega) (by omega)).symm, c3⟩
theorem P600 : (1 : Int) ≤ 600 ∧ (600 : Int) ≤ 2000 := ⟨by decide, by decide⟩
theorem rnd600 {up : Bool} (hc : c.may = true) (hb : blen (val W c.l) ≤ 600) : rndO S c 600 up = .ok c := rnd_fit P600 hc hb
theorem out600 (hc : c.may = true) (hb : blen (val W c.l) ≤ 600) : outO S c c 600 = .ok ⟨c, c⟩ := by
  unfold outO
  rw [rnd600 hc hb]
  show thn (rndO S c 600 true) _ = _
  rw [rnd600 hc hb]
  rfl
theorem add600 (ha : a.may = true) (hb : b.may = true) (hc : c.may = true) (hv : c.v S.K = a.v S.K + b.v S.K) (hl : blen (val W c.l) ≤ 600) : sumO S ⟨a, a⟩ ⟨b, b⟩ 600 = .ok ⟨c, c⟩ := by
  have h := addO_is ha hb hc hv
  unfold sumO
  show thn (addO S a b) _ = _
  rw [h]
  show thn (rndO S c 600 false) _ = _
  rw [rnd600 hc hl]
  show thn (rndO S c 600 true) _ = _
  rw [rnd600 hc hl]
  rfl
theorem one_list {L : List Rw} (h0 : L ≠ []) (hc : c.may = true) (h : ∀ z ∈ L, z = c) : leaL S L = c ∧ greL S L = c := by
  have hl : ∀ z ∈ L, z.may = true := fun z hz => by rw [h z hz]; exact hc
  exact ⟨h _ (lea_of (S := S) h0 hl).1, h _ (gre_of (S := S) h0 hl).1⟩
theorem mul600 (ha : a.may = true) (hb : b.may = true) (hc : c.may = true) (hv : c.v S.K * ((2 ^ S.K : Nat) : Int) = a.v S.K * b.v S.K) (hl : blen (val W c.l) ≤ 600) : mulI S ⟨a, a⟩ ⟨b, b⟩ 600 = .ok ⟨c, c⟩ := by
  have h := mulO_is ha hb hc hv
  have hcor : corO (mulO S) ⟨a, a⟩ ⟨b, b⟩ = .ok [c, c, c, c] := by
    unfold corO
    show thn (mulO S a b) (fun x => thn (mulO S a b) fun y => thn (mulO S a b) fun z => thn (mulO S a b) fun u => .ok [x, y, z, u]) = _
    rw [h]
    rfl
  obtain ⟨e1, e2⟩ := one_list (S := S) (L := [c, c, c, c]) (List.cons_ne_nil _ _) hc (fun z hz => by simpa using hz)
  unfold mulI
  rw [hcor]
  show outO S (leaL S [c, c, c, c]) (greL S [c, c, c, c]) 600 = _
  rw [e1, e2]
  exact out600 hc hl
theorem sqr600 (ha : a.may = true) (hc : c.may = true) (hv : c.v S.K * ((2 ^ S.K : Nat) : Int) = a.v S.K * a.v S.K) (hl : blen (val W c.l) ≤ 600) : sqrI S ⟨a, a⟩ 600 = .ok ⟨c, c⟩ := by
  have h := mulO_is ha ha hc hv
  unfold sqrI
  show thn (mulO S a a) (fun x => thn (mulO S a a) fun y => outO S (leaL S (if hasI S.K ⟨a, a⟩ Rw.zero = true then [x, y, Rw.zero] else [x, y])) (greL S (if hasI S.K ⟨a, a⟩ Rw.zero = true then [x, y, Rw.zero] else [x, y])) 600) = _
  rw [h]
  show outO S (leaL S (if hasI S.K ⟨a, a⟩ Rw.zero = true then [c, c, Rw.zero] else [c, c])) (greL S (if hasI S.K ⟨a, a⟩ Rw.zero = true then [c, c, Rw.zero] else [c, c])) 600 = _
  have key : (if hasI S.K ⟨a, a⟩ Rw.zero = true then [c, c, Rw.zero] else [c, c]) ≠ [] ∧ ∀ z ∈ (if hasI S.K ⟨a, a⟩ Rw.zero = true then [c, c, Rw.zero] else [c, c]), z = c := by
    by_cases hz : hasI S.K ⟨a, a⟩ Rw.zero = true
    · rw [if_pos hz]
      have h2 := hasI_iff.1 hz
      have e0 := v_zero S.K
      have h3 : a.v S.K = 0 := by
        have k1 : a.v S.K ≤ Rw.zero.v S.K := h2.2.2.1
        have k2 : Rw.zero.v S.K ≤ a.v S.K := h2.2.2.2
        omega
      rw [h3, Int.zero_mul] at hv
      have h4 : c.v S.K = 0 := by
        rcases Int.mul_eq_zero.1 hv with h5 | h5
        · exact h5
        · exact absurd h5 (Int.ne_of_gt pos_of_pow)
      have h5 : Rw.zero = c := one_of_v S.big Rw.zero_may hc (by rw [e0, h4])
      refine ⟨List.cons_ne_nil _ _, fun z hz => ?_⟩
      simp only [List.mem_cons, List.not_mem_nil, or_false] at hz
      rcases hz with rfl | rfl | rfl
      · rfl
      · rfl
      · exact h5
    · rw [if_neg hz]
      exact ⟨List.cons_ne_nil _ _, fun z hz => by simpa using hz⟩
  obtain ⟨e1, e2⟩ := one_list (S := S) key.1 hc key.2
  rw [e1, e2]
  exact out600 hc hl
theorem neg600 (ha : Few2 a) : negI S ⟨a, a⟩ 600 = .ok ⟨negQ a, negQ a⟩ := by
  have hm : (negQ a).may = true := by rw [negQ_may]; exact ha.1
  have hb : blen (val W (negQ a).l) ≤ 600 := by
    have : blen (val W a.l) ≤ 128 := ha.2.1
    show blen (val W a.l) ≤ 600
    omega
  exact out600 hm hb
theorem neg_few (ha : Few2 a) : Few2 (negQ a) := ⟨by rw [negQ_may]; exact ha.1, ha.2⟩
/-- what dyad's functions tell of them -/
theorem add_told (ha : a.may = true) (hb : b.may = true) (hc : c.may = true) (hv : c.v S.K = a.v S.K + b.v S.K) : ∀ k s m e, addR S.K a.s a.l a.e b.s b.l b.e k s m e → k = 0 ∧ s = c.s ∧ m = val W c.l ∧ e = c.e := fun k s m e h => by
  unfold addR at h
  rw [if_pos ⟨ha, hb⟩] at h
  exact nmv_hit S.big h (mayD_of c.lt hc).2 hv
theorem sub_told (ha : a.may = true) (hb : b.may = true) (hc : c.may = true) (hv : c.v S.K = a.v S.K + (negQ b).v S.K) : ∀ k s m e, subR S.K a.s a.l a.e b.s b.l b.e k s m e → k = 0 ∧ s = c.s ∧ m = val W c.l ∧ e = c.e := fun k s m e h => by
  unfold subR at h
  rw [if_pos ⟨ha, hb⟩] at h
  exact nmv_hit S.big h (mayD_of c.lt hc).2 (by rw [negQ_v hb] at hv; show c.v S.K = a.v S.K - b.v S.K; omega)
theorem mul_told (ha : a.may = true) (hb : b.may = true) (hc : c.may = true) (hv : c.v S.K * ((2 ^ S.K : Nat) : Int) = a.v S.K * b.v S.K) : ∀ k s m e, mulR a.s a.l a.e b.s b.l b.e k s m e → k = 0 ∧ s = c.s ∧ m = val W c.l ∧ e = c.e := fun k s m e h => by
  unfold mulR at h
  rw [if_pos ⟨ha, hb⟩] at h
  have r1 := okd_ge S.big (mayD_of a.lt ha).2
  have r2 := okd_ge S.big (mayD_of b.lt hb).2
  have hk := S.big
  have hm := vz_mul (K := S.K) (s := a.s) (t := b.s) (m := val W a.l) (n := val W b.l) r1.2.2 r2.2.2 (by omega)
  have hv2 : c.v S.K = vz S.K (a.s != b.s) (val W a.l * val W b.l) (a.e + b.e) := Int.eq_of_mul_eq_mul_right (Int.ne_of_gt pos_of_pow) (hv.trans hm)
  exact nmv_hit S.big ⟨_, _, _, by omega, rfl, h⟩ (mayD_of c.lt hc).2 hv2
end
end Go.Proofs.YtcbkhmejlaaieaaGreatDoor
