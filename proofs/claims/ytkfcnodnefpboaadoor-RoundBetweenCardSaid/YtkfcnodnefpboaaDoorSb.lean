/-
  Contract of the statement RoundBetween's function at this translation: it returns true, whatever its arguments. Condition: the slices read as limbs, the table of math/bits reads as its text lays it.
-/
import Derived.Test.YtkfcnodnefpboaaDoorRt
import Derived.Test.YtkfcnodnefpboaaDoorRm
namespace Go.Proofs.YtkfcnodnefpboaaDoor
open Go.RowKit

theorem rd_told_okd {s : Bool} {x : Nat} {e : Int} {p : Nat} {u : Bool} {k : Int} {s' : Bool} {m' : Nat} {e' : Int} (h : RdTold s x e p u k s' m' e') : OkD s' m' e' := nm_okd h
/-- what is told once is kept when it is rounded again -/
theorem rd_again {s : Bool} {x : Nat} {e : Int} {p : Nat} {u v : Bool} {s' : Bool} {m' : Nat} {e' : Int} {k : Int} {s2 : Bool} {m2 : Nat} {e2 : Int} (hp : 1 ≤ p) (h : RdTold s x e p u 0 s' m' e') (h2 : RdTold s' m' e' p v k s2 m2 e2) : k = 0 ∧ s2 = s' ∧ m2 = m' ∧ e2 = e' := by
  have h3 := nm_fits h (rd_fits hp x (u != s))
  unfold RdTold at h2
  rw [rd_self hp h3] at h2
  exact nm_fun h2 (nm_self (nm_okd h))
theorem rd_turn {s t : Bool} {x : Nat} {e : Int} {p : Nat} {s' : Bool} {m' : Nat} {e' : Int} {k : Int} {s2 : Bool} {m2 : Nat} {e2 : Int} (ht : t = if x = 0 then s else !s) (h : RdTold s x e p true 0 s' m' e') (h2 : RdTold t x e p false k s2 m2 e2) : k = 0 ∧ s2 = (if m' = 0 then s' else !s') ∧ m2 = m' ∧ e2 = e' := by
  by_cases hx : x = 0
  · unfold RdTold at h h2
    rw [hx, rd_zero] at h h2
    rcases h with ⟨_, _, a1, a2, a3⟩ | ⟨j, q, h3, _⟩
    · rcases h2 with ⟨_, b0, b1, b2, b3⟩ | ⟨j, q, h3, _⟩
      · rw [a1, a2, a3, b0, b1, b2, b3]; exact ⟨rfl, rfl, rfl, rfl⟩
      · exfalso; have := Nat.mul_pos (pow_pos2 j) (show 0 < 2 * q + 1 by omega); omega
    · exfalso; have := Nat.mul_pos (pow_pos2 j) (show 0 < 2 * q + 1 by omega); omega
  · rw [if_neg hx] at ht
    subst ht
    have e1 : (false != !s) = (true != s) := by cases s <;> rfl
    unfold RdTold at h h2
    rw [e1] at h2
    exact nm_fun h2 (nm_not h)
theorem rd_equal {s : Bool} {x : Nat} {e : Int} {p : Nat} {s1 : Bool} {m1 : Nat} {e1 : Int} {s2 : Bool} {m2 : Nat} {e2 : Int} (hp : 1 ≤ p) (hd : OkD s x e) (h : RdTold s x e p false 0 s1 m1 e1) (h2 : RdTold s x e p true 0 s2 m2 e2) : (s1 = s2 ∧ m1 = m2 ∧ e1 = e2) ↔ blen x ≤ p := by
  rw [← okd_fits hd]
  constructor
  · rintro ⟨rfl, rfl, rfl⟩
    obtain ⟨K, hK⟩ := scale_has
    have r := okd_ge hK hd
    have v1 := nm_value r.2.2 h
    have v2 := nm_value r.2.2 h2
    have v3 := v1.symm.trans v2
    have a1 := vz_abs (K := K) (s := s) (m := rdN p x (false != s)) (e := e)
    have a2 := vz_abs (K := K) (s := s) (m := rdN p x (true != s)) (e := e)
    rw [v3, a2] at a1
    have := Nat.eq_of_mul_eq_mul_right (pow_pos2 _) a1
    refine (rd_same hp).1 ?_
    cases s
    · exact this.symm
    · exact this
  · intro h3
    unfold RdTold at h h2
    rw [rd_self hp h3] at h h2
    obtain ⟨_, h4, h5, h6⟩ := nm_fun h h2
    exact ⟨h4, h5, h6⟩
theorem told_between {K : Nat} {s : Bool} {x : Nat} {e : Int} {p : Nat} {s1 : Bool} {m1 : Nat} {e1 : Int} {s2 : Bool} {m2 : Nat} {e2 : Int} (hK : 4194304 ≤ K) (hd : OkD s x e) (h : RdTold s x e p false 0 s1 m1 e1) (h2 : RdTold s x e p true 0 s2 m2 e2) : vz K s1 m1 e1 ≤ vz K s x e ∧ vz K s x e ≤ vz K s2 m2 e2 := by
  have r := okd_ge hK hd
  rw [nm_value r.2.2 h, nm_value r.2.2 h2]
  exact rd_between
theorem told_bits {s : Bool} {x : Nat} {e : Int} {p : Nat} {u : Bool} {k : Int} {s' : Bool} {m' : Nat} {e' : Int} (hp : 1 ≤ p) (h : RdTold s x e p u k s' m' e') : blen m' ≤ p := (okd_fits (nm_okd h)).1 (nm_fits h (rd_fits hp x (u != s)))

theorem rd_fit {s : Bool} {x : Nat} {e : Int} {p : Nat} {u : Bool} {k : Int} {s' : Bool} {m' : Nat} {e' : Int} (hp : 1 ≤ p) (hd : OkD s x e) (hb : blen x ≤ p) (h : RdTold s x e p u k s' m' e') : k = 0 ∧ s' = s ∧ m' = x ∧ e' = e := by
  unfold RdTold at h
  rw [rd_self hp ((okd_fits hd).2 hb)] at h
  exact nm_fun h (nm_self hd)
theorem told_strict {K : Nat} {s : Bool} {x : Nat} {e : Int} {p : Nat} {s1 : Bool} {m1 : Nat} {e1 : Int} {s2 : Bool} {m2 : Nat} {e2 : Int} (hK : 4194304 ≤ K) (hp : 1 ≤ p) (hd : OkD s x e) (hb : ¬ blen x ≤ p) (h : RdTold s x e p false 0 s1 m1 e1) (h2 : RdTold s x e p true 0 s2 m2 e2) : vz K s1 m1 e1 < vz K s x e ∧ vz K s x e < vz K s2 m2 e2 := by
  obtain ⟨a1, a2⟩ := told_between hK hd h h2
  have b1 := told_bits hp h
  have b2 := told_bits hp h2
  constructor
  · rcases Int.lt_or_eq_of_le a1 with h3 | h3
    · exact h3
    · obtain ⟨_, rfl, _⟩ := okd_one hK (nm_okd h) hd h3
      exact absurd b1 hb
  · rcases Int.lt_or_eq_of_le a2 with h3 | h3
    · exact h3
    · obtain ⟨_, rfl, _⟩ := okd_one hK hd (nm_okd h2) h3
      exact absurd b2 hb
theorem dneg_to {w : World} {A : Option Addr} {n c m : Nat} {s t : Bool} {e : Int} (hT : Tab w) (h : Nt w A n c m) (hd : OkD s m e) (ht : t = if m = 0 then s else !s) :
    Calls Tryd.prog 33 #[.agg #[.bool s, .slice A n c, .int .i64 e]] w (Goods t m e w) := by
  rw [ht]; exact dneg_any hT h hd

set_option maxRecDepth 100000 in
set_option maxHeartbeats 8000000 in
theorem between_any {w : World} {A1 : Option Addr} {n1 c1 : Nat} {l1 : List Nat} {s1 : Bool} {e1 : Int} {p : Int} (hT : Tab w) (h1 : Rd w .u64 W A1 n1 c1 l1) :
    Calls Tryd.prog 12 #[.agg #[.bool s1, .slice A1 n1 c1, .int .i64 e1], .int .i64 p] w fun en w' => ToldEnd w en w' := by
  have x1 : n1 ≤ 9223372036854775807 := Nat.le_trans h1.cap h1.max
  obtain ⟨KK, hKK⟩ := scale_has
  obtain ⟨rn, hrn⟩ := Int.eq_ofNat_of_zero_le (show 0 ≤ IntKind.u64.wrap p by rw [IntKind.wrap_u64]; omega)
  obtain ⟨qn, hqn⟩ : ∃ q, q = rn % 300 := ⟨_, rfl⟩
  obtain ⟨n, hnn⟩ : ∃ n, n = 1 + qn := ⟨_, rfl⟩
  have uun : (rn : Int) % 300 = (qn : Int) := by omega
  have uvn : (1 : Int) + (qn : Int) = (n : Int) := by omega
  have uwn : (0 : Int) ≤ (rn : Int) := by omega
  have uxn : (qn : Int) ≤ 300 := by omega
  have nlo : 1 ≤ n := by omega
  have nhi : n ≤ 300 := by omega
  have uyn : (n : Int) ≤ 300 := by omega
  clear hqn hnn
  have BB := below_alloc w (.cells #[.bool s1, .slice A1 n1 c1, .int .i64 e1] 24)
  obtain ⟨a10, a11, a12⟩ := (Box.new w s1 A1 n1 c1 e1).held
  have G := mv BB rfl <| And.intro hT <| h1
  clear hT h1
  obtain ⟨hT, h1⟩ := G
  go_enter Tryd.func12, Tryd.ntmps12
  go_wp2_with fail
  refine (dfew_any (s := s1) (e := e1) x1).mono ?_
  rintro en w1 ⟨rfl, b⟩
  replace BB := below_next BB BB.size b rfl rfl rfl rfl
  have G := mv b rfl <| And.intro a10 <| And.intro a11 <| And.intro a12 <| And.intro hT <| h1
  clear b a10 a11 a12 hT h1
  obtain ⟨a10, a11, a12, hT, h1⟩ := G
  by_cases q1 : n1 ≤ 70
  rotate_left
  · rw [decide_eq_false q1]
    go_wp2_with fail
    refine (rtold_any hT).mono ?_
    rintro en w99 ⟨rfl, b⟩
    replace BB := below_next BB BB.size b rfl rfl rfl rfl
    clear b
    go_wp2
    go_ret
    exact ⟨by first | rfl | simp, BB⟩
  rw [decide_eq_true q1]
  clear x1 q1
  go_wp2_with fail
  refine (dmay_any (s := s1) (e := e1) hT h1).mono ?_
  rintro en w2 ⟨rfl, b⟩
  replace BB := below_next BB BB.size b rfl rfl rfl rfl
  have G := mv b rfl <| And.intro a10 <| And.intro a11 <| And.intro a12 <| And.intro hT <| h1
  clear b a10 a11 a12 hT h1
  obtain ⟨a10, a11, a12, hT, h1⟩ := G
  cases hd1 : mayD s1 l1 e1
  · clear hd1
    go_wp2_with fail
    refine (rtold_any hT).mono ?_
    rintro en w99 ⟨rfl, b⟩
    replace BB := below_next BB BB.size b rfl rfl rfl rfl
    clear b
    go_wp2
    go_ret
    exact ⟨by first | rfl | simp, BB⟩
  obtain ⟨hm, hok⟩ := mayD_of h1.lt hd1
  have N1 := (nt_of h1 hm).1
  generalize val W l1 = m1 at N1 hok
  have O1 := Lib.hid hok
  clear hm hok hd1
  clear h1
  go_wp2_with fail
  refine (rdown_ok hT N1 O1.out nlo (by omega)).mono ?_
  rintro en v3 ⟨k3, s3, A3, n3, c3, m3, e3, rfl, hp, N3, b⟩
  have P3 := Lib.hid hp
  have O3 := Lib.hid (nm_okd hp)
  clear hp
  replace BB := below_next BB BB.size b rfl rfl rfl rfl
  have G := mv b rfl <| And.intro a10 <| And.intro a11 <| And.intro a12 <| And.intro hT <| N1
  clear b a10 a11 a12 hT N1
  obtain ⟨a10, a11, a12, hT, N1⟩ := G
  obtain ⟨a30, a31, a32⟩ := (Box.new v3 s3 A3 n3 c3 e3).held
  have b := below_alloc v3 (.cells #[.bool s3, .slice A3 n3 c3, .int .i64 e3] 24)
  replace BB := below_next BB BB.size b rfl rfl rfl rfl
  have G := mv b rfl <| And.intro a10 <| And.intro a11 <| And.intro a12 <| And.intro hT <| And.intro N1 <| N3
  clear b a10 a11 a12 hT N1 N3
  obtain ⟨a10, a11, a12, hT, N1, N3⟩ := G
  go_wp2_with fail
  refine (rup_ok hT N1 O1.out nlo (by omega)).mono ?_
  rintro en v4 ⟨k4, s4, A4, n4, c4, m4, e4, rfl, hp, N4, b⟩
  have P4 := Lib.hid hp
  have O4 := Lib.hid (nm_okd hp)
  clear hp
  replace BB := below_next BB BB.size b rfl rfl rfl rfl
  have G := mv b rfl <| And.intro a10 <| And.intro a11 <| And.intro a12 <| And.intro hT <| And.intro N1 <| And.intro N3 <| And.intro a30 <| And.intro a31 <| a32
  clear b a10 a11 a12 hT N1 N3 a30 a31 a32
  obtain ⟨a10, a11, a12, hT, N1, N3, a30, a31, a32⟩ := G
  obtain ⟨a40, a41, a42⟩ := (Box.new v4 s4 A4 n4 c4 e4).held
  have b := below_alloc v4 (.cells #[.bool s4, .slice A4 n4 c4, .int .i64 e4] 24)
  replace BB := below_next BB BB.size b rfl rfl rfl rfl
  have G := mv b rfl <| And.intro a10 <| And.intro a11 <| And.intro a12 <| And.intro hT <| And.intro N1 <| And.intro N3 <| And.intro a30 <| And.intro a31 <| And.intro a32 <| N4
  clear b a10 a11 a12 hT N1 N3 a30 a31 a32 N4
  obtain ⟨a10, a11, a12, hT, N1, N3, a30, a31, a32, N4⟩ := G
  by_cases z3 : k3 = 0
  rotate_left
  · have f3 : (k3 != 0) = true := by simp [z3]
    clear z3
    go_wp2_with fail
    refine (rtold_any hT).mono ?_
    rintro en w99 ⟨rfl, b⟩
    replace BB := below_next BB BB.size b rfl rfl rfl rfl
    clear b
    go_wp2
    go_ret
    exact ⟨by first | rfl | simp, BB⟩
  subst z3
  by_cases z4 : k4 = 0
  rotate_left
  · have f4 : (k4 != 0) = true := by simp [z4]
    clear z4
    go_wp2_with fail
    refine (rtold_any hT).mono ?_
    rintro en w99 ⟨rfl, b⟩
    replace BB := below_next BB BB.size b rfl rfl rfl rfl
    clear b
    go_wp2
    go_ret
    exact ⟨by first | rfl | simp, BB⟩
  subst z4
  go_wp2_with fail
  refine (rup_ok hT N3 O3.out nlo (by omega)).mono ?_
  rintro en v5 ⟨k5, s5, A5, n5, c5, m5, e5, rfl, hp, N5, b⟩
  obtain ⟨g0, g1, g2, g3⟩ := rd_again nlo P3.out hp
  subst g0 g1 g2 g3
  clear hp
  replace BB := below_next BB BB.size b rfl rfl rfl rfl
  have G := mv b rfl <| And.intro a10 <| And.intro a11 <| And.intro a12 <| And.intro hT <| And.intro N1 <| And.intro N3 <| And.intro a30 <| And.intro a31 <| And.intro a32 <| And.intro N4 <| And.intro a40 <| And.intro a41 <| a42
  clear b a10 a11 a12 hT N1 N3 a30 a31 a32 N4 a40 a41 a42
  obtain ⟨a10, a11, a12, hT, N1, N3, a30, a31, a32, N4, a40, a41, a42⟩ := G
  obtain ⟨a50, a51, a52⟩ := (Box.new v5 s5 A5 n5 c5 e5).held
  have b := below_alloc v5 (.cells #[.bool s5, .slice A5 n5 c5, .int .i64 e5] 24)
  replace BB := below_next BB BB.size b rfl rfl rfl rfl
  have G := mv b rfl <| And.intro a10 <| And.intro a11 <| And.intro a12 <| And.intro hT <| And.intro N1 <| And.intro N3 <| And.intro a30 <| And.intro a31 <| And.intro a32 <| And.intro N4 <| And.intro a40 <| And.intro a41 <| And.intro a42 <| N5
  clear b a10 a11 a12 hT N1 N3 a30 a31 a32 N4 a40 a41 a42 N5
  obtain ⟨a10, a11, a12, hT, N1, N3, a30, a31, a32, N4, a40, a41, a42, N5⟩ := G
  go_wp2_with fail
  refine (dneg_any hT N1 O1.out).mono ?_
  rintro en v6 ⟨A6, n6, c6, rfl, N6, b⟩
  obtain ⟨t, ht⟩ : ∃ t, t = if m1 = 0 then s1 else !s1 := ⟨_, rfl⟩
  rw [← ht]
  have HT := Lib.hid ht
  have O6 : Hid (OkD t m1 e1) := Lib.hid (by rw [ht]; exact neg_okd O1.out)
  clear ht
  replace BB := below_next BB BB.size b rfl rfl rfl rfl
  have G := mv b rfl <| And.intro a10 <| And.intro a11 <| And.intro a12 <| And.intro hT <| And.intro N1 <| And.intro N3 <| And.intro a30 <| And.intro a31 <| And.intro a32 <| And.intro N4 <| And.intro a40 <| And.intro a41 <| And.intro a42 <| And.intro N5 <| And.intro a50 <| And.intro a51 <| a52
  clear b a10 a11 a12 hT N1 N3 a30 a31 a32 N4 a40 a41 a42 N5 a50 a51 a52
  obtain ⟨a10, a11, a12, hT, N1, N3, a30, a31, a32, N4, a40, a41, a42, N5, a50, a51, a52⟩ := G
  go_wp2_with fail
  refine (rdown_ok hT N6 O6.out nlo (by omega)).mono ?_
  rintro en v7 ⟨k7, s7, A7, n7, c7, m7, e7, rfl, hp, N7, b⟩
  obtain ⟨g0, g1, g2, g3⟩ := rd_turn HT.out P4.out hp
  subst g0
  obtain rfl := g2.symm
  obtain rfl := g3.symm
  have HS7 := Lib.hid g1
  clear hp g1
  clear N6
  replace BB := below_next BB BB.size b rfl rfl rfl rfl
  have G := mv b rfl <| And.intro a10 <| And.intro a11 <| And.intro a12 <| And.intro hT <| And.intro N1 <| And.intro N3 <| And.intro a30 <| And.intro a31 <| And.intro a32 <| And.intro N4 <| And.intro a40 <| And.intro a41 <| And.intro a42 <| And.intro N5 <| And.intro a50 <| And.intro a51 <| a52
  clear b a10 a11 a12 hT N1 N3 a30 a31 a32 N4 a40 a41 a42 N5 a50 a51 a52
  obtain ⟨a10, a11, a12, hT, N1, N3, a30, a31, a32, N4, a40, a41, a42, N5, a50, a51, a52⟩ := G
  obtain ⟨a70, a71, a72⟩ := (Box.new v7 s7 A7 n7 c7 e4).held
  have b := below_alloc v7 (.cells #[.bool s7, .slice A7 n7 c7, .int .i64 e4] 24)
  replace BB := below_next BB BB.size b rfl rfl rfl rfl
  have G := mv b rfl <| And.intro a10 <| And.intro a11 <| And.intro a12 <| And.intro hT <| And.intro N1 <| And.intro N3 <| And.intro a30 <| And.intro a31 <| And.intro a32 <| And.intro N4 <| And.intro a40 <| And.intro a41 <| And.intro a42 <| And.intro N5 <| And.intro a50 <| And.intro a51 <| And.intro a52 <| N7
  clear b a10 a11 a12 hT N1 N3 a30 a31 a32 N4 a40 a41 a42 N5 a50 a51 a52 N7
  obtain ⟨a10, a11, a12, hT, N1, N3, a30, a31, a32, N4, a40, a41, a42, N5, a50, a51, a52, N7⟩ := G
  clear HT O6
  by_cases hb : blen m1 ≤ n
  · obtain ⟨_, g1, g2, g3⟩ := rd_fit nlo O1.out hb P3.out
    obtain rfl := g1.symm
    obtain rfl := g2.symm
    obtain rfl := g3.symm
    obtain ⟨_, g1, g2, g3⟩ := rd_fit nlo O1.out hb P4.out
    obtain rfl := g1.symm
    obtain rfl := g2.symm
    obtain rfl := g3.symm
    have db1 : decide (blen m1 ≤ n) = true := decide_eq_true hb
    have db3 : decide (blen m1 ≤ n) = true := decide_eq_true (told_bits nlo P3.out)
    have db4 : decide (blen m1 ≤ n) = true := decide_eq_true (told_bits nlo P4.out)
    have HZ : Hid (cmpV (vz KK s1 m1 e1) (vz KK s1 m1 e1) = 0) := Lib.hid (cmpV_eq rfl)
    clear hb
    go_wp2_with fail
    refine wp_region_held_drew (S := fun w' => w'.cell? ⟨w.heap.size, 0, none⟩ = some (.bool s1) ∧ w'.cell? ⟨w.heap.size, 1, none⟩ = some (.slice A1 n1 c1) ∧ w'.cell? ⟨w.heap.size, 2, none⟩ = some (.int .i64 e1) ∧ w'.cell? ⟨v3.heap.size, 0, none⟩ = some (.bool s1) ∧ w'.cell? ⟨v3.heap.size, 1, none⟩ = some (.slice A3 n3 c3) ∧ w'.cell? ⟨v3.heap.size, 2, none⟩ = some (.int .i64 e1) ∧ w'.cell? ⟨v4.heap.size, 0, none⟩ = some (.bool s1) ∧ w'.cell? ⟨v4.heap.size, 1, none⟩ = some (.slice A4 n4 c4) ∧ w'.cell? ⟨v4.heap.size, 2, none⟩ = some (.int .i64 e1) ∧ w'.cell? ⟨v5.heap.size, 0, none⟩ = some (.bool s1) ∧ w'.cell? ⟨v5.heap.size, 1, none⟩ = some (.slice A5 n5 c5) ∧ w'.cell? ⟨v5.heap.size, 2, none⟩ = some (.int .i64 e1) ∧ w'.cell? ⟨v7.heap.size, 0, none⟩ = some (.bool s7) ∧ w'.cell? ⟨v7.heap.size, 1, none⟩ = some (.slice A7 n7 c7) ∧ w'.cell? ⟨v7.heap.size, 2, none⟩ = some (.int .i64 e1)) (by kernel_rfl) (by first | (dsimp only; go_keep) | go_keep) (fun hHeldf0 => ?_)
    clear uun uvn uwn uxn hrn
    refine wpAnyH_ready (rs := [0]) (by kernel_rfl) (by simp) ?_
    refine AllReadyH.cons (o := _) rfl (fun K hK => ?_) AllReadyH.nil
    go_simp
    refine (rtold_any (hT.heap (by rfl))).mono ?_
    rintro en w' ⟨rfl, b⟩
    replace BB := below_next BB BB.size b (by rfl) (by rfl) (by rfl) (by rfl)
    have G := mv b (by rfl) <| And.intro a10 <| And.intro a11 <| And.intro a12 <| And.intro hT <| And.intro N1 <| And.intro N3 <| And.intro a30 <| And.intro a31 <| And.intro a32 <| And.intro N4 <| And.intro a40 <| And.intro a41 <| And.intro a42 <| And.intro N5 <| And.intro a50 <| And.intro a51 <| And.intro a52 <| And.intro N7 <| And.intro a70 <| And.intro a71 <| a72
    clear b a10 a11 a12 hT N1 N3 a30 a31 a32 N4 a40 a41 a42 N5 a50 a51 a52 N7 a70 a71 a72
    obtain ⟨a10, a11, a12, hT, N1, N3, a30, a31, a32, N4, a40, a41, a42, N5, a50, a51, a52, N7, a70, a71, a72⟩ := G
    refine hK.out _ _ (by first | (dsimp only; go_keep) | go_keep) (fun hHeldf1 => ?_)
    clear hK K hHeldf0
    try simp only [Act.put]
    refine wpAnyH_take (i := 1) (v := ?fv1) rfl (by kernel_rfl) (by kernel_rfl) (by kernel_rfl) (fun _ _ _ h => panic_put (P := Tryd.prog) (fn := Tryd.f12) (R := fun en w' => ToldEnd w en w') h) (Or.inl ⟨by rfl, ?fy1⟩) (by assumption) ?_
    case fy1 => (intro w hSw; (try dsimp only at hSw); go_simp); try with_reducible rfl
    change wpAnyH _ _ _ _ _ _ _ (Act.put _ (some 61) _) _
    simp only [Act.put, List.setIfInBounds_toArray, List.set_cons_zero, List.set_cons_succ]
    refine wpAnyH_take (i := 2) (v := ?fv2) rfl (by kernel_rfl) (by kernel_rfl) (by kernel_rfl) (fun _ _ _ h => panic_put (P := Tryd.prog) (fn := Tryd.f12) (R := fun en w' => ToldEnd w en w') h) (Or.inl ⟨by rfl, ?fy2⟩) (by assumption) ?_
    case fy2 => (intro w hSw; (try dsimp only at hSw); go_simp); try with_reducible rfl
    change wpAnyH _ _ _ _ _ _ _ (Act.put _ (some 62) _) _
    simp only [Act.put, List.setIfInBounds_toArray, List.set_cons_zero, List.set_cons_succ]
    refine wpAnyH_take (i := 3) (v := ?fv3) rfl (by kernel_rfl) (by kernel_rfl) (by kernel_rfl) (fun _ _ _ h => panic_put (P := Tryd.prog) (fn := Tryd.f12) (R := fun en w' => ToldEnd w en w') h) (Or.inl ⟨by rfl, ?fy3⟩) (by assumption) ?_
    case fy3 => (intro w hSw; (try dsimp only at hSw); go_simp); try with_reducible rfl
    change wpAnyH _ _ _ _ _ _ _ (Act.put _ (some 63) _) _
    simp only [Act.put, List.setIfInBounds_toArray, List.set_cons_zero, List.set_cons_succ]
    refine wpAnyH_ready (rs := [4]) (by kernel_rfl) (by simp) ?_
    refine AllReadyH.cons (o := _) rfl (fun K hK => ?_) AllReadyH.nil
    go_simp
    refine (dcmp_is hKK (hT.heap (by rfl)) (N3.heap (by rfl)) (N1.heap (by rfl)) O3.out O1.out HZ.out).mono ?_
    rintro en w' ⟨rfl, b⟩
    replace BB := below_next BB BB.size b (by rfl) (by rfl) (by rfl) (by rfl)
    have G := mv b (by rfl) <| And.intro a10 <| And.intro a11 <| And.intro a12 <| And.intro hT <| And.intro N1 <| And.intro N3 <| And.intro a30 <| And.intro a31 <| And.intro a32 <| And.intro N4 <| And.intro a40 <| And.intro a41 <| And.intro a42 <| And.intro N5 <| And.intro a50 <| And.intro a51 <| And.intro a52 <| And.intro N7 <| And.intro a70 <| And.intro a71 <| a72
    clear b a10 a11 a12 hT N1 N3 a30 a31 a32 N4 a40 a41 a42 N5 a50 a51 a52 N7 a70 a71 a72
    obtain ⟨a10, a11, a12, hT, N1, N3, a30, a31, a32, N4, a40, a41, a42, N5, a50, a51, a52, N7, a70, a71, a72⟩ := G
    refine hK.out _ _ (by first | (dsimp only; go_keep) | go_keep) (fun hHeldf2 => ?_)
    clear hK K hHeldf1
    try simp only [Act.put]
    refine wpAnyH_take (i := 5) (v := ?fv5) rfl (by kernel_rfl) (by kernel_rfl) (by kernel_rfl) (fun _ _ _ h => panic_put (P := Tryd.prog) (fn := Tryd.f12) (R := fun en w' => ToldEnd w en w') h) (Or.inl ⟨by rfl, ?fy5⟩) (by assumption) ?_
    case fy5 => (intro w hSw; (try dsimp only at hSw); go_simp; (try simp only [db1, db3, db4])); try with_reducible rfl
    change wpAnyH _ _ _ _ _ _ _ (Act.put _ (some 65) _) _
    simp only [Act.put, List.setIfInBounds_toArray, List.set_cons_zero, List.set_cons_succ]
    refine wpAnyH_take (i := 6) (v := ?fv6) rfl (by kernel_rfl) (by kernel_rfl) (by kernel_rfl) (fun _ _ _ h => panic_put (P := Tryd.prog) (fn := Tryd.f12) (R := fun en w' => ToldEnd w en w') h) (Or.inl ⟨by rfl, ?fy6⟩) (by assumption) ?_
    case fy6 => (intro w hSw; (try dsimp only at hSw); go_simp); try with_reducible rfl
    change wpAnyH _ _ _ _ _ _ _ (Act.put _ (some 66) _) _
    simp only [Act.put, List.setIfInBounds_toArray, List.set_cons_zero, List.set_cons_succ]
    refine wpAnyH_take (i := 7) (v := ?fv7) rfl (by kernel_rfl) (by kernel_rfl) (by kernel_rfl) (fun _ _ _ h => panic_put (P := Tryd.prog) (fn := Tryd.f12) (R := fun en w' => ToldEnd w en w') h) (Or.inl ⟨by rfl, ?fy7⟩) (by assumption) ?_
    case fy7 => (intro w hSw; (try dsimp only at hSw); go_simp); try with_reducible rfl
    change wpAnyH _ _ _ _ _ _ _ (Act.put _ (some 67) _) _
    simp only [Act.put, List.setIfInBounds_toArray, List.set_cons_zero, List.set_cons_succ]
    refine wpAnyH_take (i := 8) (v := ?fv8) rfl (by kernel_rfl) (by kernel_rfl) (by kernel_rfl) (fun _ _ _ h => panic_put (P := Tryd.prog) (fn := Tryd.f12) (R := fun en w' => ToldEnd w en w') h) (Or.inl ⟨by rfl, ?fy8⟩) (by assumption) ?_
    case fy8 => (intro w hSw; (try dsimp only at hSw); go_simp); try with_reducible rfl
    change wpAnyH _ _ _ _ _ _ _ (Act.put _ (some 68) _) _
    simp only [Act.put, List.setIfInBounds_toArray, List.set_cons_zero, List.set_cons_succ]
    refine wpAnyH_take (i := 9) (v := ?fv9) rfl (by kernel_rfl) (by kernel_rfl) (by kernel_rfl) (fun _ _ _ h => panic_put (P := Tryd.prog) (fn := Tryd.f12) (R := fun en w' => ToldEnd w en w') h) (Or.inl ⟨by rfl, ?fy9⟩) (by assumption) ?_
    case fy9 => (intro w hSw; (try dsimp only at hSw); go_simp); try with_reducible rfl
    change wpAnyH _ _ _ _ _ _ _ (Act.put _ (some 69) _) _
    simp only [Act.put, List.setIfInBounds_toArray, List.set_cons_zero, List.set_cons_succ]
    refine wpAnyH_ready (rs := [10]) (by kernel_rfl) (by simp) ?_
    refine AllReadyH.cons (o := _) rfl (fun K hK => ?_) AllReadyH.nil
    go_simp
    refine (dcmp_is hKK (hT.heap (by rfl)) (N1.heap (by rfl)) (N4.heap (by rfl)) O1.out O4.out HZ.out).mono ?_
    rintro en w' ⟨rfl, b⟩
    replace BB := below_next BB BB.size b (by rfl) (by rfl) (by rfl) (by rfl)
    have G := mv b (by rfl) <| And.intro a10 <| And.intro a11 <| And.intro a12 <| And.intro hT <| And.intro N1 <| And.intro N3 <| And.intro a30 <| And.intro a31 <| And.intro a32 <| And.intro N4 <| And.intro a40 <| And.intro a41 <| And.intro a42 <| And.intro N5 <| And.intro a50 <| And.intro a51 <| And.intro a52 <| And.intro N7 <| And.intro a70 <| And.intro a71 <| a72
    clear b a10 a11 a12 hT N1 N3 a30 a31 a32 N4 a40 a41 a42 N5 a50 a51 a52 N7 a70 a71 a72
    obtain ⟨a10, a11, a12, hT, N1, N3, a30, a31, a32, N4, a40, a41, a42, N5, a50, a51, a52, N7, a70, a71, a72⟩ := G
    refine hK.out _ _ (by first | (dsimp only; go_keep) | go_keep) (fun hHeldf3 => ?_)
    clear hK K hHeldf2
    try simp only [Act.put]
    refine wpAnyH_take (i := 11) (v := ?fv11) rfl (by kernel_rfl) (by kernel_rfl) (by kernel_rfl) (fun _ _ _ h => panic_put (P := Tryd.prog) (fn := Tryd.f12) (R := fun en w' => ToldEnd w en w') h) (Or.inl ⟨by rfl, ?fy11⟩) (by assumption) ?_
    case fy11 => (intro w hSw; (try dsimp only at hSw); go_simp; (try simp only [db1, db3, db4])); try with_reducible rfl
    change wpAnyH _ _ _ _ _ _ _ (Act.put _ (some 71) _) _
    simp only [Act.put, List.setIfInBounds_toArray, List.set_cons_zero, List.set_cons_succ]
    refine wpAnyH_take (i := 12) (v := ?fv12) rfl (by kernel_rfl) (by kernel_rfl) (by kernel_rfl) (fun _ _ _ h => panic_put (P := Tryd.prog) (fn := Tryd.f12) (R := fun en w' => ToldEnd w en w') h) (Or.inl ⟨by rfl, ?fy12⟩) (by assumption) ?_
    case fy12 => (intro w hSw; (try dsimp only at hSw); go_simp); try with_reducible rfl
    change wpAnyH _ _ _ _ _ _ _ (Act.put _ (some 72) _) _
    simp only [Act.put, List.setIfInBounds_toArray, List.set_cons_zero, List.set_cons_succ]
    refine wpAnyH_take (i := 13) (v := ?fv13) rfl (by kernel_rfl) (by kernel_rfl) (by kernel_rfl) (fun _ _ _ h => panic_put (P := Tryd.prog) (fn := Tryd.f12) (R := fun en w' => ToldEnd w en w') h) (Or.inl ⟨by rfl, ?fy13⟩) (by assumption) ?_
    case fy13 => (intro w hSw; (try dsimp only at hSw); go_simp); try with_reducible rfl
    change wpAnyH _ _ _ _ _ _ _ (Act.put _ (some 73) _) _
    simp only [Act.put, List.setIfInBounds_toArray, List.set_cons_zero, List.set_cons_succ]
    refine wpAnyH_take (i := 14) (v := ?fv14) rfl (by kernel_rfl) (by kernel_rfl) (by kernel_rfl) (fun _ _ _ h => panic_put (P := Tryd.prog) (fn := Tryd.f12) (R := fun en w' => ToldEnd w en w') h) (Or.inl ⟨by rfl, ?fy14⟩) (by assumption) ?_
    case fy14 => (intro w hSw; (try dsimp only at hSw); go_simp); try with_reducible rfl
    change wpAnyH _ _ _ _ _ _ _ (Act.put _ (some 74) _) _
    simp only [Act.put, List.setIfInBounds_toArray, List.set_cons_zero, List.set_cons_succ]
    refine wpAnyH_take (i := 15) (v := ?fv15) rfl (by kernel_rfl) (by kernel_rfl) (by kernel_rfl) (fun _ _ _ h => panic_put (P := Tryd.prog) (fn := Tryd.f12) (R := fun en w' => ToldEnd w en w') h) (Or.inl ⟨by rfl, ?fy15⟩) (by assumption) ?_
    case fy15 => (intro w hSw; (try dsimp only at hSw); go_simp); try with_reducible rfl
    change wpAnyH _ _ _ _ _ _ _ (Act.put _ (some 75) _) _
    simp only [Act.put, List.setIfInBounds_toArray, List.set_cons_zero, List.set_cons_succ]
    refine wpAnyH_take (i := 17) (v := ?fv17) rfl (by kernel_rfl) (by kernel_rfl) (by kernel_rfl) (fun _ _ _ h => panic_put (P := Tryd.prog) (fn := Tryd.f12) (R := fun en w' => ToldEnd w en w') h) (Or.inl ⟨by rfl, ?fy17⟩) (by assumption) ?_
    case fy17 => (intro w hSw; (try dsimp only at hSw); go_simp); try with_reducible rfl
    change wpAnyH _ _ _ _ _ _ _ (Act.put _ (some 77) _) _
    simp only [Act.put, List.setIfInBounds_toArray, List.set_cons_zero, List.set_cons_succ]
    refine wpAnyH_take (i := 19) (v := ?fv19) rfl (by kernel_rfl) (by kernel_rfl) (by kernel_rfl) (fun _ _ _ h => panic_put (P := Tryd.prog) (fn := Tryd.f12) (R := fun en w' => ToldEnd w en w') h) (Or.inl ⟨by rfl, ?fy19⟩) (by assumption) ?_
    case fy19 => (intro w hSw; (try dsimp only at hSw); go_simp); try with_reducible rfl
    change wpAnyH _ _ _ _ _ _ _ (Act.put _ (some 79) _) _
    simp only [Act.put, List.setIfInBounds_toArray, List.set_cons_zero, List.set_cons_succ]
    refine wpAnyH_ready (rs := [16]) (by kernel_rfl) (by simp) ?_
    refine AllReadyH.cons (o := _) rfl (fun K hK => ?_) AllReadyH.nil
    go_simp
    refine (dsame_self (s := s1) (e := e1) (N3.heap (by rfl)) (N4.heap (by rfl))).mono ?_
    rintro en w' ⟨rfl, b⟩
    replace BB := below_next BB BB.size b (by rfl) (by rfl) (by rfl) (by rfl)
    have G := mv b (by rfl) <| And.intro a10 <| And.intro a11 <| And.intro a12 <| And.intro hT <| And.intro N1 <| And.intro N3 <| And.intro a30 <| And.intro a31 <| And.intro a32 <| And.intro N4 <| And.intro a40 <| And.intro a41 <| And.intro a42 <| And.intro N5 <| And.intro a50 <| And.intro a51 <| And.intro a52 <| And.intro N7 <| And.intro a70 <| And.intro a71 <| a72
    clear b a10 a11 a12 hT N1 N3 a30 a31 a32 N4 a40 a41 a42 N5 a50 a51 a52 N7 a70 a71 a72
    obtain ⟨a10, a11, a12, hT, N1, N3, a30, a31, a32, N4, a40, a41, a42, N5, a50, a51, a52, N7, a70, a71, a72⟩ := G
    refine hK.out _ _ (by first | (dsimp only; go_keep) | go_keep) (fun hHeldf4 => ?_)
    clear hK K hHeldf3
    try simp only [Act.put]
    refine wpAnyH_ready (rs := [18]) (by kernel_rfl) (by simp) ?_
    refine AllReadyH.cons (o := _) rfl (fun K hK => ?_) AllReadyH.nil
    go_simp
    refine (bits_ok (hT.heap (by rfl)) (N1.heap (by rfl)) O1.out).mono ?_
    rintro en w' ⟨rfl, b⟩
    clear N1
    replace BB := below_next BB BB.size b (by rfl) (by rfl) (by rfl) (by rfl)
    have G := mv b (by rfl) <| And.intro a10 <| And.intro a11 <| And.intro a12 <| And.intro hT <| And.intro N3 <| And.intro a30 <| And.intro a31 <| And.intro a32 <| And.intro N4 <| And.intro a40 <| And.intro a41 <| And.intro a42 <| And.intro N5 <| And.intro a50 <| And.intro a51 <| And.intro a52 <| And.intro N7 <| And.intro a70 <| And.intro a71 <| a72
    clear b a10 a11 a12 hT N3 a30 a31 a32 N4 a40 a41 a42 N5 a50 a51 a52 N7 a70 a71 a72
    obtain ⟨a10, a11, a12, hT, N3, a30, a31, a32, N4, a40, a41, a42, N5, a50, a51, a52, N7, a70, a71, a72⟩ := G
    refine hK.out _ _ (by first | (dsimp only; go_keep) | go_keep) (fun hHeldf5 => ?_)
    clear hK K hHeldf4
    try simp only [Act.put]
    refine wpAnyH_take (i := 20) (v := ?fv20) rfl (by kernel_rfl) (by kernel_rfl) (by kernel_rfl) (fun _ _ _ h => panic_put (P := Tryd.prog) (fn := Tryd.f12) (R := fun en w' => ToldEnd w en w') h) (Or.inl ⟨by rfl, ?fy20⟩) (by assumption) ?_
    case fy20 => (intro w hSw; (try dsimp only at hSw); go_simp; (try simp only [db1, db3, db4])); try with_reducible rfl
    change wpAnyH _ _ _ _ _ _ _ (Act.put _ (some 80) _) _
    simp only [Act.put, List.setIfInBounds_toArray, List.set_cons_zero, List.set_cons_succ]
    refine wpAnyH_take (i := 21) (v := ?fv21) rfl (by kernel_rfl) (by kernel_rfl) (by kernel_rfl) (fun _ _ _ h => panic_put (P := Tryd.prog) (fn := Tryd.f12) (R := fun en w' => ToldEnd w en w') h) (Or.inl ⟨by rfl, ?fy21⟩) (by assumption) ?_
    case fy21 => (intro w hSw; (try dsimp only at hSw); go_simp; (try simp only [db1, db3, db4])); try with_reducible rfl
    change wpAnyH _ _ _ _ _ _ _ (Act.put _ (some 81) _) _
    simp only [Act.put, List.setIfInBounds_toArray, List.set_cons_zero, List.set_cons_succ]
    refine wpAnyH_take (i := 22) (v := ?fv22) rfl (by kernel_rfl) (by kernel_rfl) (by kernel_rfl) (fun _ _ _ h => panic_put (P := Tryd.prog) (fn := Tryd.f12) (R := fun en w' => ToldEnd w en w') h) (Or.inl ⟨by rfl, ?fy22⟩) (by assumption) ?_
    case fy22 => (intro w hSw; (try dsimp only at hSw); go_simp); try with_reducible rfl
    change wpAnyH _ _ _ _ _ _ _ (Act.put _ (some 82) _) _
    simp only [Act.put, List.setIfInBounds_toArray, List.set_cons_zero, List.set_cons_succ]
    refine wpAnyH_take (i := 23) (v := ?fv23) rfl (by kernel_rfl) (by kernel_rfl) (by kernel_rfl) (fun _ _ _ h => panic_put (P := Tryd.prog) (fn := Tryd.f12) (R := fun en w' => ToldEnd w en w') h) (Or.inl ⟨by rfl, ?fy23⟩) (by assumption) ?_
    case fy23 => (intro w hSw; (try dsimp only at hSw); go_simp); try with_reducible rfl
    change wpAnyH _ _ _ _ _ _ _ (Act.put _ (some 83) _) _
    simp only [Act.put, List.setIfInBounds_toArray, List.set_cons_zero, List.set_cons_succ]
    refine wpAnyH_take (i := 24) (v := ?fv24) rfl (by kernel_rfl) (by kernel_rfl) (by kernel_rfl) (fun _ _ _ h => panic_put (P := Tryd.prog) (fn := Tryd.f12) (R := fun en w' => ToldEnd w en w') h) (Or.inl ⟨by rfl, ?fy24⟩) (by assumption) ?_
    case fy24 => (intro w hSw; (try dsimp only at hSw); go_simp); try with_reducible rfl
    change wpAnyH _ _ _ _ _ _ _ (Act.put _ (some 84) _) _
    simp only [Act.put, List.setIfInBounds_toArray, List.set_cons_zero, List.set_cons_succ]
    refine wpAnyH_take (i := 26) (v := ?fv26) rfl (by kernel_rfl) (by kernel_rfl) (by kernel_rfl) (fun _ _ _ h => panic_put (P := Tryd.prog) (fn := Tryd.f12) (R := fun en w' => ToldEnd w en w') h) (Or.inl ⟨by rfl, ?fy26⟩) (by assumption) ?_
    case fy26 => (intro w hSw; (try dsimp only at hSw); go_simp); try with_reducible rfl
    change wpAnyH _ _ _ _ _ _ _ (Act.put _ (some 86) _) _
    simp only [Act.put, List.setIfInBounds_toArray, List.set_cons_zero, List.set_cons_succ]
    refine wpAnyH_ready (rs := [25]) (by kernel_rfl) (by simp) ?_
    refine AllReadyH.cons (o := _) rfl (fun K hK => ?_) AllReadyH.nil
    go_simp
    refine (bits_ok (hT.heap (by rfl)) (N3.heap (by rfl)) O3.out).mono ?_
    rintro en w' ⟨rfl, b⟩
    replace BB := below_next BB BB.size b (by rfl) (by rfl) (by rfl) (by rfl)
    have G := mv b (by rfl) <| And.intro a10 <| And.intro a11 <| And.intro a12 <| And.intro hT <| And.intro N3 <| And.intro a30 <| And.intro a31 <| And.intro a32 <| And.intro N4 <| And.intro a40 <| And.intro a41 <| And.intro a42 <| And.intro N5 <| And.intro a50 <| And.intro a51 <| And.intro a52 <| And.intro N7 <| And.intro a70 <| And.intro a71 <| a72
    clear b a10 a11 a12 hT N3 a30 a31 a32 N4 a40 a41 a42 N5 a50 a51 a52 N7 a70 a71 a72
    obtain ⟨a10, a11, a12, hT, N3, a30, a31, a32, N4, a40, a41, a42, N5, a50, a51, a52, N7, a70, a71, a72⟩ := G
    refine hK.out _ _ (by first | (dsimp only; go_keep) | go_keep) (fun hHeldf6 => ?_)
    clear hK K hHeldf5
    try simp only [Act.put]
    refine wpAnyH_take (i := 27) (v := ?fv27) rfl (by kernel_rfl) (by kernel_rfl) (by kernel_rfl) (fun _ _ _ h => panic_put (P := Tryd.prog) (fn := Tryd.f12) (R := fun en w' => ToldEnd w en w') h) (Or.inl ⟨by rfl, ?fy27⟩) (by assumption) ?_
    case fy27 => (intro w hSw; (try dsimp only at hSw); go_simp; (try simp only [db1, db3, db4])); try with_reducible rfl
    change wpAnyH _ _ _ _ _ _ _ (Act.put _ (some 87) _) _
    simp only [Act.put, List.setIfInBounds_toArray, List.set_cons_zero, List.set_cons_succ]
    refine wpAnyH_take (i := 28) (v := ?fv28) rfl (by kernel_rfl) (by kernel_rfl) (by kernel_rfl) (fun _ _ _ h => panic_put (P := Tryd.prog) (fn := Tryd.f12) (R := fun en w' => ToldEnd w en w') h) (Or.inl ⟨by rfl, ?fy28⟩) (by assumption) ?_
    case fy28 => (intro w hSw; (try dsimp only at hSw); go_simp); try with_reducible rfl
    change wpAnyH _ _ _ _ _ _ _ (Act.put _ (some 88) _) _
    simp only [Act.put, List.setIfInBounds_toArray, List.set_cons_zero, List.set_cons_succ]
    refine wpAnyH_take (i := 29) (v := ?fv29) rfl (by kernel_rfl) (by kernel_rfl) (by kernel_rfl) (fun _ _ _ h => panic_put (P := Tryd.prog) (fn := Tryd.f12) (R := fun en w' => ToldEnd w en w') h) (Or.inl ⟨by rfl, ?fy29⟩) (by assumption) ?_
    case fy29 => (intro w hSw; (try dsimp only at hSw); go_simp); try with_reducible rfl
    change wpAnyH _ _ _ _ _ _ _ (Act.put _ (some 89) _) _
    simp only [Act.put, List.setIfInBounds_toArray, List.set_cons_zero, List.set_cons_succ]
    refine wpAnyH_take (i := 30) (v := ?fv30) rfl (by kernel_rfl) (by kernel_rfl) (by kernel_rfl) (fun _ _ _ h => panic_put (P := Tryd.prog) (fn := Tryd.f12) (R := fun en w' => ToldEnd w en w') h) (Or.inl ⟨by rfl, ?fy30⟩) (by assumption) ?_
    case fy30 => (intro w hSw; (try dsimp only at hSw); go_simp); try with_reducible rfl
    change wpAnyH _ _ _ _ _ _ _ (Act.put _ (some 90) _) _
    simp only [Act.put, List.setIfInBounds_toArray, List.set_cons_zero, List.set_cons_succ]
    refine wpAnyH_take (i := 32) (v := ?fv32) rfl (by kernel_rfl) (by kernel_rfl) (by kernel_rfl) (fun _ _ _ h => panic_put (P := Tryd.prog) (fn := Tryd.f12) (R := fun en w' => ToldEnd w en w') h) (Or.inl ⟨by rfl, ?fy32⟩) (by assumption) ?_
    case fy32 => (intro w hSw; (try dsimp only at hSw); go_simp); try with_reducible rfl
    change wpAnyH _ _ _ _ _ _ _ (Act.put _ (some 92) _) _
    simp only [Act.put, List.setIfInBounds_toArray, List.set_cons_zero, List.set_cons_succ]
    refine wpAnyH_ready (rs := [31]) (by kernel_rfl) (by simp) ?_
    refine AllReadyH.cons (o := _) rfl (fun K hK => ?_) AllReadyH.nil
    go_simp
    refine (bits_ok (hT.heap (by rfl)) (N4.heap (by rfl)) O4.out).mono ?_
    rintro en w' ⟨rfl, b⟩
    replace BB := below_next BB BB.size b (by rfl) (by rfl) (by rfl) (by rfl)
    have G := mv b (by rfl) <| And.intro a10 <| And.intro a11 <| And.intro a12 <| And.intro hT <| And.intro N3 <| And.intro a30 <| And.intro a31 <| And.intro a32 <| And.intro N4 <| And.intro a40 <| And.intro a41 <| And.intro a42 <| And.intro N5 <| And.intro a50 <| And.intro a51 <| And.intro a52 <| And.intro N7 <| And.intro a70 <| And.intro a71 <| a72
    clear b a10 a11 a12 hT N3 a30 a31 a32 N4 a40 a41 a42 N5 a50 a51 a52 N7 a70 a71 a72
    obtain ⟨a10, a11, a12, hT, N3, a30, a31, a32, N4, a40, a41, a42, N5, a50, a51, a52, N7, a70, a71, a72⟩ := G
    refine hK.out _ _ (by first | (dsimp only; go_keep) | go_keep) (fun hHeldf7 => ?_)
    clear hK K hHeldf6
    try simp only [Act.put]
    refine wpAnyH_take (i := 33) (v := ?fv33) rfl (by kernel_rfl) (by kernel_rfl) (by kernel_rfl) (fun _ _ _ h => panic_put (P := Tryd.prog) (fn := Tryd.f12) (R := fun en w' => ToldEnd w en w') h) (Or.inl ⟨by rfl, ?fy33⟩) (by assumption) ?_
    case fy33 => (intro w hSw; (try dsimp only at hSw); go_simp; (try simp only [db1, db3, db4])); try with_reducible rfl
    change wpAnyH _ _ _ _ _ _ _ (Act.put _ (some 93) _) _
    simp only [Act.put, List.setIfInBounds_toArray, List.set_cons_zero, List.set_cons_succ]
    refine wpAnyH_take (i := 34) (v := ?fv34) rfl (by kernel_rfl) (by kernel_rfl) (by kernel_rfl) (fun _ _ _ h => panic_put (P := Tryd.prog) (fn := Tryd.f12) (R := fun en w' => ToldEnd w en w') h) (Or.inl ⟨by rfl, ?fy34⟩) (by assumption) ?_
    case fy34 => (intro w hSw; (try dsimp only at hSw); go_simp); try with_reducible rfl
    change wpAnyH _ _ _ _ _ _ _ (Act.put _ (some 94) _) _
    simp only [Act.put, List.setIfInBounds_toArray, List.set_cons_zero, List.set_cons_succ]
    refine wpAnyH_take (i := 35) (v := ?fv35) rfl (by kernel_rfl) (by kernel_rfl) (by kernel_rfl) (fun _ _ _ h => panic_put (P := Tryd.prog) (fn := Tryd.f12) (R := fun en w' => ToldEnd w en w') h) (Or.inl ⟨by rfl, ?fy35⟩) (by assumption) ?_
    case fy35 => (intro w hSw; (try dsimp only at hSw); go_simp); try with_reducible rfl
    change wpAnyH _ _ _ _ _ _ _ (Act.put _ (some 95) _) _
    simp only [Act.put, List.setIfInBounds_toArray, List.set_cons_zero, List.set_cons_succ]
    refine wpAnyH_take (i := 36) (v := ?fv36) rfl (by kernel_rfl) (by kernel_rfl) (by kernel_rfl) (fun _ _ _ h => panic_put (P := Tryd.prog) (fn := Tryd.f12) (R := fun en w' => ToldEnd w en w') h) (Or.inl ⟨by rfl, ?fy36⟩) (by assumption) ?_
    case fy36 => (intro w hSw; (try dsimp only at hSw); go_simp); try with_reducible rfl
    change wpAnyH _ _ _ _ _ _ _ (Act.put _ (some 96) _) _
    simp only [Act.put, List.setIfInBounds_toArray, List.set_cons_zero, List.set_cons_succ]
    refine wpAnyH_take (i := 37) (v := ?fv37) rfl (by kernel_rfl) (by kernel_rfl) (by kernel_rfl) (fun _ _ _ h => panic_put (P := Tryd.prog) (fn := Tryd.f12) (R := fun en w' => ToldEnd w en w') h) (Or.inl ⟨by rfl, ?fy37⟩) (by assumption) ?_
    case fy37 => (intro w hSw; (try dsimp only at hSw); go_simp; (try simp only [db1, db3, db4])); try with_reducible rfl
    change wpAnyH _ _ _ _ _ _ _ (Act.put _ (some 97) _) _
    simp only [Act.put, List.setIfInBounds_toArray, List.set_cons_zero, List.set_cons_succ]
    refine wpAnyH_take (i := 38) (v := ?fv38) rfl (by kernel_rfl) (by kernel_rfl) (by kernel_rfl) (fun _ _ _ h => panic_put (P := Tryd.prog) (fn := Tryd.f12) (R := fun en w' => ToldEnd w en w') h) (Or.inl ⟨by rfl, ?fy38⟩) (by assumption) ?_
    case fy38 => (intro w hSw; (try dsimp only at hSw); go_simp); try with_reducible rfl
    change wpAnyH _ _ _ _ _ _ _ (Act.put _ (some 98) _) _
    simp only [Act.put, List.setIfInBounds_toArray, List.set_cons_zero, List.set_cons_succ]
    refine wpAnyH_take (i := 39) (v := ?fv39) rfl (by kernel_rfl) (by kernel_rfl) (by kernel_rfl) (fun _ _ _ h => panic_put (P := Tryd.prog) (fn := Tryd.f12) (R := fun en w' => ToldEnd w en w') h) (Or.inl ⟨by rfl, ?fy39⟩) (by assumption) ?_
    case fy39 => (intro w hSw; (try dsimp only at hSw); go_simp); try with_reducible rfl
    change wpAnyH _ _ _ _ _ _ _ (Act.put _ (some 99) _) _
    simp only [Act.put, List.setIfInBounds_toArray, List.set_cons_zero, List.set_cons_succ]
    refine wpAnyH_take (i := 40) (v := ?fv40) rfl (by kernel_rfl) (by kernel_rfl) (by kernel_rfl) (fun _ _ _ h => panic_put (P := Tryd.prog) (fn := Tryd.f12) (R := fun en w' => ToldEnd w en w') h) (Or.inl ⟨by rfl, ?fy40⟩) (by assumption) ?_
    case fy40 => (intro w hSw; (try dsimp only at hSw); go_simp); try with_reducible rfl
    change wpAnyH _ _ _ _ _ _ _ (Act.put _ (some 100) _) _
    simp only [Act.put, List.setIfInBounds_toArray, List.set_cons_zero, List.set_cons_succ]
    refine wpAnyH_take (i := 41) (v := ?fv41) rfl (by kernel_rfl) (by kernel_rfl) (by kernel_rfl) (fun _ _ _ h => panic_put (P := Tryd.prog) (fn := Tryd.f12) (R := fun en w' => ToldEnd w en w') h) (Or.inl ⟨by rfl, ?fy41⟩) (by assumption) ?_
    case fy41 => (intro w hSw; (try dsimp only at hSw); go_simp); try with_reducible rfl
    change wpAnyH _ _ _ _ _ _ _ (Act.put _ (some 101) _) _
    simp only [Act.put, List.setIfInBounds_toArray, List.set_cons_zero, List.set_cons_succ]
    refine wpAnyH_ready (rs := [42]) (by kernel_rfl) (by simp) ?_
    refine AllReadyH.cons (o := _) rfl (fun K hK => ?_) AllReadyH.nil
    go_simp
    refine (dsame_self (s := s1) (e := e1) (N5.heap (by rfl)) (N3.heap (by rfl))).mono ?_
    rintro en w' ⟨rfl, b⟩
    clear N5 N3
    replace BB := below_next BB BB.size b (by rfl) (by rfl) (by rfl) (by rfl)
    have G := mv b (by rfl) <| And.intro a10 <| And.intro a11 <| And.intro a12 <| And.intro hT <| And.intro a30 <| And.intro a31 <| And.intro a32 <| And.intro N4 <| And.intro a40 <| And.intro a41 <| And.intro a42 <| And.intro a50 <| And.intro a51 <| And.intro a52 <| And.intro N7 <| And.intro a70 <| And.intro a71 <| a72
    clear b a10 a11 a12 hT a30 a31 a32 N4 a40 a41 a42 a50 a51 a52 N7 a70 a71 a72
    obtain ⟨a10, a11, a12, hT, a30, a31, a32, N4, a40, a41, a42, a50, a51, a52, N7, a70, a71, a72⟩ := G
    refine hK.out _ _ (by first | (dsimp only; go_keep) | go_keep) (fun hHeldf8 => ?_)
    clear hK K hHeldf7
    try simp only [Act.put]
    refine wpAnyH_take (i := 43) (v := ?fv43) rfl (by kernel_rfl) (by kernel_rfl) (by kernel_rfl) (fun _ _ _ h => panic_put (P := Tryd.prog) (fn := Tryd.f12) (R := fun en w' => ToldEnd w en w') h) (Or.inl ⟨by rfl, ?fy43⟩) (by assumption) ?_
    case fy43 => (intro w hSw; (try dsimp only at hSw); go_simp); try with_reducible rfl
    change wpAnyH _ _ _ _ _ _ _ (Act.put _ (some 103) _) _
    simp only [Act.put, List.setIfInBounds_toArray, List.set_cons_zero, List.set_cons_succ]
    refine wpAnyH_take (i := 44) (v := ?fv44) rfl (by kernel_rfl) (by kernel_rfl) (by kernel_rfl) (fun _ _ _ h => panic_put (P := Tryd.prog) (fn := Tryd.f12) (R := fun en w' => ToldEnd w en w') h) (Or.inl ⟨by rfl, ?fy44⟩) (by assumption) ?_
    case fy44 => (intro w hSw; (try dsimp only at hSw); go_simp); try with_reducible rfl
    change wpAnyH _ _ _ _ _ _ _ (Act.put _ (some 104) _) _
    simp only [Act.put, List.setIfInBounds_toArray, List.set_cons_zero, List.set_cons_succ]
    refine wpAnyH_take (i := 45) (v := ?fv45) rfl (by kernel_rfl) (by kernel_rfl) (by kernel_rfl) (fun _ _ _ h => panic_put (P := Tryd.prog) (fn := Tryd.f12) (R := fun en w' => ToldEnd w en w') h) (Or.inl ⟨by rfl, ?fy45⟩) (by assumption) ?_
    case fy45 => (intro w hSw; (try dsimp only at hSw); go_simp); try with_reducible rfl
    change wpAnyH _ _ _ _ _ _ _ (Act.put _ (some 105) _) _
    simp only [Act.put, List.setIfInBounds_toArray, List.set_cons_zero, List.set_cons_succ]
    refine wpAnyH_take (i := 46) (v := ?fv46) rfl (by kernel_rfl) (by kernel_rfl) (by kernel_rfl) (fun _ _ _ h => panic_put (P := Tryd.prog) (fn := Tryd.f12) (R := fun en w' => ToldEnd w en w') h) (Or.inl ⟨by rfl, ?fy46⟩) (by assumption) ?_
    case fy46 => (intro w hSw; (try dsimp only at hSw); go_simp; (try simp only [db1, db3, db4])); try with_reducible rfl
    change wpAnyH _ _ _ _ _ _ _ (Act.put _ (some 106) _) _
    simp only [Act.put, List.setIfInBounds_toArray, List.set_cons_zero, List.set_cons_succ]
    refine wpAnyH_take (i := 47) (v := ?fv47) rfl (by kernel_rfl) (by kernel_rfl) (by kernel_rfl) (fun _ _ _ h => panic_put (P := Tryd.prog) (fn := Tryd.f12) (R := fun en w' => ToldEnd w en w') h) (Or.inl ⟨by rfl, ?fy47⟩) (by assumption) ?_
    case fy47 => (intro w hSw; (try dsimp only at hSw); go_simp); try with_reducible rfl
    change wpAnyH _ _ _ _ _ _ _ (Act.put _ (some 107) _) _
    simp only [Act.put, List.setIfInBounds_toArray, List.set_cons_zero, List.set_cons_succ]
    refine wpAnyH_take (i := 48) (v := ?fv48) rfl (by kernel_rfl) (by kernel_rfl) (by kernel_rfl) (fun _ _ _ h => panic_put (P := Tryd.prog) (fn := Tryd.f12) (R := fun en w' => ToldEnd w en w') h) (Or.inl ⟨by rfl, ?fy48⟩) (by assumption) ?_
    case fy48 => (intro w hSw; (try dsimp only at hSw); go_simp); try with_reducible rfl
    change wpAnyH _ _ _ _ _ _ _ (Act.put _ (some 108) _) _
    simp only [Act.put, List.setIfInBounds_toArray, List.set_cons_zero, List.set_cons_succ]
    refine wpAnyH_take (i := 49) (v := ?fv49) rfl (by kernel_rfl) (by kernel_rfl) (by kernel_rfl) (fun _ _ _ h => panic_put (P := Tryd.prog) (fn := Tryd.f12) (R := fun en w' => ToldEnd w en w') h) (Or.inl ⟨by rfl, ?fy49⟩) (by assumption) ?_
    case fy49 => (intro w hSw; (try dsimp only at hSw); go_simp); try with_reducible rfl
    change wpAnyH _ _ _ _ _ _ _ (Act.put _ (some 109) _) _
    simp only [Act.put, List.setIfInBounds_toArray, List.set_cons_zero, List.set_cons_succ]
    refine wpAnyH_take (i := 50) (v := ?fv50) rfl (by kernel_rfl) (by kernel_rfl) (by kernel_rfl) (fun _ _ _ h => panic_put (P := Tryd.prog) (fn := Tryd.f12) (R := fun en w' => ToldEnd w en w') h) (Or.inl ⟨by rfl, ?fy50⟩) (by assumption) ?_
    case fy50 => (intro w hSw; (try dsimp only at hSw); go_simp); try with_reducible rfl
    change wpAnyH _ _ _ _ _ _ _ (Act.put _ (some 110) _) _
    simp only [Act.put, List.setIfInBounds_toArray, List.set_cons_zero, List.set_cons_succ]
    refine wpAnyH_ready (rs := [51]) (by kernel_rfl) (by simp) ?_
    refine AllReadyH.cons (o := _) rfl (fun K hK => ?_) AllReadyH.nil
    go_simp
    refine (dneg_to (hT.heap (by rfl)) (N4.heap (by rfl)) O4.out HS7.out).mono ?_
    rintro en w' ⟨A8, n8, c8, rfl, N8, b⟩
    replace BB := below_next BB BB.size b (by rfl) (by rfl) (by rfl) (by rfl)
    have G := mv b (by rfl) <| And.intro a10 <| And.intro a11 <| And.intro a12 <| And.intro hT <| And.intro a30 <| And.intro a31 <| And.intro a32 <| And.intro N4 <| And.intro a40 <| And.intro a41 <| And.intro a42 <| And.intro a50 <| And.intro a51 <| And.intro a52 <| And.intro N7 <| And.intro a70 <| And.intro a71 <| a72
    clear b a10 a11 a12 hT a30 a31 a32 N4 a40 a41 a42 a50 a51 a52 N7 a70 a71 a72
    obtain ⟨a10, a11, a12, hT, a30, a31, a32, N4, a40, a41, a42, a50, a51, a52, N7, a70, a71, a72⟩ := G
    refine hK.out _ _ (by first | (dsimp only; go_keep) | go_keep) (fun hHeldf9 => ?_)
    clear hK K hHeldf8
    try simp only [Act.put]
    refine wpAnyH_ready (rs := [52]) (by kernel_rfl) (by simp) ?_
    refine AllReadyH.cons (o := _) rfl (fun K hK => ?_) AllReadyH.nil
    go_simp
    refine (dsame_self (s := s7) (e := e1) (N7.heap (by rfl)) (N8.heap (by rfl))).mono ?_
    rintro en w' ⟨rfl, b⟩
    replace BB := below_next BB BB.size b (by rfl) (by rfl) (by rfl) (by rfl)
    have G := mv b (by rfl) <| And.intro a10 <| And.intro a11 <| And.intro a12 <| And.intro hT <| And.intro a30 <| And.intro a31 <| And.intro a32 <| And.intro N4 <| And.intro a40 <| And.intro a41 <| And.intro a42 <| And.intro a50 <| And.intro a51 <| And.intro a52 <| And.intro N7 <| And.intro a70 <| And.intro a71 <| And.intro a72 <| N8
    clear b a10 a11 a12 hT a30 a31 a32 N4 a40 a41 a42 a50 a51 a52 N7 a70 a71 a72 N8
    obtain ⟨a10, a11, a12, hT, a30, a31, a32, N4, a40, a41, a42, a50, a51, a52, N7, a70, a71, a72, N8⟩ := G
    refine hK.out _ _ (by first | (dsimp only; go_keep) | go_keep) (fun hHeldf10 => ?_)
    clear hK K hHeldf9
    try simp only [Act.put]
    refine wpAnyH_take (i := 53) (v := ?fv53) rfl (by kernel_rfl) (by kernel_rfl) (by kernel_rfl) (fun _ _ _ h => panic_put (P := Tryd.prog) (fn := Tryd.f12) (R := fun en w' => ToldEnd w en w') h) (Or.inl ⟨by rfl, ?fy53⟩) (by assumption) ?_
    case fy53 => (intro w hSw; (try dsimp only at hSw); go_simp); try with_reducible rfl
    change wpAnyH _ _ _ _ _ _ _ (Act.put _ (some 113) _) _
    simp only [Act.put, List.setIfInBounds_toArray, List.set_cons_zero, List.set_cons_succ]
    refine wpAnyH_take (i := 54) (v := ?fv54) rfl (by kernel_rfl) (by kernel_rfl) (by kernel_rfl) (fun _ _ _ h => panic_put (P := Tryd.prog) (fn := Tryd.f12) (R := fun en w' => ToldEnd w en w') h) (Or.inl ⟨by rfl, ?fy54⟩) (by assumption) ?_
    case fy54 => (intro w hSw; (try dsimp only at hSw); go_simp); try with_reducible rfl
    change wpAnyH _ _ _ _ _ _ _ (Act.put _ (some 4) _) _
    simp only [Act.put, List.setIfInBounds_toArray, List.set_cons_zero, List.set_cons_succ]
    refine wpAnyH_done (by kernel_rfl) ?_ _
    go_wp2
    go_ret
    exact ⟨by first | rfl | simp, BB⟩
  · have db1 : decide (blen m1 ≤ n) = false := decide_eq_false hb
    have db3 : decide (blen m5 ≤ n) = true := decide_eq_true (told_bits nlo P3.out)
    have db4 : decide (blen m4 ≤ n) = true := decide_eq_true (told_bits nlo P4.out)
    obtain ⟨y1, y2⟩ := told_strict hKK nlo O1.out hb P3.out P4.out
    have HZ3 : Hid (cmpV (vz KK s5 m5 e5) (vz KK s1 m1 e1) = -1) := Lib.hid (cmpV_lt y1)
    have HZ4 : Hid (cmpV (vz KK s1 m1 e1) (vz KK s4 m4 e4) = -1) := Lib.hid (cmpV_lt y2)
    have HNE : Hid (¬ (s5 = s4 ∧ m5 = m4 ∧ e5 = e4)) := Lib.hid (fun h => hb ((rd_equal nlo O1.out P3.out P4.out).1 h))
    clear y1 y2
    clear hb
    go_wp2_with fail
    refine wp_region_held_drew (S := fun w' => w'.cell? ⟨w.heap.size, 0, none⟩ = some (.bool s1) ∧ w'.cell? ⟨w.heap.size, 1, none⟩ = some (.slice A1 n1 c1) ∧ w'.cell? ⟨w.heap.size, 2, none⟩ = some (.int .i64 e1) ∧ w'.cell? ⟨v3.heap.size, 0, none⟩ = some (.bool s5) ∧ w'.cell? ⟨v3.heap.size, 1, none⟩ = some (.slice A3 n3 c3) ∧ w'.cell? ⟨v3.heap.size, 2, none⟩ = some (.int .i64 e5) ∧ w'.cell? ⟨v4.heap.size, 0, none⟩ = some (.bool s4) ∧ w'.cell? ⟨v4.heap.size, 1, none⟩ = some (.slice A4 n4 c4) ∧ w'.cell? ⟨v4.heap.size, 2, none⟩ = some (.int .i64 e4) ∧ w'.cell? ⟨v5.heap.size, 0, none⟩ = some (.bool s5) ∧ w'.cell? ⟨v5.heap.size, 1, none⟩ = some (.slice A5 n5 c5) ∧ w'.cell? ⟨v5.heap.size, 2, none⟩ = some (.int .i64 e5) ∧ w'.cell? ⟨v7.heap.size, 0, none⟩ = some (.bool s7) ∧ w'.cell? ⟨v7.heap.size, 1, none⟩ = some (.slice A7 n7 c7) ∧ w'.cell? ⟨v7.heap.size, 2, none⟩ = some (.int .i64 e4)) (by kernel_rfl) (by first | (dsimp only; go_keep) | go_keep) (fun hHeldg0 => ?_)
    clear uun uvn uwn uxn hrn
    refine wpAnyH_ready (rs := [0]) (by kernel_rfl) (by simp) ?_
    refine AllReadyH.cons (o := _) rfl (fun K hK => ?_) AllReadyH.nil
    go_simp
    refine (rtold_any (hT.heap (by rfl))).mono ?_
    rintro en w' ⟨rfl, b⟩
    replace BB := below_next BB BB.size b (by rfl) (by rfl) (by rfl) (by rfl)
    have G := mv b (by rfl) <| And.intro a10 <| And.intro a11 <| And.intro a12 <| And.intro hT <| And.intro N1 <| And.intro N3 <| And.intro a30 <| And.intro a31 <| And.intro a32 <| And.intro N4 <| And.intro a40 <| And.intro a41 <| And.intro a42 <| And.intro N5 <| And.intro a50 <| And.intro a51 <| And.intro a52 <| And.intro N7 <| And.intro a70 <| And.intro a71 <| a72
    clear b a10 a11 a12 hT N1 N3 a30 a31 a32 N4 a40 a41 a42 N5 a50 a51 a52 N7 a70 a71 a72
    obtain ⟨a10, a11, a12, hT, N1, N3, a30, a31, a32, N4, a40, a41, a42, N5, a50, a51, a52, N7, a70, a71, a72⟩ := G
    refine hK.out _ _ (by first | (dsimp only; go_keep) | go_keep) (fun hHeldg1 => ?_)
    clear hK K hHeldg0
    try simp only [Act.put]
    refine wpAnyH_take (i := 1) (v := ?gv1) rfl (by kernel_rfl) (by kernel_rfl) (by kernel_rfl) (fun _ _ _ h => panic_put (P := Tryd.prog) (fn := Tryd.f12) (R := fun en w' => ToldEnd w en w') h) (Or.inl ⟨by rfl, ?gy1⟩) (by assumption) ?_
    case gy1 => (intro w hSw; (try dsimp only at hSw); go_simp); try with_reducible rfl
    change wpAnyH _ _ _ _ _ _ _ (Act.put _ (some 61) _) _
    simp only [Act.put, List.setIfInBounds_toArray, List.set_cons_zero, List.set_cons_succ]
    refine wpAnyH_take (i := 2) (v := ?gv2) rfl (by kernel_rfl) (by kernel_rfl) (by kernel_rfl) (fun _ _ _ h => panic_put (P := Tryd.prog) (fn := Tryd.f12) (R := fun en w' => ToldEnd w en w') h) (Or.inl ⟨by rfl, ?gy2⟩) (by assumption) ?_
    case gy2 => (intro w hSw; (try dsimp only at hSw); go_simp); try with_reducible rfl
    change wpAnyH _ _ _ _ _ _ _ (Act.put _ (some 62) _) _
    simp only [Act.put, List.setIfInBounds_toArray, List.set_cons_zero, List.set_cons_succ]
    refine wpAnyH_take (i := 3) (v := ?gv3) rfl (by kernel_rfl) (by kernel_rfl) (by kernel_rfl) (fun _ _ _ h => panic_put (P := Tryd.prog) (fn := Tryd.f12) (R := fun en w' => ToldEnd w en w') h) (Or.inl ⟨by rfl, ?gy3⟩) (by assumption) ?_
    case gy3 => (intro w hSw; (try dsimp only at hSw); go_simp); try with_reducible rfl
    change wpAnyH _ _ _ _ _ _ _ (Act.put _ (some 63) _) _
    simp only [Act.put, List.setIfInBounds_toArray, List.set_cons_zero, List.set_cons_succ]
    refine wpAnyH_ready (rs := [4]) (by kernel_rfl) (by simp) ?_
    refine AllReadyH.cons (o := _) rfl (fun K hK => ?_) AllReadyH.nil
    go_simp
    refine (dcmp_is hKK (hT.heap (by rfl)) (N3.heap (by rfl)) (N1.heap (by rfl)) O3.out O1.out HZ3.out).mono ?_
    rintro en w' ⟨rfl, b⟩
    replace BB := below_next BB BB.size b (by rfl) (by rfl) (by rfl) (by rfl)
    have G := mv b (by rfl) <| And.intro a10 <| And.intro a11 <| And.intro a12 <| And.intro hT <| And.intro N1 <| And.intro N3 <| And.intro a30 <| And.intro a31 <| And.intro a32 <| And.intro N4 <| And.intro a40 <| And.intro a41 <| And.intro a42 <| And.intro N5 <| And.intro a50 <| And.intro a51 <| And.intro a52 <| And.intro N7 <| And.intro a70 <| And.intro a71 <| a72
    clear b a10 a11 a12 hT N1 N3 a30 a31 a32 N4 a40 a41 a42 N5 a50 a51 a52 N7 a70 a71 a72
    obtain ⟨a10, a11, a12, hT, N1, N3, a30, a31, a32, N4, a40, a41, a42, N5, a50, a51, a52, N7, a70, a71, a72⟩ := G
    refine hK.out _ _ (by first | (dsimp only; go_keep) | go_keep) (fun hHeldg2 => ?_)
    clear hK K hHeldg1
    try simp only [Act.put]
    refine wpAnyH_take (i := 5) (v := ?gv5) rfl (by kernel_rfl) (by kernel_rfl) (by kernel_rfl) (fun _ _ _ h => panic_put (P := Tryd.prog) (fn := Tryd.f12) (R := fun en w' => ToldEnd w en w') h) (Or.inl ⟨by rfl, ?gy5⟩) (by assumption) ?_
    case gy5 => (intro w hSw; (try dsimp only at hSw); go_simp; (try simp only [db1, db3, db4])); try with_reducible rfl
    change wpAnyH _ _ _ _ _ _ _ (Act.put _ (some 65) _) _
    simp only [Act.put, List.setIfInBounds_toArray, List.set_cons_zero, List.set_cons_succ]
    refine wpAnyH_take (i := 6) (v := ?gv6) rfl (by kernel_rfl) (by kernel_rfl) (by kernel_rfl) (fun _ _ _ h => panic_put (P := Tryd.prog) (fn := Tryd.f12) (R := fun en w' => ToldEnd w en w') h) (Or.inl ⟨by rfl, ?gy6⟩) (by assumption) ?_
    case gy6 => (intro w hSw; (try dsimp only at hSw); go_simp); try with_reducible rfl
    change wpAnyH _ _ _ _ _ _ _ (Act.put _ (some 66) _) _
    simp only [Act.put, List.setIfInBounds_toArray, List.set_cons_zero, List.set_cons_succ]
    refine wpAnyH_take (i := 7) (v := ?gv7) rfl (by kernel_rfl) (by kernel_rfl) (by kernel_rfl) (fun _ _ _ h => panic_put (P := Tryd.prog) (fn := Tryd.f12) (R := fun en w' => ToldEnd w en w') h) (Or.inl ⟨by rfl, ?gy7⟩) (by assumption) ?_
    case gy7 => (intro w hSw; (try dsimp only at hSw); go_simp); try with_reducible rfl
    change wpAnyH _ _ _ _ _ _ _ (Act.put _ (some 67) _) _
    simp only [Act.put, List.setIfInBounds_toArray, List.set_cons_zero, List.set_cons_succ]
    refine wpAnyH_take (i := 8) (v := ?gv8) rfl (by kernel_rfl) (by kernel_rfl) (by kernel_rfl) (fun _ _ _ h => panic_put (P := Tryd.prog) (fn := Tryd.f12) (R := fun en w' => ToldEnd w en w') h) (Or.inl ⟨by rfl, ?gy8⟩) (by assumption) ?_
    case gy8 => (intro w hSw; (try dsimp only at hSw); go_simp); try with_reducible rfl
    change wpAnyH _ _ _ _ _ _ _ (Act.put _ (some 68) _) _
    simp only [Act.put, List.setIfInBounds_toArray, List.set_cons_zero, List.set_cons_succ]
    refine wpAnyH_take (i := 9) (v := ?gv9) rfl (by kernel_rfl) (by kernel_rfl) (by kernel_rfl) (fun _ _ _ h => panic_put (P := Tryd.prog) (fn := Tryd.f12) (R := fun en w' => ToldEnd w en w') h) (Or.inl ⟨by rfl, ?gy9⟩) (by assumption) ?_
    case gy9 => (intro w hSw; (try dsimp only at hSw); go_simp); try with_reducible rfl
    change wpAnyH _ _ _ _ _ _ _ (Act.put _ (some 69) _) _
    simp only [Act.put, List.setIfInBounds_toArray, List.set_cons_zero, List.set_cons_succ]
    refine wpAnyH_ready (rs := [10]) (by kernel_rfl) (by simp) ?_
    refine AllReadyH.cons (o := _) rfl (fun K hK => ?_) AllReadyH.nil
    go_simp
    refine (dcmp_is hKK (hT.heap (by rfl)) (N1.heap (by rfl)) (N4.heap (by rfl)) O1.out O4.out HZ4.out).mono ?_
    rintro en w' ⟨rfl, b⟩
    replace BB := below_next BB BB.size b (by rfl) (by rfl) (by rfl) (by rfl)
    have G := mv b (by rfl) <| And.intro a10 <| And.intro a11 <| And.intro a12 <| And.intro hT <| And.intro N1 <| And.intro N3 <| And.intro a30 <| And.intro a31 <| And.intro a32 <| And.intro N4 <| And.intro a40 <| And.intro a41 <| And.intro a42 <| And.intro N5 <| And.intro a50 <| And.intro a51 <| And.intro a52 <| And.intro N7 <| And.intro a70 <| And.intro a71 <| a72
    clear b a10 a11 a12 hT N1 N3 a30 a31 a32 N4 a40 a41 a42 N5 a50 a51 a52 N7 a70 a71 a72
    obtain ⟨a10, a11, a12, hT, N1, N3, a30, a31, a32, N4, a40, a41, a42, N5, a50, a51, a52, N7, a70, a71, a72⟩ := G
    refine hK.out _ _ (by first | (dsimp only; go_keep) | go_keep) (fun hHeldg3 => ?_)
    clear hK K hHeldg2
    try simp only [Act.put]
    refine wpAnyH_take (i := 11) (v := ?gv11) rfl (by kernel_rfl) (by kernel_rfl) (by kernel_rfl) (fun _ _ _ h => panic_put (P := Tryd.prog) (fn := Tryd.f12) (R := fun en w' => ToldEnd w en w') h) (Or.inl ⟨by rfl, ?gy11⟩) (by assumption) ?_
    case gy11 => (intro w hSw; (try dsimp only at hSw); go_simp; (try simp only [db1, db3, db4])); try with_reducible rfl
    change wpAnyH _ _ _ _ _ _ _ (Act.put _ (some 71) _) _
    simp only [Act.put, List.setIfInBounds_toArray, List.set_cons_zero, List.set_cons_succ]
    refine wpAnyH_take (i := 12) (v := ?gv12) rfl (by kernel_rfl) (by kernel_rfl) (by kernel_rfl) (fun _ _ _ h => panic_put (P := Tryd.prog) (fn := Tryd.f12) (R := fun en w' => ToldEnd w en w') h) (Or.inl ⟨by rfl, ?gy12⟩) (by assumption) ?_
    case gy12 => (intro w hSw; (try dsimp only at hSw); go_simp); try with_reducible rfl
    change wpAnyH _ _ _ _ _ _ _ (Act.put _ (some 72) _) _
    simp only [Act.put, List.setIfInBounds_toArray, List.set_cons_zero, List.set_cons_succ]
    refine wpAnyH_take (i := 13) (v := ?gv13) rfl (by kernel_rfl) (by kernel_rfl) (by kernel_rfl) (fun _ _ _ h => panic_put (P := Tryd.prog) (fn := Tryd.f12) (R := fun en w' => ToldEnd w en w') h) (Or.inl ⟨by rfl, ?gy13⟩) (by assumption) ?_
    case gy13 => (intro w hSw; (try dsimp only at hSw); go_simp); try with_reducible rfl
    change wpAnyH _ _ _ _ _ _ _ (Act.put _ (some 73) _) _
    simp only [Act.put, List.setIfInBounds_toArray, List.set_cons_zero, List.set_cons_succ]
    refine wpAnyH_take (i := 14) (v := ?gv14) rfl (by kernel_rfl) (by kernel_rfl) (by kernel_rfl) (fun _ _ _ h => panic_put (P := Tryd.prog) (fn := Tryd.f12) (R := fun en w' => ToldEnd w en w') h) (Or.inl ⟨by rfl, ?gy14⟩) (by assumption) ?_
    case gy14 => (intro w hSw; (try dsimp only at hSw); go_simp); try with_reducible rfl
    change wpAnyH _ _ _ _ _ _ _ (Act.put _ (some 74) _) _
    simp only [Act.put, List.setIfInBounds_toArray, List.set_cons_zero, List.set_cons_succ]
    refine wpAnyH_take (i := 15) (v := ?gv15) rfl (by kernel_rfl) (by kernel_rfl) (by kernel_rfl) (fun _ _ _ h => panic_put (P := Tryd.prog) (fn := Tryd.f12) (R := fun en w' => ToldEnd w en w') h) (Or.inl ⟨by rfl, ?gy15⟩) (by assumption) ?_
    case gy15 => (intro w hSw; (try dsimp only at hSw); go_simp); try with_reducible rfl
    change wpAnyH _ _ _ _ _ _ _ (Act.put _ (some 75) _) _
    simp only [Act.put, List.setIfInBounds_toArray, List.set_cons_zero, List.set_cons_succ]
    refine wpAnyH_take (i := 17) (v := ?gv17) rfl (by kernel_rfl) (by kernel_rfl) (by kernel_rfl) (fun _ _ _ h => panic_put (P := Tryd.prog) (fn := Tryd.f12) (R := fun en w' => ToldEnd w en w') h) (Or.inl ⟨by rfl, ?gy17⟩) (by assumption) ?_
    case gy17 => (intro w hSw; (try dsimp only at hSw); go_simp); try with_reducible rfl
    change wpAnyH _ _ _ _ _ _ _ (Act.put _ (some 77) _) _
    simp only [Act.put, List.setIfInBounds_toArray, List.set_cons_zero, List.set_cons_succ]
    refine wpAnyH_take (i := 19) (v := ?gv19) rfl (by kernel_rfl) (by kernel_rfl) (by kernel_rfl) (fun _ _ _ h => panic_put (P := Tryd.prog) (fn := Tryd.f12) (R := fun en w' => ToldEnd w en w') h) (Or.inl ⟨by rfl, ?gy19⟩) (by assumption) ?_
    case gy19 => (intro w hSw; (try dsimp only at hSw); go_simp); try with_reducible rfl
    change wpAnyH _ _ _ _ _ _ _ (Act.put _ (some 79) _) _
    simp only [Act.put, List.setIfInBounds_toArray, List.set_cons_zero, List.set_cons_succ]
    refine wpAnyH_ready (rs := [16]) (by kernel_rfl) (by simp) ?_
    refine AllReadyH.cons (o := _) rfl (fun K hK => ?_) AllReadyH.nil
    go_simp
    refine (dsame_diff (N3.heap (by rfl)) (N4.heap (by rfl)) HNE.out).mono ?_
    rintro en w' ⟨rfl, b⟩
    replace BB := below_next BB BB.size b (by rfl) (by rfl) (by rfl) (by rfl)
    have G := mv b (by rfl) <| And.intro a10 <| And.intro a11 <| And.intro a12 <| And.intro hT <| And.intro N1 <| And.intro N3 <| And.intro a30 <| And.intro a31 <| And.intro a32 <| And.intro N4 <| And.intro a40 <| And.intro a41 <| And.intro a42 <| And.intro N5 <| And.intro a50 <| And.intro a51 <| And.intro a52 <| And.intro N7 <| And.intro a70 <| And.intro a71 <| a72
    clear b a10 a11 a12 hT N1 N3 a30 a31 a32 N4 a40 a41 a42 N5 a50 a51 a52 N7 a70 a71 a72
    obtain ⟨a10, a11, a12, hT, N1, N3, a30, a31, a32, N4, a40, a41, a42, N5, a50, a51, a52, N7, a70, a71, a72⟩ := G
    refine hK.out _ _ (by first | (dsimp only; go_keep) | go_keep) (fun hHeldg4 => ?_)
    clear hK K hHeldg3
    try simp only [Act.put]
    refine wpAnyH_ready (rs := [18]) (by kernel_rfl) (by simp) ?_
    refine AllReadyH.cons (o := _) rfl (fun K hK => ?_) AllReadyH.nil
    go_simp
    refine (bits_ok (hT.heap (by rfl)) (N1.heap (by rfl)) O1.out).mono ?_
    rintro en w' ⟨rfl, b⟩
    clear N1
    replace BB := below_next BB BB.size b (by rfl) (by rfl) (by rfl) (by rfl)
    have G := mv b (by rfl) <| And.intro a10 <| And.intro a11 <| And.intro a12 <| And.intro hT <| And.intro N3 <| And.intro a30 <| And.intro a31 <| And.intro a32 <| And.intro N4 <| And.intro a40 <| And.intro a41 <| And.intro a42 <| And.intro N5 <| And.intro a50 <| And.intro a51 <| And.intro a52 <| And.intro N7 <| And.intro a70 <| And.intro a71 <| a72
    clear b a10 a11 a12 hT N3 a30 a31 a32 N4 a40 a41 a42 N5 a50 a51 a52 N7 a70 a71 a72
    obtain ⟨a10, a11, a12, hT, N3, a30, a31, a32, N4, a40, a41, a42, N5, a50, a51, a52, N7, a70, a71, a72⟩ := G
    refine hK.out _ _ (by first | (dsimp only; go_keep) | go_keep) (fun hHeldg5 => ?_)
    clear hK K hHeldg4
    try simp only [Act.put]
    refine wpAnyH_take (i := 20) (v := ?gv20) rfl (by kernel_rfl) (by kernel_rfl) (by kernel_rfl) (fun _ _ _ h => panic_put (P := Tryd.prog) (fn := Tryd.f12) (R := fun en w' => ToldEnd w en w') h) (Or.inl ⟨by rfl, ?gy20⟩) (by assumption) ?_
    case gy20 => (intro w hSw; (try dsimp only at hSw); go_simp; (try simp only [db1, db3, db4])); try with_reducible rfl
    change wpAnyH _ _ _ _ _ _ _ (Act.put _ (some 80) _) _
    simp only [Act.put, List.setIfInBounds_toArray, List.set_cons_zero, List.set_cons_succ]
    refine wpAnyH_take (i := 21) (v := ?gv21) rfl (by kernel_rfl) (by kernel_rfl) (by kernel_rfl) (fun _ _ _ h => panic_put (P := Tryd.prog) (fn := Tryd.f12) (R := fun en w' => ToldEnd w en w') h) (Or.inl ⟨by rfl, ?gy21⟩) (by assumption) ?_
    case gy21 => (intro w hSw; (try dsimp only at hSw); go_simp; (try simp only [db1, db3, db4])); try with_reducible rfl
    change wpAnyH _ _ _ _ _ _ _ (Act.put _ (some 81) _) _
    simp only [Act.put, List.setIfInBounds_toArray, List.set_cons_zero, List.set_cons_succ]
    refine wpAnyH_take (i := 22) (v := ?gv22) rfl (by kernel_rfl) (by kernel_rfl) (by kernel_rfl) (fun _ _ _ h => panic_put (P := Tryd.prog) (fn := Tryd.f12) (R := fun en w' => ToldEnd w en w') h) (Or.inl ⟨by rfl, ?gy22⟩) (by assumption) ?_
    case gy22 => (intro w hSw; (try dsimp only at hSw); go_simp); try with_reducible rfl
    change wpAnyH _ _ _ _ _ _ _ (Act.put _ (some 82) _) _
    simp only [Act.put, List.setIfInBounds_toArray, List.set_cons_zero, List.set_cons_succ]
    refine wpAnyH_take (i := 23) (v := ?gv23) rfl (by kernel_rfl) (by kernel_rfl) (by kernel_rfl) (fun _ _ _ h => panic_put (P := Tryd.prog) (fn := Tryd.f12) (R := fun en w' => ToldEnd w en w') h) (Or.inl ⟨by rfl, ?gy23⟩) (by assumption) ?_
    case gy23 => (intro w hSw; (try dsimp only at hSw); go_simp); try with_reducible rfl
    change wpAnyH _ _ _ _ _ _ _ (Act.put _ (some 83) _) _
    simp only [Act.put, List.setIfInBounds_toArray, List.set_cons_zero, List.set_cons_succ]
    refine wpAnyH_take (i := 24) (v := ?gv24) rfl (by kernel_rfl) (by kernel_rfl) (by kernel_rfl) (fun _ _ _ h => panic_put (P := Tryd.prog) (fn := Tryd.f12) (R := fun en w' => ToldEnd w en w') h) (Or.inl ⟨by rfl, ?gy24⟩) (by assumption) ?_
    case gy24 => (intro w hSw; (try dsimp only at hSw); go_simp); try with_reducible rfl
    change wpAnyH _ _ _ _ _ _ _ (Act.put _ (some 84) _) _
    simp only [Act.put, List.setIfInBounds_toArray, List.set_cons_zero, List.set_cons_succ]
    refine wpAnyH_take (i := 26) (v := ?gv26) rfl (by kernel_rfl) (by kernel_rfl) (by kernel_rfl) (fun _ _ _ h => panic_put (P := Tryd.prog) (fn := Tryd.f12) (R := fun en w' => ToldEnd w en w') h) (Or.inl ⟨by rfl, ?gy26⟩) (by assumption) ?_
    case gy26 => (intro w hSw; (try dsimp only at hSw); go_simp); try with_reducible rfl
    change wpAnyH _ _ _ _ _ _ _ (Act.put _ (some 86) _) _
    simp only [Act.put, List.setIfInBounds_toArray, List.set_cons_zero, List.set_cons_succ]
    refine wpAnyH_ready (rs := [25]) (by kernel_rfl) (by simp) ?_
    refine AllReadyH.cons (o := _) rfl (fun K hK => ?_) AllReadyH.nil
    go_simp
    refine (bits_ok (hT.heap (by rfl)) (N3.heap (by rfl)) O3.out).mono ?_
    rintro en w' ⟨rfl, b⟩
    replace BB := below_next BB BB.size b (by rfl) (by rfl) (by rfl) (by rfl)
    have G := mv b (by rfl) <| And.intro a10 <| And.intro a11 <| And.intro a12 <| And.intro hT <| And.intro N3 <| And.intro a30 <| And.intro a31 <| And.intro a32 <| And.intro N4 <| And.intro a40 <| And.intro a41 <| And.intro a42 <| And.intro N5 <| And.intro a50 <| And.intro a51 <| And.intro a52 <| And.intro N7 <| And.intro a70 <| And.intro a71 <| a72
    clear b a10 a11 a12 hT N3 a30 a31 a32 N4 a40 a41 a42 N5 a50 a51 a52 N7 a70 a71 a72
    obtain ⟨a10, a11, a12, hT, N3, a30, a31, a32, N4, a40, a41, a42, N5, a50, a51, a52, N7, a70, a71, a72⟩ := G
    refine hK.out _ _ (by first | (dsimp only; go_keep) | go_keep) (fun hHeldg6 => ?_)
    clear hK K hHeldg5
    try simp only [Act.put]
    refine wpAnyH_take (i := 27) (v := ?gv27) rfl (by kernel_rfl) (by kernel_rfl) (by kernel_rfl) (fun _ _ _ h => panic_put (P := Tryd.prog) (fn := Tryd.f12) (R := fun en w' => ToldEnd w en w') h) (Or.inl ⟨by rfl, ?gy27⟩) (by assumption) ?_
    case gy27 => (intro w hSw; (try dsimp only at hSw); go_simp; (try simp only [db1, db3, db4])); try with_reducible rfl
    change wpAnyH _ _ _ _ _ _ _ (Act.put _ (some 87) _) _
    simp only [Act.put, List.setIfInBounds_toArray, List.set_cons_zero, List.set_cons_succ]
    refine wpAnyH_take (i := 28) (v := ?gv28) rfl (by kernel_rfl) (by kernel_rfl) (by kernel_rfl) (fun _ _ _ h => panic_put (P := Tryd.prog) (fn := Tryd.f12) (R := fun en w' => ToldEnd w en w') h) (Or.inl ⟨by rfl, ?gy28⟩) (by assumption) ?_
    case gy28 => (intro w hSw; (try dsimp only at hSw); go_simp); try with_reducible rfl
    change wpAnyH _ _ _ _ _ _ _ (Act.put _ (some 88) _) _
    simp only [Act.put, List.setIfInBounds_toArray, List.set_cons_zero, List.set_cons_succ]
    refine wpAnyH_take (i := 29) (v := ?gv29) rfl (by kernel_rfl) (by kernel_rfl) (by kernel_rfl) (fun _ _ _ h => panic_put (P := Tryd.prog) (fn := Tryd.f12) (R := fun en w' => ToldEnd w en w') h) (Or.inl ⟨by rfl, ?gy29⟩) (by assumption) ?_
    case gy29 => (intro w hSw; (try dsimp only at hSw); go_simp); try with_reducible rfl
    change wpAnyH _ _ _ _ _ _ _ (Act.put _ (some 89) _) _
    simp only [Act.put, List.setIfInBounds_toArray, List.set_cons_zero, List.set_cons_succ]
    refine wpAnyH_take (i := 30) (v := ?gv30) rfl (by kernel_rfl) (by kernel_rfl) (by kernel_rfl) (fun _ _ _ h => panic_put (P := Tryd.prog) (fn := Tryd.f12) (R := fun en w' => ToldEnd w en w') h) (Or.inl ⟨by rfl, ?gy30⟩) (by assumption) ?_
    case gy30 => (intro w hSw; (try dsimp only at hSw); go_simp); try with_reducible rfl
    change wpAnyH _ _ _ _ _ _ _ (Act.put _ (some 90) _) _
    simp only [Act.put, List.setIfInBounds_toArray, List.set_cons_zero, List.set_cons_succ]
    refine wpAnyH_take (i := 32) (v := ?gv32) rfl (by kernel_rfl) (by kernel_rfl) (by kernel_rfl) (fun _ _ _ h => panic_put (P := Tryd.prog) (fn := Tryd.f12) (R := fun en w' => ToldEnd w en w') h) (Or.inl ⟨by rfl, ?gy32⟩) (by assumption) ?_
    case gy32 => (intro w hSw; (try dsimp only at hSw); go_simp); try with_reducible rfl
    change wpAnyH _ _ _ _ _ _ _ (Act.put _ (some 92) _) _
    simp only [Act.put, List.setIfInBounds_toArray, List.set_cons_zero, List.set_cons_succ]
    refine wpAnyH_ready (rs := [31]) (by kernel_rfl) (by simp) ?_
    refine AllReadyH.cons (o := _) rfl (fun K hK => ?_) AllReadyH.nil
    go_simp
    refine (bits_ok (hT.heap (by rfl)) (N4.heap (by rfl)) O4.out).mono ?_
    rintro en w' ⟨rfl, b⟩
    replace BB := below_next BB BB.size b (by rfl) (by rfl) (by rfl) (by rfl)
    have G := mv b (by rfl) <| And.intro a10 <| And.intro a11 <| And.intro a12 <| And.intro hT <| And.intro N3 <| And.intro a30 <| And.intro a31 <| And.intro a32 <| And.intro N4 <| And.intro a40 <| And.intro a41 <| And.intro a42 <| And.intro N5 <| And.intro a50 <| And.intro a51 <| And.intro a52 <| And.intro N7 <| And.intro a70 <| And.intro a71 <| a72
    clear b a10 a11 a12 hT N3 a30 a31 a32 N4 a40 a41 a42 N5 a50 a51 a52 N7 a70 a71 a72
    obtain ⟨a10, a11, a12, hT, N3, a30, a31, a32, N4, a40, a41, a42, N5, a50, a51, a52, N7, a70, a71, a72⟩ := G
    refine hK.out _ _ (by first | (dsimp only; go_keep) | go_keep) (fun hHeldg7 => ?_)
    clear hK K hHeldg6
    try simp only [Act.put]
    refine wpAnyH_take (i := 33) (v := ?gv33) rfl (by kernel_rfl) (by kernel_rfl) (by kernel_rfl) (fun _ _ _ h => panic_put (P := Tryd.prog) (fn := Tryd.f12) (R := fun en w' => ToldEnd w en w') h) (Or.inl ⟨by rfl, ?gy33⟩) (by assumption) ?_
    case gy33 => (intro w hSw; (try dsimp only at hSw); go_simp; (try simp only [db1, db3, db4])); try with_reducible rfl
    change wpAnyH _ _ _ _ _ _ _ (Act.put _ (some 93) _) _
    simp only [Act.put, List.setIfInBounds_toArray, List.set_cons_zero, List.set_cons_succ]
    refine wpAnyH_take (i := 34) (v := ?gv34) rfl (by kernel_rfl) (by kernel_rfl) (by kernel_rfl) (fun _ _ _ h => panic_put (P := Tryd.prog) (fn := Tryd.f12) (R := fun en w' => ToldEnd w en w') h) (Or.inl ⟨by rfl, ?gy34⟩) (by assumption) ?_
    case gy34 => (intro w hSw; (try dsimp only at hSw); go_simp); try with_reducible rfl
    change wpAnyH _ _ _ _ _ _ _ (Act.put _ (some 94) _) _
    simp only [Act.put, List.setIfInBounds_toArray, List.set_cons_zero, List.set_cons_succ]
    refine wpAnyH_take (i := 35) (v := ?gv35) rfl (by kernel_rfl) (by kernel_rfl) (by kernel_rfl) (fun _ _ _ h => panic_put (P := Tryd.prog) (fn := Tryd.f12) (R := fun en w' => ToldEnd w en w') h) (Or.inl ⟨by rfl, ?gy35⟩) (by assumption) ?_
    case gy35 => (intro w hSw; (try dsimp only at hSw); go_simp); try with_reducible rfl
    change wpAnyH _ _ _ _ _ _ _ (Act.put _ (some 95) _) _
    simp only [Act.put, List.setIfInBounds_toArray, List.set_cons_zero, List.set_cons_succ]
    refine wpAnyH_take (i := 36) (v := ?gv36) rfl (by kernel_rfl) (by kernel_rfl) (by kernel_rfl) (fun _ _ _ h => panic_put (P := Tryd.prog) (fn := Tryd.f12) (R := fun en w' => ToldEnd w en w') h) (Or.inl ⟨by rfl, ?gy36⟩) (by assumption) ?_
    case gy36 => (intro w hSw; (try dsimp only at hSw); go_simp); try with_reducible rfl
    change wpAnyH _ _ _ _ _ _ _ (Act.put _ (some 96) _) _
    simp only [Act.put, List.setIfInBounds_toArray, List.set_cons_zero, List.set_cons_succ]
    refine wpAnyH_take (i := 37) (v := ?gv37) rfl (by kernel_rfl) (by kernel_rfl) (by kernel_rfl) (fun _ _ _ h => panic_put (P := Tryd.prog) (fn := Tryd.f12) (R := fun en w' => ToldEnd w en w') h) (Or.inl ⟨by rfl, ?gy37⟩) (by assumption) ?_
    case gy37 => (intro w hSw; (try dsimp only at hSw); go_simp; (try simp only [db1, db3, db4])); try with_reducible rfl
    change wpAnyH _ _ _ _ _ _ _ (Act.put _ (some 97) _) _
    simp only [Act.put, List.setIfInBounds_toArray, List.set_cons_zero, List.set_cons_succ]
    refine wpAnyH_take (i := 38) (v := ?gv38) rfl (by kernel_rfl) (by kernel_rfl) (by kernel_rfl) (fun _ _ _ h => panic_put (P := Tryd.prog) (fn := Tryd.f12) (R := fun en w' => ToldEnd w en w') h) (Or.inl ⟨by rfl, ?gy38⟩) (by assumption) ?_
    case gy38 => (intro w hSw; (try dsimp only at hSw); go_simp); try with_reducible rfl
    change wpAnyH _ _ _ _ _ _ _ (Act.put _ (some 98) _) _
    simp only [Act.put, List.setIfInBounds_toArray, List.set_cons_zero, List.set_cons_succ]
    refine wpAnyH_take (i := 39) (v := ?gv39) rfl (by kernel_rfl) (by kernel_rfl) (by kernel_rfl) (fun _ _ _ h => panic_put (P := Tryd.prog) (fn := Tryd.f12) (R := fun en w' => ToldEnd w en w') h) (Or.inl ⟨by rfl, ?gy39⟩) (by assumption) ?_
    case gy39 => (intro w hSw; (try dsimp only at hSw); go_simp); try with_reducible rfl
    change wpAnyH _ _ _ _ _ _ _ (Act.put _ (some 99) _) _
    simp only [Act.put, List.setIfInBounds_toArray, List.set_cons_zero, List.set_cons_succ]
    refine wpAnyH_take (i := 40) (v := ?gv40) rfl (by kernel_rfl) (by kernel_rfl) (by kernel_rfl) (fun _ _ _ h => panic_put (P := Tryd.prog) (fn := Tryd.f12) (R := fun en w' => ToldEnd w en w') h) (Or.inl ⟨by rfl, ?gy40⟩) (by assumption) ?_
    case gy40 => (intro w hSw; (try dsimp only at hSw); go_simp); try with_reducible rfl
    change wpAnyH _ _ _ _ _ _ _ (Act.put _ (some 100) _) _
    simp only [Act.put, List.setIfInBounds_toArray, List.set_cons_zero, List.set_cons_succ]
    refine wpAnyH_take (i := 41) (v := ?gv41) rfl (by kernel_rfl) (by kernel_rfl) (by kernel_rfl) (fun _ _ _ h => panic_put (P := Tryd.prog) (fn := Tryd.f12) (R := fun en w' => ToldEnd w en w') h) (Or.inl ⟨by rfl, ?gy41⟩) (by assumption) ?_
    case gy41 => (intro w hSw; (try dsimp only at hSw); go_simp); try with_reducible rfl
    change wpAnyH _ _ _ _ _ _ _ (Act.put _ (some 101) _) _
    simp only [Act.put, List.setIfInBounds_toArray, List.set_cons_zero, List.set_cons_succ]
    refine wpAnyH_ready (rs := [42]) (by kernel_rfl) (by simp) ?_
    refine AllReadyH.cons (o := _) rfl (fun K hK => ?_) AllReadyH.nil
    go_simp
    refine (dsame_self (s := s5) (e := e5) (N5.heap (by rfl)) (N3.heap (by rfl))).mono ?_
    rintro en w' ⟨rfl, b⟩
    clear N5 N3
    replace BB := below_next BB BB.size b (by rfl) (by rfl) (by rfl) (by rfl)
    have G := mv b (by rfl) <| And.intro a10 <| And.intro a11 <| And.intro a12 <| And.intro hT <| And.intro a30 <| And.intro a31 <| And.intro a32 <| And.intro N4 <| And.intro a40 <| And.intro a41 <| And.intro a42 <| And.intro a50 <| And.intro a51 <| And.intro a52 <| And.intro N7 <| And.intro a70 <| And.intro a71 <| a72
    clear b a10 a11 a12 hT a30 a31 a32 N4 a40 a41 a42 a50 a51 a52 N7 a70 a71 a72
    obtain ⟨a10, a11, a12, hT, a30, a31, a32, N4, a40, a41, a42, a50, a51, a52, N7, a70, a71, a72⟩ := G
    refine hK.out _ _ (by first | (dsimp only; go_keep) | go_keep) (fun hHeldg8 => ?_)
    clear hK K hHeldg7
    try simp only [Act.put]
    refine wpAnyH_take (i := 43) (v := ?gv43) rfl (by kernel_rfl) (by kernel_rfl) (by kernel_rfl) (fun _ _ _ h => panic_put (P := Tryd.prog) (fn := Tryd.f12) (R := fun en w' => ToldEnd w en w') h) (Or.inl ⟨by rfl, ?gy43⟩) (by assumption) ?_
    case gy43 => (intro w hSw; (try dsimp only at hSw); go_simp); try with_reducible rfl
    change wpAnyH _ _ _ _ _ _ _ (Act.put _ (some 103) _) _
    simp only [Act.put, List.setIfInBounds_toArray, List.set_cons_zero, List.set_cons_succ]
    refine wpAnyH_take (i := 44) (v := ?gv44) rfl (by kernel_rfl) (by kernel_rfl) (by kernel_rfl) (fun _ _ _ h => panic_put (P := Tryd.prog) (fn := Tryd.f12) (R := fun en w' => ToldEnd w en w') h) (Or.inl ⟨by rfl, ?gy44⟩) (by assumption) ?_
    case gy44 => (intro w hSw; (try dsimp only at hSw); go_simp); try with_reducible rfl
    change wpAnyH _ _ _ _ _ _ _ (Act.put _ (some 104) _) _
    simp only [Act.put, List.setIfInBounds_toArray, List.set_cons_zero, List.set_cons_succ]
    refine wpAnyH_take (i := 45) (v := ?gv45) rfl (by kernel_rfl) (by kernel_rfl) (by kernel_rfl) (fun _ _ _ h => panic_put (P := Tryd.prog) (fn := Tryd.f12) (R := fun en w' => ToldEnd w en w') h) (Or.inl ⟨by rfl, ?gy45⟩) (by assumption) ?_
    case gy45 => (intro w hSw; (try dsimp only at hSw); go_simp); try with_reducible rfl
    change wpAnyH _ _ _ _ _ _ _ (Act.put _ (some 105) _) _
    simp only [Act.put, List.setIfInBounds_toArray, List.set_cons_zero, List.set_cons_succ]
    refine wpAnyH_take (i := 46) (v := ?gv46) rfl (by kernel_rfl) (by kernel_rfl) (by kernel_rfl) (fun _ _ _ h => panic_put (P := Tryd.prog) (fn := Tryd.f12) (R := fun en w' => ToldEnd w en w') h) (Or.inl ⟨by rfl, ?gy46⟩) (by assumption) ?_
    case gy46 => (intro w hSw; (try dsimp only at hSw); go_simp; (try simp only [db1, db3, db4])); try with_reducible rfl
    change wpAnyH _ _ _ _ _ _ _ (Act.put _ (some 106) _) _
    simp only [Act.put, List.setIfInBounds_toArray, List.set_cons_zero, List.set_cons_succ]
    refine wpAnyH_take (i := 47) (v := ?gv47) rfl (by kernel_rfl) (by kernel_rfl) (by kernel_rfl) (fun _ _ _ h => panic_put (P := Tryd.prog) (fn := Tryd.f12) (R := fun en w' => ToldEnd w en w') h) (Or.inl ⟨by rfl, ?gy47⟩) (by assumption) ?_
    case gy47 => (intro w hSw; (try dsimp only at hSw); go_simp); try with_reducible rfl
    change wpAnyH _ _ _ _ _ _ _ (Act.put _ (some 107) _) _
    simp only [Act.put, List.setIfInBounds_toArray, List.set_cons_zero, List.set_cons_succ]
    refine wpAnyH_take (i := 48) (v := ?gv48) rfl (by kernel_rfl) (by kernel_rfl) (by kernel_rfl) (fun _ _ _ h => panic_put (P := Tryd.prog) (fn := Tryd.f12) (R := fun en w' => ToldEnd w en w') h) (Or.inl ⟨by rfl, ?gy48⟩) (by assumption) ?_
    case gy48 => (intro w hSw; (try dsimp only at hSw); go_simp); try with_reducible rfl
    change wpAnyH _ _ _ _ _ _ _ (Act.put _ (some 108) _) _
    simp only [Act.put, List.setIfInBounds_toArray, List.set_cons_zero, List.set_cons_succ]
    refine wpAnyH_take (i := 49) (v := ?gv49) rfl (by kernel_rfl) (by kernel_rfl) (by kernel_rfl) (fun _ _ _ h => panic_put (P := Tryd.prog) (fn := Tryd.f12) (R := fun en w' => ToldEnd w en w') h) (Or.inl ⟨by rfl, ?gy49⟩) (by assumption) ?_
    case gy49 => (intro w hSw; (try dsimp only at hSw); go_simp); try with_reducible rfl
    change wpAnyH _ _ _ _ _ _ _ (Act.put _ (some 109) _) _
    simp only [Act.put, List.setIfInBounds_toArray, List.set_cons_zero, List.set_cons_succ]
    refine wpAnyH_take (i := 50) (v := ?gv50) rfl (by kernel_rfl) (by kernel_rfl) (by kernel_rfl) (fun _ _ _ h => panic_put (P := Tryd.prog) (fn := Tryd.f12) (R := fun en w' => ToldEnd w en w') h) (Or.inl ⟨by rfl, ?gy50⟩) (by assumption) ?_
    case gy50 => (intro w hSw; (try dsimp only at hSw); go_simp); try with_reducible rfl
    change wpAnyH _ _ _ _ _ _ _ (Act.put _ (some 110) _) _
    simp only [Act.put, List.setIfInBounds_toArray, List.set_cons_zero, List.set_cons_succ]
    refine wpAnyH_ready (rs := [51]) (by kernel_rfl) (by simp) ?_
    refine AllReadyH.cons (o := _) rfl (fun K hK => ?_) AllReadyH.nil
    go_simp
    refine (dneg_to (hT.heap (by rfl)) (N4.heap (by rfl)) O4.out HS7.out).mono ?_
    rintro en w' ⟨A8, n8, c8, rfl, N8, b⟩
    replace BB := below_next BB BB.size b (by rfl) (by rfl) (by rfl) (by rfl)
    have G := mv b (by rfl) <| And.intro a10 <| And.intro a11 <| And.intro a12 <| And.intro hT <| And.intro a30 <| And.intro a31 <| And.intro a32 <| And.intro N4 <| And.intro a40 <| And.intro a41 <| And.intro a42 <| And.intro a50 <| And.intro a51 <| And.intro a52 <| And.intro N7 <| And.intro a70 <| And.intro a71 <| a72
    clear b a10 a11 a12 hT a30 a31 a32 N4 a40 a41 a42 a50 a51 a52 N7 a70 a71 a72
    obtain ⟨a10, a11, a12, hT, a30, a31, a32, N4, a40, a41, a42, a50, a51, a52, N7, a70, a71, a72⟩ := G
    refine hK.out _ _ (by first | (dsimp only; go_keep) | go_keep) (fun hHeldg9 => ?_)
    clear hK K hHeldg8
    try simp only [Act.put]
    refine wpAnyH_ready (rs := [52]) (by kernel_rfl) (by simp) ?_
    refine AllReadyH.cons (o := _) rfl (fun K hK => ?_) AllReadyH.nil
    go_simp
    refine (dsame_self (s := s7) (e := e4) (N7.heap (by rfl)) (N8.heap (by rfl))).mono ?_
    rintro en w' ⟨rfl, b⟩
    replace BB := below_next BB BB.size b (by rfl) (by rfl) (by rfl) (by rfl)
    have G := mv b (by rfl) <| And.intro a10 <| And.intro a11 <| And.intro a12 <| And.intro hT <| And.intro a30 <| And.intro a31 <| And.intro a32 <| And.intro N4 <| And.intro a40 <| And.intro a41 <| And.intro a42 <| And.intro a50 <| And.intro a51 <| And.intro a52 <| And.intro N7 <| And.intro a70 <| And.intro a71 <| And.intro a72 <| N8
    clear b a10 a11 a12 hT a30 a31 a32 N4 a40 a41 a42 a50 a51 a52 N7 a70 a71 a72 N8
    obtain ⟨a10, a11, a12, hT, a30, a31, a32, N4, a40, a41, a42, a50, a51, a52, N7, a70, a71, a72, N8⟩ := G
    refine hK.out _ _ (by first | (dsimp only; go_keep) | go_keep) (fun hHeldg10 => ?_)
    clear hK K hHeldg9
    try simp only [Act.put]
    refine wpAnyH_take (i := 53) (v := ?gv53) rfl (by kernel_rfl) (by kernel_rfl) (by kernel_rfl) (fun _ _ _ h => panic_put (P := Tryd.prog) (fn := Tryd.f12) (R := fun en w' => ToldEnd w en w') h) (Or.inl ⟨by rfl, ?gy53⟩) (by assumption) ?_
    case gy53 => (intro w hSw; (try dsimp only at hSw); go_simp); try with_reducible rfl
    change wpAnyH _ _ _ _ _ _ _ (Act.put _ (some 113) _) _
    simp only [Act.put, List.setIfInBounds_toArray, List.set_cons_zero, List.set_cons_succ]
    refine wpAnyH_take (i := 54) (v := ?gv54) rfl (by kernel_rfl) (by kernel_rfl) (by kernel_rfl) (fun _ _ _ h => panic_put (P := Tryd.prog) (fn := Tryd.f12) (R := fun en w' => ToldEnd w en w') h) (Or.inl ⟨by rfl, ?gy54⟩) (by assumption) ?_
    case gy54 => (intro w hSw; (try dsimp only at hSw); go_simp); try with_reducible rfl
    change wpAnyH _ _ _ _ _ _ _ (Act.put _ (some 4) _) _
    simp only [Act.put, List.setIfInBounds_toArray, List.set_cons_zero, List.set_cons_succ]
    refine wpAnyH_done (by kernel_rfl) ?_ _
    go_wp2
    go_ret
    exact ⟨by first | rfl | simp, BB⟩
end Go.Proofs.YtkfcnodnefpboaaDoor
