/-
  Contract of the statement NatRing's function at this translation: it returns true, whatever its arguments. Condition: the slices read as limbs, the table of math/bits reads as its text lays it.
-/
import Derived.Test.YtdklekiknhhfdaaDoorCaps
namespace Go.Proofs.YtdklekiknhhfdaaDoor
open Go.RowKit

theorem nt_of {w : World} {A : Option Addr} {n c : Nat} {l : List Nat} (h : Rd w .u64 W A n c l) (hb : mayB l = true) : Nt w A n c (val W l) ∧ Can W l ∧ n ≤ 64 := by
  unfold mayB at hb
  simp only [Bool.and_eq_true, Bool.or_eq_true, decide_eq_true_eq] at hb
  have hn : n ≤ 64 := by rw [← h.len]; exact hb.1
  have hc : Can W l := ⟨h.lt, fun h0 => hb.2.resolve_left h0⟩
  refine ⟨⟨by rw [dig_val W_two hc]; exact h, ?_⟩, hc, hn⟩
  have h1 := val_lt h.lt
  rw [h.len] at h1
  exact Nat.lt_of_lt_of_le h1 (Nat.pow_le_pow_right (by rw [W_eq]; omega) hn)
theorem nt_lt {w : World} {A : Option Addr} {n c x k : Nat} (h : Nt w A n c x) (hn : n ≤ k) : x < W ^ k := (len_dig W_two x k).1 (by rw [h.rd.len]; exact hn)

theorem pow_64 {k : Nat} (h : k ≤ 64) : W ^ k ≤ W ^ 64 := Nat.pow_le_pow_right (by rw [W_eq]; omega) h
theorem ring_bounds {x y z : Nat} (hx : x < W ^ 20) (hy : y < W ^ 20) (hz : z < W ^ 20) : x + y < W ^ 64 ∧ (x + y) * z < W ^ 64 ∧ x * z < W ^ 64 ∧ z * y < W ^ 64 ∧ x * z + z * y < W ^ 64 := by
  have h21 : W ^ 21 = W ^ 20 * W := Nat.pow_succ ..
  have h2 : W ^ 20 * 2 ≤ W ^ 20 * W := Nat.mul_le_mul_left _ W_two
  have hs : x + y < W ^ 21 := by
    generalize W ^ 20 * W = q at *
    generalize W ^ 21 = p at *
    generalize W ^ 20 = r at *
    omega
  have h3 : (x + y) * z < W ^ 21 * W ^ 20 := Nat.mul_lt_mul'' hs hz
  rw [← Nat.pow_add] at h3
  have h4 : (x + y) * z < W ^ 64 := Nat.lt_of_lt_of_le h3 (pow_64 (by omega))
  have h5 : (x + y) * z = x * z + z * y := by rw [Nat.add_mul, Nat.mul_comm y z]
  have h6 := pow_64 (k := 21) (by omega)
  generalize W ^ 64 = p at *
  exact ⟨by omega, h4, by omega, by omega, by omega⟩

theorem same_nt {w : World} {A B : Option Addr} {n c m d x y : Nat} (h : Nt w A n c x) (h' : Nt w B m d y) (e : x = y) :
    Calls Tryd.prog 37 #[.slice A n c, .slice B m d] w fun e w' => e = .returned (.bool true) ∧ Below w.heap.size w w' := by
  subst e
  have : m = n := by rw [← h.rd.len, ← h'.rd.len]
  subst this
  exact same_yes h.rd h'.rd

/-- whatever the guard at a law's head finds -/
def ToldEnd (w : World) (e : Ending) (w' : World) : Prop := e = .returned (.bool true) ∧ Below w.heap.size w w'

set_option maxRecDepth 100000 in
set_option maxHeartbeats 1000000 in
theorem ring_out {w : World} {A B C : Option Addr} {n c m d k f : Nat} {l r s : List Nat} (hT : Tab w) (h : Rd w .u64 W A n c l) (h' : Rd w .u64 W B m d r) (h'' : Rd w .u64 W C k f s)
    (ho : 20 < n ∨ (n ≤ 20 ∧ 20 < m) ∨ (n ≤ 20 ∧ m ≤ 20 ∧ 20 < k) ∨ (n ≤ 20 ∧ m ≤ 20 ∧ k ≤ 20 ∧ (mayB l = false ∨ (mayB l = true ∧ mayB r = false) ∨ (mayB l = true ∧ mayB r = true ∧ mayB s = false)))) :
    Calls Tryd.prog 6 #[.slice A n c, .slice B m d, .slice C k f] w fun e w' => ToldEnd w e w' := by
  have c1 := h.cap
  have c2 := h.max
  have c3 := h'.cap
  have c4 := h'.max
  have c5 := h''.cap
  have c6 := h''.max
  have HT := Lib.hid (told_any hT)
  rcases ho with ho | ⟨o1, o2⟩ | ⟨o1, o2, o3⟩ | ⟨o1, o2, o3, hm | ⟨m1, m2⟩ | ⟨m1, m2, m3⟩⟩
  · skip
    have d1 : decide ((20 : Int) < (n : Int)) = true := decide_eq_true (by omega)
    have f1 : (20 : Int) < n := by omega
    go_enter Tryd.func6, Tryd.ntmps6
    go_wp2_with fail
    refine HT.out.mono ?_
    rintro e w' ⟨rfl, hb⟩
    go_wp2
    go_ret
    exact ⟨rfl, hb⟩
  · skip
    have d1 : decide ((20 : Int) < (n : Int)) = false := decide_eq_false (by omega)
    have d2 : decide ((20 : Int) < (m : Int)) = true := decide_eq_true (by omega)
    have f1 : (20 : Int) < m := by omega
    go_enter Tryd.func6, Tryd.ntmps6
    go_wp2_with fail
    refine HT.out.mono ?_
    rintro e w' ⟨rfl, hb⟩
    go_wp2
    go_ret
    exact ⟨rfl, hb⟩
  · skip
    have d1 : decide ((20 : Int) < (n : Int)) = false := decide_eq_false (by omega)
    have d2 : decide ((20 : Int) < (m : Int)) = false := decide_eq_false (by omega)
    have d3 : decide ((20 : Int) < (k : Int)) = true := decide_eq_true (by omega)
    have f1 : (20 : Int) < k := by omega
    go_enter Tryd.func6, Tryd.ntmps6
    go_wp2_with fail
    refine HT.out.mono ?_
    rintro e w' ⟨rfl, hb⟩
    go_wp2
    go_ret
    exact ⟨rfl, hb⟩
  · have H1 := Lib.hid (may_no h hm)
    have d1 : decide ((20 : Int) < (n : Int)) = false := decide_eq_false (by omega)
    have d2 : decide ((20 : Int) < (m : Int)) = false := decide_eq_false (by omega)
    have d3 : decide ((20 : Int) < (k : Int)) = false := decide_eq_false (by omega)
    clear hm
    go_enter Tryd.func6, Tryd.ntmps6
    go_wp2_with fail
    refine H1.out.mono ?_
    rintro e w' ⟨rfl, rfl⟩
    go_wp2_with fail
    refine HT.out.mono ?_
    rintro e w' ⟨rfl, hb⟩
    go_wp2
    go_ret
    exact ⟨rfl, hb⟩
  · have H1 := Lib.hid (may_yes h m1)
    have H2 := Lib.hid (may_no h' m2)
    have d1 : decide ((20 : Int) < (n : Int)) = false := decide_eq_false (by omega)
    have d2 : decide ((20 : Int) < (m : Int)) = false := decide_eq_false (by omega)
    have d3 : decide ((20 : Int) < (k : Int)) = false := decide_eq_false (by omega)
    clear m1 m2
    go_enter Tryd.func6, Tryd.ntmps6
    go_wp2_with fail
    refine H1.out.mono ?_
    rintro e w' ⟨rfl, rfl⟩
    go_wp2_with fail
    refine H2.out.mono ?_
    rintro e w' ⟨rfl, rfl⟩
    go_wp2_with fail
    refine HT.out.mono ?_
    rintro e w' ⟨rfl, hb⟩
    go_wp2
    go_ret
    exact ⟨rfl, hb⟩
  · have H1 := Lib.hid (may_yes h m1)
    have H2 := Lib.hid (may_yes h' m2)
    have H3 := Lib.hid (may_no h'' m3)
    have d1 : decide ((20 : Int) < (n : Int)) = false := decide_eq_false (by omega)
    have d2 : decide ((20 : Int) < (m : Int)) = false := decide_eq_false (by omega)
    have d3 : decide ((20 : Int) < (k : Int)) = false := decide_eq_false (by omega)
    clear m1 m2 m3
    go_enter Tryd.func6, Tryd.ntmps6
    go_wp2_with fail
    refine H1.out.mono ?_
    rintro e w' ⟨rfl, rfl⟩
    go_wp2_with fail
    refine H2.out.mono ?_
    rintro e w' ⟨rfl, rfl⟩
    go_wp2_with fail
    refine H3.out.mono ?_
    rintro e w' ⟨rfl, rfl⟩
    go_wp2_with fail
    refine HT.out.mono ?_
    rintro e w' ⟨rfl, hb⟩
    go_wp2
    go_ret
    exact ⟨rfl, hb⟩

set_option maxRecDepth 100000 in
set_option maxHeartbeats 2000000 in
theorem ring_in {w : World} {A B C : Option Addr} {n c m d k f x y z : Nat} (hT : Tab w) (h : Nt w A n c x) (h' : Nt w B m d y) (h'' : Nt w C k f z) (o1 : n ≤ 20) (o2 : m ≤ 20) (o3 : k ≤ 20) :
    Calls Tryd.prog 6 #[.slice A n c, .slice B m d, .slice C k f] w fun e w' => ToldEnd w e w' := by
  have HB := Lib.hid (ring_bounds (nt_lt h o1) (nt_lt h' o2) (nt_lt h'' o3))
  have d1 : decide ((20 : Int) < (n : Int)) = false := decide_eq_false (by omega)
  have d2 : decide ((20 : Int) < (m : Int)) = false := decide_eq_false (by omega)
  have d3 : decide ((20 : Int) < (k : Int)) = false := decide_eq_false (by omega)
  go_enter Tryd.func6, Tryd.ntmps6
  go_wp2_with fail
  refine (may_nt h).mono ?_
  rintro e w' ⟨rfl, rfl⟩
  go_wp2_with fail
  refine (may_nt h').mono ?_
  rintro e w' ⟨rfl, rfl⟩
  go_wp2_with fail
  refine (may_nt h'').mono ?_
  rintro e w' ⟨rfl, rfl⟩
  go_wp2_with fail
  refine (add_ok h h' HB.out.1).mono ?_
  rintro e w1 ⟨A1, n1, c1, rfl, hs, b1⟩
  have h1 := h.below b1
  have h1' := h'.below b1
  have h1'' := h''.below b1
  go_wp2_with fail
  refine (add_ok h1' h1 (by rw [Nat.add_comm]; exact HB.out.1)).mono ?_
  rintro e w2 ⟨A2, n2, c2, rfl, ht, b2⟩
  have B2 := b1.trans (b2.mono b1.size)
  have h2 := h1.below b2
  have h2' := h1'.below b2
  have h2'' := h1''.below b2
  have hs2 := hs.below b2
  clear h1 h1' h1'' hs b1 b2 h h' h''
  go_wp2_with fail
  refine (mul_ok hs2 h2'' HB.out.2.1).mono ?_
  rintro e w3 ⟨A3, n3, c3, rfl, hp, b3⟩
  have B3 := B2.trans (b3.mono B2.size)
  have h3 := h2.below b3
  have h3' := h2'.below b3
  have h3'' := h2''.below b3
  have hs3 := hs2.below b3
  have ht3 := ht.below b3
  clear h2 h2' h2'' hs2 ht b3 B2
  go_wp2_with fail
  refine (mul_ok h3 h3'' HB.out.2.2.1).mono ?_
  rintro e w4 ⟨A4, n4, c4, rfl, hq, b4⟩
  have B4 := B3.trans (b4.mono B3.size)
  have h4 := h3.below b4
  have h4' := h3'.below b4
  have h4'' := h3''.below b4
  have hs4 := hs3.below b4
  have ht4 := ht3.below b4
  have hp4 := hp.below b4
  clear h3 h3' h3'' hs3 ht3 hp b4 B3
  go_wp2_with fail
  refine (mul_ok h4'' h4' HB.out.2.2.2.1).mono ?_
  rintro e w5 ⟨A5, n5, c5, rfl, hr, b5⟩
  have B5 := B4.trans (b5.mono B4.size)
  have h5 := h4.below b5
  have h5' := h4'.below b5
  have hs5 := hs4.below b5
  have ht5 := ht4.below b5
  have hp5 := hp4.below b5
  have hq5 := hq.below b5
  clear h4 h4' h4'' hs4 ht4 hp4 hq b5 B4
  go_wp2_with fail
  refine (add_ok hq5 hr HB.out.2.2.2.2).mono ?_
  rintro e w6 ⟨A6, n6, c6, rfl, hu, b6⟩
  have B6 := B5.trans (b6.mono B5.size)
  have h6 := h5.below b6
  have h6' := h5'.below b6
  have hs6 := hs5.below b6
  have ht6 := ht5.below b6
  have hp6 := hp5.below b6
  clear h5 h5' hs5 ht5 hp5 hq5 hr b6 B5
  go_wp2_with fail
  refine (sub_ok hs6 h6 (by omega)).mono ?_
  rintro e w7 ⟨A7, n7, c7, rfl, hd, b7⟩
  have B7 := B6.trans (b7.mono B6.size)
  have h7 := h6.below b7
  have h7' := h6'.below b7
  have hs7 := hs6.below b7
  have ht7 := ht6.below b7
  have hp7 := hp6.below b7
  have hu7 := hu.below b7
  clear h6 h6' hs6 ht6 hp6 hu b7 B6
  go_wp2_with fail
  refine (told_any (hT.below B7)).mono ?_
  rintro e w8 ⟨rfl, b8⟩
  have B8 := B7.trans (b8.mono B7.size)
  have h8 := h7.below b8
  have h8' := h7'.below b8
  have hs8 := hs7.below b8
  have ht8 := ht7.below b8
  have hp8 := hp7.below b8
  have hu8 := hu7.below b8
  have hd8 := hd.below b8
  clear h7 h7' hs7 ht7 hp7 hu7 hd b8 B7
  go_wp2_with fail
  refine (same_nt hs8 ht8 (Nat.add_comm _ _)).mono ?_
  rintro e w9 ⟨rfl, b9⟩
  have B9 := B8.trans (b9.mono B8.size)
  have h9 := h8.below b9
  have h9' := h8'.below b9
  have hs9 := hs8.below b9
  have hp9 := hp8.below b9
  have hu9 := hu8.below b9
  have hd9 := hd8.below b9
  clear h8 h8' hs8 ht8 hp8 hu8 hd8 b9 B8
  go_wp2_with fail
  refine (same_nt hp9 hu9 (by rw [Nat.add_mul, Nat.mul_comm y z])).mono ?_
  rintro e w10 ⟨rfl, b10⟩
  have B10 := B9.trans (b10.mono B9.size)
  have h10 := h9.below b10
  have h10' := h9'.below b10
  have hs10 := hs9.below b10
  have hd10 := hd9.below b10
  clear h9 h9' hs9 hp9 hu9 hd9 b10 B9
  go_wp2_with fail
  refine (same_nt hd10 h10' (by omega)).mono ?_
  rintro e w11 ⟨rfl, b11⟩
  have B11 := B10.trans (b11.mono B10.size)
  have h11 := h10.below b11
  have hs11 := hs10.below b11
  clear h10 h10' hs10 hd10 b11 B10
  have hcmp : ∃ t : Int, cmpN (x + y) x = t ∧ 0 ≤ t := by
    refine ⟨_, rfl, ?_⟩
    rcases Nat.lt_or_ge x (x + y) with h1 | h1
    · rw [cmpN_gt h1]; decide
    · rw [cmpN_eq (by omega)]; decide
  obtain ⟨t, ht, ht0⟩ := hcmp
  have HTT := Lib.hid ht
  clear ht
  go_wp2_with fail
  refine (cmp_nt hs11 h11).mono ?_
  rintro e w12 ⟨rfl, b12⟩
  have B12 := B11.trans (b12.mono B11.size)
  rw [HTT.out]
  clear h11 hs11 b12 B11
  go_wp2
  go_ret
  exact ⟨rfl, B12⟩

theorem ring_any {w : World} {A B C : Option Addr} {n c m d k f : Nat} {l r s : List Nat} (hT : Tab w) (h : Rd w .u64 W A n c l) (h' : Rd w .u64 W B m d r) (h'' : Rd w .u64 W C k f s) :
    Calls Tryd.prog 6 #[.slice A n c, .slice B m d, .slice C k f] w fun e w' => ToldEnd w e w' := by
  by_cases o1 : n ≤ 20
  · by_cases o2 : m ≤ 20
    · by_cases o3 : k ≤ 20
      · cases m1 : mayB l
        · exact ring_out hT h h' h'' (.inr (.inr (.inr ⟨o1, o2, o3, .inl m1⟩)))
        · cases m2 : mayB r
          · exact ring_out hT h h' h'' (.inr (.inr (.inr ⟨o1, o2, o3, .inr (.inl ⟨m1, m2⟩)⟩)))
          · cases m3 : mayB s
            · exact ring_out hT h h' h'' (.inr (.inr (.inr ⟨o1, o2, o3, .inr (.inr ⟨m1, m2, m3⟩)⟩)))
            · exact ring_in hT (nt_of h m1).1 (nt_of h' m2).1 (nt_of h'' m3).1 o1 o2 o3
      · exact ring_out hT h h' h'' (.inr (.inr (.inl ⟨o1, o2, by omega⟩)))
    · exact ring_out hT h h' h'' (.inr (.inl ⟨o1, by omega⟩))
  · exact ring_out hT h h' h'' (.inl (by omega))
end Go.Proofs.YtdklekiknhhfdaaDoor
