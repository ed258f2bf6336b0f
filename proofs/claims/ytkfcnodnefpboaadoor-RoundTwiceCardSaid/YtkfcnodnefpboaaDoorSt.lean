/-
  Contract of the statement RoundTwice's function at this translation: it returns true, whatever its arguments. Condition: the slices read as limbs, the table of math/bits reads as its text lays it.
-/
import Derived.Test.YtkfcnodnefpboaaDoorRt
import Derived.Test.YtkfcnodnefpboaaDoorRm
namespace Go.Proofs.YtkfcnodnefpboaaDoor
open Go.RowKit

/-- rounded to many bits, then to fewer -/
theorem twice_same {s : Bool} {x : Nat} {e : Int} {n m : Nat} {u : Bool} {s1 : Bool} {m1 : Nat} {e1 : Int} {k2 : Int} {s2 : Bool} {m2 : Nat} {e2 : Int} {k3 : Int} {s3 : Bool} {m3 : Nat} {e3 : Int} (hm : 1 ≤ m) (hmn : m ≤ n) (he : -1000000 ≤ e) (h1 : RdTold s x e n u 0 s1 m1 e1) (h2 : RdTold s1 m1 e1 m u k2 s2 m2 e2) (h3 : RdTold s x e m u k3 s3 m3 e3) : k2 = k3 ∧ s2 = s3 ∧ m2 = m3 ∧ e2 = e3 := by
  have h4 := rd_norm hm h1 h2 he
  rw [rd_twice hm hmn] at h4
  exact nm_fun h4 h3
theorem told_good {s : Bool} {x : Nat} {e : Int} {p : Nat} {u : Bool} {k : Int} {s' : Bool} {m' : Nat} {e' : Int} (hp : 1 ≤ p) (hb : blen x ≤ 4000) (he : -100000 ≤ e) (he' : e ≤ 100000) (h : RdTold s x e p u k s' m' e') : k = 0 :=
  nm_good h (by have := rd_blen (x := x) hp (u != s); omega) he he'
theorem ten_bits {w : World} {A : Option Addr} {n c x : Nat} (h : Nt w A n c x) (hn : n ≤ 10) : blen x ≤ 640 := by
  rw [blen_le]
  have h1 : x < W ^ n := by have := (len_dig W_two x n).1 (by rw [h.rd.len]; omega); exact this
  have h2 : W ^ n ≤ W ^ 10 := Nat.pow_le_pow_right (by rw [W_eq]; omega) hn
  obtain ⟨L, hL⟩ : ∃ L, L = 64 * 10 := ⟨_, rfl⟩
  have h3 : W ^ 10 = 2 ^ L := by rw [W_pow, ← Nat.pow_mul, hL]
  have e1 : 640 = L := by omega
  rw [e1]
  exact Nat.lt_of_lt_of_le h1 (Nat.le_trans h2 (Nat.le_of_eq h3))

theorem twice_bits {s : Bool} {x : Nat} {e : Int} {p : Nat} {u : Bool} {k : Int} {s' : Bool} {m' : Nat} {e' : Int} (hp : 1 ≤ p) (h : RdTold s x e p u k s' m' e') : blen m' ≤ p := (okd_fits (nm_okd h)).1 (nm_fits h (rd_fits hp x (u != s)))
theorem told_e {s : Bool} {x : Nat} {e : Int} {p : Nat} {u : Bool} {s' : Bool} {m' : Nat} {e' : Int} (hp : 1 ≤ p) (hb : blen x ≤ 640) (he : -1000 ≤ e ∧ e ≤ 1000) (h : RdTold s x e p u 0 s' m' e') : -100000 ≤ e' ∧ e' ≤ 100000 := by
  have h1 := rd_blen (x := x) hp (u != s)
  rcases nm_small_e h (by omega) with h2 | h2 <;> omega
theorem Box.put3o {w : World} {g g' : Nat} {s : Bool} {A : Option Addr} {n c : Nat} {e : Int} (h : Box w g' s A n c e) (hne : g' ≠ g) (u0 u1 u2 : Value) : Box (((w.setCell ⟨g, 0, none⟩ u0).setCell ⟨g, 1, none⟩ u1).setCell ⟨g, 2, none⟩ u2) g' s A n c e :=
  ((h.other hne 0 u0).other hne 1 u1).other hne 2 u2
theorem tab_off {w : World} {g : Nat} {s : Bool} {A : Option Addr} {n c : Nat} {e : Int} (h : Tab w) (hb : Box w g s A n c e) : 0 ≠ g := by
  intro hg
  subst hg
  have h0 := (h 0 (by decide)).symm.trans hb.c0
  simp at h0
theorem Tab.set1 {w : World} {g : Nat} (h : Tab w) (hne : 0 ≠ g) (i : Nat) (u : Value) : Tab (w.setCell ⟨g, i, none⟩ u) := fun j hj => by
  have := h j hj
  rw [← this]
  exact World.cell?_of_block (Below.heap_setCell w ⟨g, i, none⟩ u _ hne)
theorem Tab.put3 {w : World} {g : Nat} {s : Bool} {A : Option Addr} {n c : Nat} {e : Int} (h : Tab w) (hb : Box w g s A n c e) (u0 u1 u2 : Value) : Tab (((w.setCell ⟨g, 0, none⟩ u0).setCell ⟨g, 1, none⟩ u1).setCell ⟨g, 2, none⟩ u2) := by
  have hne := tab_off h hb
  exact ((h.set1 hne 0 u0).set1 hne 1 u1).set1 hne 2 u2

set_option maxRecDepth 100000 in
set_option maxHeartbeats 8000000 in
theorem twice_down {w : World} {A1 : Option Addr} {n1 c1 : Nat} {l1 : List Nat} {s1 : Bool} {e1 : Int} {p q : Int} (hT : Tab w) (h1 : Rd w .u64 W A1 n1 c1 l1) :
    Calls Tryd.prog 16 #[.agg #[.bool s1, .slice A1 n1 c1, .int .i64 e1], .int .i64 p, .int .i64 q, .bool false] w fun en w' => ToldEnd w en w' := by
  have x1 : n1 ≤ 9223372036854775807 := Nat.le_trans h1.cap h1.max
  obtain ⟨rn, hrn⟩ := Int.eq_ofNat_of_zero_le (show 0 ≤ IntKind.u64.wrap p by rw [IntKind.wrap_u64]; omega)
  obtain ⟨qn, hqn⟩ : ∃ q, q = rn % 400 := ⟨_, rfl⟩
  obtain ⟨n, hnn⟩ : ∃ n, n = 1 + qn := ⟨_, rfl⟩
  have uun : (rn : Int) % 400 = (qn : Int) := by omega
  have uvn : (1 : Int) + (qn : Int) = (n : Int) := by omega
  have uwn : (0 : Int) ≤ (rn : Int) := by omega
  have uxn : (qn : Int) ≤ 400 := by omega
  have nlo : 1 ≤ n := by omega
  have nhi : n ≤ 400 := by omega
  have uyn : (n : Int) ≤ 400 := by omega
  clear hqn hnn
  obtain ⟨rm, hrm⟩ := Int.eq_ofNat_of_zero_le (show 0 ≤ IntKind.u64.wrap q by rw [IntKind.wrap_u64]; omega)
  have hnw : IntKind.u64.wrap (n : Int) = (n : Int) := by rw [IntKind.wrap_u64]; omega
  obtain ⟨qm, hqm⟩ : ∃ x, x = rm % n := ⟨_, rfl⟩
  have hlt := Nat.mod_lt rm (show 0 < n by omega)
  obtain ⟨m, hm⟩ : ∃ x, x = 1 + qm := ⟨_, rfl⟩
  have uum : (rm : Int) % (n : Int) = (qm : Int) := by rw [hqm]; first | exact (Int.natCast_emod rm n).symm | exact (Int.ofNat_emod rm n).symm
  have uvm : (1 : Int) + (qm : Int) = (m : Int) := by omega
  have uwm : (0 : Int) ≤ (rm : Int) := by omega
  have uxm : (qm : Int) ≤ 400 := by omega
  have mlo : 1 ≤ m := by omega
  have mhi : m ≤ n := by omega
  have uym : (m : Int) ≤ 400 := by omega
  have nz : (n : Int) ≠ 0 := by omega
  clear hqm hm hlt
  have BB := below_alloc w (.cells #[.bool s1, .slice A1 n1 c1, .int .i64 e1] 24)
  obtain ⟨a10, a11, a12⟩ := (Box.new w s1 A1 n1 c1 e1).held
  have G := mv BB rfl <| And.intro hT <| h1
  clear hT h1
  obtain ⟨hT, h1⟩ := G
  by_cases q1 : n1 ≤ 10
  rotate_left
  · have d1 : decide ((10 : Int) < (n1 : Int)) = true := decide_eq_true (by omega)
    go_enter Tryd.func16, Tryd.ntmps16
    go_wp2_with fail
    refine (rtold_any hT).mono ?_
    rintro en w99 ⟨rfl, b⟩
    replace BB := below_next BB BB.size b rfl rfl rfl rfl
    clear b
    go_wp2
    go_ret
    exact ⟨by first | rfl | simp, BB⟩
  have d1 : decide ((10 : Int) < (n1 : Int)) = false := decide_eq_false (by omega)
  go_enter Tryd.func16, Tryd.ntmps16
  go_wp2_with fail
  refine (dmay_any (s := s1) (e := e1) hT h1).mono ?_
  rintro en w1 ⟨rfl, b⟩
  replace BB := below_next BB BB.size b rfl rfl rfl rfl
  have G := mv b rfl <| And.intro a10 <| And.intro a11 <| And.intro a12 <| And.intro hT <| h1
  clear b a10 a11 a12 hT h1
  obtain ⟨a10, a11, a12, hT, h1⟩ := G
  cases hd1 : mayD s1 l1 e1
  · clear hd1
    go_wp2_with fail
    refine (rtold_any hT).mono ?_
    rintro en w99 ⟨rfl, b⟩
    replace BB := below_next BB BB.size b rfl rfl rfl rfl
    clear b
    go_wp2
    go_ret
    exact ⟨by first | rfl | simp, BB⟩
  obtain ⟨hm, hok⟩ := mayD_of h1.lt hd1
  have N1 := (nt_of h1 hm).1
  generalize val W l1 = m1 at N1 hok
  have O1 := Lib.hid hok
  clear hm hok hd1
  clear h1
  have B1 := ten_bits N1 q1
  rcases Int.lt_or_le 1000 e1 with g | g
  · have d : decide (1000 < e1) = true := decide_eq_true g
    go_wp2_with fail
    refine (rtold_any hT).mono ?_
    rintro en w99 ⟨rfl, b⟩
    replace BB := below_next BB BB.size b rfl rfl rfl rfl
    clear b
    go_wp2
    go_ret
    exact ⟨by first | rfl | simp, BB⟩
  have da1 : decide (1000 < e1) = false := decide_eq_false (by omega)
  rcases Int.lt_or_le e1 (-1000) with g' | g'
  · have d : decide (e1 < -1000) = true := decide_eq_true g'
    go_wp2_with fail
    refine (rtold_any hT).mono ?_
    rintro en w99 ⟨rfl, b⟩
    replace BB := below_next BB BB.size b rfl rfl rfl rfl
    clear b
    go_wp2
    go_ret
    exact ⟨by first | rfl | simp, BB⟩
  have db1 : decide (e1 < -1000) = false := decide_eq_false (by omega)
  have E1 := Lib.hid (And.intro g' g)
  clear g g'
  go_wp2_with fail
  refine (rdown_ok hT N1 O1.out nlo (by omega)).mono ?_
  rintro en v3 ⟨k3, s3, A3, n3, c3, m3, e3, rfl, hp, N3, b⟩
  have P3 := Lib.hid hp
  have O3 := Lib.hid (nm_okd hp)
  clear hp
  replace BB := below_next BB BB.size b rfl rfl rfl rfl
  have G := mv b rfl <| And.intro a10 <| And.intro a11 <| And.intro a12 <| And.intro hT <| N1
  clear b a10 a11 a12 hT N1
  obtain ⟨a10, a11, a12, hT, N1⟩ := G
  obtain ⟨a30, a31, a32⟩ := (Box.new v3 s3 A3 n3 c3 e3).held
  have b := below_alloc v3 (.cells #[.bool s3, .slice A3 n3 c3, .int .i64 e3] 24)
  replace BB := below_next BB BB.size b rfl rfl rfl rfl
  have G := mv b rfl <| And.intro a10 <| And.intro a11 <| And.intro a12 <| And.intro hT <| And.intro N1 <| N3
  clear b a10 a11 a12 hT N1 N3
  obtain ⟨a10, a11, a12, hT, N1, N3⟩ := G
  go_wp2_with fail
  refine (rdown_ok hT N3 O3.out mlo (by omega)).mono ?_
  rintro en v4 ⟨k4, s4, A4, n4, c4, m4, e4, rfl, hp, N4, b⟩
  have P4 := Lib.hid hp
  have O4 := Lib.hid (nm_okd hp)
  clear hp
  replace BB := below_next BB BB.size b rfl rfl rfl rfl
  have G := mv b rfl <| And.intro a10 <| And.intro a11 <| And.intro a12 <| And.intro hT <| And.intro N1 <| And.intro N3 <| And.intro a30 <| And.intro a31 <| a32
  clear b a10 a11 a12 hT N1 N3 a30 a31 a32
  obtain ⟨a10, a11, a12, hT, N1, N3, a30, a31, a32⟩ := G
  obtain ⟨a40, a41, a42⟩ := (Box.new v4 s4 A4 n4 c4 e4).held
  have b := below_alloc v4 (.cells #[.bool s4, .slice A4 n4 c4, .int .i64 e4] 24)
  replace BB := below_next BB BB.size b rfl rfl rfl rfl
  have G := mv b rfl <| And.intro a10 <| And.intro a11 <| And.intro a12 <| And.intro hT <| And.intro N1 <| And.intro N3 <| And.intro a30 <| And.intro a31 <| And.intro a32 <| N4
  clear b a10 a11 a12 hT N1 N3 a30 a31 a32 N4
  obtain ⟨a10, a11, a12, hT, N1, N3, a30, a31, a32, N4⟩ := G
  go_wp2_with fail
  refine (rdown_ok hT N1 O1.out mlo (by omega)).mono ?_
  rintro en v5 ⟨k5, s5, A5, n5, c5, m5, e5, rfl, hp, N5, b⟩
  have P5 := Lib.hid hp
  have O5 := Lib.hid (nm_okd hp)
  clear hp
  replace BB := below_next BB BB.size b rfl rfl rfl rfl
  have G := mv b rfl <| And.intro a10 <| And.intro a11 <| And.intro a12 <| And.intro hT <| And.intro N1 <| And.intro N3 <| And.intro a30 <| And.intro a31 <| And.intro a32 <| And.intro N4 <| And.intro a40 <| And.intro a41 <| a42
  clear b a10 a11 a12 hT N1 N3 a30 a31 a32 N4 a40 a41 a42
  obtain ⟨a10, a11, a12, hT, N1, N3, a30, a31, a32, N4, a40, a41, a42⟩ := G
  obtain ⟨a50, a51, a52⟩ := (Box.new v5 s5 A5 n5 c5 e5).held
  have b := below_alloc v5 (.cells #[.bool s5, .slice A5 n5 c5, .int .i64 e5] 24)
  replace BB := below_next BB BB.size b rfl rfl rfl rfl
  have G := mv b rfl <| And.intro a10 <| And.intro a11 <| And.intro a12 <| And.intro hT <| And.intro N1 <| And.intro N3 <| And.intro a30 <| And.intro a31 <| And.intro a32 <| And.intro N4 <| And.intro a40 <| And.intro a41 <| And.intro a42 <| N5
  clear b a10 a11 a12 hT N1 N3 a30 a31 a32 N4 a40 a41 a42 N5
  obtain ⟨a10, a11, a12, hT, N1, N3, a30, a31, a32, N4, a40, a41, a42, N5⟩ := G
  obtain rfl := told_good nlo (by omega) (by have := E1.out; omega) (by have := E1.out; omega) P3.out
  have b3 := twice_bits nlo P3.out
  have g3 := told_e nlo B1 E1.out P3.out
  obtain rfl := told_good mlo (by omega) g3.1 g3.2 P4.out
  obtain ⟨g0, g1, g2, g4⟩ := twice_same mlo mhi (by have := E1.out; omega) P3.out P4.out P5.out
  obtain rfl := g0
  obtain rfl := g1
  obtain rfl := g2
  obtain rfl := g4
  clear g3
  go_wp2_with fail
  refine (rtold_any hT).mono ?_
  rintro en w5 ⟨rfl, b⟩
  replace BB := below_next BB BB.size b rfl rfl rfl rfl
  have G := mv b rfl <| And.intro a10 <| And.intro a11 <| And.intro a12 <| And.intro hT <| And.intro N1 <| And.intro N3 <| And.intro a30 <| And.intro a31 <| And.intro a32 <| And.intro N4 <| And.intro a40 <| And.intro a41 <| And.intro a42 <| And.intro N5 <| And.intro a50 <| And.intro a51 <| a52
  clear b a10 a11 a12 hT N1 N3 a30 a31 a32 N4 a40 a41 a42 N5 a50 a51 a52
  obtain ⟨a10, a11, a12, hT, N1, N3, a30, a31, a32, N4, a40, a41, a42, N5, a50, a51, a52⟩ := G
  go_wp2_with fail
  refine (dsame_self (s := s4) (e := e4) N4 N5).mono ?_
  rintro en w6 ⟨rfl, b⟩
  clear N4 N5
  replace BB := below_next BB BB.size b rfl rfl rfl rfl
  have G := mv b rfl <| And.intro a10 <| And.intro a11 <| And.intro a12 <| And.intro hT <| And.intro N1 <| And.intro N3 <| And.intro a30 <| And.intro a31 <| And.intro a32 <| And.intro a40 <| And.intro a41 <| And.intro a42 <| And.intro a50 <| And.intro a51 <| a52
  clear b a10 a11 a12 hT N1 N3 a30 a31 a32 a40 a41 a42 a50 a51 a52
  obtain ⟨a10, a11, a12, hT, N1, N3, a30, a31, a32, a40, a41, a42, a50, a51, a52⟩ := G
  go_wp2
  go_ret
  exact ⟨by first | rfl | simp, BB⟩
set_option maxRecDepth 100000 in
set_option maxHeartbeats 8000000 in
theorem twice_up {w : World} {A1 : Option Addr} {n1 c1 : Nat} {l1 : List Nat} {s1 : Bool} {e1 : Int} {p q : Int} (hT : Tab w) (h1 : Rd w .u64 W A1 n1 c1 l1) :
    Calls Tryd.prog 16 #[.agg #[.bool s1, .slice A1 n1 c1, .int .i64 e1], .int .i64 p, .int .i64 q, .bool true] w fun en w' => ToldEnd w en w' := by
  have x1 : n1 ≤ 9223372036854775807 := Nat.le_trans h1.cap h1.max
  obtain ⟨rn, hrn⟩ := Int.eq_ofNat_of_zero_le (show 0 ≤ IntKind.u64.wrap p by rw [IntKind.wrap_u64]; omega)
  obtain ⟨qn, hqn⟩ : ∃ q, q = rn % 400 := ⟨_, rfl⟩
  obtain ⟨n, hnn⟩ : ∃ n, n = 1 + qn := ⟨_, rfl⟩
  have uun : (rn : Int) % 400 = (qn : Int) := by omega
  have uvn : (1 : Int) + (qn : Int) = (n : Int) := by omega
  have uwn : (0 : Int) ≤ (rn : Int) := by omega
  have uxn : (qn : Int) ≤ 400 := by omega
  have nlo : 1 ≤ n := by omega
  have nhi : n ≤ 400 := by omega
  have uyn : (n : Int) ≤ 400 := by omega
  clear hqn hnn
  obtain ⟨rm, hrm⟩ := Int.eq_ofNat_of_zero_le (show 0 ≤ IntKind.u64.wrap q by rw [IntKind.wrap_u64]; omega)
  have hnw : IntKind.u64.wrap (n : Int) = (n : Int) := by rw [IntKind.wrap_u64]; omega
  obtain ⟨qm, hqm⟩ : ∃ x, x = rm % n := ⟨_, rfl⟩
  have hlt := Nat.mod_lt rm (show 0 < n by omega)
  obtain ⟨m, hm⟩ : ∃ x, x = 1 + qm := ⟨_, rfl⟩
  have uum : (rm : Int) % (n : Int) = (qm : Int) := by rw [hqm]; first | exact (Int.natCast_emod rm n).symm | exact (Int.ofNat_emod rm n).symm
  have uvm : (1 : Int) + (qm : Int) = (m : Int) := by omega
  have uwm : (0 : Int) ≤ (rm : Int) := by omega
  have uxm : (qm : Int) ≤ 400 := by omega
  have mlo : 1 ≤ m := by omega
  have mhi : m ≤ n := by omega
  have uym : (m : Int) ≤ 400 := by omega
  have nz : (n : Int) ≠ 0 := by omega
  clear hqm hm hlt
  clear x1
  have BB := below_alloc w (.cells #[.bool s1, .slice A1 n1 c1, .int .i64 e1] 24)
  have xd := Box.new w s1 A1 n1 c1 e1
  obtain ⟨a10, a11, a12⟩ := xd.held
  have G := mv BB rfl <| And.intro hT <| h1
  clear hT h1
  obtain ⟨hT, h1⟩ := G
  by_cases q1 : n1 ≤ 10
  rotate_left
  · have d1 : decide ((10 : Int) < (n1 : Int)) = true := decide_eq_true (by omega)
    go_enter Tryd.func16, Tryd.ntmps16
    go_wp2_with fail
    refine (rtold_any hT).mono ?_
    rintro en w99 ⟨rfl, b⟩
    replace BB := below_next BB BB.size b rfl rfl rfl rfl
    clear b
    go_wp2
    go_ret
    exact ⟨by first | rfl | simp, BB⟩
  have d1 : decide ((10 : Int) < (n1 : Int)) = false := decide_eq_false (by omega)
  go_enter Tryd.func16, Tryd.ntmps16
  go_wp2_with fail
  refine (dmay_any (s := s1) (e := e1) hT h1).mono ?_
  rintro en w1 ⟨rfl, b⟩
  replace BB := below_next BB BB.size b rfl rfl rfl rfl
  have G := mv b rfl <| And.intro xd <| And.intro a10 <| And.intro a11 <| And.intro a12 <| And.intro hT <| h1
  clear b xd a10 a11 a12 hT h1
  obtain ⟨xd, a10, a11, a12, hT, h1⟩ := G
  cases hd1 : mayD s1 l1 e1
  · clear hd1
    go_wp2_with fail
    refine (rtold_any hT).mono ?_
    rintro en w99 ⟨rfl, b⟩
    replace BB := below_next BB BB.size b rfl rfl rfl rfl
    clear b
    go_wp2
    go_ret
    exact ⟨by first | rfl | simp, BB⟩
  obtain ⟨hm, hok⟩ := mayD_of h1.lt hd1
  have N1 := (nt_of h1 hm).1
  generalize val W l1 = m1 at N1 hok
  have O1 := Lib.hid hok
  clear hm hok hd1
  clear h1
  have B1 := ten_bits N1 q1
  rcases Int.lt_or_le 1000 e1 with g | g
  · have d : decide (1000 < e1) = true := decide_eq_true g
    go_wp2_with fail
    refine (rtold_any hT).mono ?_
    rintro en w99 ⟨rfl, b⟩
    replace BB := below_next BB BB.size b rfl rfl rfl rfl
    clear b
    go_wp2
    go_ret
    exact ⟨by first | rfl | simp, BB⟩
  have da1 : decide (1000 < e1) = false := decide_eq_false (by omega)
  rcases Int.lt_or_le e1 (-1000) with g' | g'
  · have d : decide (e1 < -1000) = true := decide_eq_true g'
    go_wp2_with fail
    refine (rtold_any hT).mono ?_
    rintro en w99 ⟨rfl, b⟩
    replace BB := below_next BB BB.size b rfl rfl rfl rfl
    clear b
    go_wp2
    go_ret
    exact ⟨by first | rfl | simp, BB⟩
  have db1 : decide (e1 < -1000) = false := decide_eq_false (by omega)
  have E1 := Lib.hid (And.intro g' g)
  clear g g'
  clear a10 a11 a12
  have x1 := xd
  clear xd
  obtain ⟨p10, p11, p12⟩ := x1.held
  go_wp2_with fail
  refine (rdown_ok hT N1 O1.out nlo (by omega)).mono ?_
  rintro en v3 ⟨k3, s3, A3, n3, c3, m3, e3, rfl, hp, N3, b⟩
  have O3 := Lib.hid (nm_okd hp)
  clear hp
  replace BB := below_next BB BB.size b rfl rfl rfl rfl
  have G := mv b rfl <| And.intro x1 <| And.intro hT <| And.intro N1 <| And.intro p10 <| And.intro p11 <| p12
  clear b x1 hT N1 p10 p11 p12
  obtain ⟨x1, hT, N1, p10, p11, p12⟩ := G
  have l3 := BB.size
  have l31 := x1.gl
  have x3 := Box.new v3 s3 A3 n3 c3 e3
  have b := below_alloc v3 (.cells #[.bool s3, .slice A3 n3 c3, .int .i64 e3] 24)
  replace BB := below_next BB BB.size b rfl rfl rfl rfl
  have G := mv b rfl <| And.intro x1 <| And.intro hT <| And.intro N1 <| And.intro p10 <| And.intro p11 <| And.intro p12 <| N3
  clear b x1 hT N1 p10 p11 p12 N3
  obtain ⟨x1, hT, N1, p10, p11, p12, N3⟩ := G
  clear p10 p11 p12
  obtain ⟨p10, p11, p12⟩ := x1.held
  obtain ⟨p30, p31, p32⟩ := x3.held
  go_wp2_with fail
  refine (rdown_ok hT N3 O3.out mlo (by omega)).mono ?_
  rintro en v4 ⟨k4, s4, A4, n4, c4, m4, e4, rfl, hp, N4, b⟩
  have O4 := Lib.hid (nm_okd hp)
  clear hp
  replace BB := below_next BB BB.size b rfl rfl rfl rfl
  have G := mv b rfl <| And.intro x1 <| And.intro hT <| And.intro N1 <| And.intro N3 <| And.intro x3 <| And.intro p10 <| And.intro p11 <| And.intro p12 <| And.intro p30 <| And.intro p31 <| p32
  clear b x1 hT N1 N3 x3 p10 p11 p12 p30 p31 p32
  obtain ⟨x1, hT, N1, N3, x3, p10, p11, p12, p30, p31, p32⟩ := G
  have l4 := BB.size
  have l41 := x1.gl
  have l43 := x3.gl
  have x4 := Box.new v4 s4 A4 n4 c4 e4
  have b := below_alloc v4 (.cells #[.bool s4, .slice A4 n4 c4, .int .i64 e4] 24)
  replace BB := below_next BB BB.size b rfl rfl rfl rfl
  have G := mv b rfl <| And.intro x1 <| And.intro hT <| And.intro N1 <| And.intro N3 <| And.intro x3 <| And.intro p10 <| And.intro p11 <| And.intro p12 <| And.intro p30 <| And.intro p31 <| And.intro p32 <| N4
  clear b x1 hT N1 N3 x3 p10 p11 p12 p30 p31 p32 N4
  obtain ⟨x1, hT, N1, N3, x3, p10, p11, p12, p30, p31, p32, N4⟩ := G
  clear p10 p11 p12 p30 p31 p32
  obtain ⟨p10, p11, p12⟩ := x1.held
  obtain ⟨p30, p31, p32⟩ := x3.held
  obtain ⟨p40, p41, p42⟩ := x4.held
  clear N3
  go_wp2_with fail
  refine (rdown_ok hT N1 O1.out mlo (by omega)).mono ?_
  rintro en v5 ⟨k5, s5, A5, n5, c5, m5, e5, rfl, hp, N5, b⟩
  have O5 := Lib.hid (nm_okd hp)
  clear hp
  replace BB := below_next BB BB.size b rfl rfl rfl rfl
  have G := mv b rfl <| And.intro x1 <| And.intro hT <| And.intro N1 <| And.intro x3 <| And.intro N4 <| And.intro x4 <| And.intro p10 <| And.intro p11 <| And.intro p12 <| And.intro p30 <| And.intro p31 <| And.intro p32 <| And.intro p40 <| And.intro p41 <| p42
  clear b x1 hT N1 x3 N4 x4 p10 p11 p12 p30 p31 p32 p40 p41 p42
  obtain ⟨x1, hT, N1, x3, N4, x4, p10, p11, p12, p30, p31, p32, p40, p41, p42⟩ := G
  have l5 := BB.size
  have l51 := x1.gl
  have l53 := x3.gl
  have l54 := x4.gl
  have x5 := Box.new v5 s5 A5 n5 c5 e5
  have b := below_alloc v5 (.cells #[.bool s5, .slice A5 n5 c5, .int .i64 e5] 24)
  replace BB := below_next BB BB.size b rfl rfl rfl rfl
  have G := mv b rfl <| And.intro x1 <| And.intro hT <| And.intro N1 <| And.intro x3 <| And.intro N4 <| And.intro x4 <| And.intro p10 <| And.intro p11 <| And.intro p12 <| And.intro p30 <| And.intro p31 <| And.intro p32 <| And.intro p40 <| And.intro p41 <| And.intro p42 <| N5
  clear b x1 hT N1 x3 N4 x4 p10 p11 p12 p30 p31 p32 p40 p41 p42 N5
  obtain ⟨x1, hT, N1, x3, N4, x4, p10, p11, p12, p30, p31, p32, p40, p41, p42, N5⟩ := G
  clear p10 p11 p12 p30 p31 p32 p40 p41 p42
  obtain ⟨p10, p11, p12⟩ := x1.held
  obtain ⟨p30, p31, p32⟩ := x3.held
  obtain ⟨p40, p41, p42⟩ := x4.held
  obtain ⟨p50, p51, p52⟩ := x5.held
  clear N4 N5
  have n13 : ¬ w.heap.size = v3.heap.size := by omega
  have n14 : ¬ w.heap.size = v4.heap.size := by omega
  have n15 : ¬ w.heap.size = v5.heap.size := by omega
  have n34 : ¬ v3.heap.size = v4.heap.size := by omega
  have n35 : ¬ v3.heap.size = v5.heap.size := by omega
  have n45 : ¬ v4.heap.size = v5.heap.size := by omega
  have n31 : ¬ v3.heap.size = w.heap.size := by omega
  have n41 : ¬ v4.heap.size = w.heap.size := by omega
  have n51 : ¬ v5.heap.size = w.heap.size := by omega
  have n43 : ¬ v4.heap.size = v3.heap.size := by omega
  have n53 : ¬ v5.heap.size = v3.heap.size := by omega
  have n54 : ¬ v5.heap.size = v4.heap.size := by omega
  go_wp2_with fail
  refine (rup_ok hT N1 O1.out nlo (by omega)).mono ?_
  rintro en v6 ⟨k6, s6, A6, n6, c6, m6, e6, rfl, hp, N6, b⟩
  have P6 := Lib.hid hp
  have O6 := Lib.hid (nm_okd hp)
  clear hp
  clear p10 p11 p12 p30 p31 p32 p40 p41 p42 p50 p51 p52
  replace BB := below_next BB BB.size b rfl rfl rfl rfl
  have G := mv b rfl <| And.intro x1 <| And.intro hT <| And.intro N1 <| And.intro x3 <| And.intro x4 <| x5
  clear b x1 hT N1 x3 x4 x5
  obtain ⟨x1, hT, N1, x3, x4, x5⟩ := G
  obtain ⟨f0, f1, f2⟩ := x3.open
  obtain ⟨p10, p11, p12⟩ := x1.held
  obtain ⟨p30, p31, p32⟩ := x3.held
  obtain ⟨p40, p41, p42⟩ := x4.held
  obtain ⟨p50, p51, p52⟩ := x5.held
  go_wp2_with fail
  clear f0 f1 f2 p10 p11 p12 p30 p31 p32 p40 p41 p42 p50 p51 p52
  replace x1 := x1.put3o (g := v3.heap.size) (by omega) (.bool s6) (.slice A6 n6 c6) (.int .i64 e6)
  replace hT := hT.put3 x3 (.bool s6) (.slice A6 n6 c6) (.int .i64 e6)
  replace N1 := N1.put3 x3 (.bool s6) (.slice A6 n6 c6) (.int .i64 e6)
  replace x4 := x4.put3o (g := v3.heap.size) (by omega) (.bool s6) (.slice A6 n6 c6) (.int .i64 e6)
  replace x5 := x5.put3o (g := v3.heap.size) (by omega) (.bool s6) (.slice A6 n6 c6) (.int .i64 e6)
  replace N6 := N6.put3 x3 (.bool s6) (.slice A6 n6 c6) (.int .i64 e6)
  replace x3 := x3.put s6 A6 n6 c6 e6
  replace BB := below_put3 (g := v3.heap.size) BB l3 (.bool s6) (.slice A6 n6 c6) (.int .i64 e6)
  generalize (((v6.setCell ⟨v3.heap.size, 0, none⟩ (.bool s6)).setCell ⟨v3.heap.size, 1, none⟩ (.slice A6 n6 c6)).setCell ⟨v3.heap.size, 2, none⟩ (.int .i64 e6)) = u6 at *
  obtain rfl := told_good nlo (by omega) (by have := E1.out; omega) (by have := E1.out; omega) P6.out
  have b3 := twice_bits nlo P6.out
  have g3 := told_e nlo B1 E1.out P6.out
  refine (rup_ok hT N6 O6.out mlo (by omega)).mono ?_
  rintro en v7 ⟨k7, s7, A7, n7, c7, m7, e7, rfl, hp, N7, b⟩
  have P7 := Lib.hid hp
  have O7 := Lib.hid (nm_okd hp)
  clear hp
  replace BB := below_next BB BB.size b rfl rfl rfl rfl
  have G := mv b rfl <| And.intro x1 <| And.intro hT <| And.intro N1 <| And.intro x3 <| And.intro x4 <| And.intro x5 <| N6
  clear b x1 hT N1 x3 x4 x5 N6
  obtain ⟨x1, hT, N1, x3, x4, x5, N6⟩ := G
  obtain ⟨f0, f1, f2⟩ := x4.open
  obtain ⟨p10, p11, p12⟩ := x1.held
  obtain ⟨p30, p31, p32⟩ := x3.held
  obtain ⟨p40, p41, p42⟩ := x4.held
  obtain ⟨p50, p51, p52⟩ := x5.held
  go_wp2_with fail
  clear f0 f1 f2 p10 p11 p12 p30 p31 p32 p40 p41 p42 p50 p51 p52
  replace x1 := x1.put3o (g := v4.heap.size) (by omega) (.bool s7) (.slice A7 n7 c7) (.int .i64 e7)
  replace hT := hT.put3 x4 (.bool s7) (.slice A7 n7 c7) (.int .i64 e7)
  replace N1 := N1.put3 x4 (.bool s7) (.slice A7 n7 c7) (.int .i64 e7)
  replace x3 := x3.put3o (g := v4.heap.size) (by omega) (.bool s7) (.slice A7 n7 c7) (.int .i64 e7)
  replace x5 := x5.put3o (g := v4.heap.size) (by omega) (.bool s7) (.slice A7 n7 c7) (.int .i64 e7)
  replace N6 := N6.put3 x4 (.bool s7) (.slice A7 n7 c7) (.int .i64 e7)
  replace N7 := N7.put3 x4 (.bool s7) (.slice A7 n7 c7) (.int .i64 e7)
  replace x4 := x4.put s7 A7 n7 c7 e7
  replace BB := below_put3 (g := v4.heap.size) BB l4 (.bool s7) (.slice A7 n7 c7) (.int .i64 e7)
  generalize (((v7.setCell ⟨v4.heap.size, 0, none⟩ (.bool s7)).setCell ⟨v4.heap.size, 1, none⟩ (.slice A7 n7 c7)).setCell ⟨v4.heap.size, 2, none⟩ (.int .i64 e7)) = u7 at *
  clear N6
  obtain rfl := told_good mlo (by omega) g3.1 g3.2 P7.out
  refine (rup_ok hT N1 O1.out mlo (by omega)).mono ?_
  rintro en v8 ⟨k8, s8, A8, n8, c8, m8, e8, rfl, hp, N8, b⟩
  have P8 := Lib.hid hp
  have O8 := Lib.hid (nm_okd hp)
  clear hp
  replace BB := below_next BB BB.size b rfl rfl rfl rfl
  have G := mv b rfl <| And.intro x1 <| And.intro hT <| And.intro N1 <| And.intro x3 <| And.intro x4 <| And.intro x5 <| N7
  clear b x1 hT N1 x3 x4 x5 N7
  obtain ⟨x1, hT, N1, x3, x4, x5, N7⟩ := G
  obtain ⟨f0, f1, f2⟩ := x5.open
  obtain ⟨p10, p11, p12⟩ := x1.held
  obtain ⟨p30, p31, p32⟩ := x3.held
  obtain ⟨p40, p41, p42⟩ := x4.held
  obtain ⟨p50, p51, p52⟩ := x5.held
  go_wp2_with fail
  clear f0 f1 f2 p10 p11 p12 p30 p31 p32 p40 p41 p42 p50 p51 p52
  replace x1 := x1.put3o (g := v5.heap.size) (by omega) (.bool s8) (.slice A8 n8 c8) (.int .i64 e8)
  replace hT := hT.put3 x5 (.bool s8) (.slice A8 n8 c8) (.int .i64 e8)
  replace N1 := N1.put3 x5 (.bool s8) (.slice A8 n8 c8) (.int .i64 e8)
  replace x3 := x3.put3o (g := v5.heap.size) (by omega) (.bool s8) (.slice A8 n8 c8) (.int .i64 e8)
  replace x4 := x4.put3o (g := v5.heap.size) (by omega) (.bool s8) (.slice A8 n8 c8) (.int .i64 e8)
  replace N7 := N7.put3 x5 (.bool s8) (.slice A8 n8 c8) (.int .i64 e8)
  replace N8 := N8.put3 x5 (.bool s8) (.slice A8 n8 c8) (.int .i64 e8)
  replace x5 := x5.put s8 A8 n8 c8 e8
  replace BB := below_put3 (g := v5.heap.size) BB l5 (.bool s8) (.slice A8 n8 c8) (.int .i64 e8)
  generalize (((v8.setCell ⟨v5.heap.size, 0, none⟩ (.bool s8)).setCell ⟨v5.heap.size, 1, none⟩ (.slice A8 n8 c8)).setCell ⟨v5.heap.size, 2, none⟩ (.int .i64 e8)) = u8 at *
  clear N1
  obtain ⟨g0, g1, g2, g4⟩ := twice_same mlo mhi (by have := E1.out; omega) P6.out P7.out P8.out
  obtain rfl := g0
  obtain rfl := g1
  obtain rfl := g2
  obtain rfl := g4
  clear g3
  refine (rtold_any hT).mono ?_
  rintro en v9 ⟨rfl, b⟩
  replace BB := below_next BB BB.size b rfl rfl rfl rfl
  have G := mv b rfl <| And.intro x1 <| And.intro hT <| And.intro x3 <| And.intro x4 <| And.intro x5 <| And.intro N7 <| N8
  clear b x1 hT x3 x4 x5 N7 N8
  obtain ⟨x1, hT, x3, x4, x5, N7, N8⟩ := G
  obtain ⟨p40, p41, p42⟩ := x4.held
  obtain ⟨p50, p51, p52⟩ := x5.held
  go_wp2_with fail
  refine (dsame_self (s := s7) (e := e7) N7 N8).mono ?_
  rintro en w5 ⟨rfl, b⟩
  clear N7 N8
  replace BB := below_next BB BB.size b rfl rfl rfl rfl
  have G := mv b rfl <| And.intro x1 <| And.intro hT <| And.intro x3 <| And.intro x4 <| x5
  clear b x1 hT x3 x4 x5
  obtain ⟨x1, hT, x3, x4, x5⟩ := G
  go_wp2
  go_ret
  exact ⟨by first | rfl | simp, BB⟩
theorem twice_any {w : World} {A1 : Option Addr} {n1 c1 : Nat} {l1 : List Nat} {s1 : Bool} {e1 : Int} {p q : Int} {up : Bool} (hT : Tab w) (h1 : Rd w .u64 W A1 n1 c1 l1) :
    Calls Tryd.prog 16 #[.agg #[.bool s1, .slice A1 n1 c1, .int .i64 e1], .int .i64 p, .int .i64 q, .bool up] w fun en w' => ToldEnd w en w' := by
  cases up
  · exact twice_down hT h1
  · exact twice_up hT h1
end Go.Proofs.YtkfcnodnefpboaaDoor
