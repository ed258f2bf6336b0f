/-
 Contract of dec's Lit at its face, at this translation. Condition: the two errors of strconv are interfaces, or nil; the table of math/bits reads as its text lays it.
-/
import Derived.Test.YtdhdebapjlcjdaaGreatDoorUKi
import Derived.Test.YtdhdebapjlcjdaaGreatDoorUQn
import Derived.Test.YtdhdebapjlcjdaaGreatDoorUKx
set_option maxHeartbeats 8000000
set_option maxRecDepth 100000
namespace Go.Proofs.YtdhdebapjlcjdaaGreatDoor
open Go.RowKit

theorem lit_face {w : World} {s : ByteArray} {p k : Int} {x : Iv} (hE : Errs w) (hT : Tab w) (hc : ∀ W2 : World, Errs W2 → Tab W2 → W2.cell? ⟨w.heap.size, 0, none⟩ = some (.string s) → Cel W2 (w.heap.size + 1) p → Calls Tryz.prog 18 #[.func (Fn.func 19) #[] #[.pointer (some ⟨w.heap.size, 0, none⟩), .pointer (some ⟨w.heap.size + 1, 0, none⟩)]] W2 (TellI k x W2)) :
  Calls Tryz.prog 6 #[.string s, .int .i64 p] w (TellI k x w) := by
 have hmf := make_func
 have HC := Lib.hid hc
 clear hc
 have BB := three_below w (.cells #[.string s] 9) (.cells #[.int .i64 p] 3) (.cells #[.bool false, .slice none 0 0, .int .i64 0, .bool false, .slice none 0 0, .int .i64 0] 27)
 have hs : (w.alloc (.cells #[.string s] 9)).cell? ⟨w.heap.size, 0, none⟩ = some (.string s) := cell_of_row _ _ 0 _ 9 (0, 0) (heap_alloc_new w _)
 replace hs := mv (below_alloc (w.alloc (.cells #[.string s] 9)) (.cells #[.int .i64 p] 3)) rfl hs
 have hp := Cel.new1 w (.cells #[.string s] 9) p
 have r := Ibx.new ((w.alloc (.cells #[.string s] 9)).alloc (.cells #[.int .i64 p] 3)) false none 0 0 0 false none 0 0 0
 have e2 : ((w.alloc (.cells #[.string s] 9)).alloc (.cells #[.int .i64 p] 3)).heap.size = w.heap.size + 2 := by simp
 rw [e2] at r
 clear e2
 have G := mv (below_alloc ((w.alloc (.cells #[.string s] 9)).alloc (.cells #[.int .i64 p] 3)) (.cells #[.bool false, .slice none 0 0, .int .i64 0, .bool false, .slice none 0 0, .int .i64 0] 27)) rfl <| And.intro hs <| hp
 clear hs hp
 obtain ⟨hs, hp⟩ := G
 have G := mv BB rfl <| And.intro hE <| hT
 clear hE hT
 obtain ⟨hE, hT⟩ := G
 go_enter Tryz.func6, Tryz.ntmps6
 go_wp2_with fail
 refine (HC.out _ hE hT hs hp).mono ?_
 rintro en w5 ⟨A1, n1, c1, A2, n2, c2, rfl, h1, h2, b⟩
 clear hE hT hs hp HC
 replace BB := bnx BB b
 replace r := mv b rfl r
 clear b
 obtain ⟨y0, y1, y2, y3, y4, y5⟩ := r.open
 obtain ⟨z0, z1, z2, z3, z4, z5⟩ := r.held
 go_wp2
 have qq := r.put x.lo.s A1 n1 c1 x.lo.e x.hi.s A2 n2 c2 x.hi.e
 have hN := h1.put6 r (.bool x.lo.s) (.slice A1 n1 c1) (.int .i64 x.lo.e) (.bool x.hi.s) (.slice A2 n2 c2) (.int .i64 x.hi.e)
 have hM := h2.put6 r (.bool x.lo.s) (.slice A1 n1 c1) (.int .i64 x.lo.e) (.bool x.hi.s) (.slice A2 n2 c2) (.int .i64 x.hi.e)
 have HB3 := below_put6 (g := w.heap.size + 2) BB (by omega) (.bool x.lo.s) (.slice A1 n1 c1) (.int .i64 x.lo.e) (.bool x.hi.s) (.slice A2 n2 c2) (.int .i64 x.hi.e)
 obtain ⟨z0, z1, z2, z3, z4, z5⟩ := qq.held
 exact bodyPost_ret (v := .tuple #[.agg #[.bool x.lo.s, .slice A1 n1 c1, .int .i64 x.lo.e, .bool x.hi.s, .slice A2 n2 c2, .int .i64 x.hi.e], .int .i64 k]) (by simp [results, Tryz.results6, go_sem, z0, z1, z2, z3, z4, z5]) rfl ⟨_, _, _, _, _, _, rfl, hN, hM, HB3⟩
theorem okd_blen {s : Bool} {m : Nat} {e : Int} (h : OkD s m e) : blen m ≤ 4096 := by
 rcases h with ⟨rfl, _⟩ | ⟨_, h, _⟩
 ·rw [blen_zero]; omega
 ·have := (blen_le m (64 * 64)).2 (Nat.lt_of_lt_of_eq h W64_pow)
  omega
/-- no literal -/
theorem dlit_text {w : World} {s : ByteArray} {p : Int} (hE : Errs w) (hT : Tab w) (ho : readD s.data.toList = none) :
  Calls Tryz.prog 6 #[.string s, .int .i64 p] w (TellI 6 Iv.zero w) :=
 lit_face hE hT fun _ e t a c => itold_no (k := 6) (fun _ => by kernel_rfl) fun _ b => lit1_text (mv b rfl e) (mv b rfl t) (mv b rfl a) (mv b rfl c) ho
/-- the one forms of a literal's two naturals -/
theorem lit_norms {d : List UInt8} {t : Int} (hd : Digs d) (hl : d.length ≤ 60) (h1 : -160 ≤ t) (h2 : t ≤ 100) : ∃ s1 v1 f1 s2 v2 f2, Nm false (numV d * 5 ^ t.toNat) t 0 s1 v1 f1 ∧ Nm false (5 ^ (-t).toNat) 0 0 s2 v2 f2 ∧ v2 ≠ 0 ∧ blen v1 ≤ 4096 ∧ blen v2 ≤ 4096 ∧ -10000 ≤ f1 ∧ f1 ≤ 10000 ∧ -10000 ≤ f2 ∧ f2 ≤ 10000 := by
 have b1 : blen (numV d * 5 ^ t.toNat) ≤ 4096 := by
  have := (blen_le _ (64 * 64)).2 (Nat.lt_of_lt_of_eq (ratio_lt (n := t.toNat) hd hl (by omega)) W64_pow)
  omega
 have b2 : blen (5 ^ (-t).toNat) ≤ 4096 := by
  have := (blen_le _ (64 * 64)).2 (Nat.lt_of_lt_of_eq (base_lt (b := 5) (i := (-t).toNat) (by omega) (by omega)) W64_pow)
  omega
 have hY : 5 ^ (-t).toNat ≠ 0 := Nat.ne_of_gt (Nat.pow_pos (by omega))
 generalize numV d * 5 ^ t.toNat = X at *
 generalize 5 ^ (-t).toNat = Y at *
 obtain ⟨k1, s1, v1, f1, n1⟩ := nm_total false X t
 obtain ⟨k2, s2, v2, f2, n2⟩ := nm_total false Y 0
 obtain rfl := nm_good n1 b1 (by omega) (by omega)
 obtain rfl := nm_good n2 b2 (by omega) (by omega)
 have o1 := okd_blen (nm_okd n1)
 have o2 := okd_blen (nm_okd n2)
 refine ⟨s1, v1, f1, s2, v2, f2, n1, n2, ?_, by omega, by omega, ?_⟩
 ·rcases nm_exp n2 with ⟨h, _⟩ | ⟨_, h, _⟩
  ·exact absurd h hY
  ·exact h
 ·have e1 := nm_exp n1
  have e2 := nm_exp n2
  omega
/-- a number of bits that may not be -/
theorem dlit_prec {w : World} {s : ByteArray} {p : Int} {d : List UInt8} {t : Int} (hE : Errs w) (hT : Tab w) (ho : readD s.data.toList = some (d, t)) (hn : p < 1 ∨ 2000 < p) :
  Calls Tryz.prog 6 #[.string s, .int .i64 p] w (TellI 1 Iv.zero w) := by
 obtain ⟨hd, hl, t1, t2⟩ := read_some ho
 obtain ⟨s1, v1, f1, s2, v2, f2, n1, n2, _⟩ := lit_norms hd hl t1 t2
 exact lit_face hE hT fun _ e t a c => itold_no (k := 1) (fun _ => by kernel_rfl) fun _ b => lit1_prec (mv b rfl e) (mv b rfl t) (mv b rfl a) (mv b rfl c) ho n1 n2 hn
/-- what Lit tells of a literal: the two quotients, rounded -/
def LitQ (d : List UInt8) (t : Int) (p : Nat) (x : Iv) : Prop := ∃ s1 v1 f1 s2 v2 f2 s3 v3 f3 s4 v4 f4, Nm false (numV d * 5 ^ t.toNat) t 0 s1 v1 f1 ∧ Nm false (5 ^ (-t).toNat) 0 0 s2 v2 f2 ∧ QuTold s1 v1 f1 s2 v2 f2 p false 0 s3 v3 f3 ∧ QuTold s1 v1 f1 s2 v2 f2 p true 0 s4 v4 f4 ∧ x = ⟨rwOf s3 v3 f3, rwOf s4 v4 f4⟩
theorem dlit_ok {w : World} {s : ByteArray} {p : Nat} {d : List UInt8} {t : Int} (hE : Errs w) (hT : Tab w) (ho : readD s.data.toList = some (d, t)) (hp1 : 1 ≤ p) (hp2 : p ≤ 2000) :
  ∃ x, LitQ d t p x ∧ Calls Tryz.prog 6 #[.string s, .int .i64 (p : Int)] w (TellI 0 x w) := by
 obtain ⟨hd, hl, t1, t2⟩ := read_some ho
 obtain ⟨s1, v1, f1, s2, v2, f2, n1, n2, hv, b1, b2, r1, r2, r3, r4⟩ := lit_norms hd hl t1 t2
 have hq : ∀ up, ∃ s3 v3 f3, QuTold s1 v1 f1 s2 v2 f2 p up 0 s3 v3 f3 := fun up => by
  obtain ⟨k, s3, v3, f3, h⟩ : ∃ k s3 v3 f3, QuTold s1 v1 f1 s2 v2 f2 p up k s3 v3 f3 := nm_total _ _ _
  obtain rfl := quot_good h hp2 b1 b2 r1 r2 r3 r4
  exact ⟨_, _, _, h⟩
 obtain ⟨s3, v3, f3, q1⟩ := hq false
 obtain ⟨s4, v4, f4, q2⟩ := hq true
 exact ⟨_, ⟨_, _, _, _, _, _, _, _, _, _, _, _, n1, n2, q1, q2, rfl⟩, lit_face hE hT fun _ e t a c => itold_ok (fun _ => by kernel_rfl) fun _ b => lit1_ok (mv b rfl e) (mv b rfl t) (mv b rfl a) (mv b rfl c) ho n1 n2 rfl hp1 hp2 hv q1 q2⟩
end Go.Proofs.YtdhdebapjlcjdaaGreatDoor
namespace Go.Proofs.YtdhdebapjlcjdaaGreatDoor

theorem digs_take {l : List UInt8} (h : Digs l) (n : Nat) : Digs (l.take n) := fun c hc => h c (List.mem_of_mem_take hc)
/-- a quotient times the divisor, as values -/
theorem quot_valD {K : Nat} {s : Bool} {x : Nat} {e : Int} {y : Nat} {f : Int} {p : Nat} {up : Bool} {s' : Bool} {m' : Nat} {e' : Int} (hK : 4194304 ≤ K) (hy : y ≠ 0) (hp : p ≤ 2000) (bx : blen x ≤ 4096) (bY : blen y ≤ 4096) (r1 : -1048576 ≤ e ∧ e ≤ 1048576) (r2 : -1048576 ≤ f ∧ f ≤ 1048576)
  (h : QuTold s x e false y f p up 0 s' m' e') : (up = false → vz K s' m' e' * vz K false y f ≤ vz K s x e * ((2 ^ K : Nat) : Int)) ∧ (up = true → vz K s x e * ((2 ^ K : Nat) : Int) ≤ vz K s' m' e' * vz K false y f) := by
 have r3 := okd_ge hK (nm_okd h)
 have hk : (p : Int) + (blen y : Int) - (blen x : Int) = ((kUp p x y : Nat) : Int) - ((kDn p x y : Nat) : Int) := by unfold kUp kDn; omega
 have hi : kUp p x y ≤ 10000 := by unfold kUp; omega
 have hj : kDn p x y ≤ 10000 := by unfold kDn; omega
 unfold QuTold at h
 rw [hk] at h
 generalize kUp p x y = i at *
 generalize kDn p x y = j at *
 have hsf : (s != false) = s := by cases s <;> rfl
 rw [hsf] at h
 have hD : 0 < y * 2 ^ j := Nat.mul_pos (Nat.pos_of_ne_zero hy) (pow_pos2 j)
 obtain ⟨rest, hrest⟩ : ∃ r : Bool, r = !decide (x * 2 ^ i % (y * 2 ^ j) = 0) := ⟨_, rfl⟩
 rw [← hrest] at h
 have hdm := Nat.div_add_mod (x * 2 ^ i) (y * 2 ^ j)
 have hml := Nat.mod_lt (x * 2 ^ i) hD
 generalize hq : x * 2 ^ i / (y * 2 ^ j) = q at *
 obtain ⟨L, hL⟩ : ∃ L, L = cutR p q rest (up != s) * 2 ^ (blen q - p) := ⟨_, rfl⟩
 have hside : ((up != s) = false → L * (y * 2 ^ j) ≤ x * 2 ^ i) ∧ ((up != s) = true → x * 2 ^ i ≤ L * (y * 2 ^ j)) := by
  constructor
  ·intro hu
   rw [hu] at hL
   have h1 : L ≤ q := by rw [hL]; exact cutR_le
   have h2 := Nat.mul_le_mul_right (y * 2 ^ j) h1
   rw [Nat.mul_comm q] at h2
   omega
  ·intro hu
   rw [hu] at hL
   obtain ⟨h1, h2⟩ := cutR_ge (p := p) (x := q) (rest := rest)
   rw [← hL] at h1 h2
   cases hr : rest
   ·rw [hr] at hrest
    have h3 : x * 2 ^ i % (y * 2 ^ j) = 0 := by
     have := hrest.symm
     simpa using this
    have h4 := Nat.mul_le_mul_right (y * 2 ^ j) h1
    rw [Nat.mul_comm q] at h4
    omega
   ·have h4 := Nat.mul_le_mul_right (y * 2 ^ j) (h2 hr)
    rw [Nat.add_mul, Nat.one_mul, Nat.mul_comm q] at h4
    omega
 have hE : -(K : Int) ≤ e - f - ((i : Int) - (j : Int)) := by omega
 have v1 := nm_value (K := K) (by omega) h
 rw [vz_up hE, ← hL] at v1
 have m2 := vz_mul (K := K) (s := s) (t := false) (m := L) (n := y) (e := e - f - ((i : Int) - (j : Int))) (f := f) hE (by omega) (by omega)
 have e1 : e - f - ((i : Int) - (j : Int)) + f = (e - (i : Int)) + ((j : Nat) : Int) := by omega
 have e2 : e = (e - (i : Int)) + ((i : Nat) : Int) := by omega
 have v3 := vz_up (K := K) (s := s) (m := L * y) (e := e - (i : Int)) (by omega) j
 have v4 := vz_up (K := K) (s := s) (m := x) (e := e - (i : Int)) (by omega) i
 rw [hsf, e1, v3, Nat.mul_assoc] at m2
 rw [← e2] at v4
 rw [v1, m2, v4]
 constructor
 ·intro hu
  refine Int.mul_le_mul_of_nonneg_right ?_ (Int.le_of_lt pos_of_pow)
  cases hs : s
  ·rw [hu, hs] at hside; exact (vz_mono (hside.1 rfl)).1 rfl
  ·rw [hu, hs] at hside; exact (vz_mono (hside.2 rfl)).2 rfl
 ·intro hu
  refine Int.mul_le_mul_of_nonneg_right ?_ (Int.le_of_lt pos_of_pow)
  cases hs : s
  ·rw [hu, hs] at hside; exact (vz_mono (hside.2 rfl)).1 rfl
  ·rw [hu, hs] at hside; exact (vz_mono (hside.1 rfl)).2 rfl
end Go.Proofs.YtdhdebapjlcjdaaGreatDoor
namespace Go.Proofs.YtdhdebapjlcjdaaGreatDoor

theorem qfits {s1 : Bool} {x : Nat} {e1 : Int} {s2 : Bool} {y : Nat} {e2 : Int} {p : Nat} {up : Bool} {k : Int} {s : Bool} {m : Nat} {e : Int} (hp : 1 ≤ p) (h : QuTold s1 x e1 s2 y e2 p up k s m e) : Fits p m := nm_fits h (cutR_fits hp)
theorem cross_le {a Y Y' X X' P : Int} (hY : 0 < Y) (hY' : 0 < Y') (heq : X * Y' = X' * Y) : (a * Y ≤ X * P → a * Y' ≤ X' * P) ∧ (X * P ≤ a * Y → X' * P ≤ a * Y') := by
 have e1 : a * Y * Y' = a * Y' * Y := by rw [Int.mul_assoc, Int.mul_comm Y, ← Int.mul_assoc]
 have e2 : X * P * Y' = X' * P * Y := by rw [Int.mul_assoc, Int.mul_comm P, ← Int.mul_assoc, heq, Int.mul_assoc, Int.mul_comm Y, ← Int.mul_assoc]
 constructor
 ·intro h
  have h1 := Int.mul_le_mul_of_nonneg_right h (Int.le_of_lt hY')
  rw [e1, e2] at h1
  exact Int.le_of_mul_le_mul_right h1 hY
 ·intro h
  have h1 := Int.mul_le_mul_of_nonneg_right h (Int.le_of_lt hY')
  rw [e1, e2] at h1
  exact Int.le_of_mul_le_mul_right h1 hY
/-- quotients of one value are told alike -/
theorem quot_one {K : Nat} {x y x' y' : Nat} {e f e' f' : Int} {p : Nat} {up : Bool} {s s' : Bool} {m m' : Nat} {g g' : Int} (hK : 4194304 ≤ K) (hy : y ≠ 0) (hy' : y' ≠ 0) (hp1 : 1 ≤ p) (hp : p ≤ 2000)
  (bx : blen x ≤ 4096) (bY : blen y ≤ 4096) (bx' : blen x' ≤ 4096) (bY' : blen y' ≤ 4096) (r1 : -1048576 ≤ e ∧ e ≤ 1048576) (r2 : -1048576 ≤ f ∧ f ≤ 1048576) (r3 : -1048576 ≤ e' ∧ e' ≤ 1048576) (r4 : -1048576 ≤ f' ∧ f' ≤ 1048576)
  (heq : vz K false x e * vz K false y' f' = vz K false x' e' * vz K false y f) (h : QuTold false x e false y f p up 0 s m g) (h' : QuTold false x' e' false y' f' p up 0 s' m' g') : s = s' ∧ m = m' ∧ g = g' := by
 have o := nm_okd h
 have o' := nm_okd h'
 have g1 := okd_ge hK o
 have g2 := okd_ge hK o'
 have pos : ∀ {z : Nat} {t : Int}, z ≠ 0 → 0 < vz K false z t := fun hz => by
  rw [vz_pos_eq]
  exact Int.natCast_pos.2 (Nat.mul_pos (Nat.pos_of_ne_zero hz) (pow_pos2 _))
 have v1 := quot_valD hK hy hp bx bY r1 r2 h
 have v2 := quot_valD hK hy' hp bx' bY' r3 r4 h'
 have n1 := fun {t : Bool} {c : Nat} {z : Int} (hz : -1048576 ≤ z ∧ z ≤ 1048576) (hc : Fits p c) => quot_near (t := t) (c := c) (g := z) hK hy hp1 hp bx bY r1 r2 hz hc h
 have n2 := fun {t : Bool} {c : Nat} {z : Int} (hz : -1048576 ≤ z ∧ z ≤ 1048576) (hc : Fits p c) => quot_near (t := t) (c := c) (g := z) hK hy' hp1 hp bx' bY' r3 r4 hz hc h'
 have m1 := n2 (t := s) ⟨g1.1, g1.2.1⟩ (qfits hp1 h)
 have m2 := n1 (t := s') ⟨g2.1, g2.2.1⟩ (qfits hp1 h')
 have c1 := fun a : Int => cross_le (a := a) (P := ((2 ^ K : Nat) : Int)) (pos hy (t := f)) (pos hy' (t := f')) heq
 have c2 := fun a : Int => cross_le (a := a) (P := ((2 ^ K : Nat) : Int)) (pos hy' (t := f')) (pos hy (t := f)) heq.symm
 refine okd_one hK o o' ?_
 cases up
 ·exact Int.le_antisymm (m1.1 rfl ((c1 _).1 (v1.1 rfl))) (m2.1 rfl ((c2 _).1 (v2.1 rfl)))
 ·exact Int.le_antisymm (m2.2 rfl ((c2 _).2 (v2.2 rfl))) (m1.2 rfl ((c1 _).2 (v1.2 rfl)))
end Go.Proofs.YtdhdebapjlcjdaaGreatDoor
set_option maxHeartbeats 8000000
set_option maxRecDepth 100000
namespace Go.Proofs.YtdhdebapjlcjdaaGreatDoor
open Go.RowKit

theorem lt_W64 {m : Nat} (h : m < 18446744073709551616) : m < W ^ 64 := Nat.lt_of_lt_of_le (by rw [W_eq]; exact h) (Nat.le_self_pow (by omega) W)
theorem decD_12 : decD 12 = [1, 2] := by rw [decD_pos (by decide), show 12 / 10 = 1 from rfl, decD_pos (by decide), show 1 / 10 = 0 from rfl, decD_zero]; rfl
theorem decD_13 : decD 13 = [1, 3] := by rw [decD_pos (by decide), show 13 / 10 = 1 from rfl, decD_pos (by decide), show 1 / 10 = 0 from rfl, decD_zero]; rfl
theorem val_one : val W [1] = 1 := by rw [val_cons, val_nil, Nat.mul_zero]
theorem text_k (s : Bool) : textK s [1] (-3) 2 = 0 := by
 unfold textK
 rw [if_pos ⟨by cases s <;> decide, by decide, by decide⟩, if_pos (by decide)]
theorem text_q (s up : Bool) : textQ s 1 (-3) 2 up = if (up != s) = true then 13 else 12 := by cases s <;> cases up <;> rfl
theorem text_12 (up : Bool) : textS false [1] (-3) 2 up = if up = true then [48, 46, 49, 51] else [48, 46, 49, 50] := by
 unfold textS textT padT
 rw [text_k, if_pos rfl, val_one, show (2 : Int).toNat = 2 from rfl, text_q]
 cases up
 ·show _ ++ pointT 2 (asc (List.replicate (2 + 1 - (decD 12).length) 0 ++ decD 12)) = _
  rw [decD_12]
  rfl
 ·show _ ++ pointT 2 (asc (List.replicate (2 + 1 - (decD 13).length) 0 ++ decD 13)) = _
  rw [decD_13]
  rfl
theorem text_m13 : textS true [1] (-3) 2 false = [45, 48, 46, 49, 51] := by
 unfold textS textT padT
 rw [text_k, if_pos rfl, val_one, show (2 : Int).toNat = 2 from rfl, text_q]
 show _ ++ pointT 2 (asc (List.replicate (2 + 1 - (decD 13).length) 0 ++ decD 13)) = _
 rw [decD_13]
 rfl
theorem dig_w1 : dig W 1 = [1] := dig_one (by omega) (by rw [W_eq]; omega)
theorem text_e {w : World} {A : Option Addr} {n c : Nat} {up : Bool} (hT : Tab w) (hP : PowT w) (h : Nt w A n c 1) : Calls Tryz.prog 14 #[.agg #[.bool false, .slice A n c, .int .i64 (-3)], .int .i64 2, .bool up] w fun en w' => en = .returned (.tuple #[.string ⟨if up = true then #[48, 46, 49, 51] else #[48, 46, 49, 50]⟩, .int .i64 0]) ∧ Below w.heap.size w w' := by
 have h1 : Rd w .u64 W A n c [1] := by rw [← dig_w1]; exact h.rd
 have := dtext_any (s := false) (e := -3) (N := 2) (up := up) hT hP h1
 rw [text_12, text_k] at this
 cases up <;> exact this
theorem text_m {w : World} {A : Option Addr} {n c : Nat} (hT : Tab w) (hP : PowT w) (h : Nt w A n c 1) : Calls Tryz.prog 14 #[.agg #[.bool true, .slice A n c, .int .i64 (-3)], .int .i64 2, .bool false] w fun en w' => en = .returned (.tuple #[.string ⟨#[45, 48, 46, 49, 51]⟩, .int .i64 0]) ∧ Below w.heap.size w w' := by
 have h1 : Rd w .u64 W A n c [1] := by rw [← dig_w1]; exact h.rd
 have := dtext_any (s := true) (e := -3) (N := 2) (up := false) hT hP h1
 rw [text_m13, text_k] at this
 exact this
theorem okd_e (s : Bool) : OkD s 1 (-3) := .inr ⟨rfl, small64 (by omega), by decide, by decide⟩
theorem exact_125 {w : World} (hE : Errs w) (hT : Tab w) : Calls Tryz.prog 8 #[.string ⟨#[48, 46, 49, 50, 53]⟩] w (ToldIs false 1 (-3) 0 w) :=
 (exact_any hE hT).mono fun _ _ hh => told_is hh fun k1 s1 m1 e1 h => by
  rw [show readD (ByteArray.mk #[48, 46, 49, 50, 53]).data.toList = some ([48, 49, 50, 53], -3) by decide] at h
  unfold ExP at h
  dsimp only at h
  rw [if_pos (by decide), show numV [48, 49, 50, 53] * 5 ^ (-3 : Int).toNat / 5 ^ (-(-3 : Int)).toNat = 1 by decide] at h
  exact nm_fun h (nm_self (okd_e false))
theorem exact_01 {w : World} (hE : Errs w) (hT : Tab w) : Calls Tryz.prog 8 #[.string ⟨#[48, 46, 49]⟩] w (ToldIs false 0 0 6 w) :=
 (exact_any hE hT).mono fun _ _ hh => told_is hh fun k1 s1 m1 e1 h => by
  rw [show readD (ByteArray.mk #[48, 46, 49]).data.toList = some ([48, 49], -1) by decide] at h
  unfold ExP at h
  dsimp only at h
  rwa [if_neg (by decide)] at h
theorem okd_lo : OkD false 209715 (-21) := .inr ⟨rfl, lt_W64 (by decide), by decide, by decide⟩
theorem okd_hi : OkD false 838861 (-23) := .inr ⟨rfl, lt_W64 (by decide), by decide, by decide⟩
theorem quot_tenth {up : Bool} {k : Int} {s : Bool} {m : Nat} {e : Int} (h : QuTold false 1 (-1) false 5 0 20 up k s m e) : if up = true then s = false ∧ m = 838861 ∧ e = -23 else s = false ∧ m = 209715 ∧ e = -21 := by
 have b1 : blen 1 = 1 := blen_eq (k := 0) (by decide) (by decide)
 have b5 : blen 5 = 3 := blen_eq (k := 2) (by decide) (by decide)
 have bq : blen 838860 = 20 := blen_eq (k := 19) (by decide) (by decide)
 have eq : 1 * 2 ^ kUp 20 1 5 / (5 * 2 ^ kDn 20 1 5) = 838860 := by unfold kUp kDn; rw [b1, b5]
 have er : (!decide (1 * 2 ^ kUp 20 1 5 % (5 * 2 ^ kDn 20 1 5) = 0)) = true := by unfold kUp kDn; rw [b1, b5]; rfl
 unfold QuTold at h
 rw [eq, er, bq, b1, b5] at h
 cases up
 ·have e1 : cutR 20 838860 true (false != (false != false)) = 2 ^ 2 * (2 * 104857 + 1) := by unfold cutR; rw [bq]; rfl
  rw [e1] at h
  have := nm_fun h (.inr ⟨2, 104857, rfl, .inr (.inr ⟨lt_W64 (by decide), by decide, rfl, rfl, rfl, rfl⟩)⟩)
  exact ⟨this.2.1, this.2.2.1, this.2.2.2⟩
 ·have e1 : cutR 20 838860 true (true != (false != false)) = 2 ^ 0 * (2 * 419430 + 1) := by unfold cutR; rw [bq]; rfl
  rw [e1] at h
  have := nm_fun h (.inr ⟨0, 419430, rfl, .inr (.inr ⟨lt_W64 (by decide), by decide, rfl, rfl, rfl, rfl⟩)⟩)
  exact ⟨this.2.1, this.2.2.1, this.2.2.2⟩
theorem okd_five : OkD false 5 0 := okd_small rfl (by omega) (by decide) (by decide)
theorem lit_tenth {w : World} (hE : Errs w) (hT : Tab w) : Calls Tryz.prog 6 #[.string ⟨#[48, 46, 49]⟩, .int .i64 20] w fun en w' => ∃ A n c B m d, en = .returned (.tuple #[.agg #[.bool false, .slice A n c, .int .i64 (-21), .bool false, .slice B m d, .int .i64 (-23)], .int .i64 0]) ∧ Nt w' A n c 209715 ∧ Nt w' B m d 838861 ∧ Below w.heap.size w w' := by
 obtain ⟨x, ⟨s1, v1, f1, s2, v2, f2, s3, v3, f3, s4, v4, f4, h1, h2, h3, h4, rfl⟩, hc⟩ := dlit_ok (s := ⟨#[48, 46, 49]⟩) (p := 20) (d := [48, 49]) (t := -1) hE hT (by decide) (by decide) (by decide)
 rw [show numV [48, 49] * 5 ^ (-1 : Int).toNat = 1 by decide] at h1
 rw [show 5 ^ (-(-1 : Int)).toNat = 5 by decide] at h2
 obtain ⟨-, rfl, rfl, rfl⟩ := nm_fun h1 (nm_self (.inr ⟨rfl, small64 (by omega), by decide, by decide⟩ : OkD false 1 (-1)))
 obtain ⟨-, rfl, rfl, rfl⟩ := nm_fun h2 (nm_self okd_five)
 obtain ⟨rfl, rfl, rfl⟩ := quot_tenth h3
 obtain ⟨rfl, rfl, rfl⟩ := quot_tenth h4
 exact hc.mono fun _ _ ⟨A, n, c, B, m, d, e, h1, h2, b⟩ => ⟨A, n, c, B, m, d, e, ⟨h1, lt_W64 (by decide)⟩, ⟨h2, lt_W64 (by decide)⟩, b⟩
theorem cmp_tenth {K : Nat} (hK : 4194304 ≤ K) : cmpV (vz K false 209715 (-21)) (vz K false 838861 (-23)) = -1 := by
 have h1 := vz_up (K := K) (s := false) (m := 209715) (e := -23) (by omega) 2
 have h2 : vz K false (209715 * 2 ^ 2 + 1) (-23) = vz K false (209715 * 2 ^ 2) (-23) + vz K false 1 (-23) := vz_add
 have h3 := (vz_pos (K := K) (s := false) (x := 1) (e := -23) (by omega)).1 rfl
 rw [show (-23 : Int) + ((2 : Nat) : Int) = -21 from rfl] at h1
 rw [show 209715 * 2 ^ 2 + 1 = 838861 from rfl, ← h1] at h2
 rcases cmpV_cases (vz K false 209715 (-21)) (vz K false 838861 (-23)) with ⟨h, _⟩ | ⟨_, h⟩ | ⟨_, h⟩
 ·exact h
 ·omega
 ·omega
theorem form_a {w : World} (hE : Errs w) : Calls Tryz.prog 10 #[.string ⟨#[49, 46, 53, 101, 45, 51]⟩] w (Bools true w) := by
 have := form_any (s := ⟨#[49, 46, 53, 101, 45, 51]⟩) hE
 rwa [show (readD (ByteArray.mk #[49, 46, 53, 101, 45, 51]).data.toList).isSome = true by decide] at this
theorem form_b {w : World} (hE : Errs w) : Calls Tryz.prog 10 #[.string ⟨#[49, 46]⟩] w (Bools false w) := by
 have := form_any (s := ⟨#[49, 46]⟩) hE
 rwa [show (readD (ByteArray.mk #[49, 46]).data.toList).isSome = false by decide] at this
theorem form_c {w : World} (hE : Errs w) : Calls Tryz.prog 10 #[.string ⟨#[46, 53]⟩] w (Bools false w) := by
 have := form_any (s := ⟨#[46, 53]⟩) hE
 rwa [show (readD (ByteArray.mk #[46, 53]).data.toList).isSome = false by decide] at this
theorem form_d {w : World} (hE : Errs w) : Calls Tryz.prog 10 #[.string ⟨#[49, 101, 49, 48, 49]⟩] w (Bools false w) := by
 have := form_any (s := ⟨#[49, 101, 49, 48, 49]⟩) hE
 rwa [show (readD (ByteArray.mk #[49, 101, 49, 48, 49]).data.toList).isSome = false by decide] at this
theorem form_e {w : World} (hE : Errs w) : Calls Tryz.prog 10 #[.string ⟨#[]⟩] w (Bools false w) := by
 have := form_any (s := ⟨#[]⟩) hE
 rwa [show (readD (ByteArray.mk #[]).data.toList).isSome = false by decide] at this
theorem told4_any {w : World} (hE : Errs w) (hT : Tab w) (hP : PowT w) : Calls Tryz.prog 5 #[] w (Bools true w) := by
 have N1 : Nt (w.alloc (.cells #[.int .u64 1] 38)) (some ⟨w.heap.size, 0, none⟩) 1 1 1 := nt_one_at (v := 1) rfl (by omega) (by omega)
 have BB := two_below w (.cells #[.int .u64 1] 38) (.cells #[.bool false, .slice (some ⟨w.heap.size, 0, none⟩) 1 1, .int .i64 (-3)] 25)
 have N0 := N1.below (below_alloc _ (.cells #[.bool false, .slice (some ⟨w.heap.size, 0, none⟩) 1 1, .int .i64 (-3)] 25))
 have x := box_one w (.cells #[.int .u64 1] 38) false (some ⟨w.heap.size, 0, none⟩) 1 1 (-3)
 have E1 := mv BB rfl <| And.intro hE <| And.intro hT hP
 clear hE hT hP N1
 obtain ⟨hE, hT, hP⟩ := E1
 obtain ⟨x0, x1, x2⟩ := x.held
 go_enter Tryz.func5, Tryz.ntmps5
 go_wp2_with fail
 refine (text_e (up := false) hT hP N0).mono ?_
 rintro en v1 ⟨rfl, b⟩
 replace BB := bnx BB b
 have G := mv b rfl (J7 hE hT hP N0 x0 x1 x2)
 clear b hE hT hP N0 x0 x1 x2
 obtain ⟨hE, hT, hP, N0, x0, x1, x2⟩ := G
 go_wp2_with fail
 refine (text_e (up := true) hT hP N0).mono ?_
 rintro en v2 ⟨rfl, b⟩
 replace BB := bnx BB b
 have G := mv b rfl (J7 hE hT hP N0 x0 x1 x2)
 clear b hE hT hP N0 x0 x1 x2
 obtain ⟨hE, hT, hP, N0, x0, x1, x2⟩ := G
 go_wp2_with fail
 refine (dneg_any hT N0 (okd_e false)).mono ?_
 rintro en v3 ⟨A3, n3, c3, rfl, N3, b⟩
 replace BB := bnx BB b
 have G := mv b rfl (J7 hE hT hP N0 x0 x1 x2)
 clear b hE hT hP N0 x0 x1 x2
 obtain ⟨hE, hT, hP, N0, x0, x1, x2⟩ := G
 go_wp2_with fail
 refine (text_m hT hP N3).mono ?_
 rintro en v4 ⟨rfl, b⟩
 replace BB := bnx BB b
 have G := mv b rfl (J8 hE hT hP N0 x0 x1 x2 N3)
 clear b hE hT hP N0 x0 x1 x2 N3
 obtain ⟨hE, hT, hP, N0, x0, x1, x2, N3⟩ := G
 go_wp2_with fail
 refine (exact_125 hE hT).mono ?_
 rintro en v5 ⟨A5, n5, c5, rfl, N5, b⟩
 replace BB := bnx BB b
 have G := mv b rfl (J8 hE hT hP N0 x0 x1 x2 N3)
 clear b hE hT hP N0 x0 x1 x2 N3
 obtain ⟨hE, hT, hP, N0, x0, x1, x2, N3⟩ := G
 obtain ⟨y0, y1, y2⟩ := (Box.new v5 false A5 n5 c5 (-3)).held
 have b := below_alloc v5 (.cells #[.bool false, .slice A5 n5 c5, .int .i64 (-3)] 25)
 replace BB := bnx BB b
 have G := mv b rfl (J9 hE hT hP N0 x0 x1 x2 N3 N5)
 clear b hE hT hP N0 x0 x1 x2 N3 N5
 obtain ⟨hE, hT, hP, N0, x0, x1, x2, N3, N5⟩ := G
 go_wp2_with fail
 refine (exact_01 hE hT).mono ?_
 rintro en v6 ⟨A6, n6, c6, rfl, N6, b⟩
 replace BB := bnx BB b
 have G := mv b rfl (J12 hE hT hP N0 x0 x1 x2 N3 N5 y0 y1 y2)
 clear b hE hT hP N0 x0 x1 x2 N3 N5 y0 y1 y2
 obtain ⟨hE, hT, hP, N0, x0, x1, x2, N3, N5, y0, y1, y2⟩ := G
 obtain ⟨z0, z1, z2⟩ := (Box.new v6 false A6 n6 c6 0).held
 have b := below_alloc v6 (.cells #[.bool false, .slice A6 n6 c6, .int .i64 0] 25)
 replace BB := bnx BB b
 have G := mv b rfl (J13 hE hT hP N0 x0 x1 x2 N3 N5 y0 y1 y2 N6)
 clear b hE hT hP N0 x0 x1 x2 N3 N5 y0 y1 y2 N6
 obtain ⟨hE, hT, hP, N0, x0, x1, x2, N3, N5, y0, y1, y2, N6⟩ := G
 go_wp2_with fail
 refine (lit_tenth hE hT).mono ?_
 rintro en v7 ⟨A7, n7, c7, A8, n8, c8, rfl, N7, N8, b⟩
 replace BB := bnx BB b
 have G := mv b rfl (J16 hE hT hP N0 x0 x1 x2 N3 N5 y0 y1 y2 N6 z0 z1 z2)
 clear b hE hT hP N0 x0 x1 x2 N3 N5 y0 y1 y2 N6 z0 z1 z2
 obtain ⟨hE, hT, hP, N0, x0, x1, x2, N3, N5, y0, y1, y2, N6, z0, z1, z2⟩ := G
 obtain ⟨i0, i1, i2, i3, i4, i5⟩ := (Ibx.new v7 false A7 n7 c7 (-21) false A8 n8 c8 (-23)).held
 have b := below_alloc v7 (.cells #[.bool false, .slice A7 n7 c7, .int .i64 (-21), .bool false, .slice A8 n8 c8, .int .i64 (-23)] 27)
 clear N3 N6 z0 z1 z2
 replace BB := bnx BB b
 have G := mv b rfl (J13 hE hT hP N0 x0 x1 x2 N5 y0 y1 y2 N7 N8)
 clear b hE hT hP N0 x0 x1 x2 N5 y0 y1 y2 N7 N8
 obtain ⟨hE, hT, hP, N0, x0, x1, x2, N5, y0, y1, y2, N7, N8⟩ := G
 go_wp2_with fail
 refine (dsame_self N5 N0).mono ?_
 rintro en v8 ⟨rfl, b⟩
 clear N5 N0 y0 y1 y2 x0 x1 x2
 replace BB := bnx BB b
 have G := mv b rfl (J11 hE hT hP N7 N8 i0 i1 i2 i3 i4 i5)
 clear b hE hT hP N7 N8 i0 i1 i2 i3 i4 i5
 obtain ⟨hE, hT, hP, N7, N8, i0, i1, i2, i3, i4, i5⟩ := G
 go_wp2_with fail
 refine (dcmp_is (K := 4194304) (by decide) hT N7 N8 okd_lo okd_hi (cmp_tenth (by decide))).mono ?_
 rintro en v9 ⟨rfl, b⟩
 clear N7 N8 i0 i1 i2 i3 i4 i5 hT hP
 replace BB := bnx BB b
 replace hE := mv b rfl hE
 clear b
 go_wp2_with fail
 refine (form_a hE).mono ?_
 rintro en u0 ⟨rfl, b⟩
 replace BB := bnx BB b
 replace hE := mv b rfl hE
 clear b
 go_wp2_with fail
 refine (form_b hE).mono ?_
 rintro en u1 ⟨rfl, b⟩
 replace BB := bnx BB b
 replace hE := mv b rfl hE
 clear b
 go_wp2_with fail
 refine (form_c hE).mono ?_
 rintro en u2 ⟨rfl, b⟩
 replace BB := bnx BB b
 replace hE := mv b rfl hE
 clear b
 go_wp2_with fail
 refine (form_d hE).mono ?_
 rintro en u3 ⟨rfl, b⟩
 replace BB := bnx BB b
 replace hE := mv b rfl hE
 clear b
 go_wp2_with fail
 refine (form_e hE).mono ?_
 rintro en u4 ⟨rfl, b⟩
 clear hE
 replace BB := bnx BB b
 clear b
 go_wp2
 go_ret
 exact ⟨by first | rfl | simp, BB⟩
end Go.Proofs.YtdhdebapjlcjdaaGreatDoor
