/-
 Plain facts of DecSame: noughts and powers of ten change no literal's value, and literals of one value have one interval. No condition; nothing of the program is named here.
-/
import Derived.Test.YtdhdebapjlcjdaaGreatDoorQQn
import Derived.Test.YtdhdebapjlcjdaaGreatDoorQVi
namespace Go.Proofs.YtdhdebapjlcjdaaGreatDoor

theorem qfits {s1 : Bool} {x : Nat} {e1 : Int} {s2 : Bool} {y : Nat} {e2 : Int} {p : Nat} {up : Bool} {k : Int} {s : Bool} {m : Nat} {e : Int} (hp : 1 ≤ p) (h : QuTold s1 x e1 s2 y e2 p up k s m e) : Fits p m := nm_fits h (cutR_fits hp)
theorem cross_le {a Y Y' X X' P : Int} (hY : 0 < Y) (hY' : 0 < Y') (heq : X * Y' = X' * Y) : (a * Y ≤ X * P → a * Y' ≤ X' * P) ∧ (X * P ≤ a * Y → X' * P ≤ a * Y') := by
 have e1 : a * Y * Y' = a * Y' * Y := by rw [Int.mul_assoc, Int.mul_comm Y, ← Int.mul_assoc]
 have e2 : X * P * Y' = X' * P * Y := by rw [Int.mul_assoc, Int.mul_comm P, ← Int.mul_assoc, heq, Int.mul_assoc, Int.mul_comm Y, ← Int.mul_assoc]
 constructor
 ·intro h
  have h1 := Int.mul_le_mul_of_nonneg_right h (Int.le_of_lt hY')
  rw [e1, e2] at h1
  exact Int.le_of_mul_le_mul_right h1 hY
 ·intro h
  have h1 := Int.mul_le_mul_of_nonneg_right h (Int.le_of_lt hY')
  rw [e1, e2] at h1
  exact Int.le_of_mul_le_mul_right h1 hY
/-- quotients of one value are told alike -/
theorem quot_one {K : Nat} {x y x' y' : Nat} {e f e' f' : Int} {p : Nat} {up : Bool} {s s' : Bool} {m m' : Nat} {g g' : Int} (hK : 4194304 ≤ K) (hy : y ≠ 0) (hy' : y' ≠ 0) (hp1 : 1 ≤ p) (hp : p ≤ 2000)
  (bx : blen x ≤ 4096) (bY : blen y ≤ 4096) (bx' : blen x' ≤ 4096) (bY' : blen y' ≤ 4096) (r1 : -1048576 ≤ e ∧ e ≤ 1048576) (r2 : -1048576 ≤ f ∧ f ≤ 1048576) (r3 : -1048576 ≤ e' ∧ e' ≤ 1048576) (r4 : -1048576 ≤ f' ∧ f' ≤ 1048576)
  (heq : vz K false x e * vz K false y' f' = vz K false x' e' * vz K false y f) (h : QuTold false x e false y f p up 0 s m g) (h' : QuTold false x' e' false y' f' p up 0 s' m' g') : s = s' ∧ m = m' ∧ g = g' := by
 have o := nm_okd h
 have o' := nm_okd h'
 have g1 := okd_ge hK o
 have g2 := okd_ge hK o'
 have pos : ∀ {z : Nat} {t : Int}, z ≠ 0 → 0 < vz K false z t := fun hz => by
  rw [vz_pos_eq]
  exact Int.natCast_pos.2 (Nat.mul_pos (Nat.pos_of_ne_zero hz) (pow_pos2 _))
 have v1 := quot_valD hK hy hp bx bY r1 r2 h
 have v2 := quot_valD hK hy' hp bx' bY' r3 r4 h'
 have n1 := fun {t : Bool} {c : Nat} {z : Int} (hz : -1048576 ≤ z ∧ z ≤ 1048576) (hc : Fits p c) => quot_near (t := t) (c := c) (g := z) hK hy hp1 hp bx bY r1 r2 hz hc h
 have n2 := fun {t : Bool} {c : Nat} {z : Int} (hz : -1048576 ≤ z ∧ z ≤ 1048576) (hc : Fits p c) => quot_near (t := t) (c := c) (g := z) hK hy' hp1 hp bx' bY' r3 r4 hz hc h'
 have m1 := n2 (t := s) ⟨g1.1, g1.2.1⟩ (qfits hp1 h)
 have m2 := n1 (t := s') ⟨g2.1, g2.2.1⟩ (qfits hp1 h')
 have c1 := fun a : Int => cross_le (a := a) (P := ((2 ^ K : Nat) : Int)) (pos hy (t := f)) (pos hy' (t := f')) heq
 have c2 := fun a : Int => cross_le (a := a) (P := ((2 ^ K : Nat) : Int)) (pos hy' (t := f')) (pos hy (t := f)) heq.symm
 refine okd_one hK o o' ?_
 cases up
 ·exact Int.le_antisymm (m1.1 rfl ((c1 _).1 (v1.1 rfl))) (m2.1 rfl ((c2 _).1 (v2.1 rfl)))
 ·exact Int.le_antisymm (m2.2 rfl ((c2 _).2 (v2.2 rfl))) (m1.2 rfl ((c1 _).2 (v1.2 rfl)))
theorem lit_same {p n : Nat} {d d' : List UInt8} {x y : Iv} (hp1 : 1 ≤ p) (hp : p ≤ 2000) (hn : n ≤ 160) (hd : Digs d) (hl : d.length ≤ 60) (hd' : Digs d') (hl' : d'.length ≤ 60) (hv : numV d = numV d' * 10 ^ n) (h : LitQ d (-(n : Int)) p x) (h' : LitQ d' 0 p y) : x = y := by
 obtain ⟨K, hK⟩ := scale_has
 obtain ⟨s1, v1, f1, s2, v2, f2, s3, v3, f3, s4, v4, f4, n1, n2, q1, q2, rfl⟩ := h
 obtain ⟨t1, w1, g1, t2, w2, g2, t3, w3, g3, t4, w4, g4, l1, l2, k1, k2, rfl⟩ := h'
 obtain ⟨a1, a2, a3, a4, a5, a6, m1, m2, z1, b1, b2, r1, r2, r3, r4⟩ := lit_norms hd hl (show -160 ≤ -(n : Int) by omega) (by omega)
 obtain ⟨-, rfl, rfl, rfl⟩ := nm_fun n1 m1
 obtain ⟨-, rfl, rfl, rfl⟩ := nm_fun n2 m2
 clear m1 m2
 obtain ⟨a1, a2, a3, a4, a5, a6, m1, m2, z2, b3, b4, r5, r6, r7, r8⟩ := lit_norms hd' hl' (show -160 ≤ (0 : Int) by omega) (by omega)
 obtain ⟨-, rfl, rfl, rfl⟩ := nm_fun l1 m1
 obtain ⟨-, rfl, rfl, rfl⟩ := nm_fun l2 m2
 clear m1 m2
 rw [show (-(n : Int)).toNat = 0 by omega, Nat.pow_zero, Nat.mul_one] at n1
 rw [show (-(-(n : Int))).toNat = n by omega] at n2
 rw [show (0 : Int).toNat = 0 from rfl, Nat.pow_zero, Nat.mul_one] at l1
 rw [show (-(0 : Int)).toNat = 0 from rfl, Nat.pow_zero] at l2
 obtain rfl := nm_plain n1
 obtain rfl := nm_plain n2
 obtain rfl := nm_plain l1
 obtain rfl := nm_plain l2
 have A := nm_value (K := K) (by omega) n1
 have B := nm_value (K := K) (by omega) n2
 have C := nm_value (K := K) (by omega) l1
 have D := nm_value (K := K) (by omega) l2
 have heq : vz K false v1 f1 * vz K false w2 g2 = vz K false w1 g1 * vz K false v2 f2 := by
  rw [A, B, C, D, vz_pos_eq, vz_pos_eq, vz_pos_eq, vz_pos_eq, ← Int.natCast_mul, ← Int.natCast_mul, hv]
  congr 1
  rw [show ((0 : Int) + (K : Int)).toNat = K by omega, show (-(n : Int) + (K : Int)).toNat = K - n by omega]
  have e1 : 10 ^ n * 2 ^ (K - n) = 5 ^ n * 2 ^ K := by
   rw [show (10 : Nat) = 5 * 2 from rfl, Nat.mul_pow, Nat.mul_assoc, ← Nat.pow_add]
   exact congrArg (fun z => 5 ^ n * 2 ^ z) (by omega)
  rw [show numV d' * 10 ^ n * 2 ^ (K - n) * (1 * 2 ^ K) = numV d' * (10 ^ n * 2 ^ (K - n)) * 2 ^ K by rw [Nat.one_mul]; ac_rfl, e1]
  ac_rfl
 obtain ⟨rfl, rfl, rfl⟩ := quot_one hK z1 z2 hp1 hp b1 b2 b3 b4 ⟨by omega, by omega⟩ ⟨by omega, by omega⟩ ⟨by omega, by omega⟩ ⟨by omega, by omega⟩ heq q1 k1
 obtain ⟨rfl, rfl, rfl⟩ := quot_one hK z1 z2 hp1 hp b1 b2 b3 b4 ⟨by omega, by omega⟩ ⟨by omega, by omega⟩ ⟨by omega, by omega⟩ ⟨by omega, by omega⟩ heq q2 k2
 rfl
theorem digs_both {l r : List UInt8} (h : Digs l) (h' : Digs r) : Digs (l ++ r) := fun c hc => (List.mem_append.1 hc).elim (h c) (h' c)
theorem digs_zeros (k : Nat) : Digs (List.replicate k 48) := fun c hc => by
 rw [List.eq_of_mem_replicate hc]
 decide
theorem numV_zeros (l : List UInt8) (k : Nat) : numV (l ++ List.replicate k 48) = numV l * 10 ^ k := by
 rw [numV_append, List.length_replicate]
 have : ∀ k, numV (List.replicate k 48) = 0 := fun k => by
  induction k with
  | zero => rfl
  | succ k ih =>
   rw [List.replicate_succ', numV_snoc, ih]
   rfl
 rw [this, Nat.add_zero]
theorem numV_front (l : List UInt8) : numV (48 :: l) = numV l := by
 rw [show (48 : UInt8) :: l = [48] ++ l from rfl, numV_append, show numV [48] = 0 from rfl, Nat.zero_mul, Nat.zero_add]
theorem read_ten {a T : List UInt8} (ha : Digs a) (h0 : a ≠ []) (hT : Digs T) (hT1 : T.length = 2) (hv : numV T ≤ 100) (hl : a.length ≤ 50) : readD (a ++ 101 :: 45 :: T) = some (a, -(numV T : Int)) := by
 obtain ⟨h2, h3⟩ := span_app (r := 101 :: 45 :: T) ha (.inr ⟨101, 45 :: T, rfl, by decide⟩)
 obtain ⟨h4, h5⟩ := span_app (r := []) hT (.inl rfl)
 rw [List.append_nil] at h4 h5
 have hp : partD (101 :: 45 :: T) = some ([], 101 :: 45 :: T) := by
  unfold partD
  rw [show Lib.hasPrefix (101 :: 45 :: T) [46] = false from rfl, if_neg Bool.false_ne_true]
 have ht : tenD (101 :: 45 :: T) = some (-(numV T : Int), []) := by
  unfold tenD
  rw [show Lib.hasPrefix (101 :: 45 :: T) [101] = true from rfl, if_pos rfl, show Lib.trimPrefix (101 :: 45 :: T) [101] = 45 :: T from rfl]
  unfold powD
  rw [show Lib.hasPrefix (45 :: T) [45] = true from rfl, show Lib.trimPrefix (45 :: T) [45] = T from rfl]
  simp only [if_true]
  rw [h4, h5, if_neg (fun h => by rcases h with h | h | h; (rw [h] at hT1; cases hT1); omega; omega)]
 unfold readD
 rw [h2, h3, hp, if_neg (fun h => h.elim (fun h => by rw [List.length_append, List.length_cons, List.length_cons] at h; omega) h0)]
 simp only [ht]
 show some (a ++ [], -(numV T : Int) - (([] : List UInt8).length : Int)) = some (a, -(numV T : Int))
 rw [List.append_nil, show (([] : List UInt8).length : Int) = 0 from rfl, Int.sub_zero]
/-- what DecSame's texts are read as: so many noughts at the end, the value the same -/
def Like (S : List UInt8) (L : List UInt8) : Prop := ∃ d n, readD L = some (d, -((n : Nat) : Int)) ∧ n ≤ 160 ∧ Digs d ∧ d.length ≤ 60 ∧ numV d = numV S * 10 ^ n
theorem like_self {S : List UInt8} (h : Digs S) (hl : S.length = 9) : Like S S := ⟨S, 0, by rw [show -(((0 : Nat)) : Int) = 0 from rfl]; exact read_plain h (fun h1 => by rw [h1] at hl; cases hl) (by omega), by omega, h, by omega, by rw [Nat.pow_zero, Nat.mul_one]⟩
theorem like_front {S : List UInt8} (h : Digs S) (hl : S.length = 9) : Like S (48 :: S) := by
 have h1 : Digs (48 :: S) := fun c hc => by
  rcases List.mem_cons.1 hc with rfl | hc
  ·decide
  ·exact h c hc
 exact ⟨48 :: S, 0, by rw [show -(((0 : Nat)) : Int) = 0 from rfl]; exact read_plain h1 (fun h1 => by cases h1) (by rw [List.length_cons]; omega), by omega, h1, by rw [List.length_cons]; omega, by rw [Nat.pow_zero, Nat.mul_one, numV_front]⟩
theorem like_point {S : List UInt8} {k : Nat} (h : Digs S) (hl : S.length = 9) (hk : k ≤ 20) : Like S (S ++ 46 :: (List.replicate k 48 ++ [48])) := by
 have e : List.replicate k (48 : UInt8) ++ [48] = List.replicate (k + 1) 48 := List.replicate_succ'.symm
 rw [e]
 have h1 := read_point h (fun h1 => by rw [h1] at hl; cases hl) (digs_zeros (k + 1)) (by rw [List.replicate_succ]; exact List.cons_ne_nil _ _) (by rw [List.length_replicate]; omega)
 rw [List.length_replicate] at h1
 exact ⟨_, _, h1, by omega, digs_both h (digs_zeros _), by rw [List.length_append, List.length_replicate]; omega, numV_zeros _ _⟩
theorem like_ten {S T : List UInt8} {k : Nat} (h : Digs S) (hl : S.length = 9) (hk : k ≤ 20) (hT : Digs T) (hT1 : T.length = 2) (hv : numV T = k) : Like S (S ++ List.replicate k 48 ++ 101 :: 45 :: T) := by
 have h1 := read_ten (digs_both h (digs_zeros k)) (fun h1 => by rw [List.append_eq_nil_iff] at h1; rw [h1.1] at hl; cases hl) hT hT1 (by omega) (by rw [List.length_append, List.length_replicate]; omega)
 rw [hv] at h1
 exact ⟨_, _, h1, by omega, digs_both h (digs_zeros _), by rw [List.length_append, List.length_replicate]; omega, numV_zeros _ _⟩
end Go.Proofs.YtdhdebapjlcjdaaGreatDoor
