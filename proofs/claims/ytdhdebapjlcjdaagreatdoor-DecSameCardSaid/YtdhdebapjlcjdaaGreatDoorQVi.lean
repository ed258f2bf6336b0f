/-
 Plain facts on quotients and roots that are reckoned to some bits more, their last bit set if anything is left: cut to p bits they are what the shorter ones with their rests are. No condition; nothing of the program is named here.
-/
import Derived.Test.YtdhdebapjlcjdaaGreatDoorQRt
import Derived.Test.YtdhdebapjlcjdaaGreatDoorQRe
import Derived.Test.YtdhdebapjlcjdaaGreatDoorQKj
import Derived.Test.YtdhdebapjlcjdaaGreatDoorQKz
import Derived.RegionTactic
import Derived.ChangeAlike
namespace Go.Proofs.YtdhdebapjlcjdaaGreatDoor

theorem cutR_le {p x : Nat} {rest : Bool} : cutR p x rest false * 2 ^ (blen x - p) ≤ x := by
 unfold cutR
 simp only [Bool.false_eq_true, false_and, if_false, Nat.add_zero]
 exact Nat.div_mul_le_self _ _
theorem cutR_ge {p x : Nat} {rest : Bool} : x ≤ cutR p x rest true * 2 ^ (blen x - p) ∧ (rest = true → x + 1 ≤ cutR p x rest true * 2 ^ (blen x - p)) := by
 have h := cut_parts p x
 have h2 := Nat.mod_lt x (pow_pos2 (blen x - p))
 unfold cutR
 by_cases hr : x % 2 ^ (blen x - p) = 0
 ·cases rest
  ·rw [if_neg (by simp [hr]), Nat.add_zero]
   exact ⟨by omega, fun h => by cases h⟩
  ·rw [if_pos ⟨rfl, .inl rfl⟩, Nat.add_mul, Nat.one_mul]
   exact ⟨by omega, fun _ => by omega⟩
 ·rw [if_pos ⟨rfl, .inr hr⟩, Nat.add_mul, Nat.one_mul]
  exact ⟨by omega, fun _ => by omega⟩
theorem cutR_fits {p x : Nat} {rest u : Bool} (hp : 1 ≤ p) : Fits p (cutR p x rest u) := by
 have h := cut_lt p x
 have h2 : cutR p x rest u ≤ x / 2 ^ (blen x - p) + 1 := by unfold cutR; split <;> omega
 by_cases h3 : cutR p x rest u < 2 ^ p
 ·exact fits_of h3
 ·have h4 : cutR p x rest u = 2 ^ p := by omega
  rw [h4]
  exact ⟨1, p, by omega, Nat.one_lt_two_pow (by omega)⟩
end Go.Proofs.YtdhdebapjlcjdaaGreatDoor

namespace Go.Proofs.YtdhdebapjlcjdaaGreatDoor

end Go.Proofs.YtdhdebapjlcjdaaGreatDoor

namespace Go.Proofs.YtdhdebapjlcjdaaGreatDoor

theorem quot_bits {p x y : Nat} (hx : x ≠ 0) (hy : y ≠ 0) (hp : 1 ≤ p) : p ≤ blen (x * 2 ^ kUp p x y / (y * 2 ^ kDn p x y)) := by
 have hX0 : x * 2 ^ kUp p x y ≠ 0 := Nat.mul_ne_zero hx (Nat.pos_iff_ne_zero.1 (pow_pos2 _))
 have hY0 : y * 2 ^ kDn p x y ≠ 0 := Nat.mul_ne_zero hy (Nat.pos_iff_ne_zero.1 (pow_pos2 _))
 have hbX := blen_shift (k := kUp p x y) hx
 have hbY := blen_shift (k := kDn p x y) hy
 have hsum : blen (x * 2 ^ kUp p x y) = p + blen (y * 2 ^ kDn p x y) := by
  have h1 := (blen_pos hx).2.2
  rw [hbX, hbY]; unfold kUp kDn; omega
 clear hbX hbY
 generalize x * 2 ^ kUp p x y = X at *
 generalize y * 2 ^ kDn p x y = Y at *
 obtain ⟨hX1, _, hX3⟩ := blen_pos hX0
 have hY2 := (blen_le Y _).1 (Nat.le_refl _)
 rcases Nat.lt_or_ge (blen (X / Y)) p with h | h
 ·exfalso
  have h1 : X / Y < 2 ^ (p - 1) := (blen_le _ (p - 1)).1 (by omega)
  have h2 : X < 2 ^ (p - 1) * Y := (Nat.div_lt_iff_lt_mul (Nat.pos_of_ne_zero hY0)).1 h1
  have h3 : 2 ^ (blen X - 1) = 2 ^ (p - 1) * 2 ^ blen Y := by
   rw [← Nat.pow_add]
   exact congrArg (2 ^ ·) (show blen X - 1 = p - 1 + blen Y by omega)
  have h4 : 2 ^ (p - 1) * Y ≤ 2 ^ (p - 1) * 2 ^ blen Y := Nat.mul_le_mul_left _ (Nat.le_of_lt hY2)
  omega
 ·exact h
theorem quot_nought {p y : Nat} {s1 s2 up : Bool} {e1 e2 k : Int} {s' : Bool} {m' : Nat} {e' : Int} (h : QuTold s1 0 e1 s2 y e2 p up k s' m' e') : k = 0 ∧ s' = false ∧ m' = 0 ∧ e' = 0 := by
 unfold QuTold at h
 have e : cutR p (0 * 2 ^ kUp p 0 y / (y * 2 ^ kDn p 0 y)) (!decide (0 * 2 ^ kUp p 0 y % (y * 2 ^ kDn p 0 y) = 0)) (up != (s1 != s2)) = 0 := by
  unfold cutR
  simp
 rw [e] at h
 exact nm_fun h (.inl ⟨rfl, rfl, rfl, rfl, rfl⟩)

end Go.Proofs.YtdhdebapjlcjdaaGreatDoor
namespace Go.Proofs.YtdhdebapjlcjdaaGreatDoor

theorem span_app {a r : List UInt8} (ha : Digs a) (hr : r = [] ∨ ∃ c t, r = c :: t ∧ isDig c = false) : spanD (a ++ r) = a ∧ restD (a ++ r) = r := by
 induction a with
 | nil =>
  rcases hr with rfl | ⟨c, t, rfl, hc⟩
  ·exact ⟨rfl, rfl⟩
  ·constructor
   ·show List.takeWhile isDig (c :: t) = []
    rw [List.takeWhile_cons, hc]
    rfl
   ·show List.dropWhile isDig (c :: t) = c :: t
    rw [List.dropWhile_cons, hc]
    rfl
 | cons x xs ih =>
  have hx : isDig x = true := ha x List.mem_cons_self
  obtain ⟨h1, h2⟩ := ih (fun c hc => ha c (List.mem_cons_of_mem _ hc))
  constructor
  ·show List.takeWhile isDig (x :: (xs ++ r)) = x :: xs
   rw [List.takeWhile_cons, hx, if_pos rfl]
   exact congrArg _ h1
  ·show List.dropWhile isDig (x :: (xs ++ r)) = r
   rw [List.dropWhile_cons, hx, if_pos rfl]
   exact h2
theorem read_plain {a : List UInt8} (ha : Digs a) (h0 : a ≠ []) (hl : a.length ≤ 60) : readD a = some (a, 0) := by
 obtain ⟨h1, h2⟩ := span_app (r := []) ha (.inl rfl)
 rw [List.append_nil] at h1 h2
 unfold readD
 rw [h1, h2, if_neg (fun h => h.elim (fun h => by omega) h0)]
 show some (a ++ [], (0 : Int) - (([] : List UInt8).length : Int)) = some (a, 0)
 rw [List.append_nil]
 rfl
theorem read_point {a b : List UInt8} (ha : Digs a) (h0 : a ≠ []) (hb : Digs b) (h1 : b ≠ []) (hl : a.length + 1 + b.length ≤ 60) : readD (a ++ 46 :: b) = some (a ++ b, -(b.length : Int)) := by
 obtain ⟨h2, h3⟩ := span_app (r := 46 :: b) ha (.inr ⟨46, b, rfl, by decide⟩)
 obtain ⟨h4, h5⟩ := span_app (r := []) hb (.inl rfl)
 rw [List.append_nil] at h4 h5
 have hp : partD (46 :: b) = some (b, []) := by
  unfold partD
  rw [show Lib.hasPrefix (46 :: b) [46] = true from rfl, if_pos rfl, show Lib.trimPrefix (46 :: b) [46] = b from rfl, h4, h5, if_neg h1]
 unfold readD
 rw [h2, h3, hp, if_neg (fun h => h.elim (fun h => by rw [List.length_append, List.length_cons] at h; omega) h0)]
 show some (a ++ b, (0 : Int) - (b.length : Int)) = some (a ++ b, -(b.length : Int))
 rw [Int.zero_sub]
/-- a quotient times the divisor, as values -/
theorem quot_valD {K : Nat} {s : Bool} {x : Nat} {e : Int} {y : Nat} {f : Int} {p : Nat} {up : Bool} {s' : Bool} {m' : Nat} {e' : Int} (hK : 4194304 ≤ K) (hy : y ≠ 0) (hp : p ≤ 2000) (bx : blen x ≤ 4096) (bY : blen y ≤ 4096) (r1 : -1048576 ≤ e ∧ e ≤ 1048576) (r2 : -1048576 ≤ f ∧ f ≤ 1048576)
  (h : QuTold s x e false y f p up 0 s' m' e') : (up = false → vz K s' m' e' * vz K false y f ≤ vz K s x e * ((2 ^ K : Nat) : Int)) ∧ (up = true → vz K s x e * ((2 ^ K : Nat) : Int) ≤ vz K s' m' e' * vz K false y f) := by
 have r3 := okd_ge hK (nm_okd h)
 have hk : (p : Int) + (blen y : Int) - (blen x : Int) = ((kUp p x y : Nat) : Int) - ((kDn p x y : Nat) : Int) := by unfold kUp kDn; omega
 have hi : kUp p x y ≤ 10000 := by unfold kUp; omega
 have hj : kDn p x y ≤ 10000 := by unfold kDn; omega
 unfold QuTold at h
 rw [hk] at h
 generalize kUp p x y = i at *
 generalize kDn p x y = j at *
 have hsf : (s != false) = s := by cases s <;> rfl
 rw [hsf] at h
 have hD : 0 < y * 2 ^ j := Nat.mul_pos (Nat.pos_of_ne_zero hy) (pow_pos2 j)
 obtain ⟨rest, hrest⟩ : ∃ r : Bool, r = !decide (x * 2 ^ i % (y * 2 ^ j) = 0) := ⟨_, rfl⟩
 rw [← hrest] at h
 have hdm := Nat.div_add_mod (x * 2 ^ i) (y * 2 ^ j)
 have hml := Nat.mod_lt (x * 2 ^ i) hD
 generalize hq : x * 2 ^ i / (y * 2 ^ j) = q at *
 obtain ⟨L, hL⟩ : ∃ L, L = cutR p q rest (up != s) * 2 ^ (blen q - p) := ⟨_, rfl⟩
 have hside : ((up != s) = false → L * (y * 2 ^ j) ≤ x * 2 ^ i) ∧ ((up != s) = true → x * 2 ^ i ≤ L * (y * 2 ^ j)) := by
  constructor
  ·intro hu
   rw [hu] at hL
   have h1 : L ≤ q := by rw [hL]; exact cutR_le
   have h2 := Nat.mul_le_mul_right (y * 2 ^ j) h1
   rw [Nat.mul_comm q] at h2
   omega
  ·intro hu
   rw [hu] at hL
   obtain ⟨h1, h2⟩ := cutR_ge (p := p) (x := q) (rest := rest)
   rw [← hL] at h1 h2
   cases hr : rest
   ·rw [hr] at hrest
    have h3 : x * 2 ^ i % (y * 2 ^ j) = 0 := by
     have := hrest.symm
     simpa using this
    have h4 := Nat.mul_le_mul_right (y * 2 ^ j) h1
    rw [Nat.mul_comm q] at h4
    omega
   ·have h4 := Nat.mul_le_mul_right (y * 2 ^ j) (h2 hr)
    rw [Nat.add_mul, Nat.one_mul, Nat.mul_comm q] at h4
    omega
 have hE : -(K : Int) ≤ e - f - ((i : Int) - (j : Int)) := by omega
 have v1 := nm_value (K := K) (by omega) h
 rw [vz_up hE, ← hL] at v1
 have m2 := vz_mul (K := K) (s := s) (t := false) (m := L) (n := y) (e := e - f - ((i : Int) - (j : Int))) (f := f) hE (by omega) (by omega)
 have e1 : e - f - ((i : Int) - (j : Int)) + f = (e - (i : Int)) + ((j : Nat) : Int) := by omega
 have e2 : e = (e - (i : Int)) + ((i : Nat) : Int) := by omega
 have v3 := vz_up (K := K) (s := s) (m := L * y) (e := e - (i : Int)) (by omega) j
 have v4 := vz_up (K := K) (s := s) (m := x) (e := e - (i : Int)) (by omega) i
 rw [hsf, e1, v3, Nat.mul_assoc] at m2
 rw [← e2] at v4
 rw [v1, m2, v4]
 constructor
 ·intro hu
  refine Int.mul_le_mul_of_nonneg_right ?_ (Int.le_of_lt pos_of_pow)
  cases hs : s
  ·rw [hu, hs] at hside; exact (vz_mono (hside.1 rfl)).1 rfl
  ·rw [hu, hs] at hside; exact (vz_mono (hside.2 rfl)).2 rfl
 ·intro hu
  refine Int.mul_le_mul_of_nonneg_right ?_ (Int.le_of_lt pos_of_pow)
  cases hs : s
  ·rw [hu, hs] at hside; exact (vz_mono (hside.2 rfl)).1 rfl
  ·rw [hu, hs] at hside; exact (vz_mono (hside.1 rfl)).2 rfl
theorem nm_plain {m : Nat} {e : Int} {s' : Bool} {m' : Nat} {e' : Int} (h : Nm false m e 0 s' m' e') : s' = false := by
 rcases h with ⟨_, _, h, _⟩ | ⟨k, q, _, ⟨_, _, h, _⟩ | ⟨_, _, _, h, _⟩ | ⟨_, _, _, h, _⟩⟩ <;> exact h
end Go.Proofs.YtdhdebapjlcjdaaGreatDoor
namespace Go.Proofs.YtdhdebapjlcjdaaGreatDoor
open Go.RowKit

theorem digit_finH : ∀ d : Fin 10, (([48, 49, 50, 51, 52, 53, 54, 55, 56, 57] : List UInt8).drop d.val).take 1 = [UInt8.ofNat (48 + d.val)] := by decide
theorem digit_run64 {d : Nat} (hd : d < 10) (W : World) : (Instr.slice 9 (.string ⟨#[48, 49, 50, 51, 52, 53, 54, 55, 56, 57]⟩) (some (.int .u64 (d : Int))) (some (.int .u64 ((d : Int) + 1))) none).run Tryz.prog W = .ok (.string ⟨[UInt8.ofNat (48 + d)].toArray⟩) W := by
 rw [run_slice_string W 9 _ .u64 .u64 _ _ Tryz.underlying9 (by omega) (by omega) (by show (d : Int) + 1 ≤ 10; omega), Int.toNat_natCast, show ((d : Int) + 1).toNat = d + 1 by omega]
 congr 2
 apply ByteArray.ext
 apply Array.toList_inj.1
 rw [Lib.extract_data]
 have := digit_finH ⟨d, hd⟩
 show (([48, 49, 50, 51, 52, 53, 54, 55, 56, 57] : List UInt8).drop d).take (d + 1 - d) = [UInt8.ofNat (48 + d)]
 rw [Nat.add_sub_cancel_left]
 exact this
theorem front_runH (L : List UInt8) (n : Nat) (hn : n ≤ L.length) (W : World) : (Instr.slice 9 (.string ⟨L.toArray⟩) none (some (.int .i64 (n : Int))) none).run Tryz.prog W = .ok (.string ⟨(L.take n).toArray⟩) W := by
 rw [run_slice_string_h W 9 ⟨L.toArray⟩ Tryz.underlying9 .i64 (n : Int) (by omega) (by show (n : Int) ≤ ((L.toArray.size : Nat) : Int); simp; omega), Int.toNat_natCast]
 congr 2
 apply ByteArray.ext
 apply Array.toList_inj.1
 rw [Lib.extract_data]
 simp
theorem cat_text (l r : List UInt8) : ByteArray.mk l.toArray ++ ByteArray.mk r.toArray = ByteArray.mk (l ++ r).toArray := by
 apply ByteArray.ext
 apply Array.toList_inj.1
 simp
theorem digs_cons {d : Nat} {S : List UInt8} (hd : d < 10) (h : Digs S) : Digs (UInt8.ofNat (48 + d) :: S) := fun c hc => by
 rcases List.mem_cons.1 hc with rfl | hc
 ·refine isDig_iff.2 ?_
  rw [UInt8.toNat_ofNat_of_lt' (by show 48 + d < 256; omega)]
  omega
 ·exact h c hc
end Go.Proofs.YtdhdebapjlcjdaaGreatDoor
