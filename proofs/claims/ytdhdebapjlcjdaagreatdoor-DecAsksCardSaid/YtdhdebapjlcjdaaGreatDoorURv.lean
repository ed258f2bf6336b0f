/-
 Contracts of the reference's Round and of layer 3's same, at this translation. Condition: the slices read as limbs, or as digits of sixteen bits.
-/
import Derived.Test.YtdhdebapjlcjdaaGreatDoorURu
import Derived.Test.YtdhdebapjlcjdaaGreatDoorURa
set_option maxHeartbeats 8000000
set_option maxRecDepth 100000
namespace Go.Proofs.YtdhdebapjlcjdaaGreatDoor
open Go.RowKit

theorem odd_digits {y : Nat} (h : blen y ≤ 2000) : y < Go.Proofs.YtdhdebapjlcjdaaGreatDoor.H ^ 256 := by
 have h1 := tops_fit (x := y) (i := 0) (T := blen y) (by omega) (by omega)
 rw [Nat.pow_zero, Nat.mul_one, ← H256] at h1
 exact h1
theorem wide_nm {s : Bool} {x k q : Nat} {e kk : Int} {s' : Bool} {m' : Nat} {e' : Int} (he : -10000000 ≤ e) (hx : x = 2 ^ k * (2 * q + 1)) (h : Nm s (2 * q + 1) (e + (k : Int)) kk s' m' e') : Nm s x e kk s' m' e' := by
 obtain ⟨K, hK⟩ : ∃ K : Nat, 20000000 ≤ K := ⟨_, Nat.le_refl _⟩
 refine nm_congr (K := K) (by omega) (by omega) ?_ h
 rw [vz_up (by omega), hx, Nat.mul_comm]

theorem rwide_any {w : World} {A : Option Addr} {n c x : Nat} {s : Bool} {e : Int} (h : Dg w A n c x) (hn : n ≤ 10000) (hf : Fits 2000 x) (he : -10000000 ≤ e ∧ e ≤ 10000000) :
  Calls Tryz.prog 28 #[.agg #[.bool s, .slice A n c, .int .i64 e]] w (Tells (Nm s x e) w) := by
 have BB := two_below w (.cells #[.bool s, .slice A n c, .int .i64 e] 58) (.cells #[.bool false, .slice none 0 0, .int .i64 0] 25)
 obtain ⟨a0, a1, a2⟩ := ((Dbx.new w s A n c e).alloc (.cells #[.bool false, .slice none 0 0, .int .i64 0] 25)).held
 have r := box_one' w (.cells #[.bool s, .slice A n c, .int .i64 e] 58) false none 0 0 0
 have he1 := he.1
 have he2 := he.2
 replace h := mv BB rfl h
 have hlen := Rd.len h
 have hx0 : n = 0 ↔ x = 0 := by rw [← hlen]; exact dig_len_zero H_two
 have hcap := Rd.cap h
 have hmax := Rd.max h
 by_cases h0 : n = 0
 ·have hx := hx0.1 h0
  subst h0 hx
  clear hx0 hlen
  go_enter Tryz.func28, Tryz.ntmps28
  go_wp2
  exact bodyPost_ret (v := .tuple #[.agg #[.bool false, .slice none 0 0, .int .i64 0], .int .i64 0]) (by simp [results, Tryz.results28, go_sem]) rfl ⟨0, false, none, 0, 0, 0, 0, rfl, .inl ⟨rfl, rfl, rfl, rfl, rfl⟩, nt_nil _, BB⟩
 have hx : x ≠ 0 := fun h1 => h0 (hx0.2 h1)
 have f00 : ((n : Int) == 0) = false := by simp [h0]
 obtain ⟨k, q, hkq⟩ := low_has hx
 have hodd : blen (2 * q + 1) ≤ 2000 := by rw [hkq] at hf; exact fits_blen.1 hf
 have hkb : k ≤ 16 * n := by
  have h1 : x < Go.Proofs.YtdhdebapjlcjdaaGreatDoor.H ^ n := by have := (len_dig H_two x n).1 (by rw [hlen]; omega); exact this
  have h2 : blen x ≤ 16 * n := by rw [blen_le]; rw [H_pow, ← Nat.pow_mul] at h1; exact h1
  have h3 := blen_shift (x := 2 * q + 1) (k := k) (by omega)
  rw [Nat.mul_comm, ← hkq] at h3
  omega
 have hdiv : x / 2 ^ k = 2 * q + 1 := by rw [hkq, Nat.mul_div_cancel_left _ (pow_pos2 k)]
 have HKQ := Lib.hid hkq
 have HX := Lib.hid hx
 have HD := Lib.hid hdiv
 clear hx0 hlen h0 hkq hx hdiv hf
 have hw : IntKind.i64.wrap (e + (k : Int)) = e + (k : Int) := IntWalk.i64_in _ (by omega)
 have ne1 : ¬ w.heap.size + 1 = w.heap.size := by omega
 have ne2 : ¬ w.heap.size = w.heap.size + 1 := by omega
 go_enter Tryz.func28, Tryz.ntmps28
 go_wp2_with fail
 refine (rlow_any h hn ⟨q, HKQ.out⟩).mono ?_
 rintro en w' ⟨rfl, rfl⟩
 go_wp2_with fail
 refine rgn (fun w' => w'.cell? ⟨w.heap.size, 0, none⟩ = some (.bool s) ∧ w'.cell? ⟨w.heap.size, 1, none⟩ = some (.slice A n c) ∧ w'.cell? ⟨w.heap.size, 2, none⟩ = some (.int .i64 e)) fun hHeld0 => ?_
 refine tl 0 ?_
 refine tl 1 ?_
 refine tl 2 ?_
 refine tl 3 ?_
 refine tl 4 ?_
 refine tl 6 ?_
 refine tl 7 ?_
 refine tl 8 ?_
 refine tl 9 ?_
 refine rdy 5 fun K hK => ?_
 go_simp
 refine (rshr_any (s := k) (h.heap32 (by rfl)) hn (by omega)).mono ?_
 rintro en w' ⟨A2, n2, c2, rfl, h2, b⟩
 rw [HD.out] at h2
 clear h
 replace BB := below_next BB BB.size b (by rfl) (by rfl) (by rfl) (by rfl)
 have G := mv b (by rfl) <| And.intro a0 <| And.intro a1 <| And.intro a2 <| r
 clear b a0 a1 a2 r
 obtain ⟨a0, a1, a2, r⟩ := G
 refine bk hK fun hHeld1 => ?_
 clear hK K hHeld0
 try simp only [Act.put]
 refine tl 10 ?_
 refine rdy 11 fun K hK => ?_
 go_simp
 have n2l : n2 ≤ 256 := dg_small h2 (odd_digits hodd)
 refine (rnorm_any (s := s) (e := e + (k : Int)) (h2.heap32 (by rfl)) (by omega) (by omega)).mono ?_
 rintro en w' ⟨kk, s5, A5, n5, c5, m5, e5, rfl, hP, h5, b⟩
 have HP : Hid (Nm s x e kk s5 m5 e5) := Lib.hid (wide_nm he1 HKQ.out hP)
 clear hP h2
 replace BB := below_next BB BB.size b (by rfl) (by rfl) (by rfl) (by rfl)
 have G := mv b (by rfl) <| And.intro a0 <| And.intro a1 <| And.intro a2 <| r
 clear b a0 a1 a2 r
 obtain ⟨a0, a1, a2, r⟩ := G
 obtain ⟨f0, f1, f2⟩ := r.open
 obtain ⟨z0, z1, z2⟩ := r.held
 refine bk hK fun hHeld2 => ?_
 clear hK K hHeld1
 try simp only [Act.put]
 refine tl 12 ?_
 refine tl 13 ?_
 refine rdy 14 fun K hK => ?_
 go_simp
 refine bk hK fun hHeld3 => ?_
 clear hK K hHeld2
 try simp only [Act.put]
 refine tl 15 ?_
 refine wpAnyH_done (by kernel_rfl) ?_ _
 go_wp2
 have qq := r.put s5 A5 n5 c5 e5
 have hN5 := h5.put3 r (.bool s5) (.slice A5 n5 c5) (.int .i64 e5)
 have HB3 := below_put3 (g := w.heap.size + 1) BB (by omega) (.bool s5) (.slice A5 n5 c5) (.int .i64 e5)
 obtain ⟨z0, z1, z2⟩ := qq.held
 exact bodyPost_ret (v := .tuple #[.agg #[.bool s5, .slice A5 n5 c5, .int .i64 e5], .int .i64 kk]) (by simp [results, Tryz.results28, go_sem, z0, z1, z2]) rfl ⟨_, _, _, _, _, _, _, rfl, HP.out, hN5, HB3⟩
end Go.Proofs.YtdhdebapjlcjdaaGreatDoor

namespace Go.Proofs.YtdhdebapjlcjdaaGreatDoor
open Go.RowKit

theorem cutN_lt {p x : Nat} {u : Bool} (hp : p ≤ 2000) : cutN p x u < Go.Proofs.YtdhdebapjlcjdaaGreatDoor.W ^ 64 := by
 have := (cutR_lt (x := x) (rest := false) (u := u) hp).2
 rwa [cutR_false] at this
end Go.Proofs.YtdhdebapjlcjdaaGreatDoor
