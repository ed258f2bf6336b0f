/-
 Contracts of the reference's powers of ten and decimals, at this translation. Conditions: the slices read as digits of sixteen bits, and there are few.
-/
import Derived.Test.YtdhdebapjlcjdaaGreatDoorUKs
import Derived.Test.YtdhdebapjlcjdaaGreatDoorURRoot
import Derived.Test.YtdhdebapjlcjdaaGreatDoorUKx
set_option maxHeartbeats 2000000
set_option maxRecDepth 100000
namespace Go.Proofs.YtdhdebapjlcjdaaGreatDoor
open Go.RowKit

theorem dg_lit (w : World) {v : Nat} (h0 : v ≠ 0) (hv : v < H) : Dg (w.alloc (.cells #[.int .u32 (v : Int)] 59)) (some ⟨w.heap.size, 0, none⟩) 1 1 v := by
 have hrow : Row (w.alloc (.cells (iv .u32 [v]).toArray 59)) w.heap.size 59 .u32 0 [] [v] [] := ⟨by rw [List.nil_append, List.append_nil]; exact heap_alloc_new w _, rfl⟩
 unfold Dg
 rw [dig_oneH h0 hv]
 exact hrow.rd (Lt.cons hv Lt.nil) (by simp) (by omega)
theorem dg_small2 {w : World} {A : Option Addr} {n c x k : Nat} (h : Dg w A n c x) (hx : x < 2 ^ (16 * k)) : n ≤ k := by
 rw [← Rd.len h, len_dig H_two, H_pow, ← Nat.pow_mul]
 exact hx
theorem dg_mono {w w' : World} {A A' : Option Addr} {n c x m c' y : Nat} (h : Dg w A n c x) (h' : Dg w' A' m c' y) (hxy : y ≤ x) : m ≤ n := by
 rw [← Rd.len h', len_dig H_two]
 exact Nat.lt_of_le_of_lt hxy ((len_dig H_two x n).1 (Nat.le_of_eq (Rd.len h)))
theorem ten_small {i : Nat} (h : i ≤ 200) : ∃ k, k ≤ 42 ∧ 10 ^ i < 2 ^ (16 * k) := by
 obtain ⟨a, ha⟩ : ∃ a, a = 4 := ⟨_, rfl⟩
 have h1 : 10 ^ i ≤ 10 ^ (50 * a) := Nat.pow_le_pow_right (by omega) (by omega)
 have h2 : (10 ^ 50) ^ a < (2 ^ 168) ^ a := Nat.pow_lt_pow_left (by decide) (by omega)
 rw [Nat.pow_mul] at h1
 obtain ⟨k, hk⟩ : ∃ k, k = 42 := ⟨_, rfl⟩
 have h3 : (2 ^ 168) ^ a = 2 ^ (16 * k) := by rw [← Nat.pow_mul]; exact congrArg (2 ^ ·) (by omega)
 exact ⟨k, by omega, by rw [← h3]; exact Nat.lt_of_le_of_lt h1 h2⟩
theorem rten_any {w : World} {n : Nat} (hn : n ≤ 200) : Calls Tryz.prog 27 #[.int .i64 (n : Int)] w (DGives w (10 ^ n)) := by
 have D1 := dg_lit w (v := 1) (by omega) (by rw [H_eq]; omega)
 have BB := below_alloc w (.cells #[.int .u32 1] 59)
 go_enter Tryz.func27, Tryz.ntmps27
 go_wp2
 go_loopw [3, 4] (fun v3 v4 wr => ∃ (i : Nat) (A : Option Addr) (m c : Nat), i ≤ n ∧ v4 = .int .i64 i ∧ v3 = .slice A m c ∧ Dg wr A m c (10 ^ i) ∧ Below w.heap.size w wr) (fun _ v4 _ => n - (intOf v4).toNat)
 case atStart => exact ⟨0, _, _, _, Nat.zero_le _, rfl, rfl, D1, BB⟩
 case round =>
  clear D1 BB
  obtain ⟨i, A, m, c, hi, rfl, rfl, D, BB⟩ := hrel
  by_cases h : i < n
  ·have hm : m ≤ 42 := by
    obtain ⟨k, hk, hk2⟩ := ten_small (i := i) (by omega)
    exact Nat.le_trans (dg_small2 D hk2) hk
   have b := below_alloc wr (.cells #[.int .u32 10] 59)
   have D10 := dg_lit wr (v := 10) (by omega) (by rw [H_eq]; omega)
   have D2 := D.below b
   have BB2 := BB.trans (b.mono BB.size)
   go_wp2_with fail
   refine (rmul_any D2 D10 (by omega) (by omega)).mono ?_
   rintro en w2 ⟨A2, m2, c2, rfl, D3, b2⟩
   have HD : Hid (Dg w2 A2 m2 c2 (10 ^ (i + 1))) := by rw [Nat.pow_succ]; exact D3
   clear D D2 D10 D3 b hm
   go_wp2
   go_roundw
   case rel => exact ⟨i + 1, _, _, _, by omega, by go_num, rfl, HD.out, BB2.trans (b2.mono BB2.size)⟩
   case measure => simp [intOf]; omega
  ·obtain rfl : i = n := by omega
   go_wp2
   go_ret
   exact ⟨_, _, _, rfl, D, BB⟩
theorem digit_fin : ∀ d : Fin 10, (([48, 49, 50, 51, 52, 53, 54, 55, 56, 57] : List UInt8).drop d.val).take 1 = [UInt8.ofNat (48 + d.val)] := by decide
theorem digit_run {d : Nat} (hd : d < 10) (W : World) : (Instr.slice 9 (.string ⟨#[48, 49, 50, 51, 52, 53, 54, 55, 56, 57]⟩) (some (.int .u32 (d : Int))) (some (.int .u32 ((d : Int) + 1))) none).run Tryz.prog W = .ok (.string (txt [48 + d])) W := by
 rw [run_slice_string W 9 _ .u32 .u32 _ _ Tryz.underlying9 (by omega) (by omega) (by show (d : Int) + 1 ≤ 10; omega), Int.toNat_natCast, show ((d : Int) + 1).toNat = d + 1 by omega]
 congr 2
 apply ByteArray.ext
 apply Array.toList_inj.1
 rw [Lib.extract_data]
 have := digit_fin ⟨d, hd⟩
 show (([48, 49, 50, 51, 52, 53, 54, 55, 56, 57] : List UInt8).drop d).take (d + 1 - d) = [UInt8.ofNat (48 + d)]
 rw [Nat.add_sub_cancel_left]
 exact this
/-- the rest of a division by ten, as the first digit of a slice -/
theorem dg_rest {w : World} {A : Option Addr} {n c r : Nat} (h : Dg w A n c r) (hr : r < 10) : (r = 0 ∧ n = 0) ∨ (r ≠ 0 ∧ n = 1 ∧ ∃ b o, A = some ⟨b, o, none⟩ ∧ w.cell? ⟨b, o, none⟩ = some (.int .u32 (r : Int))) := by
 by_cases h0 : r = 0
 ·left
  have := Rd.len h
  rw [h0, dig_zero] at this
  exact ⟨h0, this.symm⟩
 ·right
  have e : dig H r = [r] := dig_oneH h0 (by rw [H_eq]; omega)
  unfold Dg at h
  rw [e] at h
  have hn : n = 1 := h.len.symm
  obtain ⟨b, o, e1, _, hc⟩ := h.at_ (by omega)
  exact ⟨h0, hn, b, o, e1, hc 0 (by omega)⟩
end Go.Proofs.YtdhdebapjlcjdaaGreatDoor
