/-
 Contract of round's cut, at this translation. Condition: the slices read as naturals, the table of math/bits reads as its text lays it.
-/
import Derived.Test.YtldbafifgkobcaaGreatDoorQRa
import Derived.Test.YtldbafifgkobcaaGreatDoorQMv
set_option maxHeartbeats 8000000
set_option maxRecDepth 100000
namespace Go.Proofs.YtldbafifgkobcaaGreatDoor
open Go.RowKit

theorem box_one (w : World) (o : Obj) (s : Bool) (A : Option Addr) (n c : Nat) (e : Int) : Box ((w.alloc o).alloc (.cells #[.bool s, .slice A n c, .int .i64 e] 24)) (w.heap.size + 1) s A n c e := by
 have := Box.new (w.alloc o) s A n c e
 simpa using this
theorem nm_fault {s : Bool} {m : Nat} {e k : Int} {s' : Bool} {m' : Nat} {e' : Int} (h : Nm s m e k s' m' e') (hk : k ≠ 0) : (s' = false ∧ m' = 0 ∧ e' = 0) ∧ Nm s m e k false 0 0 := by
 rcases nm_code h with h1 | ⟨_, rfl, rfl, rfl⟩
 ·exact absurd h1 hk
 ·exact ⟨⟨rfl, rfl, rfl⟩, h⟩

theorem cut_any {w : World} {A : Option Addr} {n c x p : Nat} {neg rest up : Bool} {e : Int} (hT : Tab w) (h : Nt w A n c x) (hp' : p ≤ 2000) (he : -10000000 ≤ e) (he' : e ≤ 10000000) :
  Calls Tryz.prog 157 #[.bool neg, .agg #[.slice A n c, .int .i64 e, .bool rest], .int .i64 (p : Int), .bool up] w (Ran (Nm neg (cutR p x rest (up != neg)) (e + ((blen x - p : Nat) : Int))) w) := by
 have hbl := blen_nt h
 obtain ⟨hc1, hc2⟩ := cutR_lt (x := x) (rest := rest) (u := up != neg) hp'
 have HC1 := Lib.hid hc1
 have HC2 := Lib.hid hc2
 have hcut : cutR p x rest (up != neg) = x / 2 ^ (blen x - p) + if (up != neg) = true ∧ (rest = true ∨ x % 2 ^ (blen x - p) ≠ 0) then 1 else 0 := rfl
 have h0 : blen x - p ≠ 0 → x ≠ 0 := fun h1 h2 => h1 (by rw [h2, blen_zero]; omega)
 have hj : max (0 : Int) ((blen x : Int) - (p : Int)) = ((blen x - p : Nat) : Int) := by omega
 have hj4 : blen x - p ≤ 4096 := by omega
 generalize blen x - p = j at *
 generalize cutR p x rest (up != neg) = y at *
 have HX := Lib.hid h0
 have HCUT := Lib.hid hcut
 clear hc1 hc2 h0 hcut
 have BB := two_below w (.cells #[.slice A n c, .int .i64 e, .bool rest] 129) (.cells #[.bool false, .slice none 0 0, .int .i64 0] 24)
 have a0 : (w.alloc (.cells #[.slice A n c, .int .i64 e, .bool rest] 129)).cell? ⟨w.heap.size, 0, none⟩ = some (.slice A n c) := new_cell w _ _ 0
 have a1 : (w.alloc (.cells #[.slice A n c, .int .i64 e, .bool rest] 129)).cell? ⟨w.heap.size, 1, none⟩ = some (.int .i64 e) := new_cell w _ _ 1
 have a2 : (w.alloc (.cells #[.slice A n c, .int .i64 e, .bool rest] 129)).cell? ⟨w.heap.size, 2, none⟩ = some (.bool rest) := new_cell w _ _ 2
 have G := mv (below_alloc (w.alloc (.cells #[.slice A n c, .int .i64 e, .bool rest] 129)) (.cells #[.bool false, .slice none 0 0, .int .i64 0] 24)) rfl <| And.intro a0 <| And.intro a1 a2
 clear a0 a1 a2
 obtain ⟨a0, a1, a2⟩ := G
 have r := box_one w (.cells #[.slice A n c, .int .i64 e, .bool rest] 129) false none 0 0 0
 replace hT := hT.next BB rfl
 replace h := h.next BB rfl
 go_enter Tryz.func157, Tryz.ntmps157
 go_wp2_with fail
 refine (len_nt h).mono ?_
 rintro e' w' ⟨rfl, rfl⟩
 go_wp2_with fail
 refine (scaled_down (s := j) hT h (by omega) HX.out).mono ?_
 rintro e' w1 ⟨A1, n1, c1, rfl, h1, b⟩
 replace BB := bnx BB b
 have G := mv b rfl <| And.intro hT <| And.intro a0 <| And.intro a1 <| And.intro a2 r
 clear b hT h a0 a1 a2 r
 obtain ⟨hT, a0, a1, a2, r⟩ := G
 obtain ⟨lost, hl⟩ : ∃ b : Bool, b = decide (x % 2 ^ j ≠ 0) := ⟨_, rfl⟩
 rw [← hl]
 have hyy : y = x / 2 ^ j + if ((lost || rest) && (up != neg)) = true then 1 else 0 := by
  have h2 := HCUT.out
  rw [h2, hl]
  by_cases h3 : x % 2 ^ j = 0 <;> cases rest <;> cases up <;> cases neg <;> simp [h3]
 have HY := Lib.hid hyy
 clear hl hyy hj HX HCUT
 cases lost <;> cases rest <;> cases up <;> cases neg
 all_goals
  first
  |have hy : y = x / 2 ^ j + 0 := HY.out
   rw [Nat.add_zero] at hy
   rw [← hy] at h1
  |have hy : y = x / 2 ^ j + 1 := HY.out
   go_wp2_with fail
   have b := below_alloc w1 (.cells #[.int .u64 1] 34)
   have hone := nt_one w1 (v := 1) (by omega) (small_W (by omega))
   replace BB := bnx BB b
   have G := mv b rfl <| And.intro hT <| And.intro h1 <| And.intro a0 <| And.intro a1 <| And.intro a2 r
   clear b hT h1 a0 a1 a2 r
   obtain ⟨hT, h1, a0, a1, a2, r⟩ := G
   refine (add_ok h1 hone HC1.out).mono ?_
   rintro e' w2 ⟨A2, n2, c2, rfl, h2, b⟩
   rw [← hy] at h2
   replace BB := bnx BB b
   have G := mv b rfl <| And.intro hT <| And.intro a0 <| And.intro a1 <| And.intro a2 r
   clear b hT h1 a0 a1 a2 r hone
   obtain ⟨hT, a0, a1, a2, r⟩ := G
   have h1 := h2
   clear h2
   go_wp2_with fail
   refine natural_ok.mono ?_
   rintro e' w' ⟨rfl, rfl⟩
 all_goals
  clear hy HY
  go_wp2_with fail
  refine (dnorm_ok hT h1).mono ?_
  rintro e' w3 ⟨k, s3, A3, n3, c3, m3, e3, rfl, hP, h3, b⟩
  have HP := Lib.hid hP
  replace BB := bnx BB b
  replace r := mv b rfl r
  clear b hT h1 a0 a1 a2 hP
  go_wp2_with fail
  by_cases hk : k = 0
  ·subst hk
   refine (must_ok h3).mono ?_
   rintro e' w4 ⟨A4, n4, c4, rfl, h4, b⟩
   replace BB := bnx BB b
   have r := mv b rfl r
   obtain ⟨f0, f1, f2⟩ := r.open
   obtain ⟨z0, z1, z2⟩ := r.held
   clear b h3
   go_wp2
   have q := r.put s3 A4 n4 c4 e3
   have hN := h4.put3 r (.bool s3) (.slice A4 n4 c4) (.int .i64 e3)
   have HB3 := below_put3 (g := w.heap.size + 1) BB (by omega) (.bool s3) (.slice A4 n4 c4) (.int .i64 e3)
   obtain ⟨z0, z1, z2⟩ := q.held
   exact bodyPost_ret (v := .agg #[.bool s3, .slice A4 n4 c4, .int .i64 e3]) (by simp [results, Tryz.results157, go_sem, z0, z1, z2]) rfl (.inl ⟨_, _, _, _, _, _, rfl, HP.out, hN, HB3⟩)
  ·have HK := Lib.hid hk
   refine (must_bad HK.out).mono ?_
   rintro e' w4 ⟨rfl, b⟩
   replace BB := bnx BB b
   obtain ⟨hP2, hP3⟩ := nm_fault HP.out HK.out
   have HP3 := Lib.hid hP3
   clear b hk hP2 hP3
   go_wp2
   exact ⟨rfl, .inr ⟨k, rfl, HK.out, HP3.out, BB⟩⟩
end Go.Proofs.YtldbafifgkobcaaGreatDoor
