/-
  Contract of the statements' own told of layer 3, at this translation: it returns true. Condition: the table of math/bits reads as its text lays it.
-/
import Derived.Test.YtdjklanmkjbifaaDoorRg
namespace Go.Proofs.YtdjklanmkjbifaaDoor
open Go.RowKit

theorem nt_one_at {w : World} {g v : Nat} (hg : w.heap.size = g) (h0 : v ≠ 0) (hv : v < 100) : Nt (w.alloc (.cells #[.int .u64 (v : Int)] 39)) (some ⟨g, 0, none⟩) 1 1 v := by
  subst hg
  exact nt_one w h0 (small_W hv)
theorem okd_small {m : Nat} {e : Int} (h1 : m % 2 = 1) (h2 : m < 100) (h3 : -1048576 ≤ e) (h4 : e ≤ 1048576) : OkD false m e := .inr ⟨h1, small64 h2, h3, h4⟩
theorem nm_small {q k : Nat} {e f : Int} (hq : 2 * q + 1 < 100) (he : e + (k : Int) = f) (h3 : -1048576 ≤ f) (h4 : f ≤ 1048576) : Nm false (2 ^ k * (2 * q + 1)) e 0 false (2 * q + 1) f :=
  .inr ⟨k, q, rfl, .inr (.inr ⟨small64 hq, by omega, rfl, rfl, rfl, he.symm⟩)⟩
theorem down_five {w : World} {A : Option Addr} {n c : Nat} (hT : Tab w) (h : Nt w A n c 5) : Calls Tryd.prog 57 #[.agg #[.bool false, .slice A n c, .int .i64 0], .int .i64 2] w (ToldIs false 1 2 0 w) :=
  (rdown_ok (p := 2) hT h (okd_small rfl (by omega) (by decide) (by decide)) (by omega) (by omega)).mono fun _ _ h => told_is h fun _ _ _ _ hp => by
    have hb : blen 5 = 3 := blen_eq (k := 2) (by decide) (by decide)
    have e1 : rdN 2 5 (false != false) = 2 ^ 2 * (2 * 0 + 1) := by unfold rdN cutN; rw [hb]; rfl
    unfold RdTold at hp
    rw [e1] at hp
    exact nm_fun hp (nm_small (by omega) (by decide) (by decide) (by decide))
theorem up_five {w : World} {A : Option Addr} {n c : Nat} (hT : Tab w) (h : Nt w A n c 5) : Calls Tryd.prog 58 #[.agg #[.bool false, .slice A n c, .int .i64 0], .int .i64 2] w (ToldIs false 3 1 0 w) :=
  (rup_ok (p := 2) hT h (okd_small rfl (by omega) (by decide) (by decide)) (by omega) (by omega)).mono fun _ _ h => told_is h fun _ _ _ _ hp => by
    have hb : blen 5 = 3 := blen_eq (k := 2) (by decide) (by decide)
    have e1 : rdN 2 5 (true != false) = 2 ^ 1 * (2 * 1 + 1) := by unfold rdN cutN; rw [hb]; rfl
    unfold RdTold at hp
    rw [e1] at hp
    exact nm_fun hp (nm_small (by omega) (by decide) (by decide) (by decide))
theorem quot_third {w : World} {A B : Option Addr} {n c m d : Nat} (hT : Tab w) (h : Nt w A n c 1) (h' : Nt w B m d 3) : Calls Tryd.prog 26 #[.agg #[.bool false, .slice A n c, .int .i64 0], .agg #[.bool false, .slice B m d, .int .i64 0], .int .i64 4, .bool false] w (ToldIs false 5 (-4) 0 w) :=
  (rquot_ok (p := 4) hT h h' (okd_small rfl (by omega) (by decide) (by decide)) (okd_small rfl (by omega) (by decide) (by decide)) (by omega) (by omega) (by omega)).mono fun _ _ h => told_is h fun _ _ _ _ hp => by
    have b1 : blen 1 = 1 := blen_eq (k := 0) (by decide) (by decide)
    have b3 : blen 3 = 2 := blen_eq (k := 1) (by decide) (by decide)
    have b10 : blen 10 = 4 := blen_eq (k := 3) (by decide) (by decide)
    have eq : 1 * 2 ^ kUp 4 1 3 / (3 * 2 ^ kDn 4 1 3) = 10 := by unfold kUp kDn; rw [b1, b3]
    have e1 : cutR 4 10 (!decide (1 * 2 ^ kUp 4 1 3 % (3 * 2 ^ kDn 4 1 3) = 0)) (false != (false != false)) = 2 ^ 1 * (2 * 2 + 1) := by unfold cutR; rw [b10]; rfl
    unfold QuTold at hp
    rw [eq, e1, b10, b1, b3] at hp
    exact nm_fun hp (nm_small (by omega) (by decide) (by decide) (by decide))
theorem root_nine {w : World} {A : Option Addr} {n c : Nat} (hT : Tab w) (h : Nt w A n c 9) : Calls Tryd.prog 29 #[.agg #[.bool false, .slice A n c, .int .i64 0], .int .i64 8, .bool true] w (ToldIs false 3 0 0 w) :=
  (rroot_ok (p := 8) hT h (okd_small rfl (by omega) (by decide) (by decide)) (by omega) (by omega) rfl).mono fun _ _ h => told_is h fun _ _ _ _ hp => by
    have b9 : blen 9 = 4 := blen_eq (k := 3) (by decide) (by decide)
    have b192 : blen 192 = 8 := blen_eq (k := 7) (by decide) (by decide)
    obtain ⟨i, j, r, f, ⟨h1, h2, h3, h4, h5, h6⟩, hp⟩ := hp
    rw [b9] at h3 h4
    obtain rfl : j = 0 := by omega
    obtain rfl : i = 12 := by omega
    obtain rfl : f = -6 := by omega
    have h7 : r = 192 := by
      have e1 : 9 * 2 ^ 12 / 2 ^ 0 = 36864 := rfl
      rw [e1] at h5 h6
      rcases Nat.lt_trichotomy r 192 with h8 | h8 | h8
      · exfalso
        have := Nat.mul_le_mul (show r + 1 ≤ 192 by omega) (show r + 1 ≤ 192 by omega)
        omega
      · exact h8
      · exfalso
        have := Nat.mul_le_mul (show 193 ≤ r by omega) (show 193 ≤ r by omega)
        omega
    subst h7
    have e2 : cutR 8 192 (!decide (192 * 192 * 2 ^ 0 = 9 * 2 ^ 12)) (true != false) = 2 ^ 6 * (2 * 1 + 1) := by unfold cutR; rw [b192]; rfl
    rw [e2, b192] at hp
    exact nm_fun hp (nm_small (by omega) (by decide) (by decide) (by decide))
theorem quot_none {w : World} {A : Option Addr} {n c : Nat} (hT : Tab w) (h : Nt w A n c 5) : Calls Tryd.prog 26 #[.agg #[.bool false, .slice A n c, .int .i64 0], .agg #[.bool false, .slice none 0 0, .int .i64 0], .int .i64 4, .bool true] w (ToldIs false 0 0 4 w) :=
  (rquot_zero (p := 4) hT h (nt_nil w) (okd_small rfl (by omega) (by decide) (by decide)) okd_zero (by omega) (by omega) rfl).mono fun _ _ h => told_is h fun _ _ _ _ hp => hp
theorem down_none {w : World} {A : Option Addr} {n c : Nat} (hT : Tab w) (h : Nt w A n c 5) : Calls Tryd.prog 57 #[.agg #[.bool false, .slice A n c, .int .i64 0], .int .i64 0] w (ToldIs false 0 0 1 w) :=
  (rdown_no (p := 0) hT h.rd (.inl (by decide))).mono fun _ _ h => told_is h fun _ _ _ _ hp => hp
theorem bits_five {w : World} {A : Option Addr} {n c : Nat} (hT : Tab w) (h : Nt w A n c 5) : Calls Tryd.prog 59 #[.agg #[.bool false, .slice A n c, .int .i64 0]] w (Ints 3 w) := by
  have hb : blen 5 = 3 := blen_eq (k := 2) (by decide) (by decide)
  have := bits_ok hT h (okd_small (m := 5) (e := 0) rfl (by omega) (by decide) (by decide))
  rwa [hb] at this

set_option maxRecDepth 100000 in
set_option maxHeartbeats 8000000 in
theorem rtold_any {w : World} (hT : Tab w) : Calls Tryd.prog 25 #[] w fun en w' => en = .returned (.bool true) ∧ Below w.heap.size w w' := by
  have BB := Below.refl w.heap.size w
  go_enter Tryd.func25, Tryd.ntmps25
  have N5 := nt_one_at (w := w) (v := 5) rfl (by omega) (by omega)
  have b := below_alloc w (.cells #[.int .u64 5] 39)
  replace BB := below_next BB BB.size b rfl rfl rfl rfl
  replace hT := mv b rfl hT
  clear b
  obtain ⟨x50, x51, x52⟩ := (box_at (w := (w.alloc (.cells #[.int .u64 5] 39))) (sizes_up rfl) false (some ⟨w.heap.size, 0, none⟩) 1 1 0).held
  have b := below_alloc (w.alloc (.cells #[.int .u64 5] 39)) (.cells #[.bool false, .slice (some ⟨w.heap.size, 0, none⟩) 1 1, .int .i64 0] 24)
  replace BB := below_next BB BB.size b rfl rfl rfl rfl
  have G := mv b rfl <| And.intro hT <| N5
  clear b hT N5
  obtain ⟨hT, N5⟩ := G
  go_wp2_with fail
  refine (down_five hT N5).mono ?_
  rintro en v1 ⟨A1, n1, c1, rfl, N11, b⟩
  replace BB := below_next BB BB.size b rfl rfl rfl rfl
  have G := mv b rfl <| And.intro hT <| And.intro N5 <| And.intro x50 <| And.intro x51 <| x52
  clear b hT N5 x50 x51 x52
  obtain ⟨hT, N5, x50, x51, x52⟩ := G
  obtain ⟨b10, b11, b12⟩ := (Box.new v1 false A1 n1 c1 2).held
  have b := below_alloc v1 (.cells #[.bool false, .slice A1 n1 c1, .int .i64 2] 24)
  replace BB := below_next BB BB.size b rfl rfl rfl rfl
  have G := mv b rfl <| And.intro hT <| And.intro N5 <| And.intro x50 <| And.intro x51 <| And.intro x52 <| N11
  clear b hT N5 x50 x51 x52 N11
  obtain ⟨hT, N5, x50, x51, x52, N11⟩ := G
  go_wp2_with fail
  refine (up_five hT N5).mono ?_
  rintro en v2 ⟨A2, n2, c2, rfl, N12, b⟩
  replace BB := below_next BB BB.size b rfl rfl rfl rfl
  have G := mv b rfl <| And.intro hT <| And.intro N5 <| And.intro x50 <| And.intro x51 <| And.intro x52 <| And.intro N11 <| And.intro b10 <| And.intro b11 <| b12
  clear b hT N5 x50 x51 x52 N11 b10 b11 b12
  obtain ⟨hT, N5, x50, x51, x52, N11, b10, b11, b12⟩ := G
  obtain ⟨b20, b21, b22⟩ := (Box.new v2 false A2 n2 c2 1).held
  have b := below_alloc v2 (.cells #[.bool false, .slice A2 n2 c2, .int .i64 1] 24)
  replace BB := below_next BB BB.size b rfl rfl rfl rfl
  have G := mv b rfl <| And.intro hT <| And.intro N5 <| And.intro x50 <| And.intro x51 <| And.intro x52 <| And.intro N11 <| And.intro b10 <| And.intro b11 <| And.intro b12 <| N12
  clear b hT N5 x50 x51 x52 N11 b10 b11 b12 N12
  obtain ⟨hT, N5, x50, x51, x52, N11, b10, b11, b12, N12⟩ := G
  go_wp2_with fail
  have L1 := nt_one_at (w := (v2.alloc (.cells #[.bool false, .slice A2 n2 c2, .int .i64 1] 24))) (v := 1) (sizes_up rfl) (by omega) (by omega)
  have b := below_alloc (v2.alloc (.cells #[.bool false, .slice A2 n2 c2, .int .i64 1] 24)) (.cells #[.int .u64 1] 39)
  replace BB := below_next BB BB.size b rfl rfl rfl rfl
  have G := mv b rfl <| And.intro hT <| And.intro N5 <| And.intro x50 <| And.intro x51 <| And.intro x52 <| And.intro N11 <| And.intro b10 <| And.intro b11 <| And.intro b12 <| And.intro N12 <| And.intro b20 <| And.intro b21 <| b22
  clear b hT N5 x50 x51 x52 N11 b10 b11 b12 N12 b20 b21 b22
  obtain ⟨hT, N5, x50, x51, x52, N11, b10, b11, b12, N12, b20, b21, b22⟩ := G
  have L3 := nt_one_at (w := ((v2.alloc (.cells #[.bool false, .slice A2 n2 c2, .int .i64 1] 24)).alloc (.cells #[.int .u64 1] 39))) (v := 3) (sizes_up (sizes_up rfl)) (by omega) (by omega)
  have b := below_alloc ((v2.alloc (.cells #[.bool false, .slice A2 n2 c2, .int .i64 1] 24)).alloc (.cells #[.int .u64 1] 39)) (.cells #[.int .u64 3] 39)
  replace BB := below_next BB BB.size b rfl rfl rfl rfl
  have G := mv b rfl <| And.intro hT <| And.intro N5 <| And.intro x50 <| And.intro x51 <| And.intro x52 <| And.intro N11 <| And.intro b10 <| And.intro b11 <| And.intro b12 <| And.intro N12 <| And.intro b20 <| And.intro b21 <| And.intro b22 <| L1
  clear b hT N5 x50 x51 x52 N11 b10 b11 b12 N12 b20 b21 b22 L1
  obtain ⟨hT, N5, x50, x51, x52, N11, b10, b11, b12, N12, b20, b21, b22, L1⟩ := G
  refine (quot_third hT L1 L3).mono ?_
  rintro en v3 ⟨A3, n3, c3, rfl, N13, b⟩
  clear L1 L3
  replace BB := below_next BB BB.size b rfl rfl rfl rfl
  have G := mv b rfl <| And.intro hT <| And.intro N5 <| And.intro x50 <| And.intro x51 <| And.intro x52 <| And.intro N11 <| And.intro b10 <| And.intro b11 <| And.intro b12 <| And.intro N12 <| And.intro b20 <| And.intro b21 <| b22
  clear b hT N5 x50 x51 x52 N11 b10 b11 b12 N12 b20 b21 b22
  obtain ⟨hT, N5, x50, x51, x52, N11, b10, b11, b12, N12, b20, b21, b22⟩ := G
  obtain ⟨b30, b31, b32⟩ := (Box.new v3 false A3 n3 c3 (-4)).held
  have b := below_alloc v3 (.cells #[.bool false, .slice A3 n3 c3, .int .i64 (-4)] 24)
  replace BB := below_next BB BB.size b rfl rfl rfl rfl
  have G := mv b rfl <| And.intro hT <| And.intro N5 <| And.intro x50 <| And.intro x51 <| And.intro x52 <| And.intro N11 <| And.intro b10 <| And.intro b11 <| And.intro b12 <| And.intro N12 <| And.intro b20 <| And.intro b21 <| And.intro b22 <| N13
  clear b hT N5 x50 x51 x52 N11 b10 b11 b12 N12 b20 b21 b22 N13
  obtain ⟨hT, N5, x50, x51, x52, N11, b10, b11, b12, N12, b20, b21, b22, N13⟩ := G
  go_wp2_with fail
  have L9 := nt_one_at (w := (v3.alloc (.cells #[.bool false, .slice A3 n3 c3, .int .i64 (-4)] 24))) (v := 9) (sizes_up rfl) (by omega) (by omega)
  have b := below_alloc (v3.alloc (.cells #[.bool false, .slice A3 n3 c3, .int .i64 (-4)] 24)) (.cells #[.int .u64 9] 39)
  replace BB := below_next BB BB.size b rfl rfl rfl rfl
  have G := mv b rfl <| And.intro hT <| And.intro N5 <| And.intro x50 <| And.intro x51 <| And.intro x52 <| And.intro N11 <| And.intro b10 <| And.intro b11 <| And.intro b12 <| And.intro N12 <| And.intro b20 <| And.intro b21 <| And.intro b22 <| And.intro N13 <| And.intro b30 <| And.intro b31 <| b32
  clear b hT N5 x50 x51 x52 N11 b10 b11 b12 N12 b20 b21 b22 N13 b30 b31 b32
  obtain ⟨hT, N5, x50, x51, x52, N11, b10, b11, b12, N12, b20, b21, b22, N13, b30, b31, b32⟩ := G
  refine (root_nine hT L9).mono ?_
  rintro en v4 ⟨A4, n4, c4, rfl, N14, b⟩
  clear L9
  replace BB := below_next BB BB.size b rfl rfl rfl rfl
  have G := mv b rfl <| And.intro hT <| And.intro N5 <| And.intro x50 <| And.intro x51 <| And.intro x52 <| And.intro N11 <| And.intro b10 <| And.intro b11 <| And.intro b12 <| And.intro N12 <| And.intro b20 <| And.intro b21 <| And.intro b22 <| And.intro N13 <| And.intro b30 <| And.intro b31 <| b32
  clear b hT N5 x50 x51 x52 N11 b10 b11 b12 N12 b20 b21 b22 N13 b30 b31 b32
  obtain ⟨hT, N5, x50, x51, x52, N11, b10, b11, b12, N12, b20, b21, b22, N13, b30, b31, b32⟩ := G
  obtain ⟨b40, b41, b42⟩ := (Box.new v4 false A4 n4 c4 0).held
  have b := below_alloc v4 (.cells #[.bool false, .slice A4 n4 c4, .int .i64 0] 24)
  replace BB := below_next BB BB.size b rfl rfl rfl rfl
  have G := mv b rfl <| And.intro hT <| And.intro N5 <| And.intro x50 <| And.intro x51 <| And.intro x52 <| And.intro N11 <| And.intro b10 <| And.intro b11 <| And.intro b12 <| And.intro N12 <| And.intro b20 <| And.intro b21 <| And.intro b22 <| And.intro N13 <| And.intro b30 <| And.intro b31 <| And.intro b32 <| N14
  clear b hT N5 x50 x51 x52 N11 b10 b11 b12 N12 b20 b21 b22 N13 b30 b31 b32 N14
  obtain ⟨hT, N5, x50, x51, x52, N11, b10, b11, b12, N12, b20, b21, b22, N13, b30, b31, b32, N14⟩ := G
  go_wp2_with fail
  refine (quot_none hT N5).mono ?_
  rintro en v5 ⟨A5, n5, c5, rfl, _, b⟩
  replace BB := below_next BB BB.size b rfl rfl rfl rfl
  have G := mv b rfl <| And.intro hT <| And.intro N5 <| And.intro x50 <| And.intro x51 <| And.intro x52 <| And.intro N11 <| And.intro b10 <| And.intro b11 <| And.intro b12 <| And.intro N12 <| And.intro b20 <| And.intro b21 <| And.intro b22 <| And.intro N13 <| And.intro b30 <| And.intro b31 <| And.intro b32 <| And.intro N14 <| And.intro b40 <| And.intro b41 <| b42
  clear b hT N5 x50 x51 x52 N11 b10 b11 b12 N12 b20 b21 b22 N13 b30 b31 b32 N14 b40 b41 b42
  obtain ⟨hT, N5, x50, x51, x52, N11, b10, b11, b12, N12, b20, b21, b22, N13, b30, b31, b32, N14, b40, b41, b42⟩ := G
  have b := below_alloc v5 (.cells #[.bool false, .slice A5 n5 c5, .int .i64 0] 24)
  replace BB := below_next BB BB.size b rfl rfl rfl rfl
  have G := mv b rfl <| And.intro hT <| And.intro N5 <| And.intro x50 <| And.intro x51 <| And.intro x52 <| And.intro N11 <| And.intro b10 <| And.intro b11 <| And.intro b12 <| And.intro N12 <| And.intro b20 <| And.intro b21 <| And.intro b22 <| And.intro N13 <| And.intro b30 <| And.intro b31 <| And.intro b32 <| And.intro N14 <| And.intro b40 <| And.intro b41 <| b42
  clear b hT N5 x50 x51 x52 N11 b10 b11 b12 N12 b20 b21 b22 N13 b30 b31 b32 N14 b40 b41 b42
  obtain ⟨hT, N5, x50, x51, x52, N11, b10, b11, b12, N12, b20, b21, b22, N13, b30, b31, b32, N14, b40, b41, b42⟩ := G
  go_wp2_with fail
  refine (down_none hT N5).mono ?_
  rintro en v6 ⟨A6, n6, c6, rfl, _, b⟩
  replace BB := below_next BB BB.size b rfl rfl rfl rfl
  have G := mv b rfl <| And.intro hT <| And.intro N5 <| And.intro x50 <| And.intro x51 <| And.intro x52 <| And.intro N11 <| And.intro b10 <| And.intro b11 <| And.intro b12 <| And.intro N12 <| And.intro b20 <| And.intro b21 <| And.intro b22 <| And.intro N13 <| And.intro b30 <| And.intro b31 <| And.intro b32 <| And.intro N14 <| And.intro b40 <| And.intro b41 <| b42
  clear b hT N5 x50 x51 x52 N11 b10 b11 b12 N12 b20 b21 b22 N13 b30 b31 b32 N14 b40 b41 b42
  obtain ⟨hT, N5, x50, x51, x52, N11, b10, b11, b12, N12, b20, b21, b22, N13, b30, b31, b32, N14, b40, b41, b42⟩ := G
  have b := below_alloc v6 (.cells #[.bool false, .slice A6 n6 c6, .int .i64 0] 24)
  replace BB := below_next BB BB.size b rfl rfl rfl rfl
  have G := mv b rfl <| And.intro hT <| And.intro N5 <| And.intro x50 <| And.intro x51 <| And.intro x52 <| And.intro N11 <| And.intro b10 <| And.intro b11 <| And.intro b12 <| And.intro N12 <| And.intro b20 <| And.intro b21 <| And.intro b22 <| And.intro N13 <| And.intro b30 <| And.intro b31 <| And.intro b32 <| And.intro N14 <| And.intro b40 <| And.intro b41 <| b42
  clear b hT N5 x50 x51 x52 N11 b10 b11 b12 N12 b20 b21 b22 N13 b30 b31 b32 N14 b40 b41 b42
  obtain ⟨hT, N5, x50, x51, x52, N11, b10, b11, b12, N12, b20, b21, b22, N13, b30, b31, b32, N14, b40, b41, b42⟩ := G
  go_wp2_with fail
  have L := nt_one_at (w := (v6.alloc (.cells #[.bool false, .slice A6 n6 c6, .int .i64 0] 24))) (v := 1) (sizes_up rfl) (by omega) (by omega)
  have b := below_alloc (v6.alloc (.cells #[.bool false, .slice A6 n6 c6, .int .i64 0] 24)) (.cells #[.int .u64 1] 39)
  replace BB := below_next BB BB.size b rfl rfl rfl rfl
  have G := mv b rfl <| And.intro hT <| And.intro N5 <| And.intro x50 <| And.intro x51 <| And.intro x52 <| And.intro N11 <| And.intro b10 <| And.intro b11 <| And.intro b12 <| And.intro N12 <| And.intro b20 <| And.intro b21 <| And.intro b22 <| And.intro N13 <| And.intro b30 <| And.intro b31 <| And.intro b32 <| And.intro N14 <| And.intro b40 <| And.intro b41 <| b42
  clear b hT N5 x50 x51 x52 N11 b10 b11 b12 N12 b20 b21 b22 N13 b30 b31 b32 N14 b40 b41 b42
  obtain ⟨hT, N5, x50, x51, x52, N11, b10, b11, b12, N12, b20, b21, b22, N13, b30, b31, b32, N14, b40, b41, b42⟩ := G
  refine (dsame_self (s := false) (e := 2) N11 L).mono ?_
  rintro en u0 ⟨rfl, b⟩
  clear L N11 b10 b11 b12
  replace BB := below_next BB BB.size b rfl rfl rfl rfl
  have G := mv b rfl <| And.intro hT <| And.intro N5 <| And.intro x50 <| And.intro x51 <| And.intro x52 <| And.intro N12 <| And.intro b20 <| And.intro b21 <| And.intro b22 <| And.intro N13 <| And.intro b30 <| And.intro b31 <| And.intro b32 <| And.intro N14 <| And.intro b40 <| And.intro b41 <| b42
  clear b hT N5 x50 x51 x52 N12 b20 b21 b22 N13 b30 b31 b32 N14 b40 b41 b42
  obtain ⟨hT, N5, x50, x51, x52, N12, b20, b21, b22, N13, b30, b31, b32, N14, b40, b41, b42⟩ := G
  go_wp2_with fail
  have L := nt_one_at (w := u0) (v := 3) rfl (by omega) (by omega)
  have b := below_alloc u0 (.cells #[.int .u64 3] 39)
  replace BB := below_next BB BB.size b rfl rfl rfl rfl
  have G := mv b rfl <| And.intro hT <| And.intro N5 <| And.intro x50 <| And.intro x51 <| And.intro x52 <| And.intro N12 <| And.intro b20 <| And.intro b21 <| And.intro b22 <| And.intro N13 <| And.intro b30 <| And.intro b31 <| And.intro b32 <| And.intro N14 <| And.intro b40 <| And.intro b41 <| b42
  clear b hT N5 x50 x51 x52 N12 b20 b21 b22 N13 b30 b31 b32 N14 b40 b41 b42
  obtain ⟨hT, N5, x50, x51, x52, N12, b20, b21, b22, N13, b30, b31, b32, N14, b40, b41, b42⟩ := G
  refine (dsame_self (s := false) (e := 1) N12 L).mono ?_
  rintro en u1 ⟨rfl, b⟩
  clear L N12 b20 b21 b22
  replace BB := below_next BB BB.size b rfl rfl rfl rfl
  have G := mv b rfl <| And.intro hT <| And.intro N5 <| And.intro x50 <| And.intro x51 <| And.intro x52 <| And.intro N13 <| And.intro b30 <| And.intro b31 <| And.intro b32 <| And.intro N14 <| And.intro b40 <| And.intro b41 <| b42
  clear b hT N5 x50 x51 x52 N13 b30 b31 b32 N14 b40 b41 b42
  obtain ⟨hT, N5, x50, x51, x52, N13, b30, b31, b32, N14, b40, b41, b42⟩ := G
  go_wp2_with fail
  have L := nt_one_at (w := u1) (v := 5) rfl (by omega) (by omega)
  have b := below_alloc u1 (.cells #[.int .u64 5] 39)
  replace BB := below_next BB BB.size b rfl rfl rfl rfl
  have G := mv b rfl <| And.intro hT <| And.intro N5 <| And.intro x50 <| And.intro x51 <| And.intro x52 <| And.intro N13 <| And.intro b30 <| And.intro b31 <| And.intro b32 <| And.intro N14 <| And.intro b40 <| And.intro b41 <| b42
  clear b hT N5 x50 x51 x52 N13 b30 b31 b32 N14 b40 b41 b42
  obtain ⟨hT, N5, x50, x51, x52, N13, b30, b31, b32, N14, b40, b41, b42⟩ := G
  refine (dsame_self (s := false) (e := (-4)) N13 L).mono ?_
  rintro en u2 ⟨rfl, b⟩
  clear L N13 b30 b31 b32
  replace BB := below_next BB BB.size b rfl rfl rfl rfl
  have G := mv b rfl <| And.intro hT <| And.intro N5 <| And.intro x50 <| And.intro x51 <| And.intro x52 <| And.intro N14 <| And.intro b40 <| And.intro b41 <| b42
  clear b hT N5 x50 x51 x52 N14 b40 b41 b42
  obtain ⟨hT, N5, x50, x51, x52, N14, b40, b41, b42⟩ := G
  go_wp2_with fail
  have L := nt_one_at (w := u2) (v := 3) rfl (by omega) (by omega)
  have b := below_alloc u2 (.cells #[.int .u64 3] 39)
  replace BB := below_next BB BB.size b rfl rfl rfl rfl
  have G := mv b rfl <| And.intro hT <| And.intro N5 <| And.intro x50 <| And.intro x51 <| And.intro x52 <| And.intro N14 <| And.intro b40 <| And.intro b41 <| b42
  clear b hT N5 x50 x51 x52 N14 b40 b41 b42
  obtain ⟨hT, N5, x50, x51, x52, N14, b40, b41, b42⟩ := G
  refine (dsame_self (s := false) (e := 0) N14 L).mono ?_
  rintro en u3 ⟨rfl, b⟩
  clear L N14 b40 b41 b42
  replace BB := below_next BB BB.size b rfl rfl rfl rfl
  have G := mv b rfl <| And.intro hT <| And.intro N5 <| And.intro x50 <| And.intro x51 <| x52
  clear b hT N5 x50 x51 x52
  obtain ⟨hT, N5, x50, x51, x52⟩ := G
  go_wp2_with fail
  refine (bits_five hT N5).mono ?_
  rintro en w5 ⟨rfl, b⟩
  replace BB := below_next BB BB.size b rfl rfl rfl rfl
  have G := mv b rfl <| And.intro hT <| And.intro N5 <| And.intro x50 <| And.intro x51 <| x52
  clear b hT N5 x50 x51 x52
  obtain ⟨hT, N5, x50, x51, x52⟩ := G
  go_wp2
  go_ret
  exact ⟨rfl, BB⟩
end Go.Proofs.YtdjklanmkjbifaaDoor
