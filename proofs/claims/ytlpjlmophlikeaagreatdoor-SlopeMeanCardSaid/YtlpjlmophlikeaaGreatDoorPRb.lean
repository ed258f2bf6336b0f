/-
 Contracts of round's small inner functions (raised, scaled, check, cut) and of fault.Must for Dyads, at this translation. Condition: the slices read as naturals, the table of math/bits reads as its text lays it.
-/
import Derived.Test.YtlpjlmophlikeaaGreatDoorPDy3
import Derived.Test.YtlpjlmophlikeaaGreatDoorPRm
import Derived.Test.YtlpjlmophlikeaaGreatDoorPCaps
namespace Go.Proofs.YtlpjlmophlikeaaGreatDoor
open Go.RowKit

def NatIs (x : Nat) (w : World) (e : Ending) (w' : World) : Prop := ∃ A n c, e = .returned (.slice A n c) ∧ Nt w' A n c x ∧ Below w.heap.size w w'
/-- a natural, and whether anything is left behind it -/
def PartIs (x : Nat) (r : Bool) (w : World) (e : Ending) (w' : World) : Prop := ∃ A n c, e = .returned (.tuple #[.slice A n c, .bool r]) ∧ Nt w' A n c x ∧ Below w.heap.size w w'
theorem new_cell (w : World) (cs : Array Value) (t : TypeId) (i : Nat) : (w.alloc (.cells cs t)).cell? ⟨w.heap.size, i, none⟩ = cs[i]? := cell_of_row _ _ i _ t (0, 0) (heap_alloc_new w _)

/-- a block that holds a size's three parts -/
structure Siz (w : World) (g : Nat) (s : Bool) (A : Option Addr) (n c : Nat) (e : Int) : Prop where
 blk : w.heap[g]? = some (.cells #[.slice A n c, .int .i64 e, .bool s] 156 (0, 0))
section
variable {w w' : World} {g : Nat} {s : Bool} {A : Option Addr} {n c : Nat} {e : Int}
theorem Siz.gl (h : Siz w g s A n c e) : g < w.heap.size := by
 rcases Nat.lt_or_ge g w.heap.size with hlt | hge
 ·exact hlt
 ·have := h.blk; rw [Array.getElem?_eq_none hge] at this; cases this
theorem Siz.at (h : Siz w g s A n c e) (i : Nat) : w.cell? ⟨g, i, none⟩ = #[Value.slice A n c, .int .i64 e, .bool s][i]? := cell_of_row w g i _ 156 (0, 0) h.blk
theorem Siz.c0 (h : Siz w g s A n c e) : w.cell? ⟨g, 0, none⟩ = some (.slice A n c) := h.at 0
theorem Siz.c1 (h : Siz w g s A n c e) : w.cell? ⟨g, 1, none⟩ = some (.int .i64 e) := h.at 1
theorem Siz.c2 (h : Siz w g s A n c e) : w.cell? ⟨g, 2, none⟩ = some (.bool s) := h.at 2
theorem Siz.frozen (h : Siz w g s A n c e) (i : Nat) : w.frozen? ⟨g, i, none⟩ = false := by
 have := h.blk
 simp [World.frozen?, this]
theorem Siz.below {b0 : Nat} (h : Siz w g s A n c e) (hb : Below b0 w w') (hg : g < b0) : Siz w' g s A n c e := ⟨(hb.block g hg).trans h.blk⟩
theorem Siz.drew (h : Siz w g s A n c e) : Siz w.drew g s A n c e := ⟨h.blk⟩
theorem Siz.new (w : World) (s : Bool) (A : Option Addr) (n c : Nat) (e : Int) : Siz (w.alloc (.cells #[.slice A n c, .int .i64 e, .bool s] 156)) w.heap.size s A n c e := ⟨heap_alloc_new w _⟩
theorem Siz.alloc (h : Siz w g s A n c e) (o : Obj) : Siz (w.alloc o) g s A n c e := h.below (below_alloc w o) h.gl
/-- no limb lies in such a block -/
theorem Siz.no (h : Siz w g s A n c e) (i x : Nat) : w.cell? ⟨g, i, none⟩ ≠ some (.int .u64 (x : Int)) := by
 rw [h.at i]
 match i with
 | 0 => simp
 | 1 => simp
 | 2 => simp
 | i + 3 => simp
/-- the three parts stored anew -/
theorem Siz.put (h : Siz w g s A n c e) (s' : Bool) (A' : Option Addr) (n' c' : Nat) (e' : Int) : Siz (((w.setCell ⟨g, 0, none⟩ (.slice A' n' c')).setCell ⟨g, 1, none⟩ (.int .i64 e')).setCell ⟨g, 2, none⟩ (.bool s')) g s' A' n' c' e' := by
 have := h.blk
 refine ⟨?_⟩
 simp [World.setCell, Array.getElem?_modify, this]
end
theorem Siz.held {w : World} {g : Nat} {s : Bool} {A : Option Addr} {n c : Nat} {e : Int} (h : Siz w g s A n c e) : w.cell? ⟨g, 0, none⟩ = some (.slice A n c) ∧ w.cell? ⟨g, 1, none⟩ = some (.int .i64 e) ∧ w.cell? ⟨g, 2, none⟩ = some (.bool s) := ⟨h.c0, h.c1, h.c2⟩
theorem Siz.open {w : World} {g : Nat} {s : Bool} {A : Option Addr} {n c : Nat} {e : Int} (h : Siz w g s A n c e) : w.frozen? ⟨g, 0, none⟩ = false ∧ w.frozen? ⟨g, 1, none⟩ = false ∧ w.frozen? ⟨g, 2, none⟩ = false := ⟨h.frozen 0, h.frozen 1, h.frozen 2⟩
theorem Siz.next {w X w2 : World} {g : Nat} {s : Bool} {A : Option Addr} {n c : Nat} {e : Int} (h : Siz w g s A n c e) (b : Below X.heap.size X w2) (he : X.heap = w.heap) : Siz w2 g s A n c e :=
 ⟨(b.block g (by rw [he]; exact h.gl)).trans (by rw [he]; exact h.blk)⟩
theorem raised_ok {w : World} {A : Option Addr} {n c x s : Nat} (h : Nt w A n c x) (hs : s ≤ 1000000) (hlt : x * 2 ^ s < W ^ 64) :
  Calls Tryz.prog 210 #[.slice A n c, .int .i64 (s : Int)] w (NatIs (x * 2 ^ s) w) := by
 have HLT := Lib.hid hlt
 clear hlt
 go_enter Tryz.func210, Tryz.ntmps210
 go_wp2_with fail
 refine (shl_ok (s := s) h hs HLT.out).mono ?_
 rintro e' w2 ⟨A2, n2, c2, rfl, h2, b⟩
 go_wp2_with fail
 refine natural_ok.mono ?_
 rintro e' w' ⟨rfl, rfl⟩
 go_wp2
 go_ret
 exact ⟨_, _, _, rfl, h2, b⟩
theorem isLow_mod {x k s : Nat} (h : IsLow x k) : x % 2 ^ s ≠ 0 ↔ k < s := by
 obtain ⟨q, hq⟩ := h
 constructor
 ·intro h1
  rcases Nat.lt_or_ge k s with h2 | h2
  ·exact h2
  ·exfalso
   apply h1
   have e1 : x = 2 ^ s * (2 ^ (k - s) * (2 * q + 1)) := by
    rw [hq, ← Nat.mul_assoc, ← Nat.pow_add]
    congr 2; omega
   rw [e1, Nat.mul_mod_right]
 ·intro h1 h2
  have e1 : 2 ^ s = 2 ^ k * (2 * 2 ^ (s - k - 1)) := by
   rw [← Nat.pow_succ', ← Nat.pow_add]; congr 1; omega
  obtain ⟨r, hr⟩ := Nat.dvd_of_mod_eq_zero h2
  rw [hq, e1, Nat.mul_assoc] at hr
  have := Nat.eq_of_mul_eq_mul_left (pow_pos2 k) hr
  rw [Nat.mul_assoc] at this
  omega
theorem scaled_up {w : World} {A : Option Addr} {n c x s : Nat} (h : Nt w A n c x) (hs : s ≤ 1000000) (hlt : x * 2 ^ s < W ^ 64) :
  Calls Tryz.prog 203 #[.slice A n c, .int .i64 (s : Int)] w (PartIs (x * 2 ^ s) false w) := by
 have HLT := Lib.hid hlt
 have d1 : decide ((0 : Int) ≤ (s : Int)) = true := decide_eq_true (by omega)
 clear hlt
 go_enter Tryz.func203, Tryz.ntmps203
 go_wp2_with fail
 refine (raised_ok (s := s) h hs HLT.out).mono ?_
 rintro e' w2 ⟨A2, n2, c2, rfl, h2, b⟩
 go_wp2
 go_ret2
 exact ⟨_, _, _, rfl, h2, b⟩
theorem scaled_down {w : World} {A : Option Addr} {n c x s : Nat} (hT : Tab w) (h : Nt w A n c x) (hs : s ≤ 1000000) (h0 : s ≠ 0 → x ≠ 0) :
  Calls Tryz.prog 203 #[.slice A n c, .int .i64 (-(s : Int))] w (PartIs (x / 2 ^ s) (decide (x % 2 ^ s ≠ 0)) w) := by
 by_cases hs0 : s = 0
 ·subst hs0
  have h1 := scaled_up (s := 0) h (by omega) (by rw [Nat.pow_zero, Nat.mul_one]; exact h.lt)
  rw [Nat.pow_zero, Nat.mul_one] at h1
  rw [Nat.pow_zero, Nat.div_one, Nat.mod_one]
  exact h1
 ·have HX := Lib.hid (h0 hs0)
  have d1 : decide ((0 : Int) ≤ -(s : Int)) = false := decide_eq_false (by omega)
  have hs1 : (s : Int) ≤ 1000000 := by omega
  have hs2 : 0 < (s : Int) := by omega
  clear h0
  go_enter Tryz.func203, Tryz.ntmps203
  go_wp2_with fail
  refine (shr_ok (s := s) h (by omega)).mono ?_
  rintro e' w2 ⟨A2, n2, c2, rfl, h2, b⟩
  have hT2 := hT.next b rfl
  have h3 := h.next b rfl
  clear hT h
  go_wp2_with fail
  refine natural_ok.mono ?_
  rintro e' w' ⟨rfl, rfl⟩
  go_wp2_with fail
  refine (low_nt hT2 h3 HX.out).mono ?_
  rintro e' w' ⟨k, rfl, hk, rfl⟩
  have hm : decide (x % 2 ^ s ≠ 0) = decide (k < s) := decide_eq_decide.2 (isLow_mod hk)
  have hk4 : k ≤ 4096 := by
   have := low_lt hk (m := 64 * 64) (by rw [← W64_pow]; exact h3.lt)
   omega
  have HM := Lib.hid hm
  clear hm hk h3 hT2
  go_wp2
  go_ret2
  exact ⟨_, _, _, by rw [HM.out]; simp, h2, b⟩

theorem must_ok {w : World} {A : Option Addr} {n c m : Nat} {s : Bool} {e : Int} (h : Nt w A n c m) :
  Calls Tryz.prog 136 #[.agg #[.bool s, .slice A n c, .int .i64 e], .int .i64 0] w (Goods s m e w) := by
 have BB := two_below w (.cells #[.bool s, .slice A n c, .int .i64 e] 27) (.cells #[.bool s, .slice A n c, .int .i64 e] 27)
 have h1 := h.below BB
 go_enter Tryz.func136, Tryz.ntmps136
 go_wp2_with fail
 refine check_ok.mono ?_
 rintro e' w' ⟨rfl, rfl⟩
 go_wp2
 exact bodyPost_ret (v := .agg #[.bool s, .slice A n c, .int .i64 e]) (by simp [results, Tryz.results136, go_sem]) rfl ⟨_, _, _, rfl, h1, BB⟩
theorem must_bad {w : World} {A : Option Addr} {n c : Nat} {s : Bool} {e k : Int} (hk : k ≠ 0) :
  Calls Tryz.prog 136 #[.agg #[.bool s, .slice A n c, .int .i64 e], .int .i64 k] w (Faults k w) := by
 have BB := two_below w (.cells #[.bool s, .slice A n c, .int .i64 e] 27) (.cells #[.bool false, .slice none 0 0, .int .i64 0] 27)
 have HK := Lib.hid hk
 clear hk
 go_enter Tryz.func136, Tryz.ntmps136
 go_wp2_with fail
 refine (check_bad HK.out).mono ?_
 rintro e' w' ⟨rfl, rfl⟩
 go_wp2
 exact ⟨rfl, rfl, BB⟩

/-- what cut leaves of x and a rest behind it, as an M -/
def cutR (p x : Nat) (rest u : Bool) : Nat := x / 2 ^ (blen x - p) + if u = true ∧ (rest = true ∨ x % 2 ^ (blen x - p) ≠ 0) then 1 else 0
theorem cutR_lt {p x : Nat} {rest u : Bool} (hp : p ≤ 2000) : x / 2 ^ (blen x - p) + 1 < W ^ 64 ∧ cutR p x rest u < W ^ 64 := by
 have h1 := cut_lt p x
 obtain ⟨j, hj⟩ : ∃ j, j = 64 * 64 := ⟨_, rfl⟩
 have h2 : 2 ^ p * 2 ≤ 2 ^ j := by rw [← Nat.pow_succ]; exact Nat.pow_le_pow_right (by omega) (by omega)
 have h3 := pow_pos2 p
 rw [W64_pow, ← hj]
 have h4 : cutR p x rest u ≤ x / 2 ^ (blen x - p) + 1 := by unfold cutR; split <;> omega
 omega
theorem cutR_false (p x : Nat) (u : Bool) : cutR p x false u = cutN p x u := by
 unfold cutR cutN
 simp
end Go.Proofs.YtlpjlmophlikeaaGreatDoor
namespace Go.Proofs.YtlpjlmophlikeaaGreatDoor
open Go.RowKit

instance {w w2 : World} {g : Nat} {s : Bool} {A : Option Addr} {n c : Nat} {e : Int} : Moves w w2 (Siz w g s A n c e) (Siz w2 g s A n c e) := ⟨fun _ b e h => h.next b e⟩
/-- how far the dividend goes up, or the divisor, so that the quotient has p bits -/
def kUp (p x y : Nat) : Nat := p + blen y - blen x
def kDn (p x y : Nat) : Nat := blen x - (p + blen y)
end Go.Proofs.YtlpjlmophlikeaaGreatDoor
set_option maxHeartbeats 8000000
set_option maxRecDepth 100000
namespace Go.Proofs.YtlpjlmophlikeaaGreatDoor
open Go.RowKit

theorem box_one (w : World) (o : Obj) (s : Bool) (A : Option Addr) (n c : Nat) (e : Int) : Box ((w.alloc o).alloc (.cells #[.bool s, .slice A n c, .int .i64 e] 27)) (w.heap.size + 1) s A n c e := by
 have := Box.new (w.alloc o) s A n c e
 simpa using this
theorem nm_fault {s : Bool} {m : Nat} {e k : Int} {s' : Bool} {m' : Nat} {e' : Int} (h : Nm s m e k s' m' e') (hk : k ≠ 0) : (s' = false ∧ m' = 0 ∧ e' = 0) ∧ Nm s m e k false 0 0 := by
 rcases nm_code h with h1 | ⟨_, rfl, rfl, rfl⟩
 ·exact absurd h1 hk
 ·exact ⟨⟨rfl, rfl, rfl⟩, h⟩

theorem cut_any {w : World} {A : Option Addr} {n c x p : Nat} {neg rest up : Bool} {e : Int} (hT : Tab w) (h : Nt w A n c x) (hp' : p ≤ 2000) (he : -10000000 ≤ e) (he' : e ≤ 10000000) :
  Calls Tryz.prog 191 #[.bool neg, .agg #[.slice A n c, .int .i64 e, .bool rest], .int .i64 (p : Int), .bool up] w (Ran (Nm neg (cutR p x rest (up != neg)) (e + ((blen x - p : Nat) : Int))) w) := by
 have hbl := blen_nt h
 obtain ⟨hc1, hc2⟩ := cutR_lt (x := x) (rest := rest) (u := up != neg) hp'
 have HC1 := Lib.hid hc1
 have HC2 := Lib.hid hc2
 have hcut : cutR p x rest (up != neg) = x / 2 ^ (blen x - p) + if (up != neg) = true ∧ (rest = true ∨ x % 2 ^ (blen x - p) ≠ 0) then 1 else 0 := rfl
 have h0 : blen x - p ≠ 0 → x ≠ 0 := fun h1 h2 => h1 (by rw [h2, blen_zero]; omega)
 have hj : max (0 : Int) ((blen x : Int) - (p : Int)) = ((blen x - p : Nat) : Int) := by omega
 have hj4 : blen x - p ≤ 4096 := by omega
 generalize blen x - p = j at *
 generalize cutR p x rest (up != neg) = y at *
 have HX := Lib.hid h0
 have HCUT := Lib.hid hcut
 clear hc1 hc2 h0 hcut
 have BB := two_below w (.cells #[.slice A n c, .int .i64 e, .bool rest] 156) (.cells #[.bool false, .slice none 0 0, .int .i64 0] 27)
 have a0 : (w.alloc (.cells #[.slice A n c, .int .i64 e, .bool rest] 156)).cell? ⟨w.heap.size, 0, none⟩ = some (.slice A n c) := new_cell w _ _ 0
 have a1 : (w.alloc (.cells #[.slice A n c, .int .i64 e, .bool rest] 156)).cell? ⟨w.heap.size, 1, none⟩ = some (.int .i64 e) := new_cell w _ _ 1
 have a2 : (w.alloc (.cells #[.slice A n c, .int .i64 e, .bool rest] 156)).cell? ⟨w.heap.size, 2, none⟩ = some (.bool rest) := new_cell w _ _ 2
 have G := mv (below_alloc (w.alloc (.cells #[.slice A n c, .int .i64 e, .bool rest] 156)) (.cells #[.bool false, .slice none 0 0, .int .i64 0] 27)) rfl <| And.intro a0 <| And.intro a1 a2
 clear a0 a1 a2
 obtain ⟨a0, a1, a2⟩ := G
 have r := box_one w (.cells #[.slice A n c, .int .i64 e, .bool rest] 156) false none 0 0 0
 replace hT := hT.next BB rfl
 replace h := h.next BB rfl
 go_enter Tryz.func191, Tryz.ntmps191
 go_wp2_with fail
 refine (len_nt h).mono ?_
 rintro e' w' ⟨rfl, rfl⟩
 go_wp2_with fail
 refine (scaled_down (s := j) hT h (by omega) HX.out).mono ?_
 rintro e' w1 ⟨A1, n1, c1, rfl, h1, b⟩
 replace BB := bnx BB b
 have G := mv b rfl <| And.intro hT <| And.intro a0 <| And.intro a1 <| And.intro a2 r
 clear b hT h a0 a1 a2 r
 obtain ⟨hT, a0, a1, a2, r⟩ := G
 obtain ⟨lost, hl⟩ : ∃ b : Bool, b = decide (x % 2 ^ j ≠ 0) := ⟨_, rfl⟩
 rw [← hl]
 have hyy : y = x / 2 ^ j + if ((lost || rest) && (up != neg)) = true then 1 else 0 := by
  have h2 := HCUT.out
  rw [h2, hl]
  by_cases h3 : x % 2 ^ j = 0 <;> cases rest <;> cases up <;> cases neg <;> simp [h3]
 have HY := Lib.hid hyy
 clear hl hyy hj HX HCUT
 cases lost <;> cases rest <;> cases up <;> cases neg
 all_goals
  first
  |have hy : y = x / 2 ^ j + 0 := HY.out
   rw [Nat.add_zero] at hy
   rw [← hy] at h1
  |have hy : y = x / 2 ^ j + 1 := HY.out
   go_wp2_with fail
   have b := below_alloc w1 (.cells #[.int .u64 1] 60)
   have hone := nt_one w1 (v := 1) (by omega) (small_W (by omega))
   replace BB := bnx BB b
   have G := mv b rfl <| And.intro hT <| And.intro h1 <| And.intro a0 <| And.intro a1 <| And.intro a2 r
   clear b hT h1 a0 a1 a2 r
   obtain ⟨hT, h1, a0, a1, a2, r⟩ := G
   refine (add_ok h1 hone HC1.out).mono ?_
   rintro e' w2 ⟨A2, n2, c2, rfl, h2, b⟩
   rw [← hy] at h2
   replace BB := bnx BB b
   have G := mv b rfl <| And.intro hT <| And.intro a0 <| And.intro a1 <| And.intro a2 r
   clear b hT h1 a0 a1 a2 r hone
   obtain ⟨hT, a0, a1, a2, r⟩ := G
   have h1 := h2
   clear h2
   go_wp2_with fail
   refine natural_ok.mono ?_
   rintro e' w' ⟨rfl, rfl⟩
 all_goals
  clear hy HY
  go_wp2_with fail
  refine (dnorm_ok hT h1).mono ?_
  rintro e' w3 ⟨k, s3, A3, n3, c3, m3, e3, rfl, hP, h3, b⟩
  have HP := Lib.hid hP
  replace BB := bnx BB b
  replace r := mv b rfl r
  clear b hT h1 a0 a1 a2 hP
  go_wp2_with fail
  by_cases hk : k = 0
  ·subst hk
   refine (must_ok h3).mono ?_
   rintro e' w4 ⟨A4, n4, c4, rfl, h4, b⟩
   replace BB := bnx BB b
   have r := mv b rfl r
   obtain ⟨f0, f1, f2⟩ := r.open
   obtain ⟨z0, z1, z2⟩ := r.held
   clear b h3
   go_wp2
   have q := r.put s3 A4 n4 c4 e3
   have hN := h4.put3 r (.bool s3) (.slice A4 n4 c4) (.int .i64 e3)
   have HB3 := below_put3 (g := w.heap.size + 1) BB (by omega) (.bool s3) (.slice A4 n4 c4) (.int .i64 e3)
   obtain ⟨z0, z1, z2⟩ := q.held
   exact bodyPost_ret (v := .agg #[.bool s3, .slice A4 n4 c4, .int .i64 e3]) (by simp [results, Tryz.results191, go_sem, z0, z1, z2]) rfl (.inl ⟨_, _, _, _, _, _, rfl, HP.out, hN, HB3⟩)
  ·have HK := Lib.hid hk
   refine (must_bad HK.out).mono ?_
   rintro e' w4 ⟨rfl, b⟩
   replace BB := bnx BB b
   obtain ⟨hP2, hP3⟩ := nm_fault HP.out HK.out
   have HP3 := Lib.hid hP3
   clear b hk hP2 hP3
   go_wp2
   exact ⟨rfl, .inr ⟨k, rfl, HK.out, HP3.out, BB⟩⟩
end Go.Proofs.YtlpjlmophlikeaaGreatDoor
