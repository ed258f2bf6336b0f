/-
  Contracts of expo's near numbers: more, lowered, raised, divided, times, over, plus, between, at this translation.
-/
import Derived.Test.YtehfdfjpmmpndaaGreatDoorQIs
set_option maxHeartbeats 8000000
set_option maxRecDepth 100000
namespace Go.Proofs.YtehfdfjpmmpndaaGreatDoor
open Go.RowKit
variable {A A1 A2 : Option Addr} {c c1 c2 i n n1 n2 q x y : Nat} {w : World}
structure Nrb (w : World) (g : Nat) (A : Option Addr) (n c : Nat) (B : Option Addr) (m d : Nat) (e : Int) : Prop where
 blk : w.heap[g]? = some (.cells #[.slice A n c, .slice B m d, .int .i64 e] 143 (0, 0))
section
variable {w w' : World} {g : Nat} {A : Option Addr} {n c : Nat} {B : Option Addr} {m d : Nat} {e : Int}
theorem Nrb.gl (h : Nrb w g A n c B m d e) : g < w.heap.size := by
 rcases Nat.lt_or_ge g w.heap.size with hlt | hge
 ·exact hlt
 have := h.blk; rw [Array.getElem?_eq_none hge] at this; cases this
theorem Nrb.at (h : Nrb w g A n c B m d e) (i : Nat) : w.cell? ⟨g, i, none⟩ = #[Value.slice A n c, .slice B m d, .int .i64 e][i]? := cell_of_row w g i _ 143 (0, 0) h.blk
theorem Nrb.held (h : Nrb w g A n c B m d e) : w.cell? ⟨g, 0, none⟩ = some (.slice A n c) ∧ w.cell? ⟨g, 1, none⟩ = some (.slice B m d) ∧ w.cell? ⟨g, 2, none⟩ = some (.int .i64 e) := ⟨h.at 0, h.at 1, h.at 2⟩
theorem Nrb.frozen (h : Nrb w g A n c B m d e) (i : Nat) : w.frozen? ⟨g, i, none⟩ = false := by
 have := h.blk
 simp [World.frozen?, this]
theorem Nrb.open (h : Nrb w g A n c B m d e) : w.frozen? ⟨g, 0, none⟩ = false ∧ w.frozen? ⟨g, 1, none⟩ = false ∧ w.frozen? ⟨g, 2, none⟩ = false := ⟨h.frozen 0, h.frozen 1, h.frozen 2⟩
theorem Nrb.below {b0 : Nat} (h : Nrb w g A n c B m d e) (hb : Below b0 w w') (hg : g < b0) : Nrb w' g A n c B m d e := ⟨(hb.block g hg).trans h.blk⟩
theorem Nrb.new (w : World) (A : Option Addr) (n c : Nat) (B : Option Addr) (m d : Nat) (e : Int) : Nrb (w.alloc (.cells #[.slice A n c, .slice B m d, .int .i64 e] 143)) w.heap.size A n c B m d e := ⟨heap_alloc_new w _⟩
theorem Nrb.alloc (h : Nrb w g A n c B m d e) (o : Obj) : Nrb (w.alloc o) g A n c B m d e := h.below (below_alloc w o) h.gl
theorem Nrb.no (h : Nrb w g A n c B m d e) (i x : Nat) : w.cell? ⟨g, i, none⟩ ≠ some (.int .u64 (x : Int)) := by
 rw [h.at i]
 match i with
 | 0 => simp
 | 1 => simp
 | 2 => simp
 | i + 3 => simp
theorem Nrb.put (h : Nrb w g A n c B m d e) (A' : Option Addr) (n' c' : Nat) (B' : Option Addr) (m' d' : Nat) (e' : Int) : Nrb (((w.setCell ⟨g, 0, none⟩ (.slice A' n' c')).setCell ⟨g, 1, none⟩ (.slice B' m' d')).setCell ⟨g, 2, none⟩ (.int .i64 e')) g A' n' c' B' m' d' e' := by
 have := h.blk
 refine ⟨?_⟩
 simp [World.setCell, Array.getElem?_modify, this]
theorem Nrb.next {w2 X : World} (h : Nrb w g A n c B m d e) (b : Below X.heap.size X w2) (he : X.heap = w.heap) : Nrb w2 g A n c B m d e :=
 ⟨(b.block g (by rw [he]; exact h.gl)).trans (by rw [he]; exact h.blk)⟩
instance {w w2 : World} {g : Nat} {A : Option Addr} {n c : Nat} {B : Option Addr} {m d : Nat} {e : Int} : Moves w w2 (Nrb w g A n c B m d e) (Nrb w2 g A n c B m d e) := ⟨fun _ b e h => h.next b e⟩
theorem Nt.putN {A0 : Option Addr} {n0 c0 y : Nat} (h : Nt w A0 n0 c0 y) (hb : Nrb w g A n c B m d e) (u0 u1 u2 : Value) : Nt (((w.setCell ⟨g, 0, none⟩ u0).setCell ⟨g, 1, none⟩ u1).setCell ⟨g, 2, none⟩ u2) A0 n0 c0 y := by
 have hne := h.rd.off hb.no
 exact ⟨((h.rd.set1 hne 0 u0).set1 hne 1 u1).set1 hne 2 u2, h.lt⟩
theorem Nrb.other {g' : Nat} (h : Nrb w g A n c B m d e) (hne : g ≠ g') (u0 u1 u2 : Value) : Nrb (((w.setCell ⟨g', 0, none⟩ u0).setCell ⟨g', 1, none⟩ u1).setCell ⟨g', 2, none⟩ u2) g A n c B m d e :=
 ⟨(Below.heap_setCell _ _ u2 g hne).trans ((Below.heap_setCell _ _ u1 g hne).trans ((Below.heap_setCell w _ u0 g hne).trans h.blk))⟩
theorem Nrb.at_ {g : Nat} (hg : w.heap.size = g) (A : Option Addr) (n c : Nat) (B : Option Addr) (m d : Nat) (e : Int) : Nrb (w.alloc (.cells #[.slice A n c, .slice B m d, .int .i64 e] 143)) g A n c B m d e := by
 subst hg
 exact Nrb.new w A n c B m d e
end
theorem nr_oth {k g i : Nat} {v u0 u1 u2 : Value} (h : w.cell? ⟨k, i, none⟩ = some v) (hne : k ≠ g) : (((w.setCell ⟨g, 0, none⟩ u0).setCell ⟨g, 1, none⟩ u1).setCell ⟨g, 2, none⟩ u2).cell? ⟨k, i, none⟩ = some v := by
 have e := (Below.heap_setCell ((w.setCell ⟨g, 0, none⟩ u0).setCell ⟨g, 1, none⟩ u1) ⟨g, 2, none⟩ u2 k hne).trans ((Below.heap_setCell (w.setCell ⟨g, 0, none⟩ u0) ⟨g, 1, none⟩ u1 k hne).trans (Below.heap_setCell w ⟨g, 0, none⟩ u0 k hne))
 unfold World.cell? at h ⊢
 simpa [e] using h
def NearIs (x y : Nat) (q : Int) (w : World) (en : Ending) (w' : World) : Prop := ∃ A n c B m d, en = .returned (.agg #[.slice A n c, .slice B m d, .int .i64 q]) ∧ Nt w' A n c x ∧ Nt w' B m d y ∧ Below w.heap.size w w'
def BetIs (s : Bool) (m : Nat) (e : Int) (s2 : Bool) (m2 : Nat) (e2 : Int) (w : World) (en : Ending) (w' : World) : Prop := ∃ A n c B k d, en = .returned (.agg #[.bool s, .slice A n c, .int .i64 e, .bool s2, .slice B k d, .int .i64 e2]) ∧ Nt w' A n c m ∧ Nt w' B k d m2 ∧ Below w.heap.size w w'
def ceilN (y i : Nat) : Nat := y / i + if y % i = 0 then 0 else 1
theorem elow_ok {n c x s : Nat} (h : Nt w A n c x) (hs : s ≤ 64000000) :
  Calls Tryz.prog 176 #[.slice A n c, .int .i64 (s : Int)] w (NatIs (x / 2 ^ s) w) := by
 go_enter Tryz.func176, Tryz.ntmps176
 go_wp2_with fail
 refine (shr_ok (s := s) h hs).mono ?_
 rintro e' w2 ⟨A2, n2, c2, rfl, h2, b⟩
 go_wp2_with fail
 refine natural_ok.mono ?_
 rintro e' w' ⟨rfl, rfl⟩
 go_wp2
 go_ret
 exact ⟨_, _, _, rfl, h2, b⟩
theorem emore_ok (h : Nt w A n c x) (hs : x + 1 < W ^ 64) :
  Calls Tryz.prog 182 #[.slice A n c] w (NatIs (x + 1) w) := by
 have HS := hyd hs
 clear hs
 have N1 := nt_one w (v := 1) (by omega) (by rw [W_eq]; omega)
 have BB := below_alloc w (.cells #[.int .u64 1] 58)
 replace h := h.below BB
 go_enter Tryz.func182, Tryz.ntmps182
 go_wp2_with fail
 refine (add_ok h N1 HS.out).mono ?_
 rintro e' w2 ⟨A2, n2, c2, rfl, h2, b⟩
 replace BB := BB.trans (b.mono BB.size)
 clear b h N1
 go_wp2_with fail
 refine natural_ok.mono ?_
 rintro e' w' ⟨rfl, rfl⟩
 go_wp2
 go_ret
 exact ⟨_, _, _, rfl, h2, BB⟩
theorem erai_ok {n c x s : Nat} (hT : Tab w) (h : Nt w A n c x) (h0 : x ≠ 0) (hs : s ≤ 64000000) (hlt : x / 2 ^ s + 1 < W ^ 64) :
  Calls Tryz.prog 177 #[.slice A n c, .int .i64 (s : Int)] w (NatIs (upN x s) w) := by
 have HL := hyd hlt
 have H0 := hyd h0
 clear hlt h0
 go_enter Tryz.func177, Tryz.ntmps177
 go_wp2_with fail
 refine (low_nt hT h H0.out).mono ?_
 rintro e' w' ⟨k, rfl, hk, rfl⟩
 by_cases hks : k < s
 ·have d0 : decide ((k : Int) < (s : Int)) = true := decide_eq_true (by omega)
  have HU := hyd (up_low hk hks)
  have d1 : decide (k < s) = true := decide_eq_true hks
  clear hk
  go_wp2_with fail
  refine (elow_ok h hs).mono ?_
  rintro e' w2 ⟨A2, n2, c2, rfl, h2, b⟩
  go_wp2_with fail
  refine (emore_ok h2 HL.out).mono ?_
  rintro e' w3 ⟨A3, n3, c3, rfl, h3, b3⟩
  go_wp2
  go_ret
  exact ⟨_, _, _, rfl, by rw [HU.out]; exact h3, b.trans (b3.mono b.size)⟩
 have d0 : decide ((k : Int) < (s : Int)) = false := decide_eq_false (by omega)
 have HU := hyd (up_high hk hks)
 have d1 : decide (k < s) = false := decide_eq_false hks
 clear hk
 go_wp2_with fail
 refine (elow_ok h hs).mono ?_
 rintro e' w2 ⟨A2, n2, c2, rfl, h2, b⟩
 go_wp2
 go_ret
 exact ⟨_, _, _, rfl, by rw [HU.out]; exact h2, b⟩
theorem ediv_ok (h : Nt w A n c x) (h0 : i ≠ 0) (hi : i < W) :
  Calls Tryz.prog 181 #[.slice A n c, .int .u64 (i : Int)] w (PartIs (x / i) (decide (x % i ≠ 0)) w) := by
 have H0 := hyd h0
 have N1 := nt_one w h0 hi
 have BB := below_alloc w (.cells #[.int .u64 (i : Int)] 58)
 replace h := h.below BB
 clear h0 hi
 go_enter Tryz.func181, Tryz.ntmps181
 go_wp2_with fail
 refine (div_ok h N1 H0.out).mono ?_
 rintro e' w2 ⟨A2, n2, c2, A3, n3, c3, rfl, h2, h3, b⟩
 replace BB := BB.trans (b.mono BB.size)
 have hz := h3.zero
 have HM := hyd (And.intro h3.rd.cap h3.rd.max)
 have l3 : n3 ≤ 64 := h3.le
 clear b h N1
 go_wp2_with fail
 refine check_ok.mono ?_
 rintro e' w' ⟨rfl, rfl⟩
 by_cases hn : n3 = 0
 ·have d1 : decide ((n3 : Int) > 0) = false := decide_eq_false (by omega)
  have d2 : decide ((0 : Int) < (n3 : Int)) = false := d1
  have d3 : decide (0 < n3) = false := decide_eq_false (by omega)
  have HE : Hid (decide (x % i ≠ 0) = false) := hyd (decide_eq_false fun hne => hne (hz.1 hn))
  clear hz hn HM
  go_wp2
  go_ret2
  exact ⟨_, _, _, by rw [HE.out]; first | rfl | simp [d3], h2, BB⟩
 have d1 : decide ((n3 : Int) > 0) = true := decide_eq_true (by omega)
 have d2 : decide ((0 : Int) < (n3 : Int)) = true := d1
 have d3 : decide (0 < n3) = true := decide_eq_true (by omega)
 have HE : Hid (decide (x % i ≠ 0) = true) := hyd (decide_eq_true fun he => hn (hz.2 he))
 clear hz hn HM
 go_wp2
 go_ret2
 exact ⟨_, _, _, by rw [HE.out]; first | rfl | simp [d3], h2, BB⟩
theorem etim_ok {A3 : Option Addr} {n3 c3 : Nat} {A4 : Option Addr} {n4 c4 : Nat} {x1 y1 x2 y2 q : Nat} {q2 : Int} (hT : Tab w) (h1 : Nt w A1 n1 c1 x1) (h2 : Nt w A2 n2 c2 y1) (h3 : Nt w A3 n3 c3 x2) (h4 : Nt w A4 n4 c4 y2) (l1 : x1 * x2 < W ^ 64) (l2 : y1 * y2 < W ^ 64) (l0 : y1 * y2 ≠ 0) (l3 : y1 * y2 / 2 ^ q + 1 < W ^ 64) (hq : q ≤ 64000000) :
  Calls Tryz.prog 168 #[.agg #[.slice A1 n1 c1, .slice A2 n2 c2, .int .i64 (q : Int)], .agg #[.slice A3 n3 c3, .slice A4 n4 c4, .int .i64 q2]] w (NearIs (x1 * x2 / 2 ^ q) (upN (y1 * y2) q) (q : Int) w) := by
 have BB := three_below w (.cells #[.slice A1 n1 c1, .slice A2 n2 c2, .int .i64 (q : Int)] 143) (.cells #[.slice A3 n3 c3, .slice A4 n4 c4, .int .i64 q2] 143) (.cells #[.slice none 0 0, .slice none 0 0, .int .i64 0] 143)
 have xa := ((Nrb.new w A1 n1 c1 A2 n2 c2 (q : Int)).alloc (.cells #[.slice A3 n3 c3, .slice A4 n4 c4, .int .i64 q2] 143)).alloc (.cells #[.slice none 0 0, .slice none 0 0, .int .i64 0] 143)
 have xb := (Nrb.at_ (w := (w.alloc (.cells #[.slice A1 n1 c1, .slice A2 n2 c2, .int .i64 (q : Int)] 143))) (sizes_up rfl) A3 n3 c3 A4 n4 c4 q2).alloc (.cells #[.slice none 0 0, .slice none 0 0, .int .i64 0] 143)
 have r := Nrb.at_ (w := ((w.alloc (.cells #[.slice A1 n1 c1, .slice A2 n2 c2, .int .i64 (q : Int)] 143)).alloc (.cells #[.slice A3 n3 c3, .slice A4 n4 c4, .int .i64 q2] 143))) (sizes_up (sizes_up rfl)) none 0 0 none 0 0 0
 obtain ⟨a0, a1, a2⟩ := xa.held
 obtain ⟨b0, b1, b2⟩ := xb.held
 clear xa xb
 have HL := hyd (And.intro l1 (And.intro l2 (And.intro l0 (And.intro l3 hq))))
 clear l1 l2 l0 l3 hq
 have G := mv BB rfl (J5 hT h1 h2 h3 h4)
 clear hT h1 h2 h3 h4
 obtain ⟨hT, h1, h2, h3, h4⟩ := G
 go_enter Tryz.func168, Tryz.ntmps168
 go_wp2_with fail
 have b := drew_b (((w.alloc (.cells #[.slice A1 n1 c1, .slice A2 n2 c2, .int .i64 (q : Int)] 143)).alloc (.cells #[.slice A3 n3 c3, .slice A4 n4 c4, .int .i64 q2] 143)).alloc (.cells #[.slice none 0 0, .slice none 0 0, .int .i64 0] 143))
 replace BB := bnx BB b
 have G := mv b rfl (J12 hT h1 h2 h3 h4 r a0 a1 a2 b0 b1 b2)
 clear b hT h1 h2 h3 h4 r a0 a1 a2 b0 b1 b2
 obtain ⟨hT, h1, h2, h3, h4, r, a0, a1, a2, b0, b1, b2⟩ := G
 generalize hwd : World.drew (((w.alloc (.cells #[.slice A1 n1 c1, .slice A2 n2 c2, .int .i64 (q : Int)] 143)).alloc (.cells #[.slice A3 n3 c3, .slice A4 n4 c4, .int .i64 q2] 143)).alloc (.cells #[.slice none 0 0, .slice none 0 0, .int .i64 0] 143)) = wd at *
 have HS := J6 a0 a1 a2 b0 b1 b2
 revert HS
 apply rg hwd
 intro hHeldv0
 clear hwd
 refine tl 0 ?_
 refine tl 1 ?_
 refine tl 2 ?_
 refine tl 3 ?_
 refine tl 8 ?_
 refine tl 9 ?_
 refine tl 10 ?_
 refine tl 11 ?_
 refine rdy 4 fun K hK => ?_
 go_simp
 refine (mul_ok h1 h3 HL.out.1).mono ?_
 rintro en w' ⟨A5, n5, c5, rfl, h5, b⟩
 replace BB := bnx BB b
 have G := mv b (by rfl) (J12 hT h1 h2 h3 h4 r a0 a1 a2 b0 b1 b2)
 clear b hT h1 h2 h3 h4 r a0 a1 a2 b0 b1 b2
 obtain ⟨hT, h1, h2, h3, h4, r, a0, a1, a2, b0, b1, b2⟩ := G
 refine kp hK ⟨a0, a1, a2, b0, b1, b2⟩ fun hHeldv1 => ?_
 clear hK K hHeldv0
 try simp only [Act.put]
 refine tl 5 ?_
 refine tl 6 ?_
 refine rdy 7 fun K hK => ?_
 go_simp
 refine natural_ok.mono ?_
 rintro en w' ⟨rfl, rfl⟩
 refine kp hK ⟨a0, a1, a2, b0, b1, b2⟩ fun hHeldv2 => ?_
 clear hK K hHeldv1
 try simp only [Act.put]
 refine rdy 12 fun K hK => ?_
 go_simp
 refine (mul_ok h2 h4 HL.out.2.1).mono ?_
 rintro en w' ⟨A6, n6, c6, rfl, h6, b⟩
 replace BB := bnx BB b
 have G := mv b (by rfl) (J13 hT h1 h2 h3 h4 r a0 a1 a2 b0 b1 b2 h5)
 clear b hT h1 h2 h3 h4 r a0 a1 a2 b0 b1 b2 h5
 obtain ⟨hT, h1, h2, h3, h4, r, a0, a1, a2, b0, b1, b2, h5⟩ := G
 refine kp hK ⟨a0, a1, a2, b0, b1, b2⟩ fun hHeldv3 => ?_
 clear hK K hHeldv2
 try simp only [Act.put]
 refine tl 13 ?_
 refine tl 14 ?_
 refine rdy 15 fun K hK => ?_
 go_simp
 refine natural_ok.mono ?_
 rintro en w' ⟨rfl, rfl⟩
 refine kp hK ⟨a0, a1, a2, b0, b1, b2⟩ fun hHeldv4 => ?_
 clear hK K hHeldv3
 try simp only [Act.put]
 refine tl 16 ?_
 refine tl 17 ?_
 refine wpAnyH_done (by kernel_rfl) ?_ _
 clear hHeldv4
 clear h1 h2 h3 h4 b0 b1 b2
 go_wp2_with fail
 have b := drew_b w'
 replace BB := bnx BB b
 have G := mv b rfl (J7 hT r a0 a1 a2 h5 h6)
 clear b hT r a0 a1 a2 h5 h6
 obtain ⟨hT, r, a0, a1, a2, h5, h6⟩ := G
 generalize hwd : World.drew w' = wd at *
 have HS := J3 a0 a1 a2
 revert HS
 apply rg hwd
 intro hHeldu0
 clear hwd
 refine tl 0 ?_
 refine tl 1 ?_
 refine tl 2 ?_
 refine tl 4 ?_
 refine tl 5 ?_
 refine tl 6 ?_
 refine tl 8 ?_
 refine tl 9 ?_
 refine rdy 3 fun K hK => ?_
 go_simp
 refine (elow_ok (s := q) h5 HL.out.2.2.2.2).mono ?_
 rintro en w' ⟨A7, n7, c7, rfl, h7, b⟩
 replace BB := bnx BB b
 have G := mv b (by rfl) (J7 hT r a0 a1 a2 h5 h6)
 clear b hT r a0 a1 a2 h5 h6
 obtain ⟨hT, r, a0, a1, a2, h5, h6⟩ := G
 refine kp hK ⟨a0, a1, a2⟩ fun hHeldu1 => ?_
 clear hK K hHeldu0
 try simp only [Act.put]
 refine rdy 7 fun K hK => ?_
 go_simp
 refine (erai_ok (s := q) hT h6 HL.out.2.2.1 HL.out.2.2.2.2 HL.out.2.2.2.1).mono ?_
 rintro en w' ⟨A8, n8, c8, rfl, h8, b⟩
 replace BB := bnx BB b
 have G := mv b (by rfl) (J8 hT r a0 a1 a2 h5 h6 h7)
 clear b hT r a0 a1 a2 h5 h6 h7
 obtain ⟨hT, r, a0, a1, a2, h5, h6, h7⟩ := G
 obtain ⟨f0, f1, f2⟩ := r.open
 obtain ⟨z0, z1, z2⟩ := r.held
 refine kp hK ⟨a0, a1, a2⟩ fun hHeldu2 => ?_
 clear hK K hHeldu1
 try simp only [Act.put]
 refine tl 10 ?_
 refine rdy 11 fun K hK => ?_
 go_simp
 refine hK.out _ _ (by exact ⟨nr_oth a0 (by omega), nr_oth a1 (by omega), nr_oth a2 (by omega)⟩) (fun hHeldu3 => ?_)
 clear hK K hHeldu2
 try simp only [Act.put]
 refine wpAnyH_done (by kernel_rfl) ?_ _
 go_wp2
 have qq := r.put A7 n7 c7 A8 n8 c8 (q : Int)
 have hN := h7.putN r (.slice A7 n7 c7) (.slice A8 n8 c8) (.int .i64 (q : Int))
 have hM := h8.putN r (.slice A7 n7 c7) (.slice A8 n8 c8) (.int .i64 (q : Int))
 have HB3 := below_put3 (g := w.heap.size + 2) BB (by omega) (.slice A7 n7 c7) (.slice A8 n8 c8) (.int .i64 (q : Int))
 obtain ⟨z0, z1, z2⟩ := qq.held
 exact bodyPost_ret (v := .agg #[.slice A7 n7 c7, .slice A8 n8 c8, .int .i64 (q : Int)]) (by simp [results, Tryz.results168, go_sem, z0, z1, z2]) rfl ⟨_, _, _, _, _, _, rfl, hN, hM, HB3⟩
theorem eplus_ok {A3 : Option Addr} {n3 c3 : Nat} {A4 : Option Addr} {n4 c4 : Nat} {x1 y1 x2 y2 q : Nat} {q2 : Int} (h1 : Nt w A1 n1 c1 x1) (h2 : Nt w A2 n2 c2 y1) (h3 : Nt w A3 n3 c3 x2) (h4 : Nt w A4 n4 c4 y2) (l1 : x1 + x2 < W ^ 64) (l2 : y1 + y2 < W ^ 64) :
  Calls Tryz.prog 175 #[.agg #[.slice A1 n1 c1, .slice A2 n2 c2, .int .i64 (q : Int)], .agg #[.slice A3 n3 c3, .slice A4 n4 c4, .int .i64 q2]] w (NearIs (x1 + x2) (y1 + y2) (q : Int) w) := by
 have BB := three_below w (.cells #[.slice A1 n1 c1, .slice A2 n2 c2, .int .i64 (q : Int)] 143) (.cells #[.slice A3 n3 c3, .slice A4 n4 c4, .int .i64 q2] 143) (.cells #[.slice none 0 0, .slice none 0 0, .int .i64 0] 143)
 have xa := ((Nrb.new w A1 n1 c1 A2 n2 c2 (q : Int)).alloc (.cells #[.slice A3 n3 c3, .slice A4 n4 c4, .int .i64 q2] 143)).alloc (.cells #[.slice none 0 0, .slice none 0 0, .int .i64 0] 143)
 have xb := (Nrb.at_ (w := (w.alloc (.cells #[.slice A1 n1 c1, .slice A2 n2 c2, .int .i64 (q : Int)] 143))) (sizes_up rfl) A3 n3 c3 A4 n4 c4 q2).alloc (.cells #[.slice none 0 0, .slice none 0 0, .int .i64 0] 143)
 have r := Nrb.at_ (w := ((w.alloc (.cells #[.slice A1 n1 c1, .slice A2 n2 c2, .int .i64 (q : Int)] 143)).alloc (.cells #[.slice A3 n3 c3, .slice A4 n4 c4, .int .i64 q2] 143))) (sizes_up (sizes_up rfl)) none 0 0 none 0 0 0
 obtain ⟨a0, a1, a2⟩ := xa.held
 obtain ⟨b0, b1, b2⟩ := xb.held
 clear xa xb
 have HL := hyd (And.intro l1 l2)
 clear l1 l2
 have G := mv BB rfl (J4 h1 h2 h3 h4)
 clear h1 h2 h3 h4
 obtain ⟨h1, h2, h3, h4⟩ := G
 go_enter Tryz.func175, Tryz.ntmps175
 go_wp2_with fail
 have b := drew_b (((w.alloc (.cells #[.slice A1 n1 c1, .slice A2 n2 c2, .int .i64 (q : Int)] 143)).alloc (.cells #[.slice A3 n3 c3, .slice A4 n4 c4, .int .i64 q2] 143)).alloc (.cells #[.slice none 0 0, .slice none 0 0, .int .i64 0] 143))
 replace BB := bnx BB b
 have G := mv b rfl (J11 h1 h2 h3 h4 r a0 a1 a2 b0 b1 b2)
 clear b h1 h2 h3 h4 r a0 a1 a2 b0 b1 b2
 obtain ⟨h1, h2, h3, h4, r, a0, a1, a2, b0, b1, b2⟩ := G
 generalize hwd : World.drew (((w.alloc (.cells #[.slice A1 n1 c1, .slice A2 n2 c2, .int .i64 (q : Int)] 143)).alloc (.cells #[.slice A3 n3 c3, .slice A4 n4 c4, .int .i64 q2] 143)).alloc (.cells #[.slice none 0 0, .slice none 0 0, .int .i64 0] 143)) = wd at *
 have HS := J6 a0 a1 a2 b0 b1 b2
 revert HS
 apply rg hwd
 intro hHeldv0
 clear hwd
 refine tl 0 ?_
 refine tl 1 ?_
 refine tl 2 ?_
 refine tl 3 ?_
 refine tl 8 ?_
 refine tl 9 ?_
 refine tl 10 ?_
 refine tl 11 ?_
 refine tl 16 ?_
 refine tl 17 ?_
 refine rdy 4 fun K hK => ?_
 go_simp
 refine (add_ok h1 h3 HL.out.1).mono ?_
 rintro en w' ⟨A5, n5, c5, rfl, h5, b⟩
 replace BB := bnx BB b
 have G := mv b (by rfl) (J11 h1 h2 h3 h4 r a0 a1 a2 b0 b1 b2)
 clear b h1 h2 h3 h4 r a0 a1 a2 b0 b1 b2
 obtain ⟨h1, h2, h3, h4, r, a0, a1, a2, b0, b1, b2⟩ := G
 refine kp hK ⟨a0, a1, a2, b0, b1, b2⟩ fun hHeldv1 => ?_
 clear hK K hHeldv0
 try simp only [Act.put]
 refine tl 5 ?_
 refine tl 6 ?_
 refine rdy 7 fun K hK => ?_
 go_simp
 refine natural_ok.mono ?_
 rintro en w' ⟨rfl, rfl⟩
 refine kp hK ⟨a0, a1, a2, b0, b1, b2⟩ fun hHeldv2 => ?_
 clear hK K hHeldv1
 try simp only [Act.put]
 refine rdy 12 fun K hK => ?_
 go_simp
 refine (add_ok h2 h4 HL.out.2).mono ?_
 rintro en w' ⟨A6, n6, c6, rfl, h6, b⟩
 replace BB := bnx BB b
 have G := mv b (by rfl) (J12 h1 h2 h3 h4 r a0 a1 a2 b0 b1 b2 h5)
 clear b h1 h2 h3 h4 r a0 a1 a2 b0 b1 b2 h5
 obtain ⟨h1, h2, h3, h4, r, a0, a1, a2, b0, b1, b2, h5⟩ := G
 refine kp hK ⟨a0, a1, a2, b0, b1, b2⟩ fun hHeldv3 => ?_
 clear hK K hHeldv2
 try simp only [Act.put]
 refine tl 13 ?_
 refine tl 14 ?_
 refine rdy 15 fun K hK => ?_
 go_simp
 refine natural_ok.mono ?_
 rintro en w' ⟨rfl, rfl⟩
 obtain ⟨f0, f1, f2⟩ := r.open
 obtain ⟨z0, z1, z2⟩ := r.held
 refine kp hK ⟨a0, a1, a2, b0, b1, b2⟩ fun hHeldv4 => ?_
 clear hK K hHeldv3
 try simp only [Act.put]
 refine tl 18 ?_
 refine rdy 19 fun K hK => ?_
 go_simp
 refine hK.out _ _ (by exact ⟨nr_oth a0 (by omega), nr_oth a1 (by omega), nr_oth a2 (by omega), nr_oth b0 (by omega), nr_oth b1 (by omega), nr_oth b2 (by omega)⟩) (fun hHeldv5 => ?_)
 clear hK K hHeldv4
 try simp only [Act.put]
 refine wpAnyH_done (by kernel_rfl) ?_ _
 go_wp2
 have qq := r.put A5 n5 c5 A6 n6 c6 (q : Int)
 have hN := h5.putN r (.slice A5 n5 c5) (.slice A6 n6 c6) (.int .i64 (q : Int))
 have hM := h6.putN r (.slice A5 n5 c5) (.slice A6 n6 c6) (.int .i64 (q : Int))
 have HB3 := below_put3 (g := w.heap.size + 2) BB (by omega) (.slice A5 n5 c5) (.slice A6 n6 c6) (.int .i64 (q : Int))
 obtain ⟨z0, z1, z2⟩ := qq.held
 exact bodyPost_ret (v := .agg #[.slice A5 n5 c5, .slice A6 n6 c6, .int .i64 (q : Int)]) (by simp [results, Tryz.results175, go_sem, z0, z1, z2]) rfl ⟨_, _, _, _, _, _, rfl, hN, hM, HB3⟩
theorem eover_ok (h1 : Nt w A1 n1 c1 x) (h2 : Nt w A2 n2 c2 y) (l0 : i ≠ 0) (li : i < W) (l3 : y / i + 1 < W ^ 64) :
  Calls Tryz.prog 174 #[.agg #[.slice A1 n1 c1, .slice A2 n2 c2, .int .i64 (q : Int)], .int .u64 (i : Int)] w (NearIs (x / i) (ceilN y i) (q : Int) w) := by
 have BB := two_below w (.cells #[.slice A1 n1 c1, .slice A2 n2 c2, .int .i64 (q : Int)] 143) (.cells #[.slice none 0 0, .slice none 0 0, .int .i64 0] 143)
 have xa := (Nrb.new w A1 n1 c1 A2 n2 c2 (q : Int)).alloc (.cells #[.slice none 0 0, .slice none 0 0, .int .i64 0] 143)
 have r := Nrb.at_ (w := (w.alloc (.cells #[.slice A1 n1 c1, .slice A2 n2 c2, .int .i64 (q : Int)] 143))) (sizes_up rfl) none 0 0 none 0 0 0
 obtain ⟨a0, a1, a2⟩ := xa.held
 clear xa
 have HL := hyd (And.intro l0 (And.intro li l3))
 clear l0 li l3
 have G := mv BB rfl <| And.intro h1 <| h2
 clear h1 h2
 obtain ⟨h1, h2⟩ := G
 go_enter Tryz.func174, Tryz.ntmps174
 go_wp2_with fail
 refine (ediv_ok (i := i) h1 HL.out.1 HL.out.2.1).mono ?_
 rintro en w1 ⟨A3, n3, c3, rfl, h3, b⟩
 replace BB := bnx BB b
 have G := mv b rfl (J6 h1 h2 r a0 a1 a2)
 clear b h1 h2 r a0 a1 a2
 obtain ⟨h1, h2, r, a0, a1, a2⟩ := G
 clear h1
 go_wp2_with fail
 refine (ediv_ok (i := i) h2 HL.out.1 HL.out.2.1).mono ?_
 rintro en w2 ⟨A4, n4, c4, rfl, h4, b⟩
 replace BB := bnx BB b
 have G := mv b rfl (J6 h2 r a0 a1 a2 h3)
 clear b h2 r a0 a1 a2 h3
 obtain ⟨h2, r, a0, a1, a2, h3⟩ := G
 clear h2
 by_cases hm : y % i = 0
 ·have d1 : decide (y % i ≠ 0) = false := decide_eq_false fun h => h hm
  rw [d1]
  have HE : Hid (ceilN y i = y / i) := hyd (by unfold ceilN; rw [if_pos hm, Nat.add_zero])
  clear hm
  obtain ⟨f0, f1, f2⟩ := r.open
  obtain ⟨z0, z1, z2⟩ := r.held
  go_wp2
  have qq := r.put A3 n3 c3 A4 n4 c4 (q : Int)
  have hN := h3.putN r (.slice A3 n3 c3) (.slice A4 n4 c4) (.int .i64 (q : Int))
  have hM := h4.putN r (.slice A3 n3 c3) (.slice A4 n4 c4) (.int .i64 (q : Int))
  have HB3 := below_put3 (g := w.heap.size + 1) BB (by omega) (.slice A3 n3 c3) (.slice A4 n4 c4) (.int .i64 (q : Int))
  obtain ⟨z0, z1, z2⟩ := qq.held
  exact bodyPost_ret (v := .agg #[.slice A3 n3 c3, .slice A4 n4 c4, .int .i64 (q : Int)]) (by simp [results, Tryz.results174, go_sem, z0, z1, z2]) rfl ⟨_, _, _, _, _, _, rfl, hN, by rw [HE.out]; exact hM, HB3⟩
 have d1 : decide (y % i ≠ 0) = true := decide_eq_true hm
 rw [d1]
 have HE : Hid (ceilN y i = y / i + 1) := hyd (by unfold ceilN; rw [if_neg hm])
 clear hm
 go_wp2_with fail
 refine (emore_ok h4 HL.out.2.2).mono ?_
 rintro en w3 ⟨A5, n5, c5, rfl, h5, b⟩
 replace BB := bnx BB b
 have G := mv b rfl (J6 r a0 a1 a2 h3 h4)
 clear b r a0 a1 a2 h3 h4
 obtain ⟨r, a0, a1, a2, h3, h4⟩ := G
 clear h4
 obtain ⟨f0, f1, f2⟩ := r.open
 obtain ⟨z0, z1, z2⟩ := r.held
 go_wp2
 have qq := r.put A3 n3 c3 A5 n5 c5 (q : Int)
 have hN := h3.putN r (.slice A3 n3 c3) (.slice A5 n5 c5) (.int .i64 (q : Int))
 have hM := h5.putN r (.slice A3 n3 c3) (.slice A5 n5 c5) (.int .i64 (q : Int))
 have HB3 := below_put3 (g := w.heap.size + 1) BB (by omega) (.slice A3 n3 c3) (.slice A5 n5 c5) (.int .i64 (q : Int))
 obtain ⟨z0, z1, z2⟩ := qq.held
 exact bodyPost_ret (v := .agg #[.slice A3 n3 c3, .slice A5 n5 c5, .int .i64 (q : Int)]) (by simp [results, Tryz.results174, go_sem, z0, z1, z2]) rfl ⟨_, _, _, _, _, _, rfl, hN, by rw [HE.out]; exact hM, HB3⟩
theorem ebet_ok {x y q m3 m4 : Nat} {s3 s4 : Bool} {e3 e4 : Int} (hT : Tab w) (h1 : Nt w A1 n1 c1 x) (h2 : Nt w A2 n2 c2 y) (hq : q ≤ 64000000) (hn1 : Nm false x (-(q : Int)) 0 s3 m3 e3) (hn2 : Nm false y (-(q : Int)) 0 s4 m4 e4) :
  Calls Tryz.prog 170 #[.agg #[.slice A1 n1 c1, .slice A2 n2 c2, .int .i64 (q : Int)]] w (BetIs s3 m3 e3 s4 m4 e4 w) := by
 have BB := two_below w (.cells #[.slice A1 n1 c1, .slice A2 n2 c2, .int .i64 (q : Int)] 143) (.cells #[.bool false, .slice none 0 0, .int .i64 0, .bool false, .slice none 0 0, .int .i64 0] 30)
 have xa := (Nrb.new w A1 n1 c1 A2 n2 c2 (q : Int)).alloc (.cells #[.bool false, .slice none 0 0, .int .i64 0, .bool false, .slice none 0 0, .int .i64 0] 30)
 have r := ibx_one w (.cells #[.slice A1 n1 c1, .slice A2 n2 c2, .int .i64 (q : Int)] 143) false none 0 0 0 false none 0 0 0
 obtain ⟨a0, a1, a2⟩ := xa.held
 clear xa
 have H1 := hyd hn1
 have H2 := hyd hn2
 have hw : IntKind.i64.wrap (-(q : Int)) = -(q : Int) := IntWalk.i64_in _ (by omega)
 clear hn1 hn2
 have G := mv BB rfl (J3 hT h1 h2)
 clear hT h1 h2
 obtain ⟨hT, h1, h2⟩ := G
 go_enter Tryz.func170, Tryz.ntmps170
 go_wp2_with fail
 have b := drew_b ((w.alloc (.cells #[.slice A1 n1 c1, .slice A2 n2 c2, .int .i64 (q : Int)] 143)).alloc (.cells #[.bool false, .slice none 0 0, .int .i64 0, .bool false, .slice none 0 0, .int .i64 0] 30))
 replace BB := bnx BB b
 have G := mv b rfl (J7 hT h1 h2 r a0 a1 a2)
 clear b hT h1 h2 r a0 a1 a2
 obtain ⟨hT, h1, h2, r, a0, a1, a2⟩ := G
 generalize hwd : World.drew ((w.alloc (.cells #[.slice A1 n1 c1, .slice A2 n2 c2, .int .i64 (q : Int)] 143)).alloc (.cells #[.bool false, .slice none 0 0, .int .i64 0, .bool false, .slice none 0 0, .int .i64 0] 30)) = wd at *
 have HS := J3 a0 a1 a2
 revert HS
 apply rg hwd
 intro hHeldv0
 clear hwd
 refine tl 0 ?_
 refine tl 1 ?_
 refine tl 2 ?_
 refine tl 3 ?_
 refine tl 4 ?_
 refine tl 9 ?_
 refine tl 10 ?_
 refine tl 11 ?_
 refine tl 12 ?_
 refine tl 13 ?_
 refine rdy 5 fun K hK => ?_
 go_simp
 refine (told_is' (dnorm_ok hT h1) (fun _ _ _ _ hp => nm_fun hp H1.out)).mono ?_
 rintro en w' ⟨A3, n3, c3, rfl, h3, b⟩
 replace BB := bnx BB b
 have G := mv b (by rfl) (J7 hT h1 h2 r a0 a1 a2)
 clear b hT h1 h2 r a0 a1 a2
 obtain ⟨hT, h1, h2, r, a0, a1, a2⟩ := G
 refine kp hK ⟨a0, a1, a2⟩ fun hHeldv1 => ?_
 clear hK K hHeldv0
 try simp only [Act.put]
 refine tl 6 ?_
 refine tl 7 ?_
 refine rdy 8 fun K hK => ?_
 go_simp
 refine (must_ok h3).mono ?_
 rintro en w' ⟨A4, n4, c4, rfl, h4, b⟩
 replace BB := bnx BB b
 have G := mv b (by rfl) (J8 hT h1 h2 r a0 a1 a2 h3)
 clear b hT h1 h2 r a0 a1 a2 h3
 obtain ⟨hT, h1, h2, r, a0, a1, a2, h3⟩ := G
 clear h3
 refine kp hK ⟨a0, a1, a2⟩ fun hHeldv2 => ?_
 clear hK K hHeldv1
 try simp only [Act.put]
 refine rdy 14 fun K hK => ?_
 go_simp
 refine (told_is' (dnorm_ok hT h2) (fun _ _ _ _ hp => nm_fun hp H2.out)).mono ?_
 rintro en w' ⟨A5, n5, c5, rfl, h5, b⟩
 replace BB := bnx BB b
 have G := mv b (by rfl) (J8 hT h1 h2 r a0 a1 a2 h4)
 clear b hT h1 h2 r a0 a1 a2 h4
 obtain ⟨hT, h1, h2, r, a0, a1, a2, h4⟩ := G
 refine kp hK ⟨a0, a1, a2⟩ fun hHeldv3 => ?_
 clear hK K hHeldv2
 try simp only [Act.put]
 refine tl 15 ?_
 refine tl 16 ?_
 refine rdy 17 fun K hK => ?_
 go_simp
 refine (must_ok h5).mono ?_
 rintro en w' ⟨A6, n6, c6, rfl, h6, b⟩
 replace BB := bnx BB b
 have G := mv b (by rfl) (J9 hT h1 h2 r a0 a1 a2 h4 h5)
 clear b hT h1 h2 r a0 a1 a2 h4 h5
 obtain ⟨hT, h1, h2, r, a0, a1, a2, h4, h5⟩ := G
 clear h5
 obtain ⟨f0, f1, f2, f3, f4, f5⟩ := r.open
 obtain ⟨z0, z1, z2, z3, z4, z5⟩ := r.held
 refine kp hK ⟨a0, a1, a2⟩ fun hHeldv4 => ?_
 clear hK K hHeldv3
 try simp only [Act.put]
 refine tl 18 ?_
 refine rdy 19 fun K hK => ?_
 go_simp
 refine hK.out _ _ (by exact ⟨cell_oth6 a0 (by omega), cell_oth6 a1 (by omega), cell_oth6 a2 (by omega)⟩) (fun hHeldv5 => ?_)
 clear hK K hHeldv4
 try simp only [Act.put]
 refine wpAnyH_done (by kernel_rfl) ?_ _
 go_wp2
 exact ret6 rfl rfl rfl r h4.rd h6.rd BB (by omega) fun _ hN hM HB3 => ⟨_, _, _, _, _, _, rfl, ⟨hN, h4.lt⟩, ⟨hM, h6.lt⟩, HB3⟩
end Go.Proofs.YtehfdfjpmmpndaaGreatDoor
