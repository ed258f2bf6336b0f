/-
  Plain facts behind calls: all that is known of a world, carried to the world behind a call that made memory, in one step; dyad's contracts for any Dyads that may be, with what follows of their values. No condition.
-/
import Derived.Test.YtkpcmgfpmekkjaaDoorQDye
namespace Go.Proofs.YtkpcmgfpmekkjaaDoor
open Go.RowKit

/-- what is told of a Dyad times 2^p -/
def Shifted (s : Bool) (x : Nat) (e p : Int) (k : Int) (s' : Bool) (m' : Nat) (e' : Int) : Prop :=
  (x = 0 ∧ k = 0 ∧ s' = s ∧ m' = x ∧ e' = e) ∨ (x ≠ 0 ∧ (-1048576 ≤ p + e ∧ p + e ≤ 1048576) ∧ k = 0 ∧ s' = s ∧ m' = x ∧ e' = p + e) ∨
  (x ≠ 0 ∧ ¬ (-1048576 ≤ p + e ∧ p + e ≤ 1048576) ∧ k = 3 ∧ s' = false ∧ m' = 0 ∧ e' = 0)
theorem Cel.heap {w w2 : World} {g : Nat} {x : Int} (h : Cel w g x) (he : w2.heap = w.heap) : Cel w2 g x := ⟨by rw [he]; exact h.blk⟩
theorem Cel.next {w W w2 : World} {g : Nat} {x : Int} (h : Cel w g x) (b : Below W.heap.size W w2) (he : W.heap = w.heap) : Cel w2 g x :=
  (h.heap he).below b (by rw [he]; exact h.gl)
theorem Cel.alloc {w : World} {g : Nat} {x : Int} (h : Cel w g x) (o : Obj) : Cel (w.alloc o) g x := h.below (below_alloc w o) h.gl

set_option maxRecDepth 100000 in
set_option maxHeartbeats 2000000 in
theorem shift1_any {w : World} {v : Nat} {A : Option Addr} {n c x : Nat} {s : Bool} {e p : Int} (g : Box w v s A n c e) (gp : Cel w (v + 1) p) (hT : Tab w) (h : Nt w A n c x) (hd : OkD s x e) :
    Calls Tryd.prog 85 #[.pointer (some ⟨v, 0, none⟩), .pointer (some ⟨v + 1, 0, none⟩)] w (Ran (Shifted s x e p) w) := by
  have re := okd_ge (K := 4194304) (Nat.le_refl _) hd
  have r1 := re.1
  have r2 := re.2.1
  have hnle := h.le
  have vl := gp.gl
  have BB := below_alloc w (.cells #[.bool false, .slice none 0 0, .int .i64 0] 28)
  have r := Box.new w false none 0 0 0
  have ne1 : ¬ w.heap.size = v := by omega
  replace g := g.alloc (.cells #[.bool false, .slice none 0 0, .int .i64 0] 28)
  replace gp := gp.alloc (.cells #[.bool false, .slice none 0 0, .int .i64 0] 28)
  obtain ⟨p0, p1, p2⟩ := g.held
  have h1 := h.below BB
  have hT1 := hT.below BB
  have HD := Lib.hid hd
  have HLT := Lib.hid h.lt
  have hz : n = 0 ↔ x = 0 := h.zero
  clear h hT hd re
  go_enter Tryd.func85, Tryd.ntmps85
  go_wp2_with fail
  refine (checked_ok hT1 h1 HD.out).mono ?_
  rintro en w2 ⟨rfl, b⟩
  replace g := g.next b rfl
  replace gp := gp.next b rfl
  replace r := r.next b rfl
  replace h1 := h1.next b rfl
  replace BB := bnx BB b rfl rfl rfl rfl
  clear b hT1 p0 p1 p2
  go_wp2_with fail
  refine (own_any h1.rd (by omega)).mono ?_
  rintro en w3 ⟨A3, c3, rfl, h3, b⟩
  replace g := g.next b rfl
  replace gp := gp.next b rfl
  replace r := r.next b rfl
  replace BB := bnx BB b rfl rfl rfl rfl
  clear b h1
  have r0 := r
  have h30 := h3
  have BB0 := BB
  obtain ⟨u0, u1, u2⟩ := r.held
  obtain ⟨k0, k1, k2⟩ := r.open
  have xs := Box.new w3 s A3 n c3 e
  have b := below_alloc w3 (.cells #[.bool s, .slice A3 n c3, .int .i64 e] 28)
  have rl := r.gl
  replace g := g.next b rfl
  replace gp := gp.next b rfl
  replace r := r.next b rfl
  replace h3 := h3.next b rfl
  replace BB := bnx BB b rfl rfl rfl rfl
  clear b
  obtain ⟨p0, p1, p2⟩ := g.held
  have p3 := gp.c0
  obtain ⟨z0, z1, z2⟩ := r.held
  obtain ⟨f0, f1, f2⟩ := r.open
  have ne2 : ¬ w3.heap.size = w.heap.size := by omega
  have ne3 : ¬ w.heap.size = w3.heap.size := by omega
  by_cases h0 : n = 0
  · have hx := Lib.hid (hz.1 h0)
    have d0 : decide ((0 : Int) < (n : Int)) = false := decide_eq_false (by omega)
    have d1 : decide (0 < n) = false := decide_eq_false (by omega)
    clear hz h0
    go_wp2
    have q0 := r0.put s A3 n c3 e
    have hN0 := h30.put3 r0 (.bool s) (.slice A3 n c3) (.int .i64 e)
    have HB0 := below_put3 (g := w.heap.size) BB0 (Nat.le_refl _) (.bool s) (.slice A3 n c3) (.int .i64 e)
    have b4 := below_alloc (((w3.setCell ⟨w.heap.size, 0, none⟩ (.bool s)).setCell ⟨w.heap.size, 1, none⟩ (.slice A3 n c3)).setCell ⟨w.heap.size, 2, none⟩ (.int .i64 e)) (.cells #[.bool s, .slice A3 n c3, .int .i64 e] 28)
    have q := q0.next b4 rfl
    have hN := hN0.next b4 rfl
    have HB3 := below_next HB0 HB0.size b4 rfl rfl rfl rfl
    obtain ⟨y0, y1, y2⟩ := q.held
    exact bodyPost_ret (v := .agg #[.bool s, .slice A3 n c3, .int .i64 e]) (by simp [results, Tryd.results85, go_sem, y0, y1, y2]) rfl (.inl ⟨_, _, _, _, _, _, rfl, .inl ⟨hx.out, rfl, rfl, rfl, rfl⟩, ⟨hN, HLT.out⟩, HB3⟩)
  · have hx := Lib.hid (show x ≠ 0 from fun he => h0 (hz.2 he))
    have d0 : decide ((0 : Int) < (n : Int)) = true := decide_eq_true (by omega)
    have hp : 0 < n := by omega
    have d1 : decide (0 < n) = true := decide_eq_true hp
    clear hz h0
    by_cases hr : -1048576 ≤ p + e ∧ p + e ≤ 1048576
    · go_wp2_with fail
      refine (expo_ok (e := p) (k := e) (by omega) (by omega) hr.1 hr.2).mono ?_
      rintro en w' ⟨rfl, rfl⟩
      have HR := Lib.hid hr
      clear hr
      go_wp2
      have q0 := r0.put s A3 n c3 (p + e)
      have hN0 := h30.put3 r0 (.bool s) (.slice A3 n c3) (.int .i64 (p + e))
      have HB0 := below_put3 (g := w.heap.size) BB0 (Nat.le_refl _) (.bool s) (.slice A3 n c3) (.int .i64 (p + e))
      have b4 := below_alloc (((w3.setCell ⟨w.heap.size, 0, none⟩ (.bool s)).setCell ⟨w.heap.size, 1, none⟩ (.slice A3 n c3)).setCell ⟨w.heap.size, 2, none⟩ (.int .i64 (p + e))) (.cells #[.bool s, .slice A3 n c3, .int .i64 (p + e)] 28)
      have q := q0.next b4 rfl
      have hN := hN0.next b4 rfl
      have HB3 := below_next HB0 HB0.size b4 rfl rfl rfl rfl
      obtain ⟨y0, y1, y2⟩ := q.held
      exact bodyPost_ret (v := .agg #[.bool s, .slice A3 n c3, .int .i64 (p + e)]) (by simp [results, Tryd.results85, go_sem, y0, y1, y2]) rfl (.inl ⟨_, _, _, _, _, _, rfl, .inr (.inl ⟨hx.out, HR.out, rfl, rfl, rfl, rfl⟩), ⟨hN, HLT.out⟩, HB3⟩)
    · go_wp2_with fail
      refine (expo_bad (e := p) (k := e) (by omega) (by omega) hr).mono ?_
      rintro en w' ⟨rfl, rfl⟩
      have HR := Lib.hid hr
      clear hr
      go_wp2
      exact ⟨rfl, .inr ⟨3, rfl, by decide, .inr (.inr ⟨hx.out, HR.out, rfl, rfl, rfl, rfl⟩), BB⟩⟩

set_option maxRecDepth 100000 in
set_option maxHeartbeats 1000000 in
theorem face_shift {P : Int → Bool → Nat → Int → Prop} {w : World} {A : Option Addr} {n c : Nat} {s : Bool} {e p : Int}
    (hc : ∀ W2 : World, Below w.heap.size w W2 → Box W2 w.heap.size s A n c e → Cel W2 (w.heap.size + 1) p → Calls Tryd.prog 85 #[.pointer (some ⟨w.heap.size, 0, none⟩), .pointer (some ⟨w.heap.size + 1, 0, none⟩)] W2 (Ran P W2)) :
    Calls Tryd.prog 77 #[.agg #[.bool s, .slice A n c, .int .i64 e], .int .i64 p] w (Tells P w) := by
  have HC := Lib.hid hc
  clear hc
  have hmf := make_func
  have BB := three_below w (.cells #[.bool s, .slice A n c, .int .i64 e] 28) (.cells #[.int .i64 p] 3) (.cells #[.bool false, .slice none 0 0, .int .i64 0] 28)
  have g := ((Box.new w s A n c e).alloc (.cells #[.int .i64 p] 3)).alloc (.cells #[.bool false, .slice none 0 0, .int .i64 0] 28)
  have gp := (Cel.new1 w (.cells #[.bool s, .slice A n c, .int .i64 e] 28) p).alloc (.cells #[.bool false, .slice none 0 0, .int .i64 0] 28)
  have r := box_two w (.cells #[.bool s, .slice A n c, .int .i64 e] 28) (.cells #[.int .i64 p] 3) false none 0 0 0
  go_enter Tryd.func77, Tryd.ntmps77
  go_wp2_with fail
  refine (told_any2 (P := P) (fun _ => by kernel_rfl) (fun W2 h2 => ?_)).mono ?_
  · subst h2
    exact HC.out _ four_below ((g.alloc _).alloc _) ((gp.alloc _).alloc _)
  rintro en w5 ⟨k, s', A5, n5, c5, m', e', rfl, hP, h5, b⟩
  have HP := Lib.hid hP
  replace r := r.next b rfl
  replace BB := bnx BB b rfl rfl rfl rfl
  obtain ⟨f0, f1, f2⟩ := r.open
  obtain ⟨z0, z1, z2⟩ := r.held
  clear b hP g gp HC
  go_wp2
  have q := r.put s' A5 n5 c5 e'
  have hN5 := h5.put3 r (.bool s') (.slice A5 n5 c5) (.int .i64 e')
  have HB3 := below_put3 (g := w.heap.size + 2) BB (by omega) (.bool s') (.slice A5 n5 c5) (.int .i64 e')
  obtain ⟨z0, z1, z2⟩ := q.held
  exact bodyPost_ret (v := .tuple #[.agg #[.bool s', .slice A5 n5 c5, .int .i64 e'], .int .i64 k]) (by simp [results, Tryd.results77, go_sem, z0, z1, z2]) rfl ⟨_, _, _, _, _, _, _, rfl, HP.out, hN5, HB3⟩
theorem dshift_ok {w : World} {A : Option Addr} {n c x : Nat} {s : Bool} {e p : Int} (hT : Tab w) (h : Nt w A n c x) (hd : OkD s x e) :
    Calls Tryd.prog 77 #[.agg #[.bool s, .slice A n c, .int .i64 e], .int .i64 p] w (Tells (Shifted s x e p) w) :=
  face_shift fun _ b g gp => shift1_any g gp (hT.below b) (h.below b) hd
end Go.Proofs.YtkpcmgfpmekkjaaDoor

namespace Go.Proofs.YtkpcmgfpmekkjaaDoor
open Go.RowKit

/-- what p says of the world w, q says of w2, if w2 only holds more memory than w -/
class Moves (w : outParam World) (w2 : World) (p : Prop) (q : outParam Prop) : Prop where
  go : ∀ X : World, Below X.heap.size X w2 → X.heap = w.heap → p → q
section
variable {w w2 : World} {A : Option Addr} {n c m g : Nat} {s : Bool} {e z : Int} {l : List Nat} {p q p' q' : Prop}
instance : Moves w w2 (Tab w) (Tab w2) := ⟨fun _ b e h => h.next b e⟩
instance : Moves w w2 (Nt w A n c m) (Nt w2 A n c m) := ⟨fun _ b e h => h.next b e⟩
instance {k : IntKind} {B : Nat} : Moves w w2 (Rd w k B A n c l) (Rd w2 k B A n c l) := ⟨fun _ b e h => h.next b e⟩
instance : Moves w w2 (Dg w A n c m) (Dg w2 A n c m) := ⟨fun _ b e h => Rd.next h b e⟩
instance : Moves w w2 (Box w g s A n c e) (Box w2 g s A n c e) := ⟨fun _ b e h => h.next b e⟩
instance : Moves w w2 (Cel w g z) (Cel w2 g z) := ⟨fun _ b e h => h.next b e⟩
instance {x : Addr} {v : Value} : Moves w w2 (w.cell? x = some v) (w2.cell? x = some v) := ⟨fun X b e h => by
  have h1 : X.cell? x = some v := by rw [← h]; unfold World.cell?; rw [e]
  exact (b.cell (World.block_lt_of_cell? X _ h1)).trans h1⟩
instance [M : Moves w w2 p q] [M' : Moves w w2 p' q'] : Moves w w2 (p ∧ p') (q ∧ q') := ⟨fun X b e h => ⟨M.go X b e h.1, M'.go X b e h.2⟩⟩
theorem mv {X : World} (b : Below X.heap.size X w2) (e : X.heap = w.heap) (h : p) [M : Moves w w2 p q] : q := M.go X b e h
end

theorem cmpV_cases (V U : Int) : (cmpV V U = -1 ∧ V < U) ∨ (cmpV V U = 0 ∧ V = U) ∨ (cmpV V U = 1 ∧ U < V) := by
  rcases Int.lt_trichotomy V U with h | h | h
  · exact .inl ⟨cmpV_lt h, h⟩
  · exact .inr (.inl ⟨cmpV_eq h, h⟩)
  · exact .inr (.inr ⟨cmpV_gt h, h⟩)
theorem J3 {P0 P1 P2 : Prop} (h0 : P0) (h1 : P1) (h2 : P2) : P0 ∧ P1 ∧ P2 := ⟨h0, h1, h2⟩
theorem J4 {P0 P1 P2 P3 : Prop} (h0 : P0) (h1 : P1) (h2 : P2) (h3 : P3) : P0 ∧ P1 ∧ P2 ∧ P3 := ⟨h0, h1, h2, h3⟩
theorem J5 {P0 P1 P2 P3 P4 : Prop} (h0 : P0) (h1 : P1) (h2 : P2) (h3 : P3) (h4 : P4) : P0 ∧ P1 ∧ P2 ∧ P3 ∧ P4 := ⟨h0, h1, h2, h3, h4⟩
theorem J6 {P0 P1 P2 P3 P4 P5 : Prop} (h0 : P0) (h1 : P1) (h2 : P2) (h3 : P3) (h4 : P4) (h5 : P5) : P0 ∧ P1 ∧ P2 ∧ P3 ∧ P4 ∧ P5 := ⟨h0, h1, h2, h3, h4, h5⟩
theorem J7 {P0 P1 P2 P3 P4 P5 P6 : Prop} (h0 : P0) (h1 : P1) (h2 : P2) (h3 : P3) (h4 : P4) (h5 : P5) (h6 : P6) : P0 ∧ P1 ∧ P2 ∧ P3 ∧ P4 ∧ P5 ∧ P6 := ⟨h0, h1, h2, h3, h4, h5, h6⟩
theorem J8 {P0 P1 P2 P3 P4 P5 P6 P7 : Prop} (h0 : P0) (h1 : P1) (h2 : P2) (h3 : P3) (h4 : P4) (h5 : P5) (h6 : P6) (h7 : P7) : P0 ∧ P1 ∧ P2 ∧ P3 ∧ P4 ∧ P5 ∧ P6 ∧ P7 := ⟨h0, h1, h2, h3, h4, h5, h6, h7⟩
theorem J9 {P0 P1 P2 P3 P4 P5 P6 P7 P8 : Prop} (h0 : P0) (h1 : P1) (h2 : P2) (h3 : P3) (h4 : P4) (h5 : P5) (h6 : P6) (h7 : P7) (h8 : P8) : P0 ∧ P1 ∧ P2 ∧ P3 ∧ P4 ∧ P5 ∧ P6 ∧ P7 ∧ P8 := ⟨h0, h1, h2, h3, h4, h5, h6, h7, h8⟩
theorem J10 {P0 P1 P2 P3 P4 P5 P6 P7 P8 P9 : Prop} (h0 : P0) (h1 : P1) (h2 : P2) (h3 : P3) (h4 : P4) (h5 : P5) (h6 : P6) (h7 : P7) (h8 : P8) (h9 : P9) : P0 ∧ P1 ∧ P2 ∧ P3 ∧ P4 ∧ P5 ∧ P6 ∧ P7 ∧ P8 ∧ P9 := ⟨h0, h1, h2, h3, h4, h5, h6, h7, h8, h9⟩
theorem J11 {P0 P1 P2 P3 P4 P5 P6 P7 P8 P9 P10 : Prop} (h0 : P0) (h1 : P1) (h2 : P2) (h3 : P3) (h4 : P4) (h5 : P5) (h6 : P6) (h7 : P7) (h8 : P8) (h9 : P9) (h10 : P10) : P0 ∧ P1 ∧ P2 ∧ P3 ∧ P4 ∧ P5 ∧ P6 ∧ P7 ∧ P8 ∧ P9 ∧ P10 := ⟨h0, h1, h2, h3, h4, h5, h6, h7, h8, h9, h10⟩
theorem J12 {P0 P1 P2 P3 P4 P5 P6 P7 P8 P9 P10 P11 : Prop} (h0 : P0) (h1 : P1) (h2 : P2) (h3 : P3) (h4 : P4) (h5 : P5) (h6 : P6) (h7 : P7) (h8 : P8) (h9 : P9) (h10 : P10) (h11 : P11) : P0 ∧ P1 ∧ P2 ∧ P3 ∧ P4 ∧ P5 ∧ P6 ∧ P7 ∧ P8 ∧ P9 ∧ P10 ∧ P11 := ⟨h0, h1, h2, h3, h4, h5, h6, h7, h8, h9, h10, h11⟩
theorem J13 {P0 P1 P2 P3 P4 P5 P6 P7 P8 P9 P10 P11 P12 : Prop} (h0 : P0) (h1 : P1) (h2 : P2) (h3 : P3) (h4 : P4) (h5 : P5) (h6 : P6) (h7 : P7) (h8 : P8) (h9 : P9) (h10 : P10) (h11 : P11) (h12 : P12) : P0 ∧ P1 ∧ P2 ∧ P3 ∧ P4 ∧ P5 ∧ P6 ∧ P7 ∧ P8 ∧ P9 ∧ P10 ∧ P11 ∧ P12 := ⟨h0, h1, h2, h3, h4, h5, h6, h7, h8, h9, h10, h11, h12⟩
theorem J15 {P0 P1 P2 P3 P4 P5 P6 P7 P8 P9 P10 P11 P12 P13 P14 : Prop} (h0 : P0) (h1 : P1) (h2 : P2) (h3 : P3) (h4 : P4) (h5 : P5) (h6 : P6) (h7 : P7) (h8 : P8) (h9 : P9) (h10 : P10) (h11 : P11) (h12 : P12) (h13 : P13) (h14 : P14) : P0 ∧ P1 ∧ P2 ∧ P3 ∧ P4 ∧ P5 ∧ P6 ∧ P7 ∧ P8 ∧ P9 ∧ P10 ∧ P11 ∧ P12 ∧ P13 ∧ P14 := ⟨h0, h1, h2, h3, h4, h5, h6, h7, h8, h9, h10, h11, h12, h13, h14⟩
theorem J16 {P0 P1 P2 P3 P4 P5 P6 P7 P8 P9 P10 P11 P12 P13 P14 P15 : Prop} (h0 : P0) (h1 : P1) (h2 : P2) (h3 : P3) (h4 : P4) (h5 : P5) (h6 : P6) (h7 : P7) (h8 : P8) (h9 : P9) (h10 : P10) (h11 : P11) (h12 : P12) (h13 : P13) (h14 : P14) (h15 : P15) : P0 ∧ P1 ∧ P2 ∧ P3 ∧ P4 ∧ P5 ∧ P6 ∧ P7 ∧ P8 ∧ P9 ∧ P10 ∧ P11 ∧ P12 ∧ P13 ∧ P14 ∧ P15 := ⟨h0, h1, h2, h3, h4, h5, h6, h7, h8, h9, h10, h11, h12, h13, h14, h15⟩
theorem J17 {P0 P1 P2 P3 P4 P5 P6 P7 P8 P9 P10 P11 P12 P13 P14 P15 P16 : Prop} (h0 : P0) (h1 : P1) (h2 : P2) (h3 : P3) (h4 : P4) (h5 : P5) (h6 : P6) (h7 : P7) (h8 : P8) (h9 : P9) (h10 : P10) (h11 : P11) (h12 : P12) (h13 : P13) (h14 : P14) (h15 : P15) (h16 : P16) : P0 ∧ P1 ∧ P2 ∧ P3 ∧ P4 ∧ P5 ∧ P6 ∧ P7 ∧ P8 ∧ P9 ∧ P10 ∧ P11 ∧ P12 ∧ P13 ∧ P14 ∧ P15 ∧ P16 := ⟨h0, h1, h2, h3, h4, h5, h6, h7, h8, h9, h10, h11, h12, h13, h14, h15, h16⟩
theorem J18 {P0 P1 P2 P3 P4 P5 P6 P7 P8 P9 P10 P11 P12 P13 P14 P15 P16 P17 : Prop} (h0 : P0) (h1 : P1) (h2 : P2) (h3 : P3) (h4 : P4) (h5 : P5) (h6 : P6) (h7 : P7) (h8 : P8) (h9 : P9) (h10 : P10) (h11 : P11) (h12 : P12) (h13 : P13) (h14 : P14) (h15 : P15) (h16 : P16) (h17 : P17) : P0 ∧ P1 ∧ P2 ∧ P3 ∧ P4 ∧ P5 ∧ P6 ∧ P7 ∧ P8 ∧ P9 ∧ P10 ∧ P11 ∧ P12 ∧ P13 ∧ P14 ∧ P15 ∧ P16 ∧ P17 := ⟨h0, h1, h2, h3, h4, h5, h6, h7, h8, h9, h10, h11, h12, h13, h14, h15, h16, h17⟩
theorem J19 {P0 P1 P2 P3 P4 P5 P6 P7 P8 P9 P10 P11 P12 P13 P14 P15 P16 P17 P18 : Prop} (h0 : P0) (h1 : P1) (h2 : P2) (h3 : P3) (h4 : P4) (h5 : P5) (h6 : P6) (h7 : P7) (h8 : P8) (h9 : P9) (h10 : P10) (h11 : P11) (h12 : P12) (h13 : P13) (h14 : P14) (h15 : P15) (h16 : P16) (h17 : P17) (h18 : P18) : P0 ∧ P1 ∧ P2 ∧ P3 ∧ P4 ∧ P5 ∧ P6 ∧ P7 ∧ P8 ∧ P9 ∧ P10 ∧ P11 ∧ P12 ∧ P13 ∧ P14 ∧ P15 ∧ P16 ∧ P17 ∧ P18 := ⟨h0, h1, h2, h3, h4, h5, h6, h7, h8, h9, h10, h11, h12, h13, h14, h15, h16, h17, h18⟩
theorem J20 {P0 P1 P2 P3 P4 P5 P6 P7 P8 P9 P10 P11 P12 P13 P14 P15 P16 P17 P18 P19 : Prop} (h0 : P0) (h1 : P1) (h2 : P2) (h3 : P3) (h4 : P4) (h5 : P5) (h6 : P6) (h7 : P7) (h8 : P8) (h9 : P9) (h10 : P10) (h11 : P11) (h12 : P12) (h13 : P13) (h14 : P14) (h15 : P15) (h16 : P16) (h17 : P17) (h18 : P18) (h19 : P19) : P0 ∧ P1 ∧ P2 ∧ P3 ∧ P4 ∧ P5 ∧ P6 ∧ P7 ∧ P8 ∧ P9 ∧ P10 ∧ P11 ∧ P12 ∧ P13 ∧ P14 ∧ P15 ∧ P16 ∧ P17 ∧ P18 ∧ P19 := ⟨h0, h1, h2, h3, h4, h5, h6, h7, h8, h9, h10, h11, h12, h13, h14, h15, h16, h17, h18, h19⟩
theorem J26 {P0 P1 P2 P3 P4 P5 P6 P7 P8 P9 P10 P11 P12 P13 P14 P15 P16 P17 P18 P19 P20 P21 P22 P23 P24 P25 : Prop} (h0 : P0) (h1 : P1) (h2 : P2) (h3 : P3) (h4 : P4) (h5 : P5) (h6 : P6) (h7 : P7) (h8 : P8) (h9 : P9) (h10 : P10) (h11 : P11) (h12 : P12) (h13 : P13) (h14 : P14) (h15 : P15) (h16 : P16) (h17 : P17) (h18 : P18) (h19 : P19) (h20 : P20) (h21 : P21) (h22 : P22) (h23 : P23) (h24 : P24) (h25 : P25) : P0 ∧ P1 ∧ P2 ∧ P3 ∧ P4 ∧ P5 ∧ P6 ∧ P7 ∧ P8 ∧ P9 ∧ P10 ∧ P11 ∧ P12 ∧ P13 ∧ P14 ∧ P15 ∧ P16 ∧ P17 ∧ P18 ∧ P19 ∧ P20 ∧ P21 ∧ P22 ∧ P23 ∧ P24 ∧ P25 := ⟨h0, h1, h2, h3, h4, h5, h6, h7, h8, h9, h10, h11, h12, h13, h14, h15, h16, h17, h18, h19, h20, h21, h22, h23, h24, h25⟩
theorem J27 {P0 P1 P2 P3 P4 P5 P6 P7 P8 P9 P10 P11 P12 P13 P14 P15 P16 P17 P18 P19 P20 P21 P22 P23 P24 P25 P26 : Prop} (h0 : P0) (h1 : P1) (h2 : P2) (h3 : P3) (h4 : P4) (h5 : P5) (h6 : P6) (h7 : P7) (h8 : P8) (h9 : P9) (h10 : P10) (h11 : P11) (h12 : P12) (h13 : P13) (h14 : P14) (h15 : P15) (h16 : P16) (h17 : P17) (h18 : P18) (h19 : P19) (h20 : P20) (h21 : P21) (h22 : P22) (h23 : P23) (h24 : P24) (h25 : P25) (h26 : P26) : P0 ∧ P1 ∧ P2 ∧ P3 ∧ P4 ∧ P5 ∧ P6 ∧ P7 ∧ P8 ∧ P9 ∧ P10 ∧ P11 ∧ P12 ∧ P13 ∧ P14 ∧ P15 ∧ P16 ∧ P17 ∧ P18 ∧ P19 ∧ P20 ∧ P21 ∧ P22 ∧ P23 ∧ P24 ∧ P25 ∧ P26 := ⟨h0, h1, h2, h3, h4, h5, h6, h7, h8, h9, h10, h11, h12, h13, h14, h15, h16, h17, h18, h19, h20, h21, h22, h23, h24, h25, h26⟩
theorem J28 {P0 P1 P2 P3 P4 P5 P6 P7 P8 P9 P10 P11 P12 P13 P14 P15 P16 P17 P18 P19 P20 P21 P22 P23 P24 P25 P26 P27 : Prop} (h0 : P0) (h1 : P1) (h2 : P2) (h3 : P3) (h4 : P4) (h5 : P5) (h6 : P6) (h7 : P7) (h8 : P8) (h9 : P9) (h10 : P10) (h11 : P11) (h12 : P12) (h13 : P13) (h14 : P14) (h15 : P15) (h16 : P16) (h17 : P17) (h18 : P18) (h19 : P19) (h20 : P20) (h21 : P21) (h22 : P22) (h23 : P23) (h24 : P24) (h25 : P25) (h26 : P26) (h27 : P27) : P0 ∧ P1 ∧ P2 ∧ P3 ∧ P4 ∧ P5 ∧ P6 ∧ P7 ∧ P8 ∧ P9 ∧ P10 ∧ P11 ∧ P12 ∧ P13 ∧ P14 ∧ P15 ∧ P16 ∧ P17 ∧ P18 ∧ P19 ∧ P20 ∧ P21 ∧ P22 ∧ P23 ∧ P24 ∧ P25 ∧ P26 ∧ P27 := ⟨h0, h1, h2, h3, h4, h5, h6, h7, h8, h9, h10, h11, h12, h13, h14, h15, h16, h17, h18, h19, h20, h21, h22, h23, h24, h25, h26, h27⟩
theorem J29 {P0 P1 P2 P3 P4 P5 P6 P7 P8 P9 P10 P11 P12 P13 P14 P15 P16 P17 P18 P19 P20 P21 P22 P23 P24 P25 P26 P27 P28 : Prop} (h0 : P0) (h1 : P1) (h2 : P2) (h3 : P3) (h4 : P4) (h5 : P5) (h6 : P6) (h7 : P7) (h8 : P8) (h9 : P9) (h10 : P10) (h11 : P11) (h12 : P12) (h13 : P13) (h14 : P14) (h15 : P15) (h16 : P16) (h17 : P17) (h18 : P18) (h19 : P19) (h20 : P20) (h21 : P21) (h22 : P22) (h23 : P23) (h24 : P24) (h25 : P25) (h26 : P26) (h27 : P27) (h28 : P28) : P0 ∧ P1 ∧ P2 ∧ P3 ∧ P4 ∧ P5 ∧ P6 ∧ P7 ∧ P8 ∧ P9 ∧ P10 ∧ P11 ∧ P12 ∧ P13 ∧ P14 ∧ P15 ∧ P16 ∧ P17 ∧ P18 ∧ P19 ∧ P20 ∧ P21 ∧ P22 ∧ P23 ∧ P24 ∧ P25 ∧ P26 ∧ P27 ∧ P28 := ⟨h0, h1, h2, h3, h4, h5, h6, h7, h8, h9, h10, h11, h12, h13, h14, h15, h16, h17, h18, h19, h20, h21, h22, h23, h24, h25, h26, h27, h28⟩
theorem J32 {P0 P1 P2 P3 P4 P5 P6 P7 P8 P9 P10 P11 P12 P13 P14 P15 P16 P17 P18 P19 P20 P21 P22 P23 P24 P25 P26 P27 P28 P29 P30 P31 : Prop} (h0 : P0) (h1 : P1) (h2 : P2) (h3 : P3) (h4 : P4) (h5 : P5) (h6 : P6) (h7 : P7) (h8 : P8) (h9 : P9) (h10 : P10) (h11 : P11) (h12 : P12) (h13 : P13) (h14 : P14) (h15 : P15) (h16 : P16) (h17 : P17) (h18 : P18) (h19 : P19) (h20 : P20) (h21 : P21) (h22 : P22) (h23 : P23) (h24 : P24) (h25 : P25) (h26 : P26) (h27 : P27) (h28 : P28) (h29 : P29) (h30 : P30) (h31 : P31) : P0 ∧ P1 ∧ P2 ∧ P3 ∧ P4 ∧ P5 ∧ P6 ∧ P7 ∧ P8 ∧ P9 ∧ P10 ∧ P11 ∧ P12 ∧ P13 ∧ P14 ∧ P15 ∧ P16 ∧ P17 ∧ P18 ∧ P19 ∧ P20 ∧ P21 ∧ P22 ∧ P23 ∧ P24 ∧ P25 ∧ P26 ∧ P27 ∧ P28 ∧ P29 ∧ P30 ∧ P31 := ⟨h0, h1, h2, h3, h4, h5, h6, h7, h8, h9, h10, h11, h12, h13, h14, h15, h16, h17, h18, h19, h20, h21, h22, h23, h24, h25, h26, h27, h28, h29, h30, h31⟩
end Go.Proofs.YtkpcmgfpmekkjaaDoor
