/-
  Contracts of the reference's Shift and Small, and of layer 2's same, at this translation. Condition: the slices read as limbs, or as digits of sixteen bits.
-/
import Derived.Test.YtkfcnodnefpboaaDoorRu
namespace Go.Proofs.YtkfcnodnefpboaaDoor
open Go.RowKit

set_option maxRecDepth 100000 in
set_option maxHeartbeats 8000000 in
theorem rshift_no {w : World} {A1 : Option Addr} {n1 c1 : Nat} {l1 : List Nat} {s1 : Bool} {e1 p : Int} (h1 : Rd w .u64 Go.Proofs.YtkfcnodnefpboaaDoor.W A1 n1 c1 l1) (hd : mayD s1 l1 e1 = false) :
    Calls Tryd.prog 43 #[.agg #[.bool s1, .slice A1 n1 c1, .int .i64 e1], .int .i64 p] w (Tells Wrong w) := by
  have BB := two_below w (.cells #[.bool s1, .slice A1 n1 c1, .int .i64 e1] 24) (.cells #[.bool false, .slice none 0 0, .int .i64 0] 24)
  have xa := (Box.new w s1 A1 n1 c1 e1).alloc (.cells #[.bool false, .slice none 0 0, .int .i64 0] 24)
  obtain ⟨a10, a11, a12⟩ := xa.held
  have r := box_one' w (.cells #[.bool s1, .slice A1 n1 c1, .int .i64 e1] 24) false none 0 0 0
  have ne1 : ¬ w.heap.size + 1 = w.heap.size := by omega
  have ne2 : ¬ w.heap.size = w.heap.size + 1 := by omega
  replace h1 := mv BB rfl h1
  go_enter Tryd.func43, Tryd.ntmps43
  go_wp2_with fail
  refine (rmayd_any (s := s1) (e := e1) h1).mono ?_
  rintro en w1 ⟨rfl, b⟩
  rw [hd]
  clear h1
  replace BB := below_next BB BB.size b rfl rfl rfl rfl
  have G := mv b rfl <| And.intro a10 <| And.intro a11 <| And.intro a12 <| And.intro r <| xa
  clear b a10 a11 a12 r xa
  obtain ⟨a10, a11, a12, r, xa⟩ := G
  obtain ⟨f0, f1, f2⟩ := r.open
  obtain ⟨z0, z1, z2⟩ := r.held
  go_wp2
  have q := r.put false none 0 0 0
  have HB3 := below_put3 (g := w.heap.size + 1) BB (by omega) (.bool false) (.slice none 0 0) (.int .i64 0)
  obtain ⟨z0, z1, z2⟩ := q.held
  exact bodyPost_ret (v := .tuple #[.agg #[.bool false, .slice none 0 0, .int .i64 0], .int .i64 1]) (by simp [results, Tryd.results43, go_sem, z0, z1, z2]) rfl ⟨_, _, _, _, _, 0, _, rfl, ⟨rfl, rfl, rfl, rfl⟩, nt_nil _, HB3⟩

set_option maxRecDepth 100000 in
set_option maxHeartbeats 8000000 in
theorem rshift_ok {w : World} {A1 : Option Addr} {n1 c1 x : Nat} {s1 : Bool} {e1 p : Int} (h1 : Nt w A1 n1 c1 x) (hd : OkD s1 x e1) :
    Calls Tryd.prog 43 #[.agg #[.bool s1, .slice A1 n1 c1, .int .i64 e1], .int .i64 p] w (Tells (Shifted s1 x e1 p) w) := by
  have re := okd_ge (K := 4194304) (Nat.le_refl _) hd
  have r1 := re.1
  have r2 := re.2.1
  have O1 := Lib.hid hd
  have hz : n1 = 0 ↔ x = 0 := h1.zero
  clear re hd
  have BB := two_below w (.cells #[.bool s1, .slice A1 n1 c1, .int .i64 e1] 24) (.cells #[.bool false, .slice none 0 0, .int .i64 0] 24)
  have xa := (Box.new w s1 A1 n1 c1 e1).alloc (.cells #[.bool false, .slice none 0 0, .int .i64 0] 24)
  obtain ⟨a10, a11, a12⟩ := xa.held
  have r := box_one' w (.cells #[.bool s1, .slice A1 n1 c1, .int .i64 e1] 24) false none 0 0 0
  have ne1 : ¬ w.heap.size + 1 = w.heap.size := by omega
  have ne2 : ¬ w.heap.size = w.heap.size + 1 := by omega
  replace h1 := mv BB rfl h1
  go_enter Tryd.func43, Tryd.ntmps43
  go_wp2_with fail
  refine (rmayd_any (s := s1) (e := e1) h1.rd).mono ?_
  rintro en w1 ⟨rfl, b⟩
  rw [mayD_ok O1.out]
  replace BB := below_next BB BB.size b rfl rfl rfl rfl
  have G := mv b rfl <| And.intro a10 <| And.intro a11 <| And.intro a12 <| And.intro h1 <| And.intro r <| xa
  clear b a10 a11 a12 h1 r xa
  obtain ⟨a10, a11, a12, h1, r, xa⟩ := G
  by_cases h0 : n1 = 0
  · have hx := Lib.hid (hz.1 h0)
    have f00 : ((n1 : Int) == 0) = true := by simp [h0]
    obtain ⟨f0, f1, f2⟩ := r.open
    obtain ⟨z0, z1, z2⟩ := r.held
    clear hz h0
    go_wp2
    have q := r.put s1 A1 n1 c1 e1
    have hN := h1.put3 r (.bool s1) (.slice A1 n1 c1) (.int .i64 e1)
    have HB3 := below_put3 (g := w.heap.size + 1) BB (by omega) (.bool s1) (.slice A1 n1 c1) (.int .i64 e1)
    obtain ⟨z0, z1, z2⟩ := q.held
    exact bodyPost_ret (v := .tuple #[.agg #[.bool s1, .slice A1 n1 c1, .int .i64 e1], .int .i64 0]) (by simp [results, Tryd.results43, go_sem, z0, z1, z2]) rfl ⟨_, _, _, _, _, _, _, rfl, .inl ⟨hx.out, rfl, rfl, rfl, rfl⟩, hN, HB3⟩
  have hx := Lib.hid (show x ≠ 0 from fun he => h0 (hz.2 he))
  have f00 : ((n1 : Int) == 0) = false := by simp [h0]
  clear hz h0
  rcases Int.lt_or_le 4194304 p with g | g
  · have d1 : decide (4194304 < p) = true := decide_eq_true g
    have HE := Lib.hid g
    clear g
    obtain ⟨f0, f1, f2⟩ := r.open
    obtain ⟨z0, z1, z2⟩ := r.held
    go_wp2
    have q := r.put false none 0 0 0
    have HB3 := below_put3 (g := w.heap.size + 1) BB (by omega) (.bool false) (.slice none 0 0) (.int .i64 0)
    obtain ⟨z0, z1, z2⟩ := q.held
    exact bodyPost_ret (v := .tuple #[.agg #[.bool false, .slice none 0 0, .int .i64 0], .int .i64 3]) (by simp [results, Tryd.results43, go_sem, z0, z1, z2]) rfl ⟨_, _, _, _, _, 0, _, rfl, .inr (.inr ⟨hx.out, by have := HE.out; omega, rfl, rfl, rfl, rfl⟩), nt_nil _, HB3⟩
  have d1 : decide (4194304 < p) = false := decide_eq_false (by omega)
  rcases Int.lt_or_le p (-4194304) with g2 | g2
  · have d2 : decide (p < -4194304) = true := decide_eq_true g2
    have HE := Lib.hid g2
    obtain ⟨f0, f1, f2⟩ := r.open
    obtain ⟨z0, z1, z2⟩ := r.held
    go_wp2
    have q := r.put false none 0 0 0
    have HB3 := below_put3 (g := w.heap.size + 1) BB (by omega) (.bool false) (.slice none 0 0) (.int .i64 0)
    obtain ⟨z0, z1, z2⟩ := q.held
    exact bodyPost_ret (v := .tuple #[.agg #[.bool false, .slice none 0 0, .int .i64 0], .int .i64 3]) (by simp [results, Tryd.results43, go_sem, z0, z1, z2]) rfl ⟨_, _, _, _, _, 0, _, rfl, .inr (.inr ⟨hx.out, by have := HE.out; omega, rfl, rfl, rfl, rfl⟩), nt_nil _, HB3⟩
  have d2 : decide (p < -4194304) = false := decide_eq_false (by omega)
  have hw : IntKind.i64.wrap (e1 + p) = e1 + p := IntWalk.i64_in _ (by omega)
  rcases Int.lt_or_le 1048576 (e1 + p) with g3 | g3
  · have d3 : decide (1048576 < e1 + p) = true := decide_eq_true g3
    have HE := Lib.hid g3
    obtain ⟨f0, f1, f2⟩ := r.open
    obtain ⟨z0, z1, z2⟩ := r.held
    go_wp2
    have q := r.put false none 0 0 0
    have HB3 := below_put3 (g := w.heap.size + 1) BB (by omega) (.bool false) (.slice none 0 0) (.int .i64 0)
    obtain ⟨z0, z1, z2⟩ := q.held
    exact bodyPost_ret (v := .tuple #[.agg #[.bool false, .slice none 0 0, .int .i64 0], .int .i64 3]) (by simp [results, Tryd.results43, go_sem, z0, z1, z2]) rfl ⟨_, _, _, _, _, 0, _, rfl, .inr (.inr ⟨hx.out, by have := HE.out; omega, rfl, rfl, rfl, rfl⟩), nt_nil _, HB3⟩
  have d3 : decide (1048576 < e1 + p) = false := decide_eq_false (by omega)
  rcases Int.lt_or_le (e1 + p) (-1048576) with g4 | g4
  · have d4 : decide (e1 + p < -1048576) = true := decide_eq_true g4
    have HE := Lib.hid g4
    obtain ⟨f0, f1, f2⟩ := r.open
    obtain ⟨z0, z1, z2⟩ := r.held
    go_wp2
    have q := r.put false none 0 0 0
    have HB3 := below_put3 (g := w.heap.size + 1) BB (by omega) (.bool false) (.slice none 0 0) (.int .i64 0)
    obtain ⟨z0, z1, z2⟩ := q.held
    exact bodyPost_ret (v := .tuple #[.agg #[.bool false, .slice none 0 0, .int .i64 0], .int .i64 3]) (by simp [results, Tryd.results43, go_sem, z0, z1, z2]) rfl ⟨_, _, _, _, _, 0, _, rfl, .inr (.inr ⟨hx.out, by have := HE.out; omega, rfl, rfl, rfl, rfl⟩), nt_nil _, HB3⟩
  have d4 : decide (e1 + p < -1048576) = false := decide_eq_false (by omega)
  have HE := Lib.hid (And.intro g3 g4)
  obtain ⟨f0, f1, f2⟩ := r.open
  obtain ⟨z0, z1, z2⟩ := r.held
  obtain ⟨y0, y1, y2⟩ := xa.open
  go_wp2
  have hoff := h1.rd.off xa.no
  have r' := r.other (g' := w.heap.size) (by omega) 2 (.int .i64 (e1 + p))
  have h1' : Nt (w1.setCell ⟨w.heap.size, 2, none⟩ (.int .i64 (e1 + p))) A1 n1 c1 x := ⟨h1.rd.set1 hoff 2 _, h1.lt⟩
  have BB' := BB.setCell (p := ⟨w.heap.size, 2, none⟩) (Nat.le_refl _) (.int .i64 (e1 + p))
  have q := r'.put s1 A1 n1 c1 (e1 + p)
  have hN := h1'.put3 r' (.bool s1) (.slice A1 n1 c1) (.int .i64 (e1 + p))
  have HB3 := below_put3 (g := w.heap.size + 1) BB' (by omega) (.bool s1) (.slice A1 n1 c1) (.int .i64 (e1 + p))
  obtain ⟨z0, z1, z2⟩ := q.held
  exact bodyPost_ret (v := .tuple #[.agg #[.bool s1, .slice A1 n1 c1, .int .i64 (e1 + p)], .int .i64 0]) (by simp [results, Tryd.results43, go_sem, z0, z1, z2]) rfl ⟨_, _, _, _, _, _, _, rfl, .inr (.inl ⟨hx.out, by have := HE.out; omega, rfl, rfl, rfl, Int.add_comm _ _⟩), hN, HB3⟩

theorem row_single {w : World} {u : Nat} (hu : u < 18446744073709551616) : Rd (w.alloc (.cells #[.int .u64 (u : Int)] 42)) .u64 Go.Proofs.YtkfcnodnefpboaaDoor.W (some ⟨w.heap.size, 0, none⟩) 1 1 [u] :=
  (row_lit w [u]).rd' (Lt.cons (by rw [W_eq]; exact hu) Lt.nil) rfl (Nat.le_refl _) (by omega)
set_option maxRecDepth 100000 in
set_option maxHeartbeats 8000000 in
theorem rsmall_any {w : World} {u : Nat} (hu : u < 18446744073709551616) :
    Calls Tryd.prog 41 #[.int .u64 (u : Int)] w fun en w' => ∃ A n c, en = .returned (.slice A n c) ∧ Dg w' A n c u ∧ Below w.heap.size w w' := by
  have BB := below_alloc w (.cells #[.int .u64 (u : Int)] 42)
  have h := row_single (w := w) hu
  go_enter Tryd.func41, Tryd.ntmps41
  go_wp2_with fail
  refine (rfrom_any h (by omega)).mono ?_
  rintro en w1 ⟨A1, n1, c1, rfl, h1, b⟩
  have e1 : val Go.Proofs.YtkfcnodnefpboaaDoor.W [u] = u := by simp [val]
  rw [e1] at h1
  replace BB := below_next BB BB.size b rfl rfl rfl rfl
  clear b
  go_wp2
  go_ret
  exact ⟨_, _, _, rfl, h1, BB⟩

set_option maxRecDepth 100000 in
set_option maxHeartbeats 8000000 in
theorem same2_self {w : World} {A1 A2 : Option Addr} {n1 c1 n2 c2 x : Nat} {s : Bool} {e k : Int} (h1 : Nt w A1 n1 c1 x) (h2 : Nt w A2 n2 c2 x) :
    Calls Tryd.prog 27 #[.agg #[.bool s, .slice A1 n1 c1, .int .i64 e], .int .i64 k, .agg #[.bool s, .slice A2 n2 c2, .int .i64 e], .int .i64 k] w fun en w' => en = .returned (.bool true) ∧ Below w.heap.size w w' := by
  have BB := two_below w (.cells #[.bool s, .slice A1 n1 c1, .int .i64 e] 24) (.cells #[.bool s, .slice A2 n2 c2, .int .i64 e] 24)
  obtain ⟨a10, a11, a12, a20, a21, a22⟩ := (two_new w s s A1 A2 n1 c1 n2 c2 e e).held
  have fk : (k == k) = true := by simp
  have G := mv BB rfl <| And.intro h1 <| h2
  clear h1 h2
  obtain ⟨h1, h2⟩ := G
  go_enter Tryd.func27, Tryd.ntmps27
  go_wp2_with fail
  refine (rsame_self (s := s) (e := e) h1 h2).mono ?_
  rintro en w1 ⟨rfl, b⟩
  replace BB := below_next BB BB.size b rfl rfl rfl rfl
  clear b
  go_wp2
  go_ret
  exact ⟨rfl, BB⟩
end Go.Proofs.YtkfcnodnefpboaaDoor
