/-
  Contracts of the reference's Sign and NegDyad, at this translation. Condition: the slices read as limbs.
-/
import Derived.Test.YtdjklanmkjbifaaDoorRs
namespace Go.Proofs.YtdjklanmkjbifaaDoor
open Go.RowKit

set_option maxRecDepth 100000 in
set_option maxHeartbeats 8000000 in
theorem rsign_no {w : World} {A1 : Option Addr} {n1 c1 : Nat} {l1 : List Nat} {s1 : Bool} {e1 : Int} (h1 : Rd w .u64 Go.Proofs.YtdjklanmkjbifaaDoor.W A1 n1 c1 l1) (hd : mayD s1 l1 e1 = false) :
    Calls Tryd.prog 20 #[.agg #[.bool s1, .slice A1 n1 c1, .int .i64 e1]] w (Ints 0 w) := by
  have BB := below_alloc w (.cells #[.bool s1, .slice A1 n1 c1, .int .i64 e1] 24)
  obtain ⟨a10, a11, a12⟩ := (Box.new w s1 A1 n1 c1 e1).held
  replace h1 := mv BB rfl h1
  have HD := Lib.hid hd
  clear hd
  go_enter Tryd.func20, Tryd.ntmps20
  go_wp2_with fail
  refine (rmayd_any (s := s1) (e := e1) h1).mono ?_
  rintro en w1 ⟨rfl, b⟩
  rw [HD.out]
  replace BB := below_next BB BB.size b rfl rfl rfl rfl
  have G := mv b rfl <| And.intro a10 <| And.intro a11 <| And.intro a12 <| h1
  clear b a10 a11 a12 h1
  obtain ⟨a10, a11, a12, h1⟩ := G
  go_wp2
  go_ret
  exact ⟨rfl, BB⟩

set_option maxRecDepth 100000 in
set_option maxHeartbeats 8000000 in
theorem rsign_ok {w : World} {A1 : Option Addr} {n1 c1 x1 : Nat} {s1 : Bool} {e1 : Int} (h1 : Nt w A1 n1 c1 x1) (d1 : OkD s1 x1 e1) :
    Calls Tryd.prog 20 #[.agg #[.bool s1, .slice A1 n1 c1, .int .i64 e1]] w (Ints (signD s1 x1) w) := by
  have hz : n1 = 0 ↔ x1 = 0 := h1.zero
  have BB := below_alloc w (.cells #[.bool s1, .slice A1 n1 c1, .int .i64 e1] 24)
  obtain ⟨a10, a11, a12⟩ := (Box.new w s1 A1 n1 c1 e1).held
  replace h1 := mv BB rfl h1
  have HD := Lib.hid (mayD_ok d1)
  clear d1
  obtain ⟨z, hS⟩ : ∃ z, z = signD s1 x1 := ⟨_, rfl⟩
  rw [← hS]
  unfold signD at hS
  have HS := Lib.hid hS
  clear hS
  go_enter Tryd.func20, Tryd.ntmps20
  go_wp2_with fail
  refine (rmayd_any (s := s1) (e := e1) h1.rd).mono ?_
  rintro en w1 ⟨rfl, b⟩
  rw [HD.out]
  replace BB := below_next BB BB.size b rfl rfl rfl rfl
  have G := mv b rfl <| And.intro a10 <| And.intro a11 <| And.intro a12 <| h1
  clear b a10 a11 a12 h1
  obtain ⟨a10, a11, a12, h1⟩ := G
  by_cases h0 : n1 = 0
  · have HR : Hid (z = 0) := Lib.hid (by rw [HS.out, if_pos (hz.1 h0)])
    have f00 : ((n1 : Int) == 0) = true := by simp [h0]
    clear hz h0 HS
    go_wp2
    go_ret
    exact ⟨congrArg (fun z => Ending.returned (Value.int .i64 z)) HR.out.symm, BB⟩
  have hx : x1 ≠ 0 := fun h => h0 (hz.2 h)
  have f00 : ((n1 : Int) == 0) = false := by simp [h0]
  cases s1
  · have HR : Hid (z = 1) := Lib.hid (by rw [HS.out, if_neg hx]; rfl)
    clear hz h0 HS hx
    go_wp2
    go_ret
    exact ⟨congrArg (fun z => Ending.returned (Value.int .i64 z)) HR.out.symm, BB⟩
  · have HR : Hid (z = -1) := Lib.hid (by rw [HS.out, if_neg hx]; rfl)
    clear hz h0 HS hx
    go_wp2
    go_ret
    exact ⟨congrArg (fun z => Ending.returned (Value.int .i64 z)) HR.out.symm, BB⟩

theorem rsign_raw {w : World} {A1 : Option Addr} {n1 c1 : Nat} {l1 : List Nat} {s1 : Bool} {e1 : Int} (h1 : Rd w .u64 Go.Proofs.YtdjklanmkjbifaaDoor.W A1 n1 c1 l1) :
    Calls Tryd.prog 20 #[.agg #[.bool s1, .slice A1 n1 c1, .int .i64 e1]] w (Ints (signR s1 l1 e1) w) := by
  unfold signR
  by_cases hd : mayD s1 l1 e1 = true
  · rw [if_pos hd]
    obtain ⟨hN, hok, _⟩ := rd_okd h1 hd
    exact rsign_ok hN hok
  · rw [if_neg hd]
    exact rsign_no h1 (Bool.eq_false_iff.2 hd)
theorem signR_zero {s : Bool} {l : List Nat} {e : Int} : signR s l e = 0 ↔ ¬ (mayD s l e = true ∧ val Go.Proofs.YtdjklanmkjbifaaDoor.W l ≠ 0) := by
  unfold signR
  by_cases hd : mayD s l e = true
  · rw [if_pos hd]
    rcases signD_cases s (val Go.Proofs.YtdjklanmkjbifaaDoor.W l) with ⟨h0, h1⟩ | ⟨h0, h2, h1⟩ | ⟨h0, h2, h1⟩
    · exact ⟨fun _ h => h.2 h0, fun _ => h1⟩
    · exact ⟨fun h => by omega, fun h => absurd ⟨hd, h0⟩ h⟩
    · exact ⟨fun h => by omega, fun h => absurd ⟨hd, h0⟩ h⟩
  · rw [if_neg hd]
    exact ⟨fun _ h => hd h.1, fun _ => rfl⟩
set_option maxRecDepth 100000 in
set_option maxHeartbeats 8000000 in
theorem rneg_raw {w : World} {A1 : Option Addr} {n1 c1 : Nat} {l1 : List Nat} {s1 : Bool} {e1 : Int} (h1 : Rd w .u64 Go.Proofs.YtdjklanmkjbifaaDoor.W A1 n1 c1 l1) :
    Calls Tryd.prog 23 #[.agg #[.bool s1, .slice A1 n1 c1, .int .i64 e1]] w fun en w' => en = .returned (.agg #[.bool (negR s1 l1 e1), .slice A1 n1 c1, .int .i64 e1]) ∧ Rd w' .u64 Go.Proofs.YtdjklanmkjbifaaDoor.W A1 n1 c1 l1 ∧ Below w.heap.size w w' := by
  have BB := two_below w (.cells #[.bool s1, .slice A1 n1 c1, .int .i64 e1] 24) (.cells #[.bool false, .slice none 0 0, .int .i64 0] 24)
  have xa := (Box.new w s1 A1 n1 c1 e1).alloc (.cells #[.bool false, .slice none 0 0, .int .i64 0] 24)
  obtain ⟨a10, a11, a12⟩ := xa.held
  have r := box_one' w (.cells #[.bool s1, .slice A1 n1 c1, .int .i64 e1] 24) false none 0 0 0
  have ne1 : ¬ w.heap.size + 1 = w.heap.size := by omega
  have ne2 : ¬ w.heap.size = w.heap.size + 1 := by omega
  replace h1 := mv BB rfl h1
  obtain ⟨sg1, hsg⟩ : ∃ t, t = negR s1 l1 e1 := ⟨_, rfl⟩
  rw [← hsg]
  have HSG := Lib.hid hsg
  clear hsg
  go_enter Tryd.func23, Tryd.ntmps23
  go_wp2_with fail
  refine (rsign_raw h1).mono ?_
  rintro en w1 ⟨rfl, b⟩
  replace BB := below_next BB BB.size b rfl rfl rfl rfl
  have G := mv b rfl <| And.intro a10 <| And.intro a11 <| And.intro a12 <| And.intro h1 <| And.intro r <| xa
  clear b a10 a11 a12 h1 r xa
  obtain ⟨a10, a11, a12, h1, r, xa⟩ := G
  by_cases hz : signR s1 l1 e1 = 0
  · have HR : Hid (sg1 = s1) := Lib.hid (by rw [HSG.out]; unfold negR; rw [if_neg (signR_zero.1 hz)])
    rw [hz]
    clear HSG
    obtain ⟨f0, f1, f2⟩ := r.open
    obtain ⟨z0, z1, z2⟩ := r.held
    clear hz
    go_wp2
    have q := r.put s1 A1 n1 c1 e1
    have hoff := h1.off r.no
    have hN := ((h1.set1 hoff 0 (.bool s1)).set1 hoff 1 (.slice A1 n1 c1)).set1 hoff 2 (.int .i64 e1)
    have HB3 := below_put3 (g := w.heap.size + 1) BB (by omega) (.bool s1) (.slice A1 n1 c1) (.int .i64 e1)
    obtain ⟨z0, z1, z2⟩ := q.held
    exact bodyPost_ret (v := .agg #[.bool s1, .slice A1 n1 c1, .int .i64 e1]) (by simp [results, Tryd.results23, go_sem, z0, z1, z2]) rfl ⟨congrArg (fun t => Ending.returned (Value.agg #[.bool t, .slice A1 n1 c1, .int .i64 e1])) HR.out.symm, hN, HB3⟩
  have HR : Hid (sg1 = !s1) := Lib.hid (by rw [HSG.out]; unfold negR; rw [if_pos (Classical.byContradiction fun h => hz (signR_zero.2 h))])
  clear HSG
  have fz : (signR s1 l1 e1 != 0) = true := by simp [hz]
  generalize signR s1 l1 e1 = z at *
  obtain ⟨f0, f1, f2⟩ := r.open
  obtain ⟨z0, z1, z2⟩ := r.held
  obtain ⟨y0, y1, y2⟩ := xa.open
  clear hz
  go_wp2
  have hoff := h1.off xa.no
  have r' := r.other (g' := w.heap.size) (by omega) 0 (.bool (!s1))
  have h1' : Rd (w1.setCell ⟨w.heap.size, 0, none⟩ (.bool (!s1))) .u64 Go.Proofs.YtdjklanmkjbifaaDoor.W A1 n1 c1 l1 := h1.set1 hoff 0 _
  have BB' := BB.setCell (p := ⟨w.heap.size, 0, none⟩) (Nat.le_refl _) (.bool (!s1))
  have q := r'.put (!s1) A1 n1 c1 e1
  have hoff' := h1'.off r'.no
  have hN := ((h1'.set1 hoff' 0 (.bool (!s1))).set1 hoff' 1 (.slice A1 n1 c1)).set1 hoff' 2 (.int .i64 e1)
  have HB3 := below_put3 (g := w.heap.size + 1) BB' (by omega) (.bool (!s1)) (.slice A1 n1 c1) (.int .i64 e1)
  obtain ⟨z0, z1, z2⟩ := q.held
  exact bodyPost_ret (v := .agg #[.bool (!s1), .slice A1 n1 c1, .int .i64 e1]) (by simp [results, Tryd.results23, go_sem, z0, z1, z2]) rfl ⟨congrArg (fun t => Ending.returned (Value.agg #[.bool t, .slice A1 n1 c1, .int .i64 e1])) HR.out.symm, hN, HB3⟩

end Go.Proofs.YtdjklanmkjbifaaDoor
