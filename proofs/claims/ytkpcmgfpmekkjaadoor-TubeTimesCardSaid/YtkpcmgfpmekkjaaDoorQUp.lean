/-
  A tape and an environment that are arguments, opened and shut: their slices read as lines, as numbers, as intervals. No condition.
-/
import Derived.Lib.SmallJoins
import Derived.Test.YtkpcmgfpmekkjaaDoorQTb
import Derived.Test.YtkpcmgfpmekkjaaDoorQUb
import Derived.Test.YtkpcmgfpmekkjaaDoorQTq
namespace Go.Proofs.YtkpcmgfpmekkjaaDoor
open Go.ChangeShapes Go.WideShapes Go.ChangeAt Go.RowKit

theorem list2 {α : Type} {l : List α} (h : l.length = 2) : ∃ a b, l = [a, b] := by
  match l, h with
  | [a, b], _ => exact ⟨a, b, rfl⟩
theorem cells_ivals : Tryd.prog.cellsOf 23 = 1 := by kernel_rfl
section
variable {H : Type} {enc : TypeId × Value → H} {W0 : World}
set_option maxRecDepth 100000 in
theorem open_ivs {v : Value} {y : DataW H × List MemPlace} {fuel : Nat} (hf : DataW.trod enc Tryd.prog W0 0 (fun _ => true) true fuel 23 [v] = some y) : ∃ A n c X, v = .slice A n c ∧ RdS W0 A n c X := by
  rcases DataW.trod_slice Tryd.underlying23 hf with ⟨hcs, _⟩ | ⟨a, n, c, elems, rest, k, _, hcs, _, _, hl, hm, hlen, hel, _, _⟩
  · simp at hcs
    exact ⟨none, 0, 0, fun _ => Iv.zero, hcs, by omega, by omega, fun h => absurd rfl h⟩
  · simp at hcs
    have each : ∀ i, i < n → ∃ x : Iv, ∃ A1 n1 c1 A2 n2 c2, (∀ j, j < 6 → W0.cell? ((a.add (i * 6)).add j) = [Value.bool x.lo.s, .slice A1 n1 c1, .int .i64 x.lo.e, .bool x.hi.s, .slice A2 n2 c2, .int .i64 x.hi.e][j]?) ∧ Rd W0 .u64 W A1 n1 c1 x.lo.l ∧ Rd W0 .u64 W A2 n2 c2 x.hi.l := by
      intro i hi
      have h1 := hel i hi
      rw [List.getElem?_eq_getElem (by omega), cells_ival, Option.bind_eq_some_iff] at h1
      obtain ⟨cs, h2, h3⟩ := h1
      obtain ⟨_, _, h4⟩ := World.cells?_some h2
      obtain ⟨s, A, n', c', l, e, t, B, m, d', r, f, rfl, r0, r1⟩ := ival_cells h3
      exact ⟨⟨⟨s, l, e, r0.lt⟩, ⟨t, r, f, r1.lt⟩⟩, A, n', c', B, m, d', h4, r0, r1⟩
    have hm' : c ≤ 9223372036854775807 := by unfold maxLen at hm; exact hm
    by_cases hn : n = 0
    · exact ⟨some a, n, c, fun _ => Iv.zero, hcs, hl, hm', fun h => absurd hn h⟩
    obtain ⟨b, off, spot⟩ := a
    have hspot : spot = none := by
      obtain ⟨x, A1, n1, c1, A2, n2, c2, h1, _⟩ := each 0 (by omega)
      have h2 := h1 0 (by omega)
      simpa [Addr.add] using World.cell?_spot h2
    subst hspot
    have hX : ∀ i, ∃ x : Iv, i < n → IvAt W0 b (off + i * 6) x := fun i => by
      by_cases hi : i < n
      · obtain ⟨x, A1, n1, c1, A2, n2, c2, h1, h2, h3⟩ := each i hi
        have key : ∀ j, j < 6 → W0.cell? ⟨b, off + i * 6 + j, none⟩ = [Value.bool x.lo.s, .slice A1 n1 c1, .int .i64 x.lo.e, .bool x.hi.s, .slice A2 n2 c2, .int .i64 x.hi.e][j]? := fun j hj => by
          have h4 := h1 j hj
          rw [Go.WideShapes.add_plain, Go.WideShapes.add_plain] at h4
          exact h4
        exact ⟨x, fun _ => ⟨A1, n1, c1, A2, n2, c2, ⟨key 0 (by omega), key 1 (by omega), key 2 (by omega), key 3 (by omega), key 4 (by omega), key 5 (by omega)⟩, h2, h3⟩⟩
      · exact ⟨Iv.zero, fun h => absurd h hi⟩
    obtain ⟨X, hX⟩ := Classical.axiomOfChoice hX
    exact ⟨some ⟨b, off, none⟩, n, c, X, hcs, hl, hm', fun _ => ⟨b, off, rfl, fun i hi => hX i hi⟩⟩
end
end Go.Proofs.YtkpcmgfpmekkjaaDoor
namespace Go.Proofs.YtkpcmgfpmekkjaaDoor
open Go.ChangeShapes Go.WideShapes Go.ChangeAt Go.RowKit

/-- a tube's two slices, as they read -/
structure RdTb (w : World) (A : Option Addr) (c : Nat) (B : Option Addr) (d : Nat) (a : Tb) : Prop where
  at_ : RdD w A a.m c a.T
  v : RdS w B a.n d a.V
instance {w w2 : World} {A : Option Addr} {c : Nat} {B : Option Addr} {d : Nat} {a : Tb} : Moves w w2 (RdTb w A c B d a) (RdTb w2 A c B d a) := ⟨fun _ b e h => ⟨h.1.next b e, h.2.next b e⟩⟩
theorem cells_tube : Tryd.prog.cellsOf 25 = 2 := by kernel_rfl
theorem cells_dyads : Tryd.prog.cellsOf 22 = 1 := by kernel_rfl
section
variable {H : Type} {enc : TypeId × Value → H} {W0 : World}
set_option maxRecDepth 100000 in
theorem open_dys {v : Value} {y : DataW H × List MemPlace} {fuel : Nat} (hf : DataW.trod enc Tryd.prog W0 0 (fun _ => true) true fuel 22 [v] = some y) : ∃ A n c X, v = .slice A n c ∧ RdD W0 A n c X := by
  rcases DataW.trod_slice Tryd.underlying22 hf with ⟨hcs, _⟩ | ⟨a, n, c, elems, rest, k, _, hcs, _, _, hl, hm, hlen, hel, _, _⟩
  · simp at hcs
    exact ⟨none, 0, 0, fun _ => Rw.zero, hcs, by omega, by omega, fun h => absurd rfl h⟩
  · simp at hcs
    have each : ∀ i, i < n → ∃ x : Rw, ∃ A1 n1 c1, (∀ j, j < 3 → W0.cell? ((a.add (i * 3)).add j) = [Value.bool x.s, .slice A1 n1 c1, .int .i64 x.e][j]?) ∧ Rd W0 .u64 W A1 n1 c1 x.l := by
      intro i hi
      have h1 := hel i hi
      rw [List.getElem?_eq_getElem (by omega), cells_dyad, Option.bind_eq_some_iff] at h1
      obtain ⟨cs, h2, h3⟩ := h1
      obtain ⟨_, _, h4⟩ := World.cells?_some h2
      obtain ⟨s, A, n', c', l, e, rfl, r0⟩ := open_dyad_cells h3
      exact ⟨⟨s, l, e, r0.1.lt⟩, A, n', c', h4, r0.1⟩
    have hm' : c ≤ 9223372036854775807 := by unfold maxLen at hm; exact hm
    by_cases hn : n = 0
    · exact ⟨some a, n, c, fun _ => Rw.zero, hcs, hl, hm', fun h => absurd hn h⟩
    obtain ⟨b, off, spot⟩ := a
    have hspot : spot = none := by
      obtain ⟨x, A1, n1, c1, h1, _⟩ := each 0 (by omega)
      have h2 := h1 0 (by omega)
      simpa [Addr.add] using World.cell?_spot h2
    subst hspot
    have hX : ∀ i, ∃ x : Rw, i < n → DyAt W0 b (off + i * 3) x := fun i => by
      by_cases hi : i < n
      · obtain ⟨x, A1, n1, c1, h1, h2⟩ := each i hi
        have key : ∀ j, j < 3 → W0.cell? ⟨b, off + i * 3 + j, none⟩ = [Value.bool x.s, .slice A1 n1 c1, .int .i64 x.e][j]? := fun j hj => by
          have h4 := h1 j hj
          rw [Go.WideShapes.add_plain, Go.WideShapes.add_plain] at h4
          exact h4
        exact ⟨x, fun _ => ⟨A1, n1, c1, ⟨key 0 (by omega), key 1 (by omega), key 2 (by omega)⟩, h2⟩⟩
      · exact ⟨Rw.zero, fun h => absurd h hi⟩
    obtain ⟨X, hX⟩ := Classical.axiomOfChoice hX
    exact ⟨some ⟨b, off, none⟩, n, c, X, hcs, hl, hm', fun _ => ⟨b, off, rfl, fun i hi => hX i hi⟩⟩
set_option maxRecDepth 100000 in
theorem open_tube {b0 : Nat} {v : Value} {d : DataW H} {ps : List MemPlace}
    (hval : Value.okWide Tryd.prog W0 .any b0 25 v) (h : DataW.Trod enc Tryd.prog W0 0 (fun _ => true) true 25 v d ps) :
    ∃ (a : Tb) (A : Option Addr) (c : Nat) (B : Option Addr) (d : Nat), v = .agg #[.slice A a.m c, .slice B a.n d] ∧ RdTb W0 A c B d a := by
  obtain ⟨cs, rfl, hsz⟩ := okWide_struct Tryd.underlying25 hval
  obtain ⟨fuel, hf⟩ := h
  obtain ⟨y0, y1, n, hx, hl, t0, t1⟩ := trod_struct2 Tryd.underlying25 hf
  obtain ⟨l⟩ := cs
  obtain ⟨c0, c1, rfl⟩ := list2 (show l.length = 2 from hsz.trans cells_tube)
  replace t0 : DataW.trod enc Tryd.prog W0 0 (fun _ => true) true n 22 [c0] = some y0 := by
    have e : List.take (Tryd.prog.cellsOf 22) (List.drop 0 [c0, c1]) = [c0] := by rw [cells_dyads]; rfl
    rw [← e]; exact t0
  replace t1 : DataW.trod enc Tryd.prog W0 0 (fun _ => true) true n 23 [c1] = some y1 := by
    have e : List.take (Tryd.prog.cellsOf 23) (List.drop 1 [c0, c1]) = [c1] := by rw [cells_ivals]; rfl
    rw [← e]; exact t1
  obtain ⟨A, m, c, T, rfl, r0⟩ := open_dys t0
  obtain ⟨B, n', d', X, rfl, r1⟩ := open_ivs t1
  exact ⟨⟨n', X, m, T⟩, A, c, B, d', rfl, r0, r1⟩
set_option maxRecDepth 100000 in
theorem shut_tube {W' : World} {v : Value} {d : DataW H} {ps before : List MemPlace}
    (h : DataW.Trod enc Tryd.prog W0 0 (fun _ => true) true 25 v d ps) (hb : Below W0.heap.size W0 W') (hlt : ∀ x ∈ before, x.block < W0.heap.size) (hs : ∀ x ∈ ps, x ∈ before) :
    DataW.Trod enc Tryd.prog W' 0 (fun b => decide (b < W0.heap.size)) true 25 v d ps :=
  Below.trod laidOut (by kernel_rfl) (of_decide_eq_true (by kernel_rfl)) h hb (fun x hx => hlt x (hs x hx))
end
end Go.Proofs.YtkpcmgfpmekkjaaDoor
namespace Go.Proofs.YtkpcmgfpmekkjaaDoor
open Go.RowKit


theorem IvAt.ivs {w : World} {g o : Nat} {x : Iv} (h : IvAt w g o x) : Ivs w g o 1 (fun _ => x) := fun i hi => by
  obtain rfl : i = 0 := by omega
  rwa [Nat.zero_mul, Nat.add_zero]
/-- one interval of a slice, as a slice -/
theorem RdS.one {w : World} {g o n c : Nat} {X : Nat → Iv} (h : RdS w (some ⟨g, o, none⟩) n c X) {i : Nat} (hi : i < n) : RdS w (some ⟨g, o + i * 6, none⟩) 1 (c - i) (fun _ => X i) :=
  ⟨by have := h.cap; omega, by have := h.max; omega, fun _ => by
    obtain ⟨b, p, e, hc⟩ := h.at_ (by omega)
    injection e with e
    injection e with e1 e2
    subst e1 e2
    exact ⟨g, o + i * 6, rfl, (hc i hi).ivs⟩⟩

set_option maxRecDepth 100000 in
set_option maxHeartbeats 8000000 in
theorem tfew13_any {w : World} {a : Tb} {Ta Va : Option Addr} {ca da : Nat} (ha : RdTb w Ta ca Va da a) :
    Calls Tryd.prog 6 #[.agg #[.slice Ta a.m ca, .slice Va a.n da]] w (YesIf (a.n ≤ 12 ∧ a.m ≤ 14) w) := by
  have hmm := ha.at_.cap
  have hmx := ha.at_.max
  have hnn := ha.v.cap
  have hnx := ha.v.max
  have BB := below_alloc w (.cells #[.slice Ta a.m ca, .slice Va a.n da] 25)
  have xt := Blk.new w #[.slice Ta a.m ca, .slice Va a.n da] 25
  replace ha := mv BB rfl ha
  have t0 : World.cell? _ ⟨_, 0, none⟩ = some (.slice Ta a.m ca) := xt.at 0
  have t1 : World.cell? _ ⟨_, 1, none⟩ = some (.slice Va a.n da) := xt.at 1
  clear xt
  by_cases g1 : a.n ≤ 12
  · have g3 : ¬ (12 : Int) < (a.n : Int) := by omega
    by_cases g2 : a.m ≤ 14
    · have g4 : ¬ (14 : Int) < (a.m : Int) := by omega
      go_enter Tryd.func6, Tryd.ntmps6
      go_wp2
      go_loopg [3] a.m (fun q v wr => ∃ i : Nat, i + q = a.m ∧ v = .int .i64 i ∧ wr = w.alloc (.cells #[.slice Ta a.m ca, .slice Va a.n da] 25))
      case atStart => exact ⟨0, by omega, rfl, rfl⟩
      case round =>
        obtain ⟨i, hg, rfl, rfl⟩ := hrel
        have HG := Lib.hid hg
        clear hg
        by_cases hi : i < a.m
        · obtain ⟨g, off, rfl, hc⟩ := ha.at_.at_ (by omega)
          obtain ⟨A1, n1, c1, ⟨r0, r1, r2⟩, q1⟩ := hc i hi
          clear hc
          have hp2 : (i : Int) < a.m := by omega
          have hp3 : (0 : Int) ≤ i := by omega
          by_cases h1 : 6 < n1
          · have k1 : (6 : Int) < (n1 : Int) := by omega
            go_wp2
            exact bodyPost_ret (v := .bool false) (by simp [results, Tryd.results6, go_sem]) rfl (yes_no BB)
          · have k1 : ¬ (6 : Int) < (n1 : Int) := by omega
            go_wp2
            go_roundg (gk - 1)
            case measure => have := HG.out; omega
            case rel => exact ⟨i + 1, by have := HG.out; omega, by go_num, rfl⟩
        · have hn : i = a.m := by have := HG.out; omega
          subst hn
          clear HG hi
          go_wp2
          go_loopg [4] a.n (fun q v wr => ∃ i : Nat, i + q = a.n ∧ v = .int .i64 i ∧ Below w.heap.size w wr ∧ RdTb wr Ta ca Va da a ∧ wr.cell? ⟨w.heap.size, 0, none⟩ = some (.slice Ta a.m ca) ∧ wr.cell? ⟨w.heap.size, 1, none⟩ = some (.slice Va a.n da))
          case atStart => exact ⟨0, by omega, rfl, BB, ha, t0, t1⟩
          case round =>
            clear BB ha t0 t1
            obtain ⟨i, hg, rfl, BB, ha, t0, t1⟩ := hrel
            have HG := Lib.hid hg
            clear hg
            by_cases hi : i < a.n
            · obtain ⟨g, off, hVa, hc⟩ := ha.v.at_ (by omega)
              clear hc
              subst hVa
              have hr := ha.v.one hi
              have hp2 : (i : Int) < a.n := by omega
              have hp3 : (0 : Int) ≤ i := by omega
              have hw1 : IntKind.i64.wrap ((i : Int) + 1) = (i : Int) + 1 := IntWalk.i64_in _ (by omega)
              have hp4 : ((i : Int) + 1) ≤ (da : Int) := by omega
              go_wp2_with fail
              refine (trow_any hr).mono ?_
              rintro en w2 ⟨bb, rfl, hb, b⟩
              clear hr
              replace BB := bnx BB b rfl rfl rfl rfl
              have G := mv b rfl (J3 ha t0 t1)
              clear ha t0 t1
              obtain ⟨ha, t0, t1⟩ := G
              clear b
              cases bb
              · go_wp2
                exact bodyPost_ret (v := .bool false) (by simp [results, Tryd.results6, go_sem]) rfl (yes_no BB)
              · go_wp2
                go_roundg (gk - 1)
                case measure => have := HG.out; omega
                case rel => exact ⟨i + 1, by have := HG.out; omega, by go_num, BB, ha, t0, t1⟩
            · have hn : i = a.n := by have := HG.out; omega
              subst hn
              go_wp2
              exact bodyPost_ret (v := .bool true) (by simp [results, Tryd.results6, go_sem]) rfl (yes_yes ⟨g1, g2⟩ BB)
    · have g4 : (14 : Int) < (a.m : Int) := by omega
      go_enter Tryd.func6, Tryd.ntmps6
      go_wp2
      exact bodyPost_ret (v := .bool false) (by simp [results, Tryd.results6, go_sem]) rfl (yes_no BB)
  · have g3 : (12 : Int) < (a.n : Int) := by omega
    go_enter Tryd.func6, Tryd.ntmps6
    go_wp2
    exact bodyPost_ret (v := .bool false) (by simp [results, Tryd.results6, go_sem]) rfl (yes_no BB)

end Go.Proofs.YtkpcmgfpmekkjaaDoor
