/-
 Contracts of arith's check and told, and of fault's Told of an interval's outcome, at this translation. Condition: the slices read as limbs, the table of math/bits reads as its text lays it.
-/
import Derived.Test.YteagjlcmgiknmaaGreatDoorQTb
set_option maxHeartbeats 8000000
set_option maxRecDepth 100000
namespace Go.Proofs.YteagjlcmgiknmaaGreatDoor
open Go.RowKit

theorem acheck_all {w : World} {p : Int} {K g k : Nat} {X : Nat → Iv} (hK : 4194304 ≤ K) (hT : Tab w) (h : Ivs w g 0 k X) (hk : k ≤ 1000) (hp : 1 ≤ p ∧ p ≤ 2000) (hd : ∀ i, i < k → mayI K (X i) = true) :
  Calls Tryz.prog 128 #[.int .i64 p, .slice (some ⟨g, 0, none⟩) k k] w fun en w' => en = .returned (.tuple #[]) ∧ Below w.heap.size w w' := by
 have d1 : decide (p < 1) = false := decide_eq_false (by omega)
 have d2 : decide ((2000 : Int) < p) = false := decide_eq_false (by omega)
 have HD := Lib.hid hd
 clear hd
 go_enter Tryz.func128, Tryz.ntmps128
 go_wp2
 go_loopg [15] k (fun q v wr => ∃ i : Nat, i + q = k ∧ v = .int .i64 i ∧ Below w.heap.size w wr)
 case atStart => exact ⟨0, by omega, rfl, Below.refl _ _⟩
 case round =>
  obtain ⟨i, hg, rfl, hb⟩ := hrel
  have HG := Lib.hid hg
  clear hg
  by_cases hi : i < k
  ·obtain ⟨A1, n1, c1, A2, n2, c2, ⟨r0, r1, r2, r3, r4, r5⟩, q1, q2⟩ := (h.next hb rfl) i hi
   have hT1 := hT.next hb rfl
   have HM := Lib.hid (HD.out i hi)
   generalize X i = x at *
   have z6 : 0 + i * 6 = i * 6 := by omega
   rw [z6] at r0 r1 r2 r3 r4 r5
   clear z6
   have hp2 : (i : Int) < k := by omega
   have hp3 : (0 : Int) ≤ i := by omega
   have b1 := below_alloc wr (.cells #[.bool x.lo.s, .slice A1 n1 c1, .int .i64 x.lo.e, .bool x.hi.s, .slice A2 n2 c2, .int .i64 x.hi.e] 29)
   obtain ⟨z0, z1, z2, z3, z4, z5⟩ := (Ibx.new wr x.lo.s A1 n1 c1 x.lo.e x.hi.s A2 n2 c2 x.hi.e).held
   replace q1 := q1.next b1 rfl
   replace q2 := q2.next b1 rfl
   replace hT1 := hT1.next b1 rfl
   clear HD
   go_wp2_with fail
   refine (imay_any (K := K) (x := x) hK hT1 q1 q2).mono ?_
   rintro en w2 ⟨rfl, b⟩
   rw [HM.out]
   have hb2 := below_next (below_next hb hb.size b1 rfl rfl rfl rfl) (by have := hb.size; have := b1.size; omega) b rfl rfl rfl rfl
   clear b r0 r1 r2 r3 r4 r5 z0 z1 z2 z3 z4 z5 q1 q2 hT1 b1 HM
   go_wp2
   go_roundg (gk - 1)
   case measure => have := HG.out; omega
   case rel => exact ⟨i + 1, by have := HG.out; omega, by go_num, hb2⟩
  ·have : i = k := by have := HG.out; omega
   subst this
   go_wp2
   simp [bodyPost, results, Tryz.results128, hb]


theorem acheck_some {w : World} {p : Int} {K g k : Nat} {X : Nat → Iv} (hK : 4194304 ≤ K) (hT : Tab w) (h : Ivs w g 0 k X) (hk : k ≤ 1000) (hp : 1 ≤ p ∧ p ≤ 2000) {j : Nat} (hj : j < k) (hd : ∀ i, i < j → mayI K (X i) = true) (hd' : mayI K (X j) = false) :
  Calls Tryz.prog 128 #[.int .i64 p, .slice (some ⟨g, 0, none⟩) k k] w (Faults 1 w) := by
 have d1 : decide (p < 1) = false := decide_eq_false (by omega)
 have d2 : decide ((2000 : Int) < p) = false := decide_eq_false (by omega)
 have HD := Lib.hid hd
 clear hd
 have HD' := Lib.hid hd'
 clear hd'
 go_enter Tryz.func128, Tryz.ntmps128
 go_wp2
 go_loopg [15] k (fun q v wr => ∃ i : Nat, i + q = k ∧ i ≤ j ∧ v = .int .i64 i ∧ Below w.heap.size w wr)
 case atStart => exact ⟨0, by omega, by omega, rfl, Below.refl _ _⟩
 case round =>
  obtain ⟨i, hg, hij, rfl, hb⟩ := hrel
  have HG := Lib.hid (And.intro hg hij)
  clear hg hij
  have hi : i < k := by have := HG.out; omega
  by_cases hij : i < j
  ·obtain ⟨A1, n1, c1, A2, n2, c2, ⟨r0, r1, r2, r3, r4, r5⟩, q1, q2⟩ := (h.next hb rfl) i hi
   have hT1 := hT.next hb rfl
   have HM := Lib.hid (HD.out i hij)
   generalize X i = x at *
   have z6 : 0 + i * 6 = i * 6 := by omega
   rw [z6] at r0 r1 r2 r3 r4 r5
   clear z6
   have hp2 : (i : Int) < k := by omega
   have hp3 : (0 : Int) ≤ i := by omega
   have b1 := below_alloc wr (.cells #[.bool x.lo.s, .slice A1 n1 c1, .int .i64 x.lo.e, .bool x.hi.s, .slice A2 n2 c2, .int .i64 x.hi.e] 29)
   obtain ⟨z0, z1, z2, z3, z4, z5⟩ := (Ibx.new wr x.lo.s A1 n1 c1 x.lo.e x.hi.s A2 n2 c2 x.hi.e).held
   replace q1 := q1.next b1 rfl
   replace q2 := q2.next b1 rfl
   replace hT1 := hT1.next b1 rfl
   clear HD HD'
   go_wp2_with fail
   refine (imay_any (K := K) (x := x) hK hT1 q1 q2).mono ?_
   rintro en w2 ⟨rfl, b⟩
   rw [HM.out]
   have hb2 := below_next (below_next hb hb.size b1 rfl rfl rfl rfl) (by have := hb.size; have := b1.size; omega) b rfl rfl rfl rfl
   clear b r0 r1 r2 r3 r4 r5 z0 z1 z2 z3 z4 z5 q1 q2 hT1 b1 HM
   go_wp2
   go_roundg (gk - 1)
   case measure => have := HG.out; omega
   case rel => exact ⟨i + 1, by have := HG.out; omega, by have := HG.out; omega, by go_num, hb2⟩
  ·obtain rfl : i = j := by have := HG.out; omega
   obtain ⟨A1, n1, c1, A2, n2, c2, ⟨r0, r1, r2, r3, r4, r5⟩, q1, q2⟩ := (h.next hb rfl) i hi
   have hT1 := hT.next hb rfl
   have HM := Lib.hid (HD'.out)
   generalize X i = x at *
   have z6 : 0 + i * 6 = i * 6 := by omega
   rw [z6] at r0 r1 r2 r3 r4 r5
   clear z6
   have hp2 : (i : Int) < k := by omega
   have hp3 : (0 : Int) ≤ i := by omega
   have b1 := below_alloc wr (.cells #[.bool x.lo.s, .slice A1 n1 c1, .int .i64 x.lo.e, .bool x.hi.s, .slice A2 n2 c2, .int .i64 x.hi.e] 29)
   obtain ⟨z0, z1, z2, z3, z4, z5⟩ := (Ibx.new wr x.lo.s A1 n1 c1 x.lo.e x.hi.s A2 n2 c2 x.hi.e).held
   replace q1 := q1.next b1 rfl
   replace q2 := q2.next b1 rfl
   replace hT1 := hT1.next b1 rfl
   clear HD HD'
   go_wp2_with fail
   refine (imay_any (K := K) (x := x) hK hT1 q1 q2).mono ?_
   rintro en w2 ⟨rfl, b⟩
   rw [HM.out]
   have hb2 := below_next (below_next hb hb.size b1 rfl rfl rfl rfl) (by have := hb.size; have := b1.size; omega) b rfl rfl rfl rfl
   clear b r0 r1 r2 r3 r4 r5 z0 z1 z2 z3 z4 z5 q1 q2 hT1 b1 HM
   go_wp2
   exact ⟨rfl, rfl, hb2⟩


theorem acheck_no {w : World} {p : Int} {K g k : Nat} {X : Nat → Iv} (hK : 4194304 ≤ K) (hT : Tab w) (h : Ivs w g 0 k X) (hk : k ≤ 1000) (hp : 1 ≤ p ∧ p ≤ 2000) (hd : ¬ ∀ i, i < k → mayI K (X i) = true) :
  Calls Tryz.prog 128 #[.int .i64 p, .slice (some ⟨g, 0, none⟩) k k] w (Faults 1 w) := by
 have key : ∀ m, m ≤ k → (∀ i, i < m → mayI K (X i) = true) ∨ ∃ j, j < k ∧ (∀ i, i < j → mayI K (X i) = true) ∧ mayI K (X j) = false := by
  intro m
  induction m with
  | zero => exact fun _ => .inl fun i hi => absurd hi (by omega)
  | succ m ih =>
   intro hm
   rcases ih (by omega) with h1 | h1
   ·cases q : mayI K (X m)
    ·exact .inr ⟨m, by omega, h1, q⟩
    ·refine .inl fun i hi => ?_
     rcases (show i < m ∨ i = m by omega) with h2 | rfl
     ·exact h1 i h2
     ·exact q
   ·exact .inr h1
 rcases key k (Nat.le_refl k) with h1 | ⟨j, h1, h2, h3⟩
 ·exact absurd h1 hd
 ·exact acheck_some hK hT h hk hp h1 h2 h3


theorem acheck_p {w : World} {g k : Nat} {p : Int} (hp : p < 1 ∨ 2000 < p) :
  Calls Tryz.prog 128 #[.int .i64 p, .slice (some ⟨g, 0, none⟩) k k] w (Faults 1 w) := by
 by_cases h : p < 1
 ·have d1 : decide (p < 1) = true := decide_eq_true h
  clear hp
  go_enter Tryz.func128, Tryz.ntmps128
  go_wp2
  exact ⟨rfl, rfl, Below.refl _ _⟩
 ·have d1 : decide (p < 1) = false := decide_eq_false h
  have d2 : decide ((2000 : Int) < p) = true := decide_eq_true (by omega)
  clear hp
  go_enter Tryz.func128, Tryz.ntmps128
  go_wp2
  exact ⟨rfl, rfl, Below.refl _ _⟩
theorem prec_iff {p : Int} : prec p = true ↔ 1 ≤ p ∧ p ≤ 2000 := by
 unfold prec
 rw [Bool.and_eq_true, decide_eq_true_iff, decide_eq_true_iff]
/-- all of these may be, and p -/
def Fine (K : Nat) (k : Nat) (X : Nat → Iv) (p : Int) : Prop := prec p = true ∧ ∀ i, i < k → mayI K (X i) = true
theorem acheck_fine {w : World} {p : Int} {K g k : Nat} {X : Nat → Iv} (hK : 4194304 ≤ K) (hT : Tab w) (h : Ivs w g 0 k X) (hk : k ≤ 1000) (hf : Fine K k X p) :
  Calls Tryz.prog 128 #[.int .i64 p, .slice (some ⟨g, 0, none⟩) k k] w fun en w' => en = .returned (.tuple #[]) ∧ Below w.heap.size w w' := acheck_all hK hT h hk (prec_iff.1 hf.1) hf.2
theorem acheck_not {w : World} {p : Int} {K g k : Nat} {X : Nat → Iv} (hK : 4194304 ≤ K) (hT : Tab w) (h : Ivs w g 0 k X) (hk : k ≤ 1000) (hf : ¬ Fine K k X p) :
  Calls Tryz.prog 128 #[.int .i64 p, .slice (some ⟨g, 0, none⟩) k k] w (Faults 1 w) := by
 by_cases hp : 1 ≤ p ∧ p ≤ 2000
 ·exact acheck_no hK hT h hk hp (fun h2 => hf ⟨prec_iff.2 hp, h2⟩)
 ·exact acheck_p (by omega)
theorem runI_ok {v : Iv} {w w' : World} {en : Ending} (h : RunI (.ok v) w en w') : GivI v w en w' := by
 rcases h with ⟨v', h1, h2⟩ | ⟨k, h1, _⟩
 ·cases h1; exact h2
 ·cases h1
theorem runI_err {k : Int} {w w' : World} {en : Ending} (h : RunI (.error k) w en w') : Faults k w en w' := by
 rcases h with ⟨v', h1, _⟩ | ⟨k', h1, _, h2⟩
 ·cases h1
 ·cases h1; exact h2
theorem itold_run {o : Except Int Iv} {f : FuncId} {cap : Array Value} {w : World} (hf : ∀ W2 : World, (callFunc f cap).run Tryz.prog W2 = .ok (.enter f cap) W2) (hc : ∀ W2 : World, Below w.heap.size w W2 → Calls Tryz.prog f cap W2 (RunI o W2)) :
  Calls Tryz.prog 48 #[.func (Fn.func f) #[] cap] w (TellO o w) := by
 cases o with
 | ok v => exact itold_ok (x := v) hf fun W2 b => (hc W2 b).mono fun _ _ h => runI_ok h
 | error k => exact itold_no (k := k) hf fun W2 b => (hc W2 b).mono fun _ _ h => runI_err h

theorem told1_fine {o : Except Int Iv} {w : World} {p : Int} {K g k gp g1 g2 : Nat} {X : Nat → Iv} {f : FuncId} {cap : Array Value} (hK : 4194304 ≤ K) (hT : Tab w) (h : Ivs w g 0 k X) (hk : k ≤ 1000) (q0 : w.cell? ⟨gp, 0, none⟩ = some (.int .i64 p)) (q1 : w.cell? ⟨g1, 0, none⟩ = some (.slice (some ⟨g, 0, none⟩) k k)) (q2 : w.cell? ⟨g2, 0, none⟩ = some (.func (Fn.func f) #[] cap)) (hf : ∀ W2 : World, (callFunc f cap).run Tryz.prog W2 = .ok (.enter f cap) W2) (hd : Fine K k X p) (hc : ∀ W2 : World, Below w.heap.size w W2 → Calls Tryz.prog f cap W2 (RunI o W2)) :
  Calls Tryz.prog 127 #[.pointer (some ⟨gp, 0, none⟩), .pointer (some ⟨g1, 0, none⟩), .pointer (some ⟨g2, 0, none⟩)] w (RunI o w) := by
 have BB := below_alloc w (.cells #[.bool false, .slice none 0 0, .int .i64 0, .bool false, .slice none 0 0, .int .i64 0] 29)
 have l0 := World.block_lt_of_cell? w _ q0
 have l1 := World.block_lt_of_cell? w _ q1
 have l2 := World.block_lt_of_cell? w _ q2
 have r := Ibx.new w false none 0 0 0 false none 0 0 0
 have HC := Lib.hid hc
 clear hc
 have G := mv BB rfl (J5 hT h q0 q1 q2)
 clear hT h q0 q1 q2
 obtain ⟨hT, h, q0, q1, q2⟩ := G
 go_enter Tryz.func127, Tryz.ntmps127
 go_wp2_with fail
 refine (acheck_fine hK hT h hk hd).mono ?_
 rintro en w1 ⟨rfl, b⟩
 clear h hT
 replace BB := bnx BB b
 have G := mv b rfl (J4 q0 q1 q2 r)
 clear b q0 q1 q2 r
 obtain ⟨q0, q1, q2, r⟩ := G
 go_wp2_with fail
 refine (HC.out _ BB).mono ?_
 rintro en w2 (⟨v, hv, A1, n1, c1, A2, n2, c2, rfl, h1, h2, b⟩ | ⟨kk, hk, hk0, rfl, b⟩)
 rotate_left
 ·replace BB := bnx BB b
  clear b
  have HKK := Lib.hid (And.intro hk hk0)
  clear hk hk0
  go_wp2
  exact ⟨rfl, .inr ⟨kk, HKK.out.1, HKK.out.2, rfl, BB⟩⟩
 have HV := Lib.hid hv
 clear hv
 replace BB := bnx BB b
 have G := mv b rfl (J4 q0 q1 q2 r)
 clear b q0 q1 q2 r
 obtain ⟨q0, q1, q2, r⟩ := G
 obtain ⟨f0, f1, f2, f3, f4, f5⟩ := r.open
 obtain ⟨z0, z1, z2, z3, z4, z5⟩ := r.held
 go_wp2
 have qq := r.put v.lo.s A1 n1 c1 v.lo.e v.hi.s A2 n2 c2 v.hi.e
 have hN := h1.put6 r (.bool v.lo.s) (.slice A1 n1 c1) (.int .i64 v.lo.e) (.bool v.hi.s) (.slice A2 n2 c2) (.int .i64 v.hi.e)
 have hM := h2.put6 r (.bool v.lo.s) (.slice A1 n1 c1) (.int .i64 v.lo.e) (.bool v.hi.s) (.slice A2 n2 c2) (.int .i64 v.hi.e)
 have HB3 := below_put6 (g := w.heap.size) BB (by omega) (.bool v.lo.s) (.slice A1 n1 c1) (.int .i64 v.lo.e) (.bool v.hi.s) (.slice A2 n2 c2) (.int .i64 v.hi.e)
 obtain ⟨z0, z1, z2, z3, z4, z5⟩ := qq.held
 exact bodyPost_ret (v := .agg #[.bool v.lo.s, .slice A1 n1 c1, .int .i64 v.lo.e, .bool v.hi.s, .slice A2 n2 c2, .int .i64 v.hi.e]) (by simp [results, Tryz.results127, go_sem, z0, z1, z2, z3, z4, z5]) rfl (.inl ⟨v, HV.out, _, _, _, _, _, _, rfl, hN, hM, HB3⟩)

theorem told1_not {w : World} {p : Int} {K g k gp g1 : Nat} {X : Nat → Iv} {q : Value} (hK : 4194304 ≤ K) (hT : Tab w) (h : Ivs w g 0 k X) (hk : k ≤ 1000) (q0 : w.cell? ⟨gp, 0, none⟩ = some (.int .i64 p)) (q1 : w.cell? ⟨g1, 0, none⟩ = some (.slice (some ⟨g, 0, none⟩) k k)) (hd : ¬ Fine K k X p) :
  Calls Tryz.prog 127 #[.pointer (some ⟨gp, 0, none⟩), .pointer (some ⟨g1, 0, none⟩), q] w (RunI (.error 1) w) := by
 have BB := below_alloc w (.cells #[.bool false, .slice none 0 0, .int .i64 0, .bool false, .slice none 0 0, .int .i64 0] 29)
 have l0 := World.block_lt_of_cell? w _ q0
 have l1 := World.block_lt_of_cell? w _ q1
 have G := mv BB rfl (J4 hT h q0 q1)
 clear hT h q0 q1
 obtain ⟨hT, h, q0, q1⟩ := G
 go_enter Tryz.func127, Tryz.ntmps127
 go_wp2_with fail
 refine (acheck_not hK hT h hk hd).mono ?_
 rintro en w1 ⟨rfl, b⟩
 replace BB := bnx BB b
 clear b
 go_wp2
 exact ⟨rfl, .inr ⟨1, rfl, by decide, rfl, BB⟩⟩

theorem atold_any {o : Except Int Iv} {w : World} {p : Int} {g k : Nat} {X : Nat → Iv} {f : FuncId} {cap : Array Value} (hT : Tab w) (h : Ivs w g 0 k X) (hc : ∀ W2 : World, Below w.heap.size w W2 → Tab W2 → Ivs W2 g 0 k X → W2.cell? ⟨w.heap.size + 1, 0, none⟩ = some (.int .i64 p) → W2.cell? ⟨w.heap.size + 2, 0, none⟩ = some (.slice (some ⟨g, 0, none⟩) k k) → W2.cell? ⟨w.heap.size, 0, none⟩ = some (.func (Fn.func f) #[] cap) → Calls Tryz.prog 127 #[.pointer (some ⟨w.heap.size + 1, 0, none⟩), .pointer (some ⟨w.heap.size + 2, 0, none⟩), .pointer (some ⟨w.heap.size, 0, none⟩)] W2 (RunI o W2)) :
  Calls Tryz.prog 90 #[.func (Fn.func f) #[] cap, .int .i64 p, .slice (some ⟨g, 0, none⟩) k k] w (TellO o w) := by
 have BB := three_below w (.cells #[.func (Fn.func f) #[] cap] 84) (.cells #[.int .i64 p] 3) (.cells #[.slice (some ⟨g, 0, none⟩) k k] 40)
 have b := below_alloc (((w.alloc (.cells #[.func (Fn.func f) #[] cap] 84)).alloc (.cells #[.int .i64 p] 3)).alloc (.cells #[.slice (some ⟨g, 0, none⟩) k k] 40)) (.cells #[.bool false, .slice none 0 0, .int .i64 0, .bool false, .slice none 0 0, .int .i64 0] 29)
 replace BB := bnx BB b
 clear b
 have hmf := make_func
 have q2 : ((((w.alloc (.cells #[.func (Fn.func f) #[] cap] 84)).alloc (.cells #[.int .i64 p] 3)).alloc (.cells #[.slice (some ⟨g, 0, none⟩) k k] 40)).alloc (.cells #[.bool false, .slice none 0 0, .int .i64 0, .bool false, .slice none 0 0, .int .i64 0] 29)).cell? ⟨w.heap.size, 0, none⟩ = some (.func (Fn.func f) #[] cap) := Lib.cell?_alloc_some _ (Lib.cell?_alloc_some _ (Lib.cell?_alloc_some _ (new_cell w _ _ 0)))
 have q0 : ((((w.alloc (.cells #[.func (Fn.func f) #[] cap] 84)).alloc (.cells #[.int .i64 p] 3)).alloc (.cells #[.slice (some ⟨g, 0, none⟩) k k] 40)).alloc (.cells #[.bool false, .slice none 0 0, .int .i64 0, .bool false, .slice none 0 0, .int .i64 0] 29)).cell? ⟨w.heap.size + 1, 0, none⟩ = some (.int .i64 p) := Lib.cell?_alloc_some _ (Lib.cell?_alloc_some _ (new_cell1 w _ _ _ 0))
 have q1 : ((((w.alloc (.cells #[.func (Fn.func f) #[] cap] 84)).alloc (.cells #[.int .i64 p] 3)).alloc (.cells #[.slice (some ⟨g, 0, none⟩) k k] 40)).alloc (.cells #[.bool false, .slice none 0 0, .int .i64 0, .bool false, .slice none 0 0, .int .i64 0] 29)).cell? ⟨w.heap.size + 2, 0, none⟩ = some (.slice (some ⟨g, 0, none⟩) k k) := Lib.cell?_alloc_some _ (by have := new_cell1 (w.alloc (.cells #[.func (Fn.func f) #[] cap] 84)) (.cells #[.int .i64 p] 3) #[.slice (some ⟨g, 0, none⟩) k k] 40 0; simpa using this)
 have r : Ibx ((((w.alloc (.cells #[.func (Fn.func f) #[] cap] 84)).alloc (.cells #[.int .i64 p] 3)).alloc (.cells #[.slice (some ⟨g, 0, none⟩) k k] 40)).alloc (.cells #[.bool false, .slice none 0 0, .int .i64 0, .bool false, .slice none 0 0, .int .i64 0] 29)) (w.heap.size + 3) false none 0 0 0 false none 0 0 0 := by have := Ibx.new (((w.alloc (.cells #[.func (Fn.func f) #[] cap] 84)).alloc (.cells #[.int .i64 p] 3)).alloc (.cells #[.slice (some ⟨g, 0, none⟩) k k] 40)) false none 0 0 0 false none 0 0 0; simpa using this
 have G := mv BB rfl <| And.intro hT <| h
 clear hT h
 obtain ⟨hT, h⟩ := G
 obtain ⟨q, hq⟩ : ∃ q, q = o := ⟨_, rfl⟩
 rw [← hq]
 have HQ := Lib.hid hq
 clear hq
 have HC := Lib.hid hc
 clear hc
 go_enter Tryz.func90, Tryz.ntmps90
 go_wp2_with fail
 refine (tello_to HQ.out (itold_run (o := o) (fun _ => by kernel_rfl) (fun W2 b2 => HC.out _ (BB.trans (b2.mono BB.size)) (mv b2 rfl hT) (mv b2 rfl h) (mv b2 rfl q0) (mv b2 rfl q1) (mv b2 rfl q2)))).mono ?_
 rintro en w1 ⟨A1, n1, c1, A2, n2, c2, rfl, h1, h2, b⟩
 clear q0 q1 q2
 clear hT h
 replace BB := bnx BB b
 replace r := mv b rfl r
 clear b
 obtain ⟨f0, f1, f2, f3, f4, f5⟩ := r.open
 obtain ⟨z0, z1, z2, z3, z4, z5⟩ := r.held
 go_wp2
 have qq := r.put (oiv q).lo.s A1 n1 c1 (oiv q).lo.e (oiv q).hi.s A2 n2 c2 (oiv q).hi.e
 have hN := h1.put6 r (.bool (oiv q).lo.s) (.slice A1 n1 c1) (.int .i64 (oiv q).lo.e) (.bool (oiv q).hi.s) (.slice A2 n2 c2) (.int .i64 (oiv q).hi.e)
 have hM := h2.put6 r (.bool (oiv q).lo.s) (.slice A1 n1 c1) (.int .i64 (oiv q).lo.e) (.bool (oiv q).hi.s) (.slice A2 n2 c2) (.int .i64 (oiv q).hi.e)
 have HB3 := below_put6 (g := w.heap.size + 3) BB (by omega) (.bool (oiv q).lo.s) (.slice A1 n1 c1) (.int .i64 (oiv q).lo.e) (.bool (oiv q).hi.s) (.slice A2 n2 c2) (.int .i64 (oiv q).hi.e)
 obtain ⟨z0, z1, z2, z3, z4, z5⟩ := qq.held
 exact bodyPost_ret (v := .tuple #[.agg #[.bool (oiv q).lo.s, .slice A1 n1 c1, .int .i64 (oiv q).lo.e, .bool (oiv q).hi.s, .slice A2 n2 c2, .int .i64 (oiv q).hi.e], .int .i64 (okc q)]) (by simp [results, Tryz.results90, go_sem, z0, z1, z2, z3, z4, z5]) rfl ⟨_, _, _, _, _, _, rfl, hN, hM, HB3⟩

/-- told of a closure that runs to o: o where all may be, else that something may not be -/
theorem atold_run (c : Bool) {o : Except Int Iv} {w : World} {p : Int} {K g k : Nat} {X : Nat → Iv} {f : FuncId} {cap : Array Value} (hK : 4194304 ≤ K) (hT : Tab w) (h : Ivs w g 0 k X) (hk : k ≤ 1000) (hf : ∀ W2 : World, (callFunc f cap).run Tryz.prog W2 = .ok (.enter f cap) W2) (hcf : c = true ↔ Fine K k X p) (hc : c = true → ∀ W2 : World, Below w.heap.size w W2 → Calls Tryz.prog f cap W2 (RunI o W2)) :
  Calls Tryz.prog 90 #[.func (Fn.func f) #[] cap, .int .i64 p, .slice (some ⟨g, 0, none⟩) k k] w (TellO (if c = true then o else .error 1) w) := by
 cases hcc : c
 ·rw [if_neg (by decide)]
  refine atold_any hT h fun W2 b hT2 h2 q0 q1 q2 => told1_not hK hT2 h2 hk q0 q1 (fun hf2 => ?_)
  rw [hcf.2 hf2] at hcc; cases hcc
 ·rw [if_pos rfl]
  exact atold_any hT h fun W2 b hT2 h2 q0 q1 q2 => told1_fine hK hT2 h2 hk q0 q1 q2 hf (hcf.1 hcc) fun W3 b3 => hc hcc _ (b.trans (b3.mono b.size))

end Go.Proofs.YteagjlcmgiknmaaGreatDoor
