/-
 Contracts of box's all, May, each, Within, Inside, Has, at this translation. Condition: the slices read as limbs, the table of math/bits reads as its text lays it.
-/
import Derived.Test.YtlpjlmophlikeaaGreatDoorQHa
set_option maxHeartbeats 8000000
set_option maxRecDepth 100000
namespace Go.Proofs.YtlpjlmophlikeaaGreatDoor
open Go.RowKit


theorem three_at (w : World) (u1 u2 u3 : Value) (T1 T2 T3 : TypeId) : (((w.alloc (.cells #[u1] T1)).alloc (.cells #[u2] T2)).alloc (.cells #[u3] T3)).cell? ⟨w.heap.size, 0, none⟩ = some u1 ∧ (((w.alloc (.cells #[u1] T1)).alloc (.cells #[u2] T2)).alloc (.cells #[u3] T3)).cell? ⟨w.heap.size + 1, 0, none⟩ = some u2 ∧ (((w.alloc (.cells #[u1] T1)).alloc (.cells #[u2] T2)).alloc (.cells #[u3] T3)).cell? ⟨w.heap.size + 2, 0, none⟩ = some u3 := by
 have b2 := below_alloc (w.alloc (.cells #[u1] T1)) (.cells #[u2] T2)
 have b3 := below_alloc ((w.alloc (.cells #[u1] T1)).alloc (.cells #[u2] T2)) (.cells #[u3] T3)
 have x1 := mv b3 rfl (mv b2 rfl (Blk.new w #[u1] T1))
 have x2 := mv b3 rfl (Blk.new (w.alloc (.cells #[u1] T1)) #[u2] T2)
 have x3 := Blk.new ((w.alloc (.cells #[u1] T1)).alloc (.cells #[u2] T2)) #[u3] T3
 have e1 : (w.alloc (.cells #[u1] T1)).heap.size = w.heap.size + 1 := by simp
 have e2 : ((w.alloc (.cells #[u1] T1)).alloc (.cells #[u2] T2)).heap.size = w.heap.size + 2 := by simp
 rw [e1] at x2
 rw [e2] at x3
 exact ⟨x1.at 0, x2.at 0, x3.at 0⟩

theorem ball1_any {w : World} {n : Nat} {f : FuncId} {p1 : Value} {g : Nat → Bool} (hn : n ≤ 1000000) (hf : ∀ (v : Value) (W2 : World), (callFunc f #[v, p1]).run Tryz.prog W2 = .ok (.enter f #[v, p1]) W2)
  (hg : ∀ i, i < n → ∀ W2 : World, Below w.heap.size w W2 → Calls Tryz.prog f #[.int .i64 i, p1] W2 (Bools (g i) W2)) :
  Calls Tryz.prog 49 #[.int .i64 n, .func (Fn.func f) #[] #[p1]] w (Bools (eachB n g) w) := by
 have HGG := Lib.hid hg
 clear hg
 go_enter Tryz.func49, Tryz.ntmps49
 go_wp2
 go_loopg [7] n (fun q v wr => ∃ i : Nat, i + q = n ∧ v = .int .i64 i ∧ Hid (∀ j, j < i → g j = true) ∧ Below w.heap.size w wr)
 case atStart => exact ⟨0, by omega, rfl, Lib.hid fun j hj => absurd hj (Nat.not_lt_zero j), Below.refl _ _⟩
 case round =>
  obtain ⟨i, hq, rfl, HA, hb⟩ := hrel
  have HG := Lib.hid hq
  clear hq
  by_cases hi : i < n
  ·have hp2 : (i : Int) < n := by omega
   have HC := Lib.hid (HGG.out i hi wr hb)
   obtain ⟨bi, hbi⟩ : ∃ b, b = g i := ⟨_, rfl⟩
   rw [← hbi] at HC
   have HB := Lib.hid hbi
   clear hbi HGG
   cases bi with
   | false =>
    go_wp2_with fail
    refine HC.out.mono ?_
    rintro en w2 ⟨rfl, b⟩
    have hb2 := below_next hb hb.size b rfl rfl rfl rfl
    go_wp2
    exact bodyPost_ret (v := .bool false) (by simp [results, Tryz.results49, go_sem]) rfl ⟨by rw [eachB_no hi HB.out.symm], hb2⟩
   | true =>
    go_wp2_with fail
    refine HC.out.mono ?_
    rintro en w2 ⟨rfl, b⟩
    have hb2 := below_next hb hb.size b rfl rfl rfl rfl
    clear hb b HC
    go_wp2
    go_roundg (gk - 1)
    case measure => have := HG.out; omega
    case rel => exact ⟨i + 1, by have := HG.out; omega, by go_num, Lib.hid fun j hj => by
     rcases (show j < i ∨ j = i by omega) with h1 | rfl
     ·exact HA.out j h1
     ·exact HB.out.symm, hb2⟩
  ·have hk : i = n := by have := HG.out; omega
   subst hk
   clear HGG
   go_wp2
   exact bodyPost_ret (v := .bool true) (by simp [results, Tryz.results49, go_sem]) rfl ⟨by rw [eachB_iff.2 HA.out], hb⟩

theorem ball3_any {w : World} {n : Nat} {f : FuncId} {p1 p2 p3 : Value} {g : Nat → Bool} (hn : n ≤ 1000000) (hf : ∀ (v : Value) (W2 : World), (callFunc f #[v, p1, p2, p3]).run Tryz.prog W2 = .ok (.enter f #[v, p1, p2, p3]) W2)
  (hg : ∀ i, i < n → ∀ W2 : World, Below w.heap.size w W2 → Calls Tryz.prog f #[.int .i64 i, p1, p2, p3] W2 (Bools (g i) W2)) :
  Calls Tryz.prog 49 #[.int .i64 n, .func (Fn.func f) #[] #[p1, p2, p3]] w (Bools (eachB n g) w) := by
 have HGG := Lib.hid hg
 clear hg
 go_enter Tryz.func49, Tryz.ntmps49
 go_wp2
 go_loopg [7] n (fun q v wr => ∃ i : Nat, i + q = n ∧ v = .int .i64 i ∧ Hid (∀ j, j < i → g j = true) ∧ Below w.heap.size w wr)
 case atStart => exact ⟨0, by omega, rfl, Lib.hid fun j hj => absurd hj (Nat.not_lt_zero j), Below.refl _ _⟩
 case round =>
  obtain ⟨i, hq, rfl, HA, hb⟩ := hrel
  have HG := Lib.hid hq
  clear hq
  by_cases hi : i < n
  ·have hp2 : (i : Int) < n := by omega
   have HC := Lib.hid (HGG.out i hi wr hb)
   obtain ⟨bi, hbi⟩ : ∃ b, b = g i := ⟨_, rfl⟩
   rw [← hbi] at HC
   have HB := Lib.hid hbi
   clear hbi HGG
   cases bi with
   | false =>
    go_wp2_with fail
    refine HC.out.mono ?_
    rintro en w2 ⟨rfl, b⟩
    have hb2 := below_next hb hb.size b rfl rfl rfl rfl
    go_wp2
    exact bodyPost_ret (v := .bool false) (by simp [results, Tryz.results49, go_sem]) rfl ⟨by rw [eachB_no hi HB.out.symm], hb2⟩
   | true =>
    go_wp2_with fail
    refine HC.out.mono ?_
    rintro en w2 ⟨rfl, b⟩
    have hb2 := below_next hb hb.size b rfl rfl rfl rfl
    clear hb b HC
    go_wp2
    go_roundg (gk - 1)
    case measure => have := HG.out; omega
    case rel => exact ⟨i + 1, by have := HG.out; omega, by go_num, Lib.hid fun j hj => by
     rcases (show j < i ∨ j = i by omega) with h1 | rfl
     ·exact HA.out j h1
     ·exact HB.out.symm, hb2⟩
  ·have hk : i = n := by have := HG.out; omega
   subst hk
   clear HGG
   go_wp2
   exact bodyPost_ret (v := .bool true) (by simp [results, Tryz.results49, go_sem]) rfl ⟨by rw [eachB_iff.2 HA.out], hb⟩

theorem bmay1_any {w : World} {K b0 i n c : Nat} {A : Option Addr} {X : Nat → Iv} (hK : 4194304 ≤ K) (hT : Tab w) (t0 : w.cell? ⟨b0, 0, none⟩ = some (.slice A n c)) (h : RdS w A n c X) (hi : i < n) :
  Calls Tryz.prog 50 #[.int .i64 i, .pointer (some ⟨b0, 0, none⟩)] w (Bools (mayI K (X i)) w) := by
 obtain ⟨g, off, rfl, hc⟩ := h.at_ (by omega)
 obtain ⟨A1, n1, c1, A2, n2, c2, ⟨r0, r1, r2, r3, r4, r5⟩, q1, q2⟩ := hc i hi
 clear hc h
 generalize X i = x at *
 have hp2 : (i : Int) < n := by omega
 have hp3 : (0 : Int) ≤ i := by omega
 go_enter Tryz.func50, Tryz.ntmps50
 go_wp2_with fail
 refine (imay_any (x := x) hK hT q1 q2).mono ?_
 rintro en w2 ⟨rfl, b⟩
 clear r0 r1 r2 r3 r4 r5 q1 q2
 go_wp2
 exact bodyPost_ret (v := .bool (mayI K x)) (by simp [results, Tryz.results50, go_sem]) rfl ⟨rfl, b⟩

theorem bmay_any {w : World} {K n c : Nat} {A : Option Addr} {X : Nat → Iv} (hK : 4194304 ≤ K) (hT : Tab w) (h : RdS w A n c X) (hn : n ≤ 1000000) :
  Calls Tryz.prog 15 #[.slice A n c] w (Bools (eachB n fun i => mayI K (X i)) w) := by
 have BB := below_alloc w (.cells #[.slice A n c] 39)
 have t0 : World.cell? _ ⟨_, 0, none⟩ = some (.slice A n c) := (Blk.new w #[.slice A n c] 39).at 0
 have hT1 := mv BB rfl hT
 have h1 := mv BB rfl h
 have hmf := make_func
 have HC := Lib.hid (ball1_any (f := 50) (p1 := .pointer (some ⟨w.heap.size, 0, none⟩)) (g := fun i => mayI K (X i)) hn (fun _ _ => by kernel_rfl) (fun i hi W2 b => bmay1_any hK (mv b rfl hT1) (cell_next b rfl t0) (mv b rfl h1) hi))
 clear h h1 hT hT1
 generalize eachB n (fun i => mayI K (X i)) = r at *
 go_enter Tryz.func15, Tryz.ntmps15
 go_wp2_with fail
 refine HC.out.mono ?_
 rintro en w2 ⟨rfl, b⟩
 replace BB := bnx BB b
 go_wp2
 exact bodyPost_ret (v := .bool r) (by simp [results, Tryz.results15, go_sem]) rfl ⟨rfl, BB⟩

/-- a function that tells yes or no of an interval and another -/
structure StandsII (f : FuncId) (r : Iv → Iv → Bool) : Prop where
 go : ∀ (u v : Value) (W2 : World), (callFunc f #[u, v]).run Tryz.prog W2 = .ok (.enter f #[u, v]) W2
 is : ∀ {W : World} {x : Iv} {y : Iv} {A1 : Option Addr} {n1 c1 : Nat} {A2 : Option Addr} {n2 c2 : Nat} {A3 : Option Addr} {n3 c3 : Nat} {A4 : Option Addr} {n4 c4 : Nat}, Tab W → (Rd W .u64 Go.Proofs.YtlpjlmophlikeaaGreatDoor.W A1 n1 c1 x.lo.l) → (Rd W .u64 Go.Proofs.YtlpjlmophlikeaaGreatDoor.W A2 n2 c2 x.hi.l) → (Rd W .u64 Go.Proofs.YtlpjlmophlikeaaGreatDoor.W A3 n3 c3 y.lo.l) → (Rd W .u64 Go.Proofs.YtlpjlmophlikeaaGreatDoor.W A4 n4 c4 y.hi.l) → Calls Tryz.prog f #[.agg #[.bool x.lo.s, .slice A1 n1 c1, .int .i64 x.lo.e, .bool x.hi.s, .slice A2 n2 c2, .int .i64 x.hi.e], .agg #[.bool y.lo.s, .slice A3 n3 c3, .int .i64 y.lo.e, .bool y.hi.s, .slice A4 n4 c4, .int .i64 y.hi.e]] W (Bools (r x y) W)

theorem beachII1_any {w : World} {b3 b4 b5 i n c m d : Nat} {A B : Option Addr} {X : Nat → Iv} {Y : Nat → Iv} {f : FuncId} {r : Iv → Iv → Bool} (hS : StandsII f r) (hT : Tab w) (t5 : w.cell? ⟨b5, 0, none⟩ = some (.func (Fn.func f) #[] #[])) (t3 : w.cell? ⟨b3, 0, none⟩ = some (.slice A n c)) (t4 : w.cell? ⟨b4, 0, none⟩ = some (.slice B m d)) (hX : RdS w A n c X) (hY : RdS w B m d Y) (hi : i < n) (hj : i < m) :
  Calls Tryz.prog 106 #[.int .i64 i, .pointer (some ⟨b5, 0, none⟩), .pointer (some ⟨b3, 0, none⟩), .pointer (some ⟨b4, 0, none⟩)] w (Bools (r (X i) (Y i)) w) := by
 obtain ⟨g1, o1, rfl, hc⟩ := hX.at_ (by omega)
 obtain ⟨g2, o2, rfl, hd⟩ := hY.at_ (by omega)
 obtain ⟨A1, n1, c1, A2, n2, c2, ⟨r0, r1, r2, r3, r4, r5⟩, q1, q2⟩ := hc i hi
 obtain ⟨A3, n3, c3, A4, n4, c4, ⟨s0, s1, s2, s3, s4, s5⟩, q3, q4⟩ := hd i hj
 clear hc hd hX hY
 generalize X i = x at *
 generalize Y i = y at *
 have hp2 : (i : Int) < n := by omega
 have hp3 : (0 : Int) ≤ i := by omega
 have hp4 : (i : Int) < m := by omega
 have hfg := hS.go
 go_enter Tryz.func106, Tryz.ntmps106
 go_wp2_with fail
 have b : Below w.heap.size w (World.drew w) := below_drewN (Below.refl _ _) 1
 have BB := b
 have hT1 := mv b rfl hT
 have G := mv b rfl (J19 t5 t3 t4 r0 r1 r2 r3 r4 r5 s0 s1 s2 s3 s4 s5 q1 q2 q3 q4)
 clear t5 t3 t4 r0 r1 r2 r3 r4 r5 s0 s1 s2 s3 s4 s5 q1 q2 q3 q4
 obtain ⟨t5, t3, t4, r0, r1, r2, r3, r4, r5, s0, s1, s2, s3, s4, s5, q1, q2, q3, q4⟩ := G
 clear b hT
 refine wp_region_held_drew (S := fun w' => w'.cell? ⟨b5, 0, none⟩ = some (.func (Fn.func f) #[] #[]) ∧ w'.cell? ⟨b3, 0, none⟩ = some (.slice (some ⟨g1, o1, none⟩) n c) ∧ w'.cell? ⟨b4, 0, none⟩ = some (.slice (some ⟨g2, o2, none⟩) m d) ∧ w'.cell? ⟨g1, o1 + i * 6, none⟩ = some (.bool x.lo.s) ∧ w'.cell? ⟨g1, o1 + i * 6 + 1, none⟩ = some (.slice A1 n1 c1) ∧ w'.cell? ⟨g1, o1 + i * 6 + 2, none⟩ = some (.int .i64 x.lo.e) ∧ w'.cell? ⟨g1, o1 + i * 6 + 3, none⟩ = some (.bool x.hi.s) ∧ w'.cell? ⟨g1, o1 + i * 6 + 4, none⟩ = some (.slice A2 n2 c2) ∧ w'.cell? ⟨g1, o1 + i * 6 + 5, none⟩ = some (.int .i64 x.hi.e) ∧ w'.cell? ⟨g2, o2 + i * 6, none⟩ = some (.bool y.lo.s) ∧ w'.cell? ⟨g2, o2 + i * 6 + 1, none⟩ = some (.slice A3 n3 c3) ∧ w'.cell? ⟨g2, o2 + i * 6 + 2, none⟩ = some (.int .i64 y.lo.e) ∧ w'.cell? ⟨g2, o2 + i * 6 + 3, none⟩ = some (.bool y.hi.s) ∧ w'.cell? ⟨g2, o2 + i * 6 + 4, none⟩ = some (.slice A4 n4 c4) ∧ w'.cell? ⟨g2, o2 + i * 6 + 5, none⟩ = some (.int .i64 y.hi.e)) (by kernel_rfl) (by exact ⟨t5, t3, t4, r0, r1, r2, r3, r4, r5, s0, s1, s2, s3, s4, s5⟩) (fun hHeldz0 => ?_)
 generalize World.drew w = wd at *
 refine tl 0 ?_
 refine tl 1 ?_
 refine tl 2 ?_
 refine tl 3 ?_
 refine tl 4 ?_
 refine tl 5 ?_
 refine tl 6 ?_
 refine tl 7 ?_
 refine tl 8 ?_
 refine rdy 9 fun K hK => ?_
 go_simp
 refine (hS.is hT1 q1 q2 q3 q4).mono ?_
 rintro en w2 ⟨rfl, b⟩
 replace BB := below_next BB BB.size b (by rfl) (by rfl) (by rfl) (by rfl)
 have G := mv b (by rfl) <| And.intro t5 <| And.intro t3 <| And.intro t4 <| And.intro r0 <| And.intro r1 <| And.intro r2 <| And.intro r3 <| And.intro r4 <| And.intro r5 <| And.intro s0 <| And.intro s1 <| And.intro s2 <| And.intro s3 <| And.intro s4 <| s5
 clear t5 t3 t4 r0 r1 r2 r3 r4 r5 s0 s1 s2 s3 s4 s5
 obtain ⟨t5, t3, t4, r0, r1, r2, r3, r4, r5, s0, s1, s2, s3, s4, s5⟩ := G
 clear b hT1 q1 q2 q3 q4
 refine hK.out _ _ (by exact ⟨t5, t3, t4, r0, r1, r2, r3, r4, r5, s0, s1, s2, s3, s4, s5⟩) (fun hHeldz1 => ?_)
 clear hK K hHeldz0
 try simp only [Act.put]
 refine tl 10 ?_
 refine wpAnyH_done (by kernel_rfl) ?_ _
 go_wp2
 exact bodyPost_ret (v := .bool (r x y)) (by simp [results, Tryz.results106, go_sem]) rfl ⟨rfl, BB⟩

theorem beachII_any {w : World} {n c m d : Nat} {A B : Option Addr} {X : Nat → Iv} {Y : Nat → Iv} {f : FuncId} {r : Iv → Iv → Bool} (hS : StandsII f r) (hT : Tab w) (hX : RdS w A n c X) (hY : RdS w B m d Y) (hn : n ≤ 1000000) :
  Calls Tryz.prog 60 #[.slice A n c, .slice B m d, .func (Fn.func f) #[] #[]] w (Bools (decide (n = m) && eachB n fun i => r (X i) (Y i)) w) := by
 have BB := three_below w (.cells #[.slice A n c] 39) (.cells #[.slice B m d] 39) (.cells #[.func (Fn.func f) #[] #[]] 56)
 obtain ⟨t3, t4, t5⟩ := three_at w (.slice A n c) (.slice B m d) (.func (Fn.func f) #[] #[]) 39 39 56
 have hT1 := mv BB rfl hT
 have hX1 := mv BB rfl hX
 have hY1 := mv BB rfl hY
 have hmf := make_func
 by_cases hnm : n = m
 ·subst hnm
  have HC := Lib.hid (ball3_any (f := 106) (p1 := .pointer (some ⟨w.heap.size + 2, 0, none⟩)) (p2 := .pointer (some ⟨w.heap.size, 0, none⟩)) (p3 := .pointer (some ⟨w.heap.size + 1, 0, none⟩)) (g := fun i => r (X i) (Y i)) hn (fun _ _ => by kernel_rfl) (fun i hi W2 b => beachII1_any hS (mv b rfl hT1) (cell_next b rfl t5) (cell_next b rfl t3) (cell_next b rfl t4) (mv b rfl hX1) (mv b rfl hY1) hi hi))
  rw [decide_eq_true rfl, Bool.true_and]
  clear hT hX hY hT1 hX1 hY1 hS
  generalize eachB n (fun i => r (X i) (Y i)) = q at *
  go_enter Tryz.func60, Tryz.ntmps60
  go_wp2_with fail
  refine HC.out.mono ?_
  rintro en w2 ⟨rfl, b⟩
  replace BB := bnx BB b
  go_wp2
  exact bodyPost_ret (v := .bool q) (by simp [results, Tryz.results60, go_sem]) rfl ⟨rfl, BB⟩
 ·rw [decide_eq_false hnm, Bool.false_and]
  clear hT hX hY hT1 hX1 hY1 hS
  have hnm2 : ¬ (n : Int) = (m : Int) := by omega
  go_enter Tryz.func60, Tryz.ntmps60
  go_wp2
  exact bodyPost_ret (v := .bool false) (by simp [results, Tryz.results60, go_sem]) rfl ⟨rfl, BB⟩

/-- a function that tells yes or no of an interval and a number -/
structure StandsID (f : FuncId) (r : Iv → Rw → Bool) : Prop where
 go : ∀ (u v : Value) (W2 : World), (callFunc f #[u, v]).run Tryz.prog W2 = .ok (.enter f #[u, v]) W2
 is : ∀ {W : World} {x : Iv} {y : Rw} {A1 : Option Addr} {n1 c1 : Nat} {A2 : Option Addr} {n2 c2 : Nat} {A3 : Option Addr} {n3 c3 : Nat}, Tab W → (Rd W .u64 Go.Proofs.YtlpjlmophlikeaaGreatDoor.W A1 n1 c1 x.lo.l) → (Rd W .u64 Go.Proofs.YtlpjlmophlikeaaGreatDoor.W A2 n2 c2 x.hi.l) → (Rd W .u64 Go.Proofs.YtlpjlmophlikeaaGreatDoor.W A3 n3 c3 y.l) → Calls Tryz.prog f #[.agg #[.bool x.lo.s, .slice A1 n1 c1, .int .i64 x.lo.e, .bool x.hi.s, .slice A2 n2 c2, .int .i64 x.hi.e], .agg #[.bool y.s, .slice A3 n3 c3, .int .i64 y.e]] W (Bools (r x y) W)

theorem beachID1_any {w : World} {b3 b4 b5 i n c m d : Nat} {A B : Option Addr} {X : Nat → Iv} {Y : Nat → Rw} {f : FuncId} {r : Iv → Rw → Bool} (hS : StandsID f r) (hT : Tab w) (t5 : w.cell? ⟨b5, 0, none⟩ = some (.func (Fn.func f) #[] #[])) (t3 : w.cell? ⟨b3, 0, none⟩ = some (.slice A n c)) (t4 : w.cell? ⟨b4, 0, none⟩ = some (.slice B m d)) (hX : RdS w A n c X) (hY : RdD w B m d Y) (hi : i < n) (hj : i < m) :
  Calls Tryz.prog 105 #[.int .i64 i, .pointer (some ⟨b5, 0, none⟩), .pointer (some ⟨b3, 0, none⟩), .pointer (some ⟨b4, 0, none⟩)] w (Bools (r (X i) (Y i)) w) := by
 obtain ⟨g1, o1, rfl, hc⟩ := hX.at_ (by omega)
 obtain ⟨g2, o2, rfl, hd⟩ := hY.at_ (by omega)
 obtain ⟨A1, n1, c1, A2, n2, c2, ⟨r0, r1, r2, r3, r4, r5⟩, q1, q2⟩ := hc i hi
 obtain ⟨A3, n3, c3, ⟨s0, s1, s2⟩, q3⟩ := hd i hj
 clear hc hd hX hY
 generalize X i = x at *
 generalize Y i = y at *
 have hp2 : (i : Int) < n := by omega
 have hp3 : (0 : Int) ≤ i := by omega
 have hp4 : (i : Int) < m := by omega
 have hfg := hS.go
 go_enter Tryz.func105, Tryz.ntmps105
 go_wp2_with fail
 have b : Below w.heap.size w (World.drew w) := below_drewN (Below.refl _ _) 1
 have BB := b
 have hT1 := mv b rfl hT
 have G := mv b rfl (J15 t5 t3 t4 r0 r1 r2 r3 r4 r5 s0 s1 s2 q1 q2 q3)
 clear t5 t3 t4 r0 r1 r2 r3 r4 r5 s0 s1 s2 q1 q2 q3
 obtain ⟨t5, t3, t4, r0, r1, r2, r3, r4, r5, s0, s1, s2, q1, q2, q3⟩ := G
 clear b hT
 refine wp_region_held_drew (S := fun w' => w'.cell? ⟨b5, 0, none⟩ = some (.func (Fn.func f) #[] #[]) ∧ w'.cell? ⟨b3, 0, none⟩ = some (.slice (some ⟨g1, o1, none⟩) n c) ∧ w'.cell? ⟨b4, 0, none⟩ = some (.slice (some ⟨g2, o2, none⟩) m d) ∧ w'.cell? ⟨g1, o1 + i * 6, none⟩ = some (.bool x.lo.s) ∧ w'.cell? ⟨g1, o1 + i * 6 + 1, none⟩ = some (.slice A1 n1 c1) ∧ w'.cell? ⟨g1, o1 + i * 6 + 2, none⟩ = some (.int .i64 x.lo.e) ∧ w'.cell? ⟨g1, o1 + i * 6 + 3, none⟩ = some (.bool x.hi.s) ∧ w'.cell? ⟨g1, o1 + i * 6 + 4, none⟩ = some (.slice A2 n2 c2) ∧ w'.cell? ⟨g1, o1 + i * 6 + 5, none⟩ = some (.int .i64 x.hi.e) ∧ w'.cell? ⟨g2, o2 + i * 3, none⟩ = some (.bool y.s) ∧ w'.cell? ⟨g2, o2 + i * 3 + 1, none⟩ = some (.slice A3 n3 c3) ∧ w'.cell? ⟨g2, o2 + i * 3 + 2, none⟩ = some (.int .i64 y.e)) (by kernel_rfl) (by exact ⟨t5, t3, t4, r0, r1, r2, r3, r4, r5, s0, s1, s2⟩) (fun hHeldz0 => ?_)
 generalize World.drew w = wd at *
 refine tl 0 ?_
 refine tl 1 ?_
 refine tl 2 ?_
 refine tl 3 ?_
 refine tl 4 ?_
 refine tl 5 ?_
 refine tl 6 ?_
 refine tl 7 ?_
 refine tl 8 ?_
 refine rdy 9 fun K hK => ?_
 go_simp
 refine (hS.is hT1 q1 q2 q3).mono ?_
 rintro en w2 ⟨rfl, b⟩
 replace BB := below_next BB BB.size b (by rfl) (by rfl) (by rfl) (by rfl)
 have G := mv b (by rfl) <| And.intro t5 <| And.intro t3 <| And.intro t4 <| And.intro r0 <| And.intro r1 <| And.intro r2 <| And.intro r3 <| And.intro r4 <| And.intro r5 <| And.intro s0 <| And.intro s1 <| s2
 clear t5 t3 t4 r0 r1 r2 r3 r4 r5 s0 s1 s2
 obtain ⟨t5, t3, t4, r0, r1, r2, r3, r4, r5, s0, s1, s2⟩ := G
 clear b hT1 q1 q2 q3
 refine hK.out _ _ (by exact ⟨t5, t3, t4, r0, r1, r2, r3, r4, r5, s0, s1, s2⟩) (fun hHeldz1 => ?_)
 clear hK K hHeldz0
 try simp only [Act.put]
 refine tl 10 ?_
 refine wpAnyH_done (by kernel_rfl) ?_ _
 go_wp2
 exact bodyPost_ret (v := .bool (r x y)) (by simp [results, Tryz.results105, go_sem]) rfl ⟨rfl, BB⟩

theorem beachID_any {w : World} {n c m d : Nat} {A B : Option Addr} {X : Nat → Iv} {Y : Nat → Rw} {f : FuncId} {r : Iv → Rw → Bool} (hS : StandsID f r) (hT : Tab w) (hX : RdS w A n c X) (hY : RdD w B m d Y) (hn : n ≤ 1000000) :
  Calls Tryz.prog 58 #[.slice A n c, .slice B m d, .func (Fn.func f) #[] #[]] w (Bools (decide (n = m) && eachB n fun i => r (X i) (Y i)) w) := by
 have BB := three_below w (.cells #[.slice A n c] 39) (.cells #[.slice B m d] 50) (.cells #[.func (Fn.func f) #[] #[]] 94)
 obtain ⟨t3, t4, t5⟩ := three_at w (.slice A n c) (.slice B m d) (.func (Fn.func f) #[] #[]) 39 50 94
 have hT1 := mv BB rfl hT
 have hX1 := mv BB rfl hX
 have hY1 := mv BB rfl hY
 have hmf := make_func
 by_cases hnm : n = m
 ·subst hnm
  have HC := Lib.hid (ball3_any (f := 105) (p1 := .pointer (some ⟨w.heap.size + 2, 0, none⟩)) (p2 := .pointer (some ⟨w.heap.size, 0, none⟩)) (p3 := .pointer (some ⟨w.heap.size + 1, 0, none⟩)) (g := fun i => r (X i) (Y i)) hn (fun _ _ => by kernel_rfl) (fun i hi W2 b => beachID1_any hS (mv b rfl hT1) (cell_next b rfl t5) (cell_next b rfl t3) (cell_next b rfl t4) (mv b rfl hX1) (mv b rfl hY1) hi hi))
  rw [decide_eq_true rfl, Bool.true_and]
  clear hT hX hY hT1 hX1 hY1 hS
  generalize eachB n (fun i => r (X i) (Y i)) = q at *
  go_enter Tryz.func58, Tryz.ntmps58
  go_wp2_with fail
  refine HC.out.mono ?_
  rintro en w2 ⟨rfl, b⟩
  replace BB := bnx BB b
  go_wp2
  exact bodyPost_ret (v := .bool q) (by simp [results, Tryz.results58, go_sem]) rfl ⟨rfl, BB⟩
 ·rw [decide_eq_false hnm, Bool.false_and]
  clear hT hX hY hT1 hX1 hY1 hS
  have hnm2 : ¬ (n : Int) = (m : Int) := by omega
  go_enter Tryz.func58, Tryz.ntmps58
  go_wp2
  exact bodyPost_ret (v := .bool false) (by simp [results, Tryz.results58, go_sem]) rfl ⟨rfl, BB⟩

theorem stands_within {K : Nat} (hK : 4194304 ≤ K) : StandsII 22 (withinI K) := ⟨fun _ _ _ => by kernel_rfl, fun hT h1 h2 h3 h4 => iwithin_any hK hT h1 h2 h3 h4⟩

theorem bwithin_any {w : World} {K n c m d : Nat} {A B : Option Addr} {X : Nat → Iv} {Y : Nat → Iv} (hK : 4194304 ≤ K) (hT : Tab w) (hX : RdS w A n c X) (hY : RdS w B m d Y) (hn : n ≤ 1000000) :
  Calls Tryz.prog 21 #[.slice A n c, .slice B m d] w (Bools (decide (n = m) && eachB n fun i => withinI K (X i) (Y i)) w) := by
 have HC := Lib.hid (beachII_any (stands_within hK) hT hX hY hn)
 clear hT hX hY
 generalize (decide (n = m) && eachB n fun i => withinI K (X i) (Y i)) = q at *
 go_enter Tryz.func21, Tryz.ntmps21
 go_wp2_with fail
 refine HC.out.mono ?_
 rintro en w2 ⟨rfl, b⟩
 go_wp2
 exact bodyPost_ret (v := .bool q) (by simp [results, Tryz.results21, go_sem]) rfl ⟨rfl, b⟩

theorem stands_inside {K : Nat} (hK : 4194304 ≤ K) : StandsII 23 (insideI K) := ⟨fun _ _ _ => by kernel_rfl, fun hT h1 h2 h3 h4 => iinside_any hK hT h1 h2 h3 h4⟩

theorem binside_any {w : World} {K n c m d : Nat} {A B : Option Addr} {X : Nat → Iv} {Y : Nat → Iv} (hK : 4194304 ≤ K) (hT : Tab w) (hX : RdS w A n c X) (hY : RdS w B m d Y) (hn : n ≤ 1000000) :
  Calls Tryz.prog 25 #[.slice A n c, .slice B m d] w (Bools (decide (n = m) && eachB n fun i => insideI K (X i) (Y i)) w) := by
 have HC := Lib.hid (beachII_any (stands_inside hK) hT hX hY hn)
 clear hT hX hY
 generalize (decide (n = m) && eachB n fun i => insideI K (X i) (Y i)) = q at *
 go_enter Tryz.func25, Tryz.ntmps25
 go_wp2_with fail
 refine HC.out.mono ?_
 rintro en w2 ⟨rfl, b⟩
 go_wp2
 exact bodyPost_ret (v := .bool q) (by simp [results, Tryz.results25, go_sem]) rfl ⟨rfl, b⟩

theorem stands_has {K : Nat} (hK : 4194304 ≤ K) : StandsID 59 (hasI K) := ⟨fun _ _ _ => by kernel_rfl, fun hT h1 h2 h3 => ihas_any hK hT h1 h2 h3⟩

theorem bhas_any {w : World} {K n c m d : Nat} {A B : Option Addr} {X : Nat → Iv} {Y : Nat → Rw} (hK : 4194304 ≤ K) (hT : Tab w) (hX : RdS w A n c X) (hY : RdD w B m d Y) (hn : n ≤ 1000000) :
  Calls Tryz.prog 20 #[.slice A n c, .slice B m d] w (Bools (decide (n = m) && eachB n fun i => hasI K (X i) (Y i)) w) := by
 have HC := Lib.hid (beachID_any (stands_has hK) hT hX hY hn)
 clear hT hX hY
 generalize (decide (n = m) && eachB n fun i => hasI K (X i) (Y i)) = q at *
 go_enter Tryz.func20, Tryz.ntmps20
 go_wp2_with fail
 refine HC.out.mono ?_
 rintro en w2 ⟨rfl, b⟩
 go_wp2
 exact bodyPost_ret (v := .bool q) (by simp [results, Tryz.results20, go_sem]) rfl ⟨rfl, b⟩

end Go.Proofs.YtlpjlmophlikeaaGreatDoor
