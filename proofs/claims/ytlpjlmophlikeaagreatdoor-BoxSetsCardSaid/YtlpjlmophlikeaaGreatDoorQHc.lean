/-
 Contracts of box's over, made, both, Hull, Meet, at this translation. Condition: the slices read as limbs, the table of math/bits reads as its text lays it.
-/
import Derived.Test.YtlpjlmophlikeaaGreatDoorQHb
set_option maxHeartbeats 8000000
set_option maxRecDepth 100000
namespace Go.Proofs.YtlpjlmophlikeaaGreatDoor
open Go.RowKit


/-- how one ends that tells a Dyad and a code -/
def TellD (k : Int) (x : Rw) (w : World) (en : Ending) (w' : World) : Prop := ∃ A n c, en = .returned (.tuple #[.agg #[.bool x.s, .slice A n c, .int .i64 x.e], .int .i64 k]) ∧ Rd w' .u64 Go.Proofs.YtlpjlmophlikeaaGreatDoor.W A n c x.l ∧ Below w.heap.size w w'
theorem RdS.congr {w : World} {A : Option Addr} {n c : Nat} {X Y : Nat → Iv} (h : RdS w A n c X) (e : ∀ i, i < n → X i = Y i) : RdS w A n c Y := ⟨h.cap, h.max, fun hn => by
 obtain ⟨b, o, ha, hc⟩ := h.at_ hn
 exact ⟨b, o, ha, fun i hi => by rw [← e i hi]; exact hc i hi⟩⟩
theorem RdD.congr {w : World} {A : Option Addr} {n c : Nat} {X Y : Nat → Rw} (h : RdD w A n c X) (e : ∀ i, i < n → X i = Y i) : RdD w A n c Y := ⟨h.cap, h.max, fun hn => by
 obtain ⟨b, o, ha, hc⟩ := h.at_ hn
 exact ⟨b, o, ha, fun i hi => by rw [← e i hi]; exact hc i hi⟩⟩
/-- how one ends that tells n intervals, or the first error -/
def RowEndI (k : Int) (n : Nat) (x : Nat → Iv) (w : World) (en : Ending) (w' : World) : Prop := ∃ A m c, en = .returned (.tuple #[.slice A m c, .int .i64 k]) ∧ (k = 0 → m = n ∧ RdS w' A n c x) ∧ (k ≠ 0 → A = none ∧ m = 0 ∧ c = 0) ∧ Below w.heap.size w w'
def RowEndD (k : Int) (n : Nat) (x : Nat → Rw) (w : World) (en : Ending) (w' : World) : Prop := ∃ A m c, en = .returned (.tuple #[.slice A m c, .int .i64 k]) ∧ (k = 0 → m = n ∧ RdD w' A n c x) ∧ (k ≠ 0 → A = none ∧ m = 0 ∧ c = 0) ∧ Below w.heap.size w w'
/-- what stands while the rows are told one by one -/
structure MadeI (w0 : World) (b3 b6 g n : Nat) (vf : Value) (L : List Iv) (w : World) : Prop where
 below : Below w0.heap.size w0 w
 t3 : w.cell? ⟨b3, 0, none⟩ = some vf
 t6 : w.cell? ⟨b6, 0, none⟩ = some (.slice (some ⟨g, 0, none⟩) n n)
 row : IRow w w0.heap.size (.slice (some ⟨g, 0, none⟩) n n) L
structure MadeD (w0 : World) (b3 b6 g n : Nat) (vf : Value) (L : List Rw) (w : World) : Prop where
 below : Below w0.heap.size w0 w
 t3 : w.cell? ⟨b3, 0, none⟩ = some vf
 t6 : w.cell? ⟨b6, 0, none⟩ = some (.slice (some ⟨g, 0, none⟩) n n)
 row : HRow w w0.heap.size (.slice (some ⟨g, 0, none⟩) n n) L
theorem HRow.lower {w : World} {base b0 : Nat} {v : Value} {L : List Rw} (h : HRow w base v L) (hb : b0 ≤ base) : HRow w b0 v L := by
 obtain ⟨xs, h1, h2⟩ := h
 refine ⟨xs, ⟨⟨h1.1.1, ?_⟩, h1.2⟩, h2⟩
 rcases h1.1.2 with h3 | ⟨g, cap, cur, hv, h3, h4⟩
 ·exact .inl h3
 ·exact .inr ⟨g, cap, cur, hv, Nat.le_trans hb h3, h4⟩

theorem bover_any {w : World} {n : Nat} {f : FuncId} {p1 p2 : Value} {k : Nat → Int} {I : Nat → World → Prop} (hn : n ≤ 1000000) (hf : ∀ (v : Value) (W2 : World), (callFunc f #[v, p1, p2]).run Tryz.prog W2 = .ok (.enter f #[v, p1, p2]) W2) (h0 : I 0 w)
  (hg : ∀ i, i < n → ∀ W2 : World, I i W2 → Calls Tryz.prog f #[.int .i64 i, p1, p2] W2 fun en w' => en = .returned (.int .i64 (k i)) ∧ I (i + 1) w') :
  Calls Tryz.prog 96 #[.int .i64 n, .func (Fn.func f) #[] #[p1, p2]] w fun en w' => en = .returned (.int .i64 (firstE k n)) ∧ ∃ i, (firstE k n = 0 → i = n) ∧ I i w' := by
 have HGG := Lib.hid hg
 clear hg
 go_enter Tryz.func96, Tryz.ntmps96
 go_wp2
 go_loopg [8] n (fun q v wr => ∃ i : Nat, i + q = n ∧ v = .int .i64 i ∧ Hid (∀ j, j < i → k j = 0) ∧ I i wr)
 case atStart => exact ⟨0, by omega, rfl, Lib.hid fun j hj => absurd hj (Nat.not_lt_zero j), h0⟩
 case round =>
  obtain ⟨i, hq, rfl, HA, hI⟩ := hrel
  have HG := Lib.hid hq
  clear hq h0
  by_cases hi : i < n
  ·have hp2 : (i : Int) < n := by omega
   have HC := Lib.hid (HGG.out i hi wr hI)
   obtain ⟨ki, hki⟩ : ∃ b, b = k i := ⟨_, rfl⟩
   rw [← hki] at HC
   have HB := Lib.hid hki
   clear hki HGG hI
   by_cases hz : ki = 0
   ·subst hz
    go_wp2_with fail
    refine HC.out.mono ?_
    rintro en w2 ⟨rfl, hI2⟩
    clear HC
    go_wp2
    go_roundg (gk - 1)
    case measure => have := HG.out; omega
    case rel => exact ⟨i + 1, by have := HG.out; omega, by go_num, Lib.hid fun j hj => by
     rcases (show j < i ∨ j = i by omega) with h1 | rfl
     ·exact HA.out j h1
     ·exact HB.out.symm, hI2⟩
   ·have HE := Lib.hid (firstE_hit HA.out (fun h => hz (HB.out.trans h)) hi)
    go_wp2_with fail
    refine HC.out.mono ?_
    rintro en w2 ⟨rfl, hI2⟩
    clear HC
    go_wp2
    exact bodyPost_ret (v := .int .i64 ki) (by simp [results, Tryz.results96, go_sem]) rfl ⟨by rw [HE.out, HB.out], i + 1, fun h => absurd (HB.out.trans (HE.out.symm.trans h)) hz, hI2⟩
  ·have hk : i = n := by have := HG.out; omega
   subst hk
   clear HGG
   go_wp2
   have HE := Lib.hid (firstE_zero.2 HA.out)
   exact bodyPost_ret (v := .int .i64 0) (by simp [results, Tryz.results96, go_sem]) rfl ⟨by rw [HE.out], i, fun _ => rfl, hI⟩

theorem bmadeI1_any {w0 w : World} {i n g b3 b6 : Nat} {ft : FuncId} {q1 q2 q3 : Value} {k : Nat → Int} {x : Nat → Iv} (hi : i < n) (hf : ∀ (v : Value) (W2 : World), (callFunc ft #[v, q1, q2, q3]).run Tryz.prog W2 = .ok (.enter ft #[v, q1, q2, q3]) W2) (ht : ∀ i, i < n → ∀ W2 : World, Below w0.heap.size w0 W2 → Calls Tryz.prog ft #[.int .i64 i, q1, q2, q3] W2 (TellI (k i) (x i) W2)) (hgb : w0.heap.size ≤ g) (hne3 : b3 ≠ g) (hne6 : b6 ≠ g) (hM : MadeI w0 b3 b6 g n (.func (Fn.func ft) #[] #[q1, q2, q3]) (filX Iv.zero x n i) w) :
  Calls Tryz.prog 137 #[.int .i64 i, .pointer (some ⟨b3, 0, none⟩), .pointer (some ⟨b6, 0, none⟩)] w fun en w' => en = .returned (.int .i64 (k i)) ∧ MadeI w0 b3 b6 g n (.func (Fn.func ft) #[] #[q1, q2, q3]) (filX Iv.zero x n (i + 1)) w' := by
 obtain ⟨BB, t3, t6, hR⟩ := hM
 have b : Below w.heap.size w (World.drew w) := below_drewN (Below.refl _ _) 1
 replace BB := bnx BB b
 have G := mv b rfl (J3 t3 t6 hR)
 clear t3 t6 hR
 obtain ⟨t3, t6, hR⟩ := G
 have HC := Lib.hid (ht i hi _ BB)
 clear b ht
 obtain ⟨xx, hxx⟩ : ∃ q, q = x i := ⟨_, rfl⟩
 rw [← hxx] at HC
 have HX := Lib.hid hxx
 clear hxx
 have hp2 : (i : Int) < n := by omega
 have hp3 : (0 : Int) ≤ i := by omega
 obtain ⟨ki, hki⟩ : ∃ q, q = k i := ⟨_, rfl⟩
 rw [← hki] at HC ⊢
 clear hki
 go_enter Tryz.func137, Tryz.ntmps137
 go_wp2_with fail
 refine wp_region_held_drew (S := fun w' => w'.cell? ⟨b3, 0, none⟩ = some (.func (Fn.func ft) #[] #[q1, q2, q3]) ∧ w'.cell? ⟨b6, 0, none⟩ = some (.slice (some ⟨g, 0, none⟩) n n)) (by kernel_rfl) (by exact ⟨t3, t6⟩) (fun hHeldz0 => ?_)
 generalize World.drew w = wd at *
 refine tl 0 ?_
 refine tl 1 ?_
 refine tl 2 ?_
 refine tl 3 ?_
 refine rdy 4 fun K hK => ?_
 go_simp
 refine HC.out.mono ?_
 rintro en w2 ⟨A5, n5, c5, A6, n6, c6, rfl, h5, h6, b⟩
 replace BB := below_next BB BB.size b (by rfl) (by rfl) (by rfl) (by rfl)
 have G := mv b (by rfl) <| And.intro t3 <| And.intro t6 <| hR
 clear t3 t6 hR
 obtain ⟨t3, t6, hR⟩ := G
 clear b HC
 obtain ⟨⟨k0, k1, k2, k3, k4, k5, e0, e1, e2, e3, e4, e5⟩, f0, f1, f2, f3, f4, f5⟩ := hR.open6 (g := g) rfl (by rw [filX_len]; exact hi)
 refine hK.out _ _ (by exact ⟨t3, t6⟩) (fun hHeldz1 => ?_)
 clear hK K hHeldz0
 try simp only [Act.put]
 refine tl 5 ?_
 refine tl 6 ?_
 refine tl 7 ?_
 refine tl 8 ?_
 refine rdy 9 fun K hK => ?_
 go_simp
 have t3' := cell_oth (cell_oth (cell_oth (cell_oth (cell_oth (cell_oth (t3) hne3 (i * 6) (.bool xx.lo.s)) hne3 (i * 6 + 1) (.slice A5 n5 c5)) hne3 (i * 6 + 2) (.int .i64 xx.lo.e)) hne3 (i * 6 + 3) (.bool xx.hi.s)) hne3 (i * 6 + 4) (.slice A6 n6 c6)) hne3 (i * 6 + 5) (.int .i64 xx.hi.e)
 have t6' := cell_oth (cell_oth (cell_oth (cell_oth (cell_oth (cell_oth (t6) hne6 (i * 6) (.bool xx.lo.s)) hne6 (i * 6 + 1) (.slice A5 n5 c5)) hne6 (i * 6 + 2) (.int .i64 xx.lo.e)) hne6 (i * 6 + 3) (.bool xx.hi.s)) hne6 (i * 6 + 4) (.slice A6 n6 c6)) hne6 (i * 6 + 5) (.int .i64 xx.hi.e)
 have hR3 := hR.setAt (g := g) rfl (by rw [filX_len]; exact hi) h5 h6
 have HB3 := below_at6 (i := i) BB hgb (.bool xx.lo.s) (.slice A5 n5 c5) (.int .i64 xx.lo.e) (.bool xx.hi.s) (.slice A6 n6 c6) (.int .i64 xx.hi.e)
 refine hK.out _ _ (by exact ⟨t3', t6'⟩) (fun hHeldz2 => ?_)
 clear hK K hHeldz1
 try simp only [Act.put]
 refine tl 10 ?_
 refine wpAnyH_done (by kernel_rfl) ?_ _
 go_wp2
 exact bodyPost_ret (v := .int .i64 ki) (by simp [results, Tryz.results137, go_sem]) rfl ⟨rfl, HB3, t3', t6', by rw [← filX_next, ← HX.out]; exact hR3⟩

theorem bmadeI_any {w0 : World} {n : Nat} {ft : FuncId} {q1 q2 q3 : Value} {k : Nat → Int} {x : Nat → Iv} (hn : n ≤ 1000000) (hf : ∀ (v : Value) (W2 : World), (callFunc ft #[v, q1, q2, q3]).run Tryz.prog W2 = .ok (.enter ft #[v, q1, q2, q3]) W2) (ht : ∀ i, i < n → ∀ W2 : World, Below w0.heap.size w0 W2 → Calls Tryz.prog ft #[.int .i64 i, q1, q2, q3] W2 (TellI (k i) (x i) W2)) :
  Calls Tryz.prog 101 #[.int .i64 n, .func (Fn.func ft) #[] #[q1, q2, q3]] w0 (RowEndI (firstE k n) n x w0) := by
 have BB := below_alloc w0 (.cells #[.func (Fn.func ft) #[] #[q1, q2, q3]] 122)
 have t3 : World.cell? _ ⟨_, 0, none⟩ = some (.func (Fn.func ft) #[] #[q1, q2, q3]) := (Blk.new w0 #[.func (Fn.func ft) #[] #[q1, q2, q3]] 122).at 0
 have hmf := make_func
 have sz : (w0.alloc (.cells #[.func (Fn.func ft) #[] #[q1, q2, q3]] 122)).heap.size = w0.heap.size + 1 := by simp
 have HSZ := Lib.hid sz
 clear sz
 have HT := Lib.hid ht
 clear ht
 have HF := Lib.hid hf
 clear hf
 go_enter Tryz.func101, Tryz.ntmps101
 go_upto_region 1 with fail
 generalize w0.alloc (.cells #[.func (Fn.func ft) #[] #[q1, q2, q3]] 122) = W1 at *
 have hz3 : (0 : Int) ≤ n := by omega
 go_wp2_with (at_make; refine law_makeI rfl (.tmp 8) rfl _ n rfl rfl (by omega) ?_; intro w2 hR hg)
 have b := (Below.refl W1.heap.size W1).grown hg (Nat.le_refl _) (fun _ e => by cases e)
 replace BB := bnx BB b
 replace t3 := mv b rfl t3
 have hl2 := (hR.lt W1.heap.size rfl).2
 clear b hg
 have b := below_alloc w2 (.cells #[.slice (some ⟨W1.heap.size, 0, none⟩) n n] 39)
 have t6 : World.cell? _ ⟨_, 0, none⟩ = some (.slice (some ⟨W1.heap.size, 0, none⟩) n n) := (Blk.new w2 #[.slice (some ⟨W1.heap.size, 0, none⟩) n n] 39).at 0
 replace BB := bnx BB b
 have G := mv b rfl <| And.intro t3 <| hR
 clear t3 hR
 obtain ⟨t3, hR⟩ := G
 clear b
 go_upto_region 2 with fail
 generalize w2.alloc (.cells #[.slice (some ⟨W1.heap.size, 0, none⟩) n n] 39) = W3 at *
 have HS1 := HSZ.out
 generalize W1.heap.size = g at *
 have HL2 := Lib.hid hl2
 clear hl2
 obtain ⟨g6, hg6⟩ : ∃ q, q = w2.heap.size := ⟨_, rfl⟩
 rw [← hg6] at t6 HL2
 rw [← filX_zero (X := x)] at hR
 have hM : MadeI w0 w0.heap.size g6 g n (.func (Fn.func ft) #[] #[q1, q2, q3]) (filX Iv.zero x n 0) W3 := ⟨BB, t3, t6, hR.lower (by omega)⟩
 have HC := Lib.hid (bover_any (f := 137) (p1 := .pointer (some ⟨w0.heap.size, 0, none⟩)) (p2 := .pointer (some ⟨g6, 0, none⟩)) (k := k) (I := fun i W => MadeI w0 w0.heap.size g6 g n (.func (Fn.func ft) #[] #[q1, q2, q3]) (filX Iv.zero x n i) W) hn (fun _ _ => by kernel_rfl) hM (fun i hi W2 h => bmadeI1_any hi HF.out HT.out (by omega) (by omega) (by have := HL2.out; omega) h))
 clear hM t3 hR HT BB
 generalize hkk : firstE k n = kk at *
 clear hkk
 rw [hg6] at HC
 go_wp2_with fail
 refine HC.out.mono ?_
 rintro en w4 ⟨rfl, i, hin, hM⟩
 clear HC
 by_cases hz : kk = 0
 ·subst hz
  obtain rfl := hin rfl
  obtain ⟨BB, _, t6', hR⟩ := hM
  obtain ⟨A, c, hv, hrd, _⟩ := hR.form
  rw [filX_len] at hv hrd
  injection hv with e1 e2 e3
  subst e1 e3
  go_wp2
  exact bodyPost_ret (v := .tuple #[.slice (some ⟨g, 0, none⟩) i i, .int .i64 0]) (by simp [results, Tryz.results101, go_sem]) rfl ⟨_, _, _, rfl, fun _ => ⟨rfl, hrd.congr fun j hj => filX_get hj⟩, fun h => absurd rfl h, BB⟩
 ·go_wp2
  exact bodyPost_ret (v := .tuple #[.slice none 0 0, .int .i64 kk]) (by simp [results, Tryz.results101, go_sem]) rfl ⟨_, _, _, rfl, fun h => absurd h hz, fun _ => ⟨rfl, rfl, rfl⟩, hM.below⟩

theorem bmadeD1_any {w0 w : World} {i n g b3 b6 : Nat} {ft : FuncId} {q1 q2 : Value} {k : Nat → Int} {x : Nat → Rw} (hi : i < n) (hf : ∀ (v : Value) (W2 : World), (callFunc ft #[v, q1, q2]).run Tryz.prog W2 = .ok (.enter ft #[v, q1, q2]) W2) (ht : ∀ i, i < n → ∀ W2 : World, Below w0.heap.size w0 W2 → Calls Tryz.prog ft #[.int .i64 i, q1, q2] W2 (TellD (k i) (x i) W2)) (hgb : w0.heap.size ≤ g) (hne3 : b3 ≠ g) (hne6 : b6 ≠ g) (hM : MadeD w0 b3 b6 g n (.func (Fn.func ft) #[] #[q1, q2]) (filX Rw.zero x n i) w) :
  Calls Tryz.prog 99 #[.int .i64 i, .pointer (some ⟨b3, 0, none⟩), .pointer (some ⟨b6, 0, none⟩)] w fun en w' => en = .returned (.int .i64 (k i)) ∧ MadeD w0 b3 b6 g n (.func (Fn.func ft) #[] #[q1, q2]) (filX Rw.zero x n (i + 1)) w' := by
 obtain ⟨BB, t3, t6, hR⟩ := hM
 have b : Below w.heap.size w (World.drew w) := below_drewN (Below.refl _ _) 1
 replace BB := bnx BB b
 have G := mv b rfl (J3 t3 t6 hR)
 clear t3 t6 hR
 obtain ⟨t3, t6, hR⟩ := G
 have HC := Lib.hid (ht i hi _ BB)
 clear b ht
 obtain ⟨xx, hxx⟩ : ∃ q, q = x i := ⟨_, rfl⟩
 rw [← hxx] at HC
 have HX := Lib.hid hxx
 clear hxx
 have hp2 : (i : Int) < n := by omega
 have hp3 : (0 : Int) ≤ i := by omega
 obtain ⟨ki, hki⟩ : ∃ q, q = k i := ⟨_, rfl⟩
 rw [← hki] at HC ⊢
 clear hki
 go_enter Tryz.func99, Tryz.ntmps99
 go_wp2_with fail
 refine wp_region_held_drew (S := fun w' => w'.cell? ⟨b3, 0, none⟩ = some (.func (Fn.func ft) #[] #[q1, q2]) ∧ w'.cell? ⟨b6, 0, none⟩ = some (.slice (some ⟨g, 0, none⟩) n n)) (by kernel_rfl) (by exact ⟨t3, t6⟩) (fun hHeldz0 => ?_)
 generalize World.drew w = wd at *
 refine tl 0 ?_
 refine tl 1 ?_
 refine tl 2 ?_
 refine tl 3 ?_
 refine rdy 4 fun K hK => ?_
 go_simp
 refine HC.out.mono ?_
 rintro en w2 ⟨A5, n5, c5, rfl, h5, b⟩
 replace BB := below_next BB BB.size b (by rfl) (by rfl) (by rfl) (by rfl)
 have G := mv b (by rfl) <| And.intro t3 <| And.intro t6 <| hR
 clear t3 t6 hR
 obtain ⟨t3, t6, hR⟩ := G
 clear b HC
 obtain ⟨⟨k0, k1, k2, e0, e1, e2⟩, f0, f1, f2⟩ := hR.open3 (g := g) rfl (by rw [filX_len]; exact hi)
 refine hK.out _ _ (by exact ⟨t3, t6⟩) (fun hHeldz1 => ?_)
 clear hK K hHeldz0
 try simp only [Act.put]
 refine tl 5 ?_
 refine tl 6 ?_
 refine tl 7 ?_
 refine tl 8 ?_
 refine rdy 9 fun K hK => ?_
 go_simp
 have t3' := cell_oth (cell_oth (cell_oth (t3) hne3 (i * 3) (.bool xx.s)) hne3 (i * 3 + 1) (.slice A5 n5 c5)) hne3 (i * 3 + 2) (.int .i64 xx.e)
 have t6' := cell_oth (cell_oth (cell_oth (t6) hne6 (i * 3) (.bool xx.s)) hne6 (i * 3 + 1) (.slice A5 n5 c5)) hne6 (i * 3 + 2) (.int .i64 xx.e)
 have hR3 := hR.setAt (g := g) rfl (by rw [filX_len]; exact hi) h5
 have HB3 := below_at3 (i := i) BB hgb (.bool xx.s) (.slice A5 n5 c5) (.int .i64 xx.e)
 refine hK.out _ _ (by exact ⟨t3', t6'⟩) (fun hHeldz2 => ?_)
 clear hK K hHeldz1
 try simp only [Act.put]
 refine tl 10 ?_
 refine wpAnyH_done (by kernel_rfl) ?_ _
 go_wp2
 exact bodyPost_ret (v := .int .i64 ki) (by simp [results, Tryz.results99, go_sem]) rfl ⟨rfl, HB3, t3', t6', by rw [← filX_next, ← HX.out]; exact hR3⟩

theorem bmadeD_any {w0 : World} {n : Nat} {ft : FuncId} {q1 q2 : Value} {k : Nat → Int} {x : Nat → Rw} (hn : n ≤ 1000000) (hf : ∀ (v : Value) (W2 : World), (callFunc ft #[v, q1, q2]).run Tryz.prog W2 = .ok (.enter ft #[v, q1, q2]) W2) (ht : ∀ i, i < n → ∀ W2 : World, Below w0.heap.size w0 W2 → Calls Tryz.prog ft #[.int .i64 i, q1, q2] W2 (TellD (k i) (x i) W2)) :
  Calls Tryz.prog 53 #[.int .i64 n, .func (Fn.func ft) #[] #[q1, q2]] w0 (RowEndD (firstE k n) n x w0) := by
 have BB := below_alloc w0 (.cells #[.func (Fn.func ft) #[] #[q1, q2]] 91)
 have t3 : World.cell? _ ⟨_, 0, none⟩ = some (.func (Fn.func ft) #[] #[q1, q2]) := (Blk.new w0 #[.func (Fn.func ft) #[] #[q1, q2]] 91).at 0
 have hmf := make_func
 have sz : (w0.alloc (.cells #[.func (Fn.func ft) #[] #[q1, q2]] 91)).heap.size = w0.heap.size + 1 := by simp
 have HSZ := Lib.hid sz
 clear sz
 have HT := Lib.hid ht
 clear ht
 have HF := Lib.hid hf
 clear hf
 go_enter Tryz.func53, Tryz.ntmps53
 go_upto_region 1 with fail
 generalize w0.alloc (.cells #[.func (Fn.func ft) #[] #[q1, q2]] 91) = W1 at *
 have hz3 : (0 : Int) ≤ n := by omega
 go_wp2_with (at_make; refine law_makeHr rfl (.tmp 8) rfl _ n rfl rfl (by omega) ?_; intro w2 hR hg)
 have b := (Below.refl W1.heap.size W1).grown hg (Nat.le_refl _) (fun _ e => by cases e)
 replace BB := bnx BB b
 replace t3 := mv b rfl t3
 have hl2 := (hR.lt W1.heap.size rfl).2
 clear b hg
 have b := below_alloc w2 (.cells #[.slice (some ⟨W1.heap.size, 0, none⟩) n n] 50)
 have t6 : World.cell? _ ⟨_, 0, none⟩ = some (.slice (some ⟨W1.heap.size, 0, none⟩) n n) := (Blk.new w2 #[.slice (some ⟨W1.heap.size, 0, none⟩) n n] 50).at 0
 replace BB := bnx BB b
 have G := mv b rfl <| And.intro t3 <| hR
 clear t3 hR
 obtain ⟨t3, hR⟩ := G
 clear b
 go_upto_region 2 with fail
 generalize w2.alloc (.cells #[.slice (some ⟨W1.heap.size, 0, none⟩) n n] 50) = W3 at *
 have HS1 := HSZ.out
 generalize W1.heap.size = g at *
 have HL2 := Lib.hid hl2
 clear hl2
 obtain ⟨g6, hg6⟩ : ∃ q, q = w2.heap.size := ⟨_, rfl⟩
 rw [← hg6] at t6 HL2
 rw [← filX_zero (X := x)] at hR
 have hM : MadeD w0 w0.heap.size g6 g n (.func (Fn.func ft) #[] #[q1, q2]) (filX Rw.zero x n 0) W3 := ⟨BB, t3, t6, hR.lower (by omega)⟩
 have HC := Lib.hid (bover_any (f := 99) (p1 := .pointer (some ⟨w0.heap.size, 0, none⟩)) (p2 := .pointer (some ⟨g6, 0, none⟩)) (k := k) (I := fun i W => MadeD w0 w0.heap.size g6 g n (.func (Fn.func ft) #[] #[q1, q2]) (filX Rw.zero x n i) W) hn (fun _ _ => by kernel_rfl) hM (fun i hi W2 h => bmadeD1_any hi HF.out HT.out (by omega) (by omega) (by have := HL2.out; omega) h))
 clear hM t3 hR HT BB
 generalize hkk : firstE k n = kk at *
 clear hkk
 rw [hg6] at HC
 go_wp2_with fail
 refine HC.out.mono ?_
 rintro en w4 ⟨rfl, i, hin, hM⟩
 clear HC
 by_cases hz : kk = 0
 ·subst hz
  obtain rfl := hin rfl
  obtain ⟨BB, _, t6', hR⟩ := hM
  obtain ⟨A, c, hv, hrd, _⟩ := hR.form
  rw [filX_len] at hv hrd
  injection hv with e1 e2 e3
  subst e1 e3
  go_wp2
  exact bodyPost_ret (v := .tuple #[.slice (some ⟨g, 0, none⟩) i i, .int .i64 0]) (by simp [results, Tryz.results53, go_sem]) rfl ⟨_, _, _, rfl, fun _ => ⟨rfl, hrd.congr fun j hj => filX_get hj⟩, fun h => absurd rfl h, BB⟩
 ·go_wp2
  exact bodyPost_ret (v := .tuple #[.slice none 0 0, .int .i64 kk]) (by simp [results, Tryz.results53, go_sem]) rfl ⟨_, _, _, rfl, fun h => absurd h hz, fun _ => ⟨rfl, rfl, rfl⟩, hM.below⟩

/-- a function that tells an interval of two -/
structure Reckons (f : FuncId) (kk : Iv → Iv → Int) (xx : Iv → Iv → Iv) : Prop where
 go : ∀ (u v : Value) (W2 : World), (callFunc f #[u, v]).run Tryz.prog W2 = .ok (.enter f #[u, v]) W2
 is : ∀ {W : World} {x y : Iv} {A1 : Option Addr} {n1 c1 : Nat} {A2 : Option Addr} {n2 c2 : Nat} {A3 : Option Addr} {n3 c3 : Nat} {A4 : Option Addr} {n4 c4 : Nat}, Tab W → Rd W .u64 Go.Proofs.YtlpjlmophlikeaaGreatDoor.W A1 n1 c1 x.lo.l → Rd W .u64 Go.Proofs.YtlpjlmophlikeaaGreatDoor.W A2 n2 c2 x.hi.l → Rd W .u64 Go.Proofs.YtlpjlmophlikeaaGreatDoor.W A3 n3 c3 y.lo.l → Rd W .u64 Go.Proofs.YtlpjlmophlikeaaGreatDoor.W A4 n4 c4 y.hi.l → Calls Tryz.prog f #[.agg #[.bool x.lo.s, .slice A1 n1 c1, .int .i64 x.lo.e, .bool x.hi.s, .slice A2 n2 c2, .int .i64 x.hi.e], .agg #[.bool y.lo.s, .slice A3 n3 c3, .int .i64 y.lo.e, .bool y.hi.s, .slice A4 n4 c4, .int .i64 y.hi.e]] W (TellI (kk x y) (xx x y) W)

theorem bboth1_any {w : World} {b3 b4 b5 i n c m d : Nat} {A B : Option Addr} {X Y : Nat → Iv} {f : FuncId} {kk : Iv → Iv → Int} {xx : Iv → Iv → Iv} (hS : Reckons f kk xx) (hT : Tab w) (t5 : w.cell? ⟨b5, 0, none⟩ = some (.func (Fn.func f) #[] #[])) (t3 : w.cell? ⟨b3, 0, none⟩ = some (.slice A n c)) (t4 : w.cell? ⟨b4, 0, none⟩ = some (.slice B m d)) (hX : RdS w A n c X) (hY : RdS w B m d Y) (hi : i < n) (hj : i < m) :
  Calls Tryz.prog 102 #[.int .i64 i, .pointer (some ⟨b5, 0, none⟩), .pointer (some ⟨b3, 0, none⟩), .pointer (some ⟨b4, 0, none⟩)] w (TellI (kk (X i) (Y i)) (xx (X i) (Y i)) w) := by
 obtain ⟨g1, o1, rfl, hc⟩ := hX.at_ (by omega)
 obtain ⟨g2, o2, rfl, hd⟩ := hY.at_ (by omega)
 obtain ⟨A1, n1, c1, A2, n2, c2, ⟨r0, r1, r2, r3, r4, r5⟩, q1, q2⟩ := hc i hi
 obtain ⟨A3, n3, c3, A4, n4, c4, ⟨s0, s1, s2, s3, s4, s5⟩, q3, q4⟩ := hd i hj
 clear hc hd hX hY
 generalize X i = x at *
 generalize Y i = y at *
 have hp2 : (i : Int) < n := by omega
 have hp3 : (0 : Int) ≤ i := by omega
 have hp4 : (i : Int) < m := by omega
 have hfg := hS.go
 have e5 := Nat.ne_of_lt (World.block_lt_of_cell? w _ t5)
 have e3 := Nat.ne_of_lt (World.block_lt_of_cell? w _ t3)
 have e4 := Nat.ne_of_lt (World.block_lt_of_cell? w _ t4)
 have eg1 := Nat.ne_of_lt (World.block_lt_of_cell? w _ r0)
 have eg2 := Nat.ne_of_lt (World.block_lt_of_cell? w _ s0)
 have b := below_alloc w (.cells #[.bool false, .slice none 0 0, .int .i64 0, .bool false, .slice none 0 0, .int .i64 0] 29)
 have BB := b
 have hT1 := mv b rfl hT
 have r := Ibx.new w false none 0 0 0 false none 0 0 0
 have G := mv b rfl (J19 t5 t3 t4 r0 r1 r2 r3 r4 r5 s0 s1 s2 s3 s4 s5 q1 q2 q3 q4)
 clear t5 t3 t4 r0 r1 r2 r3 r4 r5 s0 s1 s2 s3 s4 s5 q1 q2 q3 q4
 obtain ⟨t5, t3, t4, r0, r1, r2, r3, r4, r5, s0, s1, s2, s3, s4, s5, q1, q2, q3, q4⟩ := G
 clear b hT
 go_enter Tryz.func102, Tryz.ntmps102
 go_upto_region 1 with fail
 generalize w.alloc (.cells #[.bool false, .slice none 0 0, .int .i64 0, .bool false, .slice none 0 0, .int .i64 0] 29) = W1 at *
 have b : Below W1.heap.size W1 (World.drew W1) := below_drewN (Below.refl _ _) 1
 replace BB := bnx BB b
 have G := mv b rfl (J21 hT1 r t5 t3 t4 r0 r1 r2 r3 r4 r5 s0 s1 s2 s3 s4 s5 q1 q2 q3 q4)
 clear hT1 r t5 t3 t4 r0 r1 r2 r3 r4 r5 s0 s1 s2 s3 s4 s5 q1 q2 q3 q4
 obtain ⟨hT1, r, t5, t3, t4, r0, r1, r2, r3, r4, r5, s0, s1, s2, s3, s4, s5, q1, q2, q3, q4⟩ := G
 clear b
 go_wp2_with fail
 refine wp_region_held_drew (S := fun w' => w'.cell? ⟨b5, 0, none⟩ = some (.func (Fn.func f) #[] #[]) ∧ w'.cell? ⟨b3, 0, none⟩ = some (.slice (some ⟨g1, o1, none⟩) n c) ∧ w'.cell? ⟨b4, 0, none⟩ = some (.slice (some ⟨g2, o2, none⟩) m d) ∧ w'.cell? ⟨g1, o1 + i * 6, none⟩ = some (.bool x.lo.s) ∧ w'.cell? ⟨g1, o1 + i * 6 + 1, none⟩ = some (.slice A1 n1 c1) ∧ w'.cell? ⟨g1, o1 + i * 6 + 2, none⟩ = some (.int .i64 x.lo.e) ∧ w'.cell? ⟨g1, o1 + i * 6 + 3, none⟩ = some (.bool x.hi.s) ∧ w'.cell? ⟨g1, o1 + i * 6 + 4, none⟩ = some (.slice A2 n2 c2) ∧ w'.cell? ⟨g1, o1 + i * 6 + 5, none⟩ = some (.int .i64 x.hi.e) ∧ w'.cell? ⟨g2, o2 + i * 6, none⟩ = some (.bool y.lo.s) ∧ w'.cell? ⟨g2, o2 + i * 6 + 1, none⟩ = some (.slice A3 n3 c3) ∧ w'.cell? ⟨g2, o2 + i * 6 + 2, none⟩ = some (.int .i64 y.lo.e) ∧ w'.cell? ⟨g2, o2 + i * 6 + 3, none⟩ = some (.bool y.hi.s) ∧ w'.cell? ⟨g2, o2 + i * 6 + 4, none⟩ = some (.slice A4 n4 c4) ∧ w'.cell? ⟨g2, o2 + i * 6 + 5, none⟩ = some (.int .i64 y.hi.e)) (by kernel_rfl) (by exact ⟨t5, t3, t4, r0, r1, r2, r3, r4, r5, s0, s1, s2, s3, s4, s5⟩) (fun hHeldz0 => ?_)
 generalize World.drew W1 = wd at *
 refine tl 0 ?_
 refine tl 1 ?_
 refine tl 2 ?_
 refine tl 3 ?_
 refine tl 4 ?_
 refine tl 5 ?_
 refine tl 6 ?_
 refine tl 7 ?_
 refine tl 8 ?_
 refine rdy 9 fun K hK => ?_
 go_simp
 refine (hS.is hT1 q1 q2 q3 q4).mono ?_
 rintro en w2 ⟨A5, n5, c5, A6, n6, c6, rfl, h5, h6, b⟩
 replace BB := below_next BB BB.size b (by rfl) (by rfl) (by rfl) (by rfl)
 have G := mv b (by rfl) <| And.intro t5 <| And.intro t3 <| And.intro t4 <| And.intro r0 <| And.intro r1 <| And.intro r2 <| And.intro r3 <| And.intro r4 <| And.intro r5 <| And.intro s0 <| And.intro s1 <| And.intro s2 <| And.intro s3 <| And.intro s4 <| And.intro s5 <| r
 clear t5 t3 t4 r0 r1 r2 r3 r4 r5 s0 s1 s2 s3 s4 s5 r
 obtain ⟨t5, t3, t4, r0, r1, r2, r3, r4, r5, s0, s1, s2, s3, s4, s5, r⟩ := G
 clear b hT1 q1 q2 q3 q4
 obtain ⟨f0, f1, f2, f3, f4, f5⟩ := r.open
 obtain ⟨z0, z1, z2, z3, z4, z5⟩ := r.held
 refine hK.out _ _ (by exact ⟨t5, t3, t4, r0, r1, r2, r3, r4, r5, s0, s1, s2, s3, s4, s5⟩) (fun hHeldz1 => ?_)
 clear hK K hHeldz0
 try simp only [Act.put]
 refine tl 10 ?_
 refine tl 11 ?_
 refine rdy 12 fun K hK => ?_
 go_simp
 refine hK.out _ _ (by exact ⟨cell_oth6 t5 e5, cell_oth6 t3 e3, cell_oth6 t4 e4, cell_oth6 r0 eg1, cell_oth6 r1 eg1, cell_oth6 r2 eg1, cell_oth6 r3 eg1, cell_oth6 r4 eg1, cell_oth6 r5 eg1, cell_oth6 s0 eg2, cell_oth6 s1 eg2, cell_oth6 s2 eg2, cell_oth6 s3 eg2, cell_oth6 s4 eg2, cell_oth6 s5 eg2⟩) (fun hHeldz2 => ?_)
 clear hK K hHeldz1
 try simp only [Act.put]
 refine tl 13 ?_
 refine wpAnyH_done (by kernel_rfl) ?_ _
 go_wp2
 generalize xx x y = xq at *
 have qq := r.put xq.lo.s A5 n5 c5 xq.lo.e xq.hi.s A6 n6 c6 xq.hi.e
 have hN := h5.put6 r (.bool xq.lo.s) (.slice A5 n5 c5) (.int .i64 xq.lo.e) (.bool xq.hi.s) (.slice A6 n6 c6) (.int .i64 xq.hi.e)
 have hM := h6.put6 r (.bool xq.lo.s) (.slice A5 n5 c5) (.int .i64 xq.lo.e) (.bool xq.hi.s) (.slice A6 n6 c6) (.int .i64 xq.hi.e)
 have HB3 := below_put6 (g := w.heap.size) BB (by omega) (.bool xq.lo.s) (.slice A5 n5 c5) (.int .i64 xq.lo.e) (.bool xq.hi.s) (.slice A6 n6 c6) (.int .i64 xq.hi.e)
 obtain ⟨z0, z1, z2, z3, z4, z5⟩ := qq.held
 exact bodyPost_ret (v := .tuple #[.agg #[.bool xq.lo.s, .slice A5 n5 c5, .int .i64 xq.lo.e, .bool xq.hi.s, .slice A6 n6 c6, .int .i64 xq.hi.e], .int .i64 (kk x y)]) (by simp [results, Tryz.results102, go_sem, z0, z1, z2, z3, z4, z5]) rfl ⟨_, _, _, _, _, _, rfl, hN, hM, HB3⟩

theorem bboth_no {w : World} {K n c m d : Nat} {A B : Option Addr} {X Y : Nat → Iv} {f : FuncId} {xx : Iv → Iv → Iv} (hK : 4194304 ≤ K) (hT : Tab w) (hX : RdS w A n c X) (hY : RdS w B m d Y) (hn : n ≤ 1000000) (hm' : m ≤ 1000000) (h : ¬ (n = m ∧ (eachB n fun i => mayI K (X i)) = true ∧ (eachB m fun i => mayI K (Y i)) = true)) :
  Calls Tryz.prog 56 #[.slice A n c, .slice B m d, .func (Fn.func f) #[] #[]] w (RowEndI 1 n (fun i => xx (X i) (Y i)) w) := by
 have BB := three_below w (.cells #[.slice A n c] 39) (.cells #[.slice B m d] 39) (.cells #[.func (Fn.func f) #[] #[]] 58)
 obtain ⟨t3, t4, t5⟩ := three_at w (.slice A n c) (.slice B m d) (.func (Fn.func f) #[] #[]) 39 39 58
 have hT1 := mv BB rfl hT
 have hX1 := mv BB rfl hX
 have hY1 := mv BB rfl hY
 have hmf := make_func
 clear hT hX hY t5
 by_cases hnm : n = m
 ·subst hnm
  cases ha : eachB n fun i => mayI K (X i)
  ·have HA := Lib.hid ha
   clear ha h
   go_enter Tryz.func56, Tryz.ntmps56
   go_wp2_with fail
   refine (bmay_any hK hT1 hX1 hn).mono ?_
   rintro en w2 ⟨rfl, b⟩
   rw [HA.out]
   replace BB := bnx BB b
   clear b hX1 hY1 hT1
   go_wp2
   exact bodyPost_ret (v := .tuple #[.slice none 0 0, .int .i64 1]) (by simp [results, Tryz.results56, go_sem]) rfl ⟨_, _, _, rfl, fun h => absurd h (by decide), fun _ => ⟨rfl, rfl, rfl⟩, BB⟩
  ·have hb : (eachB n fun i => mayI K (Y i)) = false := Bool.eq_false_iff.2 fun hb => h ⟨rfl, ha, hb⟩
   have HA := Lib.hid ha
   have HB := Lib.hid hb
   clear ha hb h
   go_enter Tryz.func56, Tryz.ntmps56
   go_wp2_with fail
   refine (bmay_any hK hT1 hX1 hn).mono ?_
   rintro en w2 ⟨rfl, b⟩
   rw [HA.out]
   replace BB := bnx BB b
   have G := mv b rfl (J5 t3 t4 hT1 hX1 hY1)
   clear t3 t4 hT1 hX1 hY1
   obtain ⟨t3, t4, hT1, hX1, hY1⟩ := G
   clear b
   go_wp2_with fail
   refine (bmay_any hK hT1 hY1 hm').mono ?_
   rintro en w3 ⟨rfl, b⟩
   rw [HB.out]
   replace BB := bnx BB b
   clear b hX1 hY1 hT1
   go_wp2
   exact bodyPost_ret (v := .tuple #[.slice none 0 0, .int .i64 1]) (by simp [results, Tryz.results56, go_sem]) rfl ⟨_, _, _, rfl, fun h => absurd h (by decide), fun _ => ⟨rfl, rfl, rfl⟩, BB⟩
 ·have hnm2 : ¬ (n : Int) = (m : Int) := by omega
  clear h hX1 hY1 hT1
  go_enter Tryz.func56, Tryz.ntmps56
  go_wp2
  exact bodyPost_ret (v := .tuple #[.slice none 0 0, .int .i64 1]) (by simp [results, Tryz.results56, go_sem]) rfl ⟨_, _, _, rfl, fun h => absurd h (by decide), fun _ => ⟨rfl, rfl, rfl⟩, BB⟩

theorem bboth_ok {w : World} {K n c m d : Nat} {A B : Option Addr} {X Y : Nat → Iv} {f : FuncId} {kk : Iv → Iv → Int} {xx : Iv → Iv → Iv} (hK : 4194304 ≤ K) (hS : Reckons f kk xx) (hT : Tab w) (hX : RdS w A n c X) (hY : RdS w B m d Y) (hn : n ≤ 1000000) (hm' : m ≤ 1000000) (hnm : n = m) (ha : (eachB n fun i => mayI K (X i)) = true) (hb : (eachB m fun i => mayI K (Y i)) = true) {ke : Int} {xr : Nat → Iv} (hke : Hid (firstE (fun i => kk (X i) (Y i)) n = ke)) (hxr : Hid ((fun i => xx (X i) (Y i)) = xr)) :
  Calls Tryz.prog 56 #[.slice A n c, .slice B m d, .func (Fn.func f) #[] #[]] w (RowEndI ke n xr w) := by
 have BB := three_below w (.cells #[.slice A n c] 39) (.cells #[.slice B m d] 39) (.cells #[.func (Fn.func f) #[] #[]] 58)
 obtain ⟨t3, t4, t5⟩ := three_at w (.slice A n c) (.slice B m d) (.func (Fn.func f) #[] #[]) 39 39 58
 have hT1 := mv BB rfl hT
 have hX1 := mv BB rfl hX
 have hY1 := mv BB rfl hY
 have hmf := make_func
 subst hnm
 have HA := Lib.hid ha
 have HB := Lib.hid hb
 clear ha hb hT hX hY
 go_enter Tryz.func56, Tryz.ntmps56
 go_wp2_with fail
 refine (bmay_any hK hT1 hX1 hn).mono ?_
 rintro en w2 ⟨rfl, b⟩
 rw [HA.out]
 replace BB := bnx BB b
 have G := mv b rfl (J6 t3 t4 t5 hT1 hX1 hY1)
 clear t3 t4 t5 hT1 hX1 hY1
 obtain ⟨t3, t4, t5, hT1, hX1, hY1⟩ := G
 clear b
 go_wp2_with fail
 refine (bmay_any hK hT1 hY1 hm').mono ?_
 rintro en w3 ⟨rfl, b⟩
 rw [HB.out]
 replace BB := bnx BB b
 have G := mv b rfl (J6 t3 t4 t5 hT1 hX1 hY1)
 clear t3 t4 t5 hT1 hX1 hY1
 obtain ⟨t3, t4, t5, hT1, hX1, hY1⟩ := G
 clear b HA HB
 have HC := Lib.hid (bmadeI_any (w0 := w3) (n := n) (ft := 102) (q1 := .pointer (some ⟨w.heap.size + 2, 0, none⟩)) (q2 := .pointer (some ⟨w.heap.size, 0, none⟩)) (q3 := .pointer (some ⟨w.heap.size + 1, 0, none⟩)) (k := fun i => kk (X i) (Y i)) (x := fun i => xx (X i) (Y i)) hn (fun _ _ => by kernel_rfl) (fun i hi W2 b => bboth1_any hS (mv b rfl hT1) (cell_next b rfl t5) (cell_next b rfl t3) (cell_next b rfl t4) (mv b rfl hX1) (mv b rfl hY1) hi hi))
 clear hX1 hY1 hT1 hS
 rw [hke.out, hxr.out] at HC
 go_wp2_with fail
 refine HC.out.mono ?_
 rintro en w4 ⟨A5, m5, c5, rfl, hz1, hz2, b⟩
 have HZ := Lib.hid (And.intro hz1 hz2)
 clear hz1 hz2
 replace BB := bnx BB b
 clear b HC
 go_wp2
 exact bodyPost_ret (v := .tuple #[.slice A5 m5 c5, .int .i64 ke]) (by simp [results, Tryz.results56, go_sem]) rfl ⟨_, _, _, rfl, HZ.out.1, HZ.out.2, BB⟩

def bothK (K n m : Nat) (X Y : Nat → Iv) (kk : Iv → Iv → Int) : Int := if n = m ∧ (eachB n fun i => mayI K (X i)) = true ∧ (eachB m fun i => mayI K (Y i)) = true then firstE (fun i => kk (X i) (Y i)) n else 1
theorem bboth_any {w : World} {K n c m d : Nat} {A B : Option Addr} {X Y : Nat → Iv} {f : FuncId} {kk : Iv → Iv → Int} {xx : Iv → Iv → Iv} (hK : 4194304 ≤ K) (hS : Reckons f kk xx) (hT : Tab w) (hX : RdS w A n c X) (hY : RdS w B m d Y) (hn : n ≤ 1000000) (hm' : m ≤ 1000000) :
  Calls Tryz.prog 56 #[.slice A n c, .slice B m d, .func (Fn.func f) #[] #[]] w (RowEndI (bothK K n m X Y kk) n (fun i => xx (X i) (Y i)) w) := by
 unfold bothK
 by_cases h : n = m ∧ (eachB n fun i => mayI K (X i)) = true ∧ (eachB m fun i => mayI K (Y i)) = true
 ·rw [if_pos h]
  exact bboth_ok hK hS hT hX hY hn hm' h.1 h.2.1 h.2.2 (Lib.hid rfl) (Lib.hid rfl)
 ·rw [if_neg h]
  exact bboth_no hK hT hX hY hn hm' h

theorem reckons_hull {K : Nat} (hK : 4194304 ≤ K) : Reckons 57 (hullK K) (hullI K) := ⟨fun _ _ _ => by kernel_rfl, fun hT h1 h2 h3 h4 => ihull_any hK hT h1 h2 h3 h4⟩

theorem bhull_any {w : World} {K n c m d : Nat} {A B : Option Addr} {X Y : Nat → Iv} (hK : 4194304 ≤ K) (hT : Tab w) (hX : RdS w A n c X) (hY : RdS w B m d Y) (hn : n ≤ 1000000) (hm' : m ≤ 1000000) :
  Calls Tryz.prog 18 #[.slice A n c, .slice B m d] w (RowEndI (bothK K n m X Y (hullK K)) n (fun i => hullI K (X i) (Y i)) w) := by
 have HC := Lib.hid (bboth_any hK (reckons_hull hK) hT hX hY hn hm')
 clear hT hX hY
 obtain ⟨xr, hxr⟩ : ∃ q, q = fun i => hullI K (X i) (Y i) := ⟨_, rfl⟩
 rw [← hxr] at HC ⊢
 generalize bothK K n m X Y (hullK K) = ke at *
 clear hxr
 go_enter Tryz.func18, Tryz.ntmps18
 go_wp2_with fail
 refine HC.out.mono ?_
 rintro en w4 ⟨A5, m5, c5, rfl, hz1, hz2, b⟩
 have HZ := Lib.hid (And.intro hz1 hz2)
 clear hz1 hz2 HC
 go_wp2
 exact bodyPost_ret (v := .tuple #[.slice A5 m5 c5, .int .i64 ke]) (by simp [results, Tryz.results18, go_sem]) rfl ⟨_, _, _, rfl, HZ.out.1, HZ.out.2, b⟩

theorem reckons_meet {K : Nat} (hK : 4194304 ≤ K) : Reckons 24 (meetK K) (meetI K) := ⟨fun _ _ _ => by kernel_rfl, fun hT h1 h2 h3 h4 => imeet_any hK hT h1 h2 h3 h4⟩

theorem bmeet_any {w : World} {K n c m d : Nat} {A B : Option Addr} {X Y : Nat → Iv} (hK : 4194304 ≤ K) (hT : Tab w) (hX : RdS w A n c X) (hY : RdS w B m d Y) (hn : n ≤ 1000000) (hm' : m ≤ 1000000) :
  Calls Tryz.prog 19 #[.slice A n c, .slice B m d] w (RowEndI (bothK K n m X Y (meetK K)) n (fun i => meetI K (X i) (Y i)) w) := by
 have HC := Lib.hid (bboth_any hK (reckons_meet hK) hT hX hY hn hm')
 clear hT hX hY
 obtain ⟨xr, hxr⟩ : ∃ q, q = fun i => meetI K (X i) (Y i) := ⟨_, rfl⟩
 rw [← hxr] at HC ⊢
 generalize bothK K n m X Y (meetK K) = ke at *
 clear hxr
 go_enter Tryz.func19, Tryz.ntmps19
 go_wp2_with fail
 refine HC.out.mono ?_
 rintro en w4 ⟨A5, m5, c5, rfl, hz1, hz2, b⟩
 have HZ := Lib.hid (And.intro hz1 hz2)
 clear hz1 hz2 HC
 go_wp2
 exact bodyPost_ret (v := .tuple #[.slice A5 m5 c5, .int .i64 ke]) (by simp [results, Tryz.results19, go_sem]) rfl ⟨_, _, _, rfl, HZ.out.1, HZ.out.2, b⟩

end Go.Proofs.YtlpjlmophlikeaaGreatDoor
