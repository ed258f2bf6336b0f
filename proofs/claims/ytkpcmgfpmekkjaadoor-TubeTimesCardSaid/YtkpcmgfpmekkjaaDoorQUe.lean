/-
  Contracts of tube's before, upTo, last, spans, ownNumber, May, at this translation. Condition: the slices read as limbs, the table of math/bits reads as its text lays it.
-/
import Derived.Test.YtkpcmgfpmekkjaaDoorQUp
import Derived.Test.YtkpcmgfpmekkjaaDoorQTq
namespace Go.Proofs.YtkpcmgfpmekkjaaDoor
open Go.RowKit


/-- x is not above y, and both may be -/
def upB (K : Nat) (x y : Rw) : Bool := decide (cmpQ K x y < 0) || (x.may && sameQ x y)
section
variable {K : Nat} {a : Tb} {x y : Rw}
theorem cmpQ_neg (h : cmpQ K x y < 0) : x.may = true ∧ y.may = true := by
  unfold cmpQ cmpR at h
  split at h
  · next h1 => exact h1
  · exact absurd h (by decide)
theorem before_iff : decide (cmpQ K x y < 0) = true ↔ x.may = true ∧ y.may = true ∧ x.v K < y.v K := by
  rw [decide_eq_true_eq]
  exact ⟨fun h => ⟨(cmpQ_neg h).1, (cmpQ_neg h).2, (cmpQ_lt (cmpQ_neg h).1 (cmpQ_neg h).2).1 h⟩, fun h => (cmpQ_lt h.1 h.2.1).2 h.2.2⟩
theorem upB_iff (hK : 4194304 ≤ K) : upB K x y = true ↔ x.may = true ∧ y.may = true ∧ x.v K ≤ y.v K := by
  unfold upB
  rw [Bool.or_eq_true, before_iff, Bool.and_eq_true, sameQ_iff]
  constructor
  · rintro (⟨h1, h2, h3⟩ | ⟨h1, rfl⟩)
    · exact ⟨h1, h2, Int.le_of_lt h3⟩
    · exact ⟨h1, h1, Int.le_refl _⟩
  · rintro ⟨h1, h2, h3⟩
    by_cases h : x.v K < y.v K
    · exact .inl ⟨h1, h2, h⟩
    · exact .inr ⟨h1, one_of_v hK h1 h2 (by omega)⟩
/-- what May has found of the first i cells -/
def okTo (K : Nat) (a : Tb) (i : Nat) : Prop := ∀ j, j < i → mayI K (a.V j) = true ∧ decide (cmpQ K (a.T j) (a.T (j + 1)) < 0) = true
theorem okTo_all (h1 : 1 ≤ a.n) (h2 : a.n ≤ 256) (h3 : a.m = a.n + 1) (h : okTo K a a.n) : mayTb K a = true := by
  refine mayTb_iff.2 ⟨h1, h2, h3, fun i hi => (h i hi).1, fun i hi => ?_, fun i hi => (before_iff.1 (h i hi).2).2.2⟩
  rcases Nat.lt_or_ge i a.n with h4 | h4
  · exact (before_iff.1 (h i h4).2).1
  · obtain ⟨j, rfl⟩ : ∃ j, i = j + 1 := ⟨i - 1, by omega⟩
    exact (before_iff.1 (h j (by omega)).2).2.1
theorem may_noV {i : Nat} (hi : i < a.n) (h : mayI K (a.V i) = false) : mayTb K a = false := Bool.eq_false_iff.2 fun hm => by
  rw [(mayTb_iff.1 hm).V i hi] at h; cases h
theorem may_noT {i : Nat} (hi : i < a.n) (h : decide (cmpQ K (a.T i) (a.T (i + 1)) < 0) = false) : mayTb K a = false := Bool.eq_false_iff.2 fun hm => by
  have h2 := mayTb_iff.1 hm
  rw [before_iff.2 ⟨h2.T i (by omega), h2.T (i + 1) (by omega), h2.rise i hi⟩] at h; cases h
theorem may_no0 (h : ¬ (1 ≤ a.n ∧ a.n ≤ 256 ∧ a.m = a.n + 1)) : mayTb K a = false := Bool.eq_false_iff.2 fun hm => h ⟨(mayTb_iff.1 hm).pos, (mayTb_iff.1 hm).few, (mayTb_iff.1 hm).len⟩
/-- from and to are both in a, from its first time to its last one -/
def spansB (K : Nat) (a : Tb) (x y : Rw) : Bool := upB K (a.T 0) x && upB K y (a.T a.n)
end

set_option maxRecDepth 100000 in
set_option maxHeartbeats 8000000 in
theorem tbefore_any {w : World} {K : Nat} {x y : Rw} {A1 : Option Addr} {n1 c1 : Nat} {A2 : Option Addr} {n2 c2 : Nat} (hK : 4194304 ≤ K) (hT : Tab w) (h1 : Rd w .u64 Go.Proofs.YtkpcmgfpmekkjaaDoor.W A1 n1 c1 x.l) (h2 : Rd w .u64 Go.Proofs.YtkpcmgfpmekkjaaDoor.W A2 n2 c2 y.l) :
    Calls Tryd.prog 36 #[.agg #[.bool x.s, .slice A1 n1 c1, .int .i64 x.e], .agg #[.bool y.s, .slice A2 n2 c2, .int .i64 y.e]] w (Bools (decide (cmpQ K x y < 0)) w) := by
  have BB := two_below w (.cells #[.bool x.s, .slice A1 n1 c1, .int .i64 x.e] 28) (.cells #[.bool y.s, .slice A2 n2 c2, .int .i64 y.e] 28)
  obtain ⟨a10, a11, a12, a20, a21, a22⟩ := (two_new w x.s y.s A1 A2 n1 c1 n2 c2 x.e y.e).held
  have G := mv BB rfl (J3 hT h1 h2)
  clear hT h1 h2
  obtain ⟨hT, h1, h2⟩ := G
  go_enter Tryd.func36, Tryd.ntmps36
  go_wp2_with fail
  refine (dcmp_raw (K := K) (s1 := x.s) (e1 := x.e) (s2 := y.s) (e2 := y.e) hK hT h1 h2).mono ?_
  rintro en w1 ⟨rfl, b⟩
  replace BB := bnx BB b rfl rfl rfl rfl
  have G := mv b rfl (J9 a10 a11 a12 a20 a21 a22 hT h1 h2)
  clear a10 a11 a12 a20 a21 a22 hT h1 h2
  obtain ⟨a10, a11, a12, a20, a21, a22, hT, h1, h2⟩ := G
  clear b
  have e1 : cmpR K x.s x.l x.e y.s y.l y.e = cmpQ K x y := rfl
  rw [e1]
  clear e1
  go_wp2
  go_ret
  exact ⟨by first | rfl | simp, BB⟩

set_option maxRecDepth 100000 in
set_option maxHeartbeats 8000000 in
theorem tupto_any {w : World} {K : Nat} {x y : Rw} {A1 : Option Addr} {n1 c1 : Nat} {A2 : Option Addr} {n2 c2 : Nat} (hK : 4194304 ≤ K) (hT : Tab w) (h1 : Rd w .u64 Go.Proofs.YtkpcmgfpmekkjaaDoor.W A1 n1 c1 x.l) (h2 : Rd w .u64 Go.Proofs.YtkpcmgfpmekkjaaDoor.W A2 n2 c2 y.l) :
    Calls Tryd.prog 28 #[.agg #[.bool x.s, .slice A1 n1 c1, .int .i64 x.e], .agg #[.bool y.s, .slice A2 n2 c2, .int .i64 y.e]] w (Bools (upB K x y) w) := by
  have BB := two_below w (.cells #[.bool x.s, .slice A1 n1 c1, .int .i64 x.e] 28) (.cells #[.bool y.s, .slice A2 n2 c2, .int .i64 y.e] 28)
  obtain ⟨a10, a11, a12, a20, a21, a22⟩ := (two_new w x.s y.s A1 A2 n1 c1 n2 c2 x.e y.e).held
  have G := mv BB rfl (J3 hT h1 h2)
  clear hT h1 h2
  obtain ⟨hT, h1, h2⟩ := G
  obtain ⟨p1, hp1⟩ : ∃ p, p = decide (cmpQ K x y < 0) := ⟨_, rfl⟩
  obtain ⟨p2, hp2⟩ : ∃ p, p = x.may := ⟨_, rfl⟩
  obtain ⟨p3, hp3⟩ : ∃ p, p = sameQ x y := ⟨_, rfl⟩
  have HP1 := Lib.hid hp1
  have HP2 := Lib.hid hp2
  have HP3 := Lib.hid hp3
  unfold upB
  rw [← hp1, ← hp2, ← hp3]
  clear hp1 hp2 hp3
  go_enter Tryd.func28, Tryd.ntmps28
  go_wp2_with fail
  refine (tbefore_any (K := K) hK hT h1 h2).mono ?_
  rintro en w1 ⟨rfl, b⟩
  replace BB := bnx BB b rfl rfl rfl rfl
  have G := mv b rfl (J9 a10 a11 a12 a20 a21 a22 hT h1 h2)
  clear a10 a11 a12 a20 a21 a22 hT h1 h2
  obtain ⟨a10, a11, a12, a20, a21, a22, hT, h1, h2⟩ := G
  clear b
  rw [← HP1.out]
  clear HP1
  cases p1
  case true =>
    go_wp2
    go_ret
    exact ⟨by first | rfl | simp, BB⟩
  go_wp2_with fail
  refine (dmay_any (s := x.s) (e := x.e) hT h1).mono ?_
  rintro en w2 ⟨rfl, b⟩
  replace BB := bnx BB b rfl rfl rfl rfl
  clear hT
  have G := mv b rfl (J8 a10 a11 a12 a20 a21 a22 h1 h2)
  clear a10 a11 a12 a20 a21 a22 h1 h2
  obtain ⟨a10, a11, a12, a20, a21, a22, h1, h2⟩ := G
  clear b
  have e1 : mayD x.s x.l x.e = p2 := HP2.out.symm
  rw [e1]
  clear e1 HP2
  cases p2
  case false =>
    go_wp2
    go_ret
    exact ⟨by first | rfl | simp, BB⟩
  go_wp2_with fail
  refine (dsame_raw (s := x.s) (t := y.s) (e := x.e) (f := y.e) h1 h2).mono ?_
  rintro en w3 ⟨rfl, b⟩
  replace BB := bnx BB b rfl rfl rfl rfl
  clear h1 h2
  have G := mv b rfl (J6 a10 a11 a12 a20 a21 a22)
  clear a10 a11 a12 a20 a21 a22
  obtain ⟨a10, a11, a12, a20, a21, a22⟩ := G
  clear b
  have e1 : sameB x.s y.s x.l y.l x.e y.e = p3 := HP3.out.symm
  rw [e1]
  clear e1 HP3
  go_wp2
  go_ret
  exact ⟨by first | rfl | simp, BB⟩

set_option maxRecDepth 100000 in
set_option maxHeartbeats 8000000 in
theorem tlast_any {w : World} {a : Tb} {Ta Va : Option Addr} {ca da : Nat} (ha : RdTb w Ta ca Va da a) (hn : a.n < a.m) :
    Calls Tryd.prog 39 #[.agg #[.slice Ta a.m ca, .slice Va a.n da]] w (GivQ (a.T a.n) w) := by
  obtain ⟨g, off, rfl, hc⟩ := ha.at_.at_ (by omega)
  obtain ⟨A1, n1, c1, ⟨r0, r1, r2⟩, q1⟩ := hc a.n hn
  have hcp := ha.v.cap
  have hcm := ha.v.max
  clear hc ha
  generalize a.T a.n = x at *
  generalize hnn : a.n = n at *
  generalize hmm : a.m = m at *
  clear hnn hmm
  have hp2 : (n : Int) < m := by omega
  have hp3 : (0 : Int) ≤ n := by omega
  have BB := Below.refl w.heap.size w
  have b := below_alloc w (.cells #[.slice (some ⟨g, off, none⟩) m ca, .slice Va n da] 25)
  have xt := Blk.new w #[.slice (some ⟨g, off, none⟩) m ca, .slice Va n da] 25
  replace BB := bnx BB b rfl rfl rfl rfl
  have G := mv b rfl (J4 r0 r1 r2 q1)
  clear r0 r1 r2 q1
  obtain ⟨r0, r1, r2, q1⟩ := G
  clear b
  have b := below_alloc (w.alloc (.cells #[.slice (some ⟨g, off, none⟩) m ca, .slice Va n da] 25)) (.cells #[.bool false, .slice none 0 0, .int .i64 0] 28)
  have xr := Blk.new (w.alloc (.cells #[.slice (some ⟨g, off, none⟩) m ca, .slice Va n da] 25)) #[.bool false, .slice none 0 0, .int .i64 0] 28
  rw [show (w.alloc (.cells #[.slice (some ⟨g, off, none⟩) m ca, .slice Va n da] 25)).heap.size = w.heap.size + 1 by simp] at xr
  replace BB := bnx BB b rfl rfl rfl rfl
  have G := mv b rfl (J5 r0 r1 r2 q1 xt)
  clear r0 r1 r2 q1 xt
  obtain ⟨r0, r1, r2, q1, xt⟩ := G
  clear b
  have t0 : World.cell? _ ⟨_, 0, none⟩ = some (.slice (some ⟨g, off, none⟩) m ca) := xt.at 0
  have t1 : World.cell? _ ⟨_, 1, none⟩ = some (.slice Va n da) := xt.at 1
  have r : Box _ _ false none 0 0 0 := ⟨xr.blk⟩
  clear xt xr
  go_enter Tryd.func39, Tryd.ntmps39
  go_upto_region 1 with fail
  generalize ((w.alloc (.cells #[.slice (some ⟨g, off, none⟩) m ca, .slice Va n da] 25)).alloc (.cells #[.bool false, .slice none 0 0, .int .i64 0] 28)) = W1 at *
  obtain ⟨f0, f1, f2⟩ := r.open
  obtain ⟨z0, z1, z2⟩ := r.held
  go_wp2
  have qq := r.put x.s A1 n1 c1 x.e
  have hN := q1.put3 r (.bool x.s) (.slice A1 n1 c1) (.int .i64 x.e)
  have HB3 := below_put3 (g := w.heap.size + 1) BB (by omega) (.bool x.s) (.slice A1 n1 c1) (.int .i64 x.e)
  obtain ⟨z0, z1, z2⟩ := qq.held
  exact bodyPost_ret (v := .agg #[.bool x.s, .slice A1 n1 c1, .int .i64 x.e]) (by simp [results, Tryd.results39, go_sem, z0, z1, z2]) rfl ⟨_, _, _, rfl, hN, HB3⟩

set_option maxRecDepth 100000 in
set_option maxHeartbeats 8000000 in
theorem tspans_any {w : World} {KS : Nat} {a : Tb} {Ta Va : Option Addr} {ca da : Nat} {x y : Rw} {A1 : Option Addr} {n1 c1 : Nat} {A2 : Option Addr} {n2 c2 : Nat} (hKS : 4194304 ≤ KS) (hT : Tab w) (ha : RdTb w Ta ca Va da a) (h1 : Rd w .u64 Go.Proofs.YtkpcmgfpmekkjaaDoor.W A1 n1 c1 x.l) (h2 : Rd w .u64 Go.Proofs.YtkpcmgfpmekkjaaDoor.W A2 n2 c2 y.l) (hn : a.n < a.m) :
    Calls Tryd.prog 29 #[.agg #[.slice Ta a.m ca, .slice Va a.n da], .agg #[.bool x.s, .slice A1 n1 c1, .int .i64 x.e], .agg #[.bool y.s, .slice A2 n2 c2, .int .i64 y.e]] w (Bools (spansB KS a x y) w) := by
  obtain ⟨g, off, rfl, hc⟩ := ha.at_.at_ (by omega)
  obtain ⟨A3, n3, c3, ⟨r0, r1, r2⟩, q3⟩ := hc 0 (by omega)
  simp only [Nat.zero_mul, Nat.add_zero] at r0 r1 r2
  clear hc
  obtain ⟨t0', ht0⟩ : ∃ q, q = a.T 0 := ⟨_, rfl⟩
  rw [← ht0] at r0 r2 q3
  obtain ⟨p1, hp1⟩ : ∃ p, p = upB KS t0' x := ⟨_, rfl⟩
  obtain ⟨p2, hp2⟩ : ∃ p, p = upB KS y (a.T a.n) := ⟨_, rfl⟩
  have HP1 := Lib.hid hp1
  have HP2 := Lib.hid hp2
  unfold spansB
  rw [← ht0, ← hp1, ← hp2]
  clear hp1 hp2 ht0
  have hp2 : (0 : Int) < a.m := by omega
  have hp2n : 0 < a.m := by omega
  have BB := Below.refl w.heap.size w
  have b := below_alloc w (.cells #[.slice (some ⟨g, off, none⟩) a.m ca, .slice Va a.n da] 25)
  have xt := Blk.new w #[.slice (some ⟨g, off, none⟩) a.m ca, .slice Va a.n da] 25
  replace BB := bnx BB b rfl rfl rfl rfl
  have G := mv b rfl (J8 r0 r1 r2 q3 hT h1 h2 ha)
  clear r0 r1 r2 q3 hT h1 h2 ha
  obtain ⟨r0, r1, r2, q3, hT, h1, h2, ha⟩ := G
  clear b
  have b := below_alloc (w.alloc (.cells #[.slice (some ⟨g, off, none⟩) a.m ca, .slice Va a.n da] 25)) (.cells #[.bool x.s, .slice A1 n1 c1, .int .i64 x.e] 28)
  have xu := Blk.new (w.alloc (.cells #[.slice (some ⟨g, off, none⟩) a.m ca, .slice Va a.n da] 25)) #[.bool x.s, .slice A1 n1 c1, .int .i64 x.e] 28
  rw [show (w.alloc (.cells #[.slice (some ⟨g, off, none⟩) a.m ca, .slice Va a.n da] 25)).heap.size = w.heap.size + 1 by simp] at xu
  replace BB := bnx BB b rfl rfl rfl rfl
  have G := mv b rfl (J9 r0 r1 r2 q3 hT h1 h2 ha xt)
  clear r0 r1 r2 q3 hT h1 h2 ha xt
  obtain ⟨r0, r1, r2, q3, hT, h1, h2, ha, xt⟩ := G
  clear b
  have b := below_alloc ((w.alloc (.cells #[.slice (some ⟨g, off, none⟩) a.m ca, .slice Va a.n da] 25)).alloc (.cells #[.bool x.s, .slice A1 n1 c1, .int .i64 x.e] 28)) (.cells #[.bool y.s, .slice A2 n2 c2, .int .i64 y.e] 28)
  have xv := Blk.new ((w.alloc (.cells #[.slice (some ⟨g, off, none⟩) a.m ca, .slice Va a.n da] 25)).alloc (.cells #[.bool x.s, .slice A1 n1 c1, .int .i64 x.e] 28)) #[.bool y.s, .slice A2 n2 c2, .int .i64 y.e] 28
  rw [show ((w.alloc (.cells #[.slice (some ⟨g, off, none⟩) a.m ca, .slice Va a.n da] 25)).alloc (.cells #[.bool x.s, .slice A1 n1 c1, .int .i64 x.e] 28)).heap.size = w.heap.size + 2 by simp] at xv
  replace BB := bnx BB b rfl rfl rfl rfl
  have G := mv b rfl (J10 r0 r1 r2 q3 hT h1 h2 ha xt xu)
  clear r0 r1 r2 q3 hT h1 h2 ha xt xu
  obtain ⟨r0, r1, r2, q3, hT, h1, h2, ha, xt, xu⟩ := G
  clear b
  have t0 : World.cell? _ ⟨_, 0, none⟩ = some (.slice (some ⟨g, off, none⟩) a.m ca) := xt.at 0
  have t1 : World.cell? _ ⟨_, 1, none⟩ = some (.slice Va a.n da) := xt.at 1
  have u0 : World.cell? _ ⟨_, 0, none⟩ = some (.bool x.s) := xu.at 0
  have u1 : World.cell? _ ⟨_, 1, none⟩ = some (.slice A1 n1 c1) := xu.at 1
  have u2 : World.cell? _ ⟨_, 2, none⟩ = some (.int .i64 x.e) := xu.at 2
  have v0 : World.cell? _ ⟨_, 0, none⟩ = some (.bool y.s) := xv.at 0
  have v1 : World.cell? _ ⟨_, 1, none⟩ = some (.slice A2 n2 c2) := xv.at 1
  have v2 : World.cell? _ ⟨_, 2, none⟩ = some (.int .i64 y.e) := xv.at 2
  clear xt xu xv
  have hT1 := hT
  clear hT
  go_enter Tryd.func29, Tryd.ntmps29
  go_upto_region 1 with fail
  generalize (((w.alloc (.cells #[.slice (some ⟨g, off, none⟩) a.m ca, .slice Va a.n da] 25)).alloc (.cells #[.bool x.s, .slice A1 n1 c1, .int .i64 x.e] 28)).alloc (.cells #[.bool y.s, .slice A2 n2 c2, .int .i64 y.e] 28)) = W1 at *
  have b : Below W1.heap.size W1 (World.drew W1) := below_drewN (Below.refl _ _) 1
  replace BB := bnx BB b rfl rfl rfl rfl
  have G := mv b rfl (J16 t0 t1 r0 r1 r2 u0 u1 u2 v0 v1 v2 hT1 h1 h2 q3 ha)
  clear t0 t1 r0 r1 r2 u0 u1 u2 v0 v1 v2 hT1 h1 h2 q3 ha
  obtain ⟨t0, t1, r0, r1, r2, u0, u1, u2, v0, v1, v2, hT1, h1, h2, q3, ha⟩ := G
  clear b
  go_wp2_with fail
  cases p1
  case false =>
    refine wp_region_held_drew (S := fun w' => w'.cell? ⟨w.heap.size, 0, none⟩ = some (.slice (some ⟨g, off, none⟩) a.m ca) ∧ w'.cell? ⟨w.heap.size, 1, none⟩ = some (.slice Va a.n da) ∧ w'.cell? ⟨g, off, none⟩ = some (.bool t0'.s) ∧ w'.cell? ⟨g, off + 1, none⟩ = some (.slice A3 n3 c3) ∧ w'.cell? ⟨g, off + 2, none⟩ = some (.int .i64 t0'.e) ∧ w'.cell? ⟨w.heap.size + 1, 0, none⟩ = some (.bool x.s) ∧ w'.cell? ⟨w.heap.size + 1, 1, none⟩ = some (.slice A1 n1 c1) ∧ w'.cell? ⟨w.heap.size + 1, 2, none⟩ = some (.int .i64 x.e) ∧ w'.cell? ⟨w.heap.size + 2, 0, none⟩ = some (.bool y.s) ∧ w'.cell? ⟨w.heap.size + 2, 1, none⟩ = some (.slice A2 n2 c2) ∧ w'.cell? ⟨w.heap.size + 2, 2, none⟩ = some (.int .i64 y.e)) (by kernel_rfl) (by exact ⟨t0, t1, r0, r1, r2, u0, u1, u2, v0, v1, v2⟩) (fun hHeldsf0 => ?_)
    generalize World.drew W1 = wd at *
    refine tk 0 7 ?_
    simp only [Act.put, List.setIfInBounds_toArray, List.set_cons_zero, List.set_cons_succ]
    refine tk 1 8 ?_
    simp only [Act.put, List.setIfInBounds_toArray, List.set_cons_zero, List.set_cons_succ]
    refine tk 2 9 ?_
    simp only [Act.put, List.setIfInBounds_toArray, List.set_cons_zero, List.set_cons_succ]
    refine tk 3 10 ?_
    simp only [Act.put, List.setIfInBounds_toArray, List.set_cons_zero, List.set_cons_succ]
    refine tk 4 11 ?_
    simp only [Act.put, List.setIfInBounds_toArray, List.set_cons_zero, List.set_cons_succ]
    refine wpAnyH_ready (rs := [5]) (by kernel_rfl) (by simp) ?_
    refine AllReadyH.cons (o := _) rfl (fun K hK => ?_) AllReadyH.nil
    go_simp
    refine (tupto_any (K := KS) hKS hT1 q3 h1).mono ?_
    rintro en w2 ⟨rfl, b⟩
    rw [← HP1.out]
    replace BB := below_next BB BB.size b (by rfl) (by rfl) (by rfl) (by rfl)
    have G := mv b (by rfl) <| And.intro t0 <| And.intro t1 <| And.intro r0 <| And.intro r1 <| And.intro r2 <| And.intro u0 <| And.intro u1 <| And.intro u2 <| And.intro v0 <| And.intro v1 <| And.intro v2 <| And.intro hT1 <| And.intro h1 <| And.intro h2 <| And.intro q3 <| ha
    clear t0 t1 r0 r1 r2 u0 u1 u2 v0 v1 v2 hT1 h1 h2 q3 ha
    obtain ⟨t0, t1, r0, r1, r2, u0, u1, u2, v0, v1, v2, hT1, h1, h2, q3, ha⟩ := G
    clear b
    refine hK.out _ _ (by exact ⟨t0, t1, r0, r1, r2, u0, u1, u2, v0, v1, v2⟩) (fun hHeldsf1 => ?_)
    clear hK K hHeldsf0
    try simp only [Act.put]
    refine tk 6 13 ?_
    simp only [Act.put, List.setIfInBounds_toArray, List.set_cons_zero, List.set_cons_succ]
    refine wpAnyH_take (i := 7) (v := undef) rfl (by kernel_rfl) (by kernel_rfl) (by kernel_rfl) (fun _ _ _ h => panic_put (P := Tryd.prog) (fn := Tryd.f29) (R := (Bools (false && p2) w)) h) (Or.inr ⟨by rfl, rfl⟩) (by assumption) ?_
    change wpAnyH _ _ _ _ _ _ _ (Act.put _ (some 14) _) _
    simp only [Act.put, List.setIfInBounds_toArray, List.set_cons_zero, List.set_cons_succ]
    refine wpAnyH_take (i := 8) (v := undef) rfl (by kernel_rfl) (by kernel_rfl) (by kernel_rfl) (fun _ _ _ h => panic_put (P := Tryd.prog) (fn := Tryd.f29) (R := (Bools (false && p2) w)) h) (Or.inr ⟨by rfl, rfl⟩) (by assumption) ?_
    change wpAnyH _ _ _ _ _ _ _ (Act.put _ (some 15) _) _
    simp only [Act.put, List.setIfInBounds_toArray, List.set_cons_zero, List.set_cons_succ]
    refine wpAnyH_take (i := 9) (v := undef) rfl (by kernel_rfl) (by kernel_rfl) (by kernel_rfl) (fun _ _ _ h => panic_put (P := Tryd.prog) (fn := Tryd.f29) (R := (Bools (false && p2) w)) h) (Or.inr ⟨by rfl, rfl⟩) (by assumption) ?_
    change wpAnyH _ _ _ _ _ _ _ (Act.put _ (some 16) _) _
    simp only [Act.put, List.setIfInBounds_toArray, List.set_cons_zero, List.set_cons_succ]
    refine wpAnyH_take (i := 10) (v := undef) rfl (by kernel_rfl) (by kernel_rfl) (by kernel_rfl) (fun _ _ _ h => panic_put (P := Tryd.prog) (fn := Tryd.f29) (R := (Bools (false && p2) w)) h) (Or.inr ⟨by rfl, rfl⟩) (by assumption) ?_
    change wpAnyH _ _ _ _ _ _ _ (Act.put _ (some 17) _) _
    simp only [Act.put, List.setIfInBounds_toArray, List.set_cons_zero, List.set_cons_succ]
    refine tk 11 18 ?_
    simp only [Act.put, List.setIfInBounds_toArray, List.set_cons_zero, List.set_cons_succ]
    refine tk 12 6 ?_
    simp only [Act.put, List.setIfInBounds_toArray, List.set_cons_zero, List.set_cons_succ]
    refine wpAnyH_done (by kernel_rfl) ?_ _
    go_wp2
    go_ret
    exact ⟨by first | rfl | simp, BB⟩
  case true =>
    refine wp_region_held_drew (S := fun w' => w'.cell? ⟨w.heap.size, 0, none⟩ = some (.slice (some ⟨g, off, none⟩) a.m ca) ∧ w'.cell? ⟨w.heap.size, 1, none⟩ = some (.slice Va a.n da) ∧ w'.cell? ⟨g, off, none⟩ = some (.bool t0'.s) ∧ w'.cell? ⟨g, off + 1, none⟩ = some (.slice A3 n3 c3) ∧ w'.cell? ⟨g, off + 2, none⟩ = some (.int .i64 t0'.e) ∧ w'.cell? ⟨w.heap.size + 1, 0, none⟩ = some (.bool x.s) ∧ w'.cell? ⟨w.heap.size + 1, 1, none⟩ = some (.slice A1 n1 c1) ∧ w'.cell? ⟨w.heap.size + 1, 2, none⟩ = some (.int .i64 x.e) ∧ w'.cell? ⟨w.heap.size + 2, 0, none⟩ = some (.bool y.s) ∧ w'.cell? ⟨w.heap.size + 2, 1, none⟩ = some (.slice A2 n2 c2) ∧ w'.cell? ⟨w.heap.size + 2, 2, none⟩ = some (.int .i64 y.e)) (by kernel_rfl) (by exact ⟨t0, t1, r0, r1, r2, u0, u1, u2, v0, v1, v2⟩) (fun hHeldst0 => ?_)
    generalize World.drew W1 = wd at *
    refine tk 0 7 ?_
    simp only [Act.put, List.setIfInBounds_toArray, List.set_cons_zero, List.set_cons_succ]
    refine tk 1 8 ?_
    simp only [Act.put, List.setIfInBounds_toArray, List.set_cons_zero, List.set_cons_succ]
    refine tk 2 9 ?_
    simp only [Act.put, List.setIfInBounds_toArray, List.set_cons_zero, List.set_cons_succ]
    refine tk 3 10 ?_
    simp only [Act.put, List.setIfInBounds_toArray, List.set_cons_zero, List.set_cons_succ]
    refine tk 4 11 ?_
    simp only [Act.put, List.setIfInBounds_toArray, List.set_cons_zero, List.set_cons_succ]
    refine wpAnyH_ready (rs := [5]) (by kernel_rfl) (by simp) ?_
    refine AllReadyH.cons (o := _) rfl (fun K hK => ?_) AllReadyH.nil
    go_simp
    refine (tupto_any (K := KS) hKS hT1 q3 h1).mono ?_
    rintro en w2 ⟨rfl, b⟩
    rw [← HP1.out]
    replace BB := below_next BB BB.size b (by rfl) (by rfl) (by rfl) (by rfl)
    have G := mv b (by rfl) <| And.intro t0 <| And.intro t1 <| And.intro r0 <| And.intro r1 <| And.intro r2 <| And.intro u0 <| And.intro u1 <| And.intro u2 <| And.intro v0 <| And.intro v1 <| And.intro v2 <| And.intro hT1 <| And.intro h1 <| And.intro h2 <| And.intro q3 <| ha
    clear t0 t1 r0 r1 r2 u0 u1 u2 v0 v1 v2 hT1 h1 h2 q3 ha
    obtain ⟨t0, t1, r0, r1, r2, u0, u1, u2, v0, v1, v2, hT1, h1, h2, q3, ha⟩ := G
    clear b
    refine hK.out _ _ (by exact ⟨t0, t1, r0, r1, r2, u0, u1, u2, v0, v1, v2⟩) (fun hHeldst1 => ?_)
    clear hK K hHeldst0
    try simp only [Act.put]
    refine tk 6 13 ?_
    simp only [Act.put, List.setIfInBounds_toArray, List.set_cons_zero, List.set_cons_succ]
    refine tk 7 14 ?_
    simp only [Act.put, List.setIfInBounds_toArray, List.set_cons_zero, List.set_cons_succ]
    refine tk 8 15 ?_
    simp only [Act.put, List.setIfInBounds_toArray, List.set_cons_zero, List.set_cons_succ]
    refine wpAnyH_ready (rs := [9]) (by kernel_rfl) (by simp) ?_
    refine AllReadyH.cons (o := _) rfl (fun K hK => ?_) AllReadyH.nil
    go_simp
    refine (tlast_any ha hn).mono ?_
    rintro en w3 ⟨A4, n4, c4, rfl, q4, b⟩
    replace BB := below_next BB BB.size b (by rfl) (by rfl) (by rfl) (by rfl)
    have G := mv b (by rfl) <| And.intro t0 <| And.intro t1 <| And.intro r0 <| And.intro r1 <| And.intro r2 <| And.intro u0 <| And.intro u1 <| And.intro u2 <| And.intro v0 <| And.intro v1 <| And.intro v2 <| And.intro hT1 <| And.intro h1 <| And.intro h2 <| And.intro q3 <| ha
    clear t0 t1 r0 r1 r2 u0 u1 u2 v0 v1 v2 hT1 h1 h2 q3 ha
    obtain ⟨t0, t1, r0, r1, r2, u0, u1, u2, v0, v1, v2, hT1, h1, h2, q3, ha⟩ := G
    clear b
    refine hK.out _ _ (by exact ⟨t0, t1, r0, r1, r2, u0, u1, u2, v0, v1, v2⟩) (fun hHeldst2 => ?_)
    clear hK K hHeldst1
    try simp only [Act.put]
    refine wpAnyH_ready (rs := [10]) (by kernel_rfl) (by simp) ?_
    refine AllReadyH.cons (o := _) rfl (fun K hK => ?_) AllReadyH.nil
    go_simp
    refine (tupto_any (K := KS) hKS hT1 h2 q4).mono ?_
    rintro en w4 ⟨rfl, b⟩
    rw [← HP2.out]
    replace BB := below_next BB BB.size b (by rfl) (by rfl) (by rfl) (by rfl)
    have G := mv b (by rfl) <| And.intro t0 <| And.intro t1 <| And.intro r0 <| And.intro r1 <| And.intro r2 <| And.intro u0 <| And.intro u1 <| And.intro u2 <| And.intro v0 <| And.intro v1 <| v2
    clear t0 t1 r0 r1 r2 u0 u1 u2 v0 v1 v2
    obtain ⟨t0, t1, r0, r1, r2, u0, u1, u2, v0, v1, v2⟩ := G
    clear b
    refine hK.out _ _ (by exact ⟨t0, t1, r0, r1, r2, u0, u1, u2, v0, v1, v2⟩) (fun hHeldst3 => ?_)
    clear hK K hHeldst2
    try simp only [Act.put]
    refine tk 11 18 ?_
    simp only [Act.put, List.setIfInBounds_toArray, List.set_cons_zero, List.set_cons_succ]
    refine tk 12 6 ?_
    simp only [Act.put, List.setIfInBounds_toArray, List.set_cons_zero, List.set_cons_succ]
    refine wpAnyH_done (by kernel_rfl) ?_ _
    go_wp2
    go_ret
    exact ⟨by first | rfl | simp, BB⟩

theorem Box.set1 {w : World} {g : Nat} {s : Bool} {A : Option Addr} {n c : Nat} {e : Int} (h : Box w g s A n c e) (A' : Option Addr) (n' c' : Nat) : Box (w.setCell ⟨g, 1, none⟩ (.slice A' n' c')) g s A' n' c' e := by
  have := h.blk
  refine ⟨?_⟩
  simp [World.setCell, Array.getElem?_modify, this]

set_option maxRecDepth 100000 in
set_option maxHeartbeats 8000000 in
theorem townn_any {w : World} {x : Rw} {A1 : Option Addr} {n1 c1 : Nat} (h1 : Rd w .u64 Go.Proofs.YtkpcmgfpmekkjaaDoor.W A1 n1 c1 x.l) (hn1 : n1 ≤ 10000000000000) :
    Calls Tryd.prog 38 #[.agg #[.bool x.s, .slice A1 n1 c1, .int .i64 x.e]] w (GivQ x w) := by
  have BB := Below.refl w.heap.size w
  have b := below_alloc w (.cells #[.bool x.s, .slice A1 n1 c1, .int .i64 x.e] 28)
  have xd := Blk.new w #[.bool x.s, .slice A1 n1 c1, .int .i64 x.e] 28
  replace BB := bnx BB b rfl rfl rfl rfl
  replace h1 := mv b rfl h1
  clear b
  have b := below_alloc (w.alloc (.cells #[.bool x.s, .slice A1 n1 c1, .int .i64 x.e] 28)) (.cells #[.bool false, .slice none 0 0, .int .i64 0] 28)
  have xr := Blk.new (w.alloc (.cells #[.bool x.s, .slice A1 n1 c1, .int .i64 x.e] 28)) #[.bool false, .slice none 0 0, .int .i64 0] 28
  rw [show (w.alloc (.cells #[.bool x.s, .slice A1 n1 c1, .int .i64 x.e] 28)).heap.size = w.heap.size + 1 by simp] at xr
  replace BB := bnx BB b rfl rfl rfl rfl
  have G := mv b rfl <| And.intro h1 <| xd
  clear h1 xd
  obtain ⟨h1, xd⟩ := G
  clear b
  have xa : Box _ _ x.s A1 n1 c1 x.e := ⟨xd.blk⟩
  have r : Box _ _ false none 0 0 0 := ⟨xr.blk⟩
  clear xd xr
  obtain ⟨a0, a1, a2⟩ := xa.held
  go_enter Tryd.func38, Tryd.ntmps38
  go_wp2_with fail
  refine (clone_any h1 hn1).mono ?_
  rintro en w2 ⟨A3, c3, rfl, h3, b, _⟩
  clear h1 a0 a1 a2
  replace BB := bnx BB b rfl rfl rfl rfl
  have G := mv b rfl <| And.intro xa <| r
  clear xa r
  obtain ⟨xa, r⟩ := G
  clear b
  obtain ⟨f0, f1, f2⟩ := xa.open
  obtain ⟨a0, a1, a2⟩ := xa.held
  have xb := xa.set1 A3 n1 c3
  have h3' := h3.set1 (h3.off xa.no) 1 (.slice A3 n1 c3)
  have rb := r.other (g' := w.heap.size) (by omega) 1 (.slice A3 n1 c3)
  have hbb := BB.setCell (p := ⟨w.heap.size, 1, none⟩) (Nat.le_refl _) (.slice A3 n1 c3)
  obtain ⟨b0, b1, b2⟩ := xb.held
  go_upto_region 2 with fail
  generalize w2.setCell ⟨w.heap.size, 1, none⟩ (.slice A3 n1 c3) = w3 at *
  clear f0 f1 f2 a0 a1 a2 xa r h3 BB
  obtain ⟨f0, f1, f2⟩ := rb.open
  obtain ⟨z0, z1, z2⟩ := rb.held
  go_wp2
  have qq := rb.put x.s A3 n1 c3 x.e
  have hN := h3'.put3 rb (.bool x.s) (.slice A3 n1 c3) (.int .i64 x.e)
  have HB3 := below_put3 (g := w.heap.size + 1) hbb (by omega) (.bool x.s) (.slice A3 n1 c3) (.int .i64 x.e)
  obtain ⟨z0, z1, z2⟩ := qq.held
  exact bodyPost_ret (v := .agg #[.bool x.s, .slice A3 n1 c3, .int .i64 x.e]) (by simp [results, Tryd.results38, go_sem, z0, z1, z2]) rfl ⟨_, _, _, rfl, hN, HB3⟩

set_option maxRecDepth 100000 in
set_option maxHeartbeats 8000000 in
theorem tmayt_any {w : World} {KS : Nat} {a : Tb} {Ta Va : Option Addr} {ca da : Nat} (hKS : 4194304 ≤ KS) (hT : Tab w) (ha : RdTb w Ta ca Va da a) :
    Calls Tryd.prog 15 #[.agg #[.slice Ta a.m ca, .slice Va a.n da]] w (Bools (mayTb KS a) w) := by
  obtain ⟨pt, hpt⟩ : ∃ p, p = mayTb KS a := ⟨_, rfl⟩
  rw [← hpt]
  have HPT := Lib.hid hpt
  clear hpt
  have hcp := ha.v.cap
  have hcm := ha.v.max
  have hdp := ha.at_.cap
  have hdm := ha.at_.max
  obtain ⟨n, hnn⟩ : ∃ q, q = a.n := ⟨_, rfl⟩
  obtain ⟨m, hmm⟩ : ∃ q, q = a.m := ⟨_, rfl⟩
  rw [← hnn] at hcp ⊢
  rw [← hmm] at hdp ⊢
  have HN := Lib.hid (And.intro hnn hmm)
  clear hnn hmm
  have BB := Below.refl w.heap.size w
  have b := below_alloc w (.cells #[.slice Ta m ca, .slice Va n da] 25)
  have xt := Blk.new w #[.slice Ta m ca, .slice Va n da] 25
  replace BB := bnx BB b rfl rfl rfl rfl
  clear b
  have t0 : World.cell? _ ⟨_, 0, none⟩ = some (.slice Ta m ca) := xt.at 0
  have t1 : World.cell? _ ⟨_, 1, none⟩ = some (.slice Va n da) := xt.at 1
  clear xt
  go_enter Tryd.func15, Tryd.ntmps15
  have hw9 : n ≤ 256 → IntKind.i64.wrap ((n : Int) + 1) = (n : Int) + 1 := fun h => IntWalk.i64_in _ (by omega)
  by_cases k1 : n < 1
  · have e : pt = false := HPT.out.trans (may_no0 fun h => by have := HN.out; omega)
    subst e
    have k2 : (n : Int) < 1 := by omega
    go_wp2
    go_ret
    exact ⟨by first | rfl | simp, BB⟩
  by_cases k3 : 256 < n
  · have e : pt = false := HPT.out.trans (may_no0 fun h => by have := HN.out; omega)
    subst e
    have k2 : ¬ (n : Int) < 1 := by omega
    have k4 : (n : Int) > 256 := by omega
    go_wp2
    go_ret
    exact ⟨by first | rfl | simp, BB⟩
  replace hw9 := hw9 (by omega)
  have k2 : ¬ (n : Int) < 1 := by omega
  have k4 : ¬ (n : Int) > 256 := by omega
  by_cases k5 : m = n + 1
  rotate_left
  · have e : pt = false := HPT.out.trans (may_no0 fun h => by have := HN.out; omega)
    subst e
    have k6 : ¬ (m : Int) = (n : Int) + 1 := by omega
    go_wp2
    go_ret
    exact ⟨by first | rfl | simp, BB⟩
  have k6 : (m : Int) = (n : Int) + 1 := by omega
  have HK5 := Lib.hid k5
  clear k5
  go_wp2
  go_loopg [28] n (fun q v wr => ∃ i : Nat, i + q = n ∧ v = .int .i64 i ∧ Hid (okTo KS a i) ∧ Below w.heap.size w wr ∧ wr.cell? ⟨w.heap.size, 0, none⟩ = some (.slice Ta m ca) ∧ wr.cell? ⟨w.heap.size, 1, none⟩ = some (.slice Va n da))
  case atStart => exact ⟨0, by omega, rfl, Lib.hid (fun j hj => absurd hj (Nat.not_lt_zero j)), BB, t0, t1⟩
  case round =>
    clear BB t0 t1 k6
    obtain ⟨i, hg, rfl, HO, BB, t0, t1⟩ := hrel
    have HG := Lib.hid hg
    clear hg
    by_cases hi : i < n
    · have hia : i < a.n := by have := HN.out; omega
      have hia2 : i + 1 < a.m := by have := HN.out; have := HK5.out; omega
      have hk5 := HK5.out
      have hp2 : (i : Int) < n := by omega
      have hp3 : (0 : Int) ≤ i := by omega
      have hp4 : (i : Int) < m := by omega
      have hp5 : (i : Int) + 1 < m := by omega
      have hp6 : (0 : Int) ≤ (i : Int) + 1 := by omega
      have hw1 : IntKind.i64.wrap ((i : Int) + 1) = (i : Int) + 1 := IntWalk.i64_in _ (by omega)
      clear hk5
      obtain ⟨g, off, hTa, hc⟩ := (mv BB rfl ha).at_.at_ (by omega)
      obtain ⟨A3, n3, c3, ⟨r0, r1, r2⟩, q3⟩ := hc i (by omega)
      obtain ⟨A4, n4, c4, ⟨s0, s1, s2⟩, q4⟩ := hc (i + 1) (by omega)
      obtain ⟨g5, o5, hVa, hd⟩ := (mv BB rfl ha).v.at_ (by omega)
      obtain ⟨A1, n1, c1, A2, n2, c2, ⟨y0, y1, y2, y3, y4, y5⟩, q1, q2⟩ := hd i (by omega)
      clear hc hd
      subst hTa hVa
      obtain ⟨x, hx⟩ : ∃ q, q = a.V i := ⟨_, rfl⟩
      obtain ⟨tx, htx⟩ : ∃ q, q = a.T i := ⟨_, rfl⟩
      obtain ⟨ty, hty⟩ : ∃ q, q = a.T (i + 1) := ⟨_, rfl⟩
      rw [← hx] at y0 y2 y3 y5 q1 q2
      rw [← htx] at r0 r2 q3
      rw [← hty] at s0 s2 q4
      obtain ⟨p1, hp1⟩ : ∃ p, p = mayI KS x := ⟨_, rfl⟩
      obtain ⟨p2, hpp⟩ : ∃ p, p = decide (cmpQ KS tx ty < 0) := ⟨_, rfl⟩
      have HP1 := Lib.hid hp1
      have HP2 := Lib.hid hpp
      have HX := Lib.hid (And.intro hx (And.intro htx hty))
      clear hp1 hpp hx htx hty
      have hT1 := mv BB rfl hT
      go_upto_region 6 with fail
      have b := below_alloc wr (.cells #[.bool x.lo.s, .slice A1 n1 c1, .int .i64 x.lo.e, .bool x.hi.s, .slice A2 n2 c2, .int .i64 x.hi.e] 35)
      obtain ⟨z0, z1, z2, z3, z4, z5⟩ := (Ibx.new wr x.lo.s A1 n1 c1 x.lo.e x.hi.s A2 n2 c2 x.hi.e).held
      replace BB := bnx BB b rfl rfl rfl rfl
      have G := mv b rfl (J13 t0 t1 r0 r1 r2 s0 s1 s2 q1 q2 q3 q4 hT1)
      clear t0 t1 r0 r1 r2 s0 s1 s2 q1 q2 q3 q4 hT1
      obtain ⟨t0, t1, r0, r1, r2, s0, s1, s2, q1, q2, q3, q4, hT1⟩ := G
      clear b y0 y1 y2 y3 y4 y5
      generalize wr.alloc (.cells #[.bool x.lo.s, .slice A1 n1 c1, .int .i64 x.lo.e, .bool x.hi.s, .slice A2 n2 c2, .int .i64 x.hi.e] 35) = W1 at *
      have b : Below W1.heap.size W1 (World.drew W1) := below_drewN (Below.refl _ _) 1
      replace BB := bnx BB b rfl rfl rfl rfl
      have G := mv b rfl (J19 t0 t1 r0 r1 r2 s0 s1 s2 q1 q2 q3 q4 hT1 z0 z1 z2 z3 z4 z5)
      clear t0 t1 r0 r1 r2 s0 s1 s2 q1 q2 q3 q4 hT1 z0 z1 z2 z3 z4 z5
      obtain ⟨t0, t1, r0, r1, r2, s0, s1, s2, q1, q2, q3, q4, hT1, z0, z1, z2, z3, z4, z5⟩ := G
      clear b
      go_wp2_with fail
      cases p1
      case false =>
        have e : pt = false := HPT.out.trans (may_noV hia (by rw [← HX.out.1]; exact HP1.out.symm))
        subst e
        refine wp_region_held_drew (S := fun w' => w'.cell? ⟨w.heap.size, 0, none⟩ = some (.slice (some ⟨g, off, none⟩) m ca) ∧ w'.cell? ⟨g, off + i * 3, none⟩ = some (.bool tx.s) ∧ w'.cell? ⟨g, off + i * 3 + 1, none⟩ = some (.slice A3 n3 c3) ∧ w'.cell? ⟨g, off + i * 3 + 2, none⟩ = some (.int .i64 tx.e) ∧ w'.cell? ⟨g, off + (i + 1) * 3, none⟩ = some (.bool ty.s) ∧ w'.cell? ⟨g, off + (i + 1) * 3 + 1, none⟩ = some (.slice A4 n4 c4) ∧ w'.cell? ⟨g, off + (i + 1) * 3 + 2, none⟩ = some (.int .i64 ty.e) ∧ w'.cell? ⟨wr.heap.size, 0, none⟩ = some (.bool x.lo.s) ∧ w'.cell? ⟨wr.heap.size, 1, none⟩ = some (.slice A1 n1 c1) ∧ w'.cell? ⟨wr.heap.size, 2, none⟩ = some (.int .i64 x.lo.e) ∧ w'.cell? ⟨wr.heap.size, 3, none⟩ = some (.bool x.hi.s) ∧ w'.cell? ⟨wr.heap.size, 4, none⟩ = some (.slice A2 n2 c2) ∧ w'.cell? ⟨wr.heap.size, 5, none⟩ = some (.int .i64 x.hi.e)) (by kernel_rfl) (by exact ⟨t0, r0, r1, r2, s0, s1, s2, z0, z1, z2, z3, z4, z5⟩) (fun hHeldsft0 => ?_)
        generalize World.drew W1 = wd at *
        refine tk 0 33 ?_
        simp only [Act.put, List.setIfInBounds_toArray, List.set_cons_zero, List.set_cons_succ]
        refine wpAnyH_ready (rs := [1]) (by kernel_rfl) (by simp) ?_
        refine AllReadyH.cons (o := _) rfl (fun K hK => ?_) AllReadyH.nil
        go_simp
        refine (imay_any (K := KS) hKS hT1 q1 q2).mono ?_
        rintro en w2 ⟨rfl, b⟩
        rw [← HP1.out]
        replace BB := below_next BB BB.size b (by rfl) (by rfl) (by rfl) (by rfl)
        have G := mv b (by rfl) <| And.intro t0 <| And.intro r0 <| And.intro r1 <| And.intro r2 <| And.intro s0 <| And.intro s1 <| And.intro s2 <| And.intro z0 <| And.intro z1 <| And.intro z2 <| And.intro z3 <| And.intro z4 <| And.intro z5 <| And.intro hT1 <| And.intro q3 <| And.intro q4 <| t1
        clear t0 r0 r1 r2 s0 s1 s2 z0 z1 z2 z3 z4 z5 hT1 q3 q4 t1
        obtain ⟨t0, r0, r1, r2, s0, s1, s2, z0, z1, z2, z3, z4, z5, hT1, q3, q4, t1⟩ := G
        clear b
        refine hK.out _ _ (by exact ⟨t0, r0, r1, r2, s0, s1, s2, z0, z1, z2, z3, z4, z5⟩) (fun hHeldsft1 => ?_)
        clear hK K hHeldsft0
        try simp only [Act.put]
        refine tk 2 35 ?_
        simp only [Act.put, List.setIfInBounds_toArray, List.set_cons_zero, List.set_cons_succ]
        refine tk 3 36 ?_
        simp only [Act.put, List.setIfInBounds_toArray, List.set_cons_zero, List.set_cons_succ]
        refine wpAnyH_take (i := 4) (v := undef) rfl (by kernel_rfl) (by kernel_rfl) (by kernel_rfl) (fun _ _ _ h => panic_put (P := Tryd.prog) (fn := Tryd.f15) (R := (Bools false w)) h) (Or.inr ⟨by rfl, rfl⟩) (by assumption) ?_
        change wpAnyH _ _ _ _ _ _ _ (Act.put _ (some 37) _) _
        simp only [Act.put, List.setIfInBounds_toArray, List.set_cons_zero, List.set_cons_succ]
        refine wpAnyH_take (i := 5) (v := undef) rfl (by kernel_rfl) (by kernel_rfl) (by kernel_rfl) (fun _ _ _ h => panic_put (P := Tryd.prog) (fn := Tryd.f15) (R := (Bools false w)) h) (Or.inr ⟨by rfl, rfl⟩) (by assumption) ?_
        change wpAnyH _ _ _ _ _ _ _ (Act.put _ (some 38) _) _
        simp only [Act.put, List.setIfInBounds_toArray, List.set_cons_zero, List.set_cons_succ]
        refine wpAnyH_take (i := 6) (v := undef) rfl (by kernel_rfl) (by kernel_rfl) (by kernel_rfl) (fun _ _ _ h => panic_put (P := Tryd.prog) (fn := Tryd.f15) (R := (Bools false w)) h) (Or.inr ⟨by rfl, rfl⟩) (by assumption) ?_
        change wpAnyH _ _ _ _ _ _ _ (Act.put _ (some 39) _) _
        simp only [Act.put, List.setIfInBounds_toArray, List.set_cons_zero, List.set_cons_succ]
        refine wpAnyH_take (i := 7) (v := undef) rfl (by kernel_rfl) (by kernel_rfl) (by kernel_rfl) (fun _ _ _ h => panic_put (P := Tryd.prog) (fn := Tryd.f15) (R := (Bools false w)) h) (Or.inr ⟨by rfl, rfl⟩) (by assumption) ?_
        change wpAnyH _ _ _ _ _ _ _ (Act.put _ (some 40) _) _
        simp only [Act.put, List.setIfInBounds_toArray, List.set_cons_zero, List.set_cons_succ]
        refine wpAnyH_take (i := 8) (v := undef) rfl (by kernel_rfl) (by kernel_rfl) (by kernel_rfl) (fun _ _ _ h => panic_put (P := Tryd.prog) (fn := Tryd.f15) (R := (Bools false w)) h) (Or.inr ⟨by rfl, rfl⟩) (by assumption) ?_
        change wpAnyH _ _ _ _ _ _ _ (Act.put _ (some 41) _) _
        simp only [Act.put, List.setIfInBounds_toArray, List.set_cons_zero, List.set_cons_succ]
        refine wpAnyH_take (i := 9) (v := undef) rfl (by kernel_rfl) (by kernel_rfl) (by kernel_rfl) (fun _ _ _ h => panic_put (P := Tryd.prog) (fn := Tryd.f15) (R := (Bools false w)) h) (Or.inr ⟨by rfl, rfl⟩) (by assumption) ?_
        change wpAnyH _ _ _ _ _ _ _ (Act.put _ (some 42) _) _
        simp only [Act.put, List.setIfInBounds_toArray, List.set_cons_zero, List.set_cons_succ]
        refine wpAnyH_take (i := 10) (v := undef) rfl (by kernel_rfl) (by kernel_rfl) (by kernel_rfl) (fun _ _ _ h => panic_put (P := Tryd.prog) (fn := Tryd.f15) (R := (Bools false w)) h) (Or.inr ⟨by rfl, rfl⟩) (by assumption) ?_
        change wpAnyH _ _ _ _ _ _ _ (Act.put _ (some 43) _) _
        simp only [Act.put, List.setIfInBounds_toArray, List.set_cons_zero, List.set_cons_succ]
        refine wpAnyH_take (i := 11) (v := undef) rfl (by kernel_rfl) (by kernel_rfl) (by kernel_rfl) (fun _ _ _ h => panic_put (P := Tryd.prog) (fn := Tryd.f15) (R := (Bools false w)) h) (Or.inr ⟨by rfl, rfl⟩) (by assumption) ?_
        change wpAnyH _ _ _ _ _ _ _ (Act.put _ (some 44) _) _
        simp only [Act.put, List.setIfInBounds_toArray, List.set_cons_zero, List.set_cons_succ]
        refine wpAnyH_take (i := 12) (v := undef) rfl (by kernel_rfl) (by kernel_rfl) (by kernel_rfl) (fun _ _ _ h => panic_put (P := Tryd.prog) (fn := Tryd.f15) (R := (Bools false w)) h) (Or.inr ⟨by rfl, rfl⟩) (by assumption) ?_
        change wpAnyH _ _ _ _ _ _ _ (Act.put _ (some 45) _) _
        simp only [Act.put, List.setIfInBounds_toArray, List.set_cons_zero, List.set_cons_succ]
        refine wpAnyH_take (i := 13) (v := undef) rfl (by kernel_rfl) (by kernel_rfl) (by kernel_rfl) (fun _ _ _ h => panic_put (P := Tryd.prog) (fn := Tryd.f15) (R := (Bools false w)) h) (Or.inr ⟨by rfl, rfl⟩) (by assumption) ?_
        change wpAnyH _ _ _ _ _ _ _ (Act.put _ (some 46) _) _
        simp only [Act.put, List.setIfInBounds_toArray, List.set_cons_zero, List.set_cons_succ]
        refine wpAnyH_take (i := 14) (v := undef) rfl (by kernel_rfl) (by kernel_rfl) (by kernel_rfl) (fun _ _ _ h => panic_put (P := Tryd.prog) (fn := Tryd.f15) (R := (Bools false w)) h) (Or.inr ⟨by rfl, rfl⟩) (by assumption) ?_
        change wpAnyH _ _ _ _ _ _ _ (Act.put _ (some 47) _) _
        simp only [Act.put, List.setIfInBounds_toArray, List.set_cons_zero, List.set_cons_succ]
        refine wpAnyH_take (i := 15) (v := undef) rfl (by kernel_rfl) (by kernel_rfl) (by kernel_rfl) (fun _ _ _ h => panic_put (P := Tryd.prog) (fn := Tryd.f15) (R := (Bools false w)) h) (Or.inr ⟨by rfl, rfl⟩) (by assumption) ?_
        change wpAnyH _ _ _ _ _ _ _ (Act.put _ (some 48) _) _
        simp only [Act.put, List.setIfInBounds_toArray, List.set_cons_zero, List.set_cons_succ]
        refine wpAnyH_take (i := 16) (v := undef) rfl (by kernel_rfl) (by kernel_rfl) (by kernel_rfl) (fun _ _ _ h => panic_put (P := Tryd.prog) (fn := Tryd.f15) (R := (Bools false w)) h) (Or.inr ⟨by rfl, rfl⟩) (by assumption) ?_
        change wpAnyH _ _ _ _ _ _ _ (Act.put _ (some 49) _) _
        simp only [Act.put, List.setIfInBounds_toArray, List.set_cons_zero, List.set_cons_succ]
        refine tk 17 50 ?_
        simp only [Act.put, List.setIfInBounds_toArray, List.set_cons_zero, List.set_cons_succ]
        refine wpAnyH_done (by kernel_rfl) ?_ _
        go_wp2
        go_ret
        exact ⟨by first | rfl | simp, BB⟩
      case true =>
        cases p2
        case false =>
          have e : pt = false := HPT.out.trans (may_noT hia (by rw [← HX.out.2.1, ← HX.out.2.2]; exact HP2.out.symm))
          subst e
          refine wp_region_held_drew (S := fun w' => w'.cell? ⟨w.heap.size, 0, none⟩ = some (.slice (some ⟨g, off, none⟩) m ca) ∧ w'.cell? ⟨g, off + i * 3, none⟩ = some (.bool tx.s) ∧ w'.cell? ⟨g, off + i * 3 + 1, none⟩ = some (.slice A3 n3 c3) ∧ w'.cell? ⟨g, off + i * 3 + 2, none⟩ = some (.int .i64 tx.e) ∧ w'.cell? ⟨g, off + (i + 1) * 3, none⟩ = some (.bool ty.s) ∧ w'.cell? ⟨g, off + (i + 1) * 3 + 1, none⟩ = some (.slice A4 n4 c4) ∧ w'.cell? ⟨g, off + (i + 1) * 3 + 2, none⟩ = some (.int .i64 ty.e) ∧ w'.cell? ⟨wr.heap.size, 0, none⟩ = some (.bool x.lo.s) ∧ w'.cell? ⟨wr.heap.size, 1, none⟩ = some (.slice A1 n1 c1) ∧ w'.cell? ⟨wr.heap.size, 2, none⟩ = some (.int .i64 x.lo.e) ∧ w'.cell? ⟨wr.heap.size, 3, none⟩ = some (.bool x.hi.s) ∧ w'.cell? ⟨wr.heap.size, 4, none⟩ = some (.slice A2 n2 c2) ∧ w'.cell? ⟨wr.heap.size, 5, none⟩ = some (.int .i64 x.hi.e)) (by kernel_rfl) (by exact ⟨t0, r0, r1, r2, s0, s1, s2, z0, z1, z2, z3, z4, z5⟩) (fun hHeldstf0 => ?_)
          generalize World.drew W1 = wd at *
          refine tk 0 33 ?_
          simp only [Act.put, List.setIfInBounds_toArray, List.set_cons_zero, List.set_cons_succ]
          refine wpAnyH_ready (rs := [1]) (by kernel_rfl) (by simp) ?_
          refine AllReadyH.cons (o := _) rfl (fun K hK => ?_) AllReadyH.nil
          go_simp
          refine (imay_any (K := KS) hKS hT1 q1 q2).mono ?_
          rintro en w2 ⟨rfl, b⟩
          rw [← HP1.out]
          replace BB := below_next BB BB.size b (by rfl) (by rfl) (by rfl) (by rfl)
          have G := mv b (by rfl) <| And.intro t0 <| And.intro r0 <| And.intro r1 <| And.intro r2 <| And.intro s0 <| And.intro s1 <| And.intro s2 <| And.intro z0 <| And.intro z1 <| And.intro z2 <| And.intro z3 <| And.intro z4 <| And.intro z5 <| And.intro hT1 <| And.intro q3 <| And.intro q4 <| t1
          clear t0 r0 r1 r2 s0 s1 s2 z0 z1 z2 z3 z4 z5 hT1 q3 q4 t1
          obtain ⟨t0, r0, r1, r2, s0, s1, s2, z0, z1, z2, z3, z4, z5, hT1, q3, q4, t1⟩ := G
          clear b
          refine hK.out _ _ (by exact ⟨t0, r0, r1, r2, s0, s1, s2, z0, z1, z2, z3, z4, z5⟩) (fun hHeldstf1 => ?_)
          clear hK K hHeldstf0
          try simp only [Act.put]
          refine tk 2 35 ?_
          simp only [Act.put, List.setIfInBounds_toArray, List.set_cons_zero, List.set_cons_succ]
          refine tk 3 36 ?_
          simp only [Act.put, List.setIfInBounds_toArray, List.set_cons_zero, List.set_cons_succ]
          refine tk 4 37 ?_
          simp only [Act.put, List.setIfInBounds_toArray, List.set_cons_zero, List.set_cons_succ]
          refine tk 5 38 ?_
          simp only [Act.put, List.setIfInBounds_toArray, List.set_cons_zero, List.set_cons_succ]
          refine tk 6 39 ?_
          simp only [Act.put, List.setIfInBounds_toArray, List.set_cons_zero, List.set_cons_succ]
          refine tk 7 40 ?_
          simp only [Act.put, List.setIfInBounds_toArray, List.set_cons_zero, List.set_cons_succ]
          refine tk 8 41 ?_
          simp only [Act.put, List.setIfInBounds_toArray, List.set_cons_zero, List.set_cons_succ]
          refine tk 9 42 ?_
          simp only [Act.put, List.setIfInBounds_toArray, List.set_cons_zero, List.set_cons_succ]
          refine tk 10 43 ?_
          simp only [Act.put, List.setIfInBounds_toArray, List.set_cons_zero, List.set_cons_succ]
          refine tk 11 44 ?_
          simp only [Act.put, List.setIfInBounds_toArray, List.set_cons_zero, List.set_cons_succ]
          refine tk 12 45 ?_
          simp only [Act.put, List.setIfInBounds_toArray, List.set_cons_zero, List.set_cons_succ]
          refine tk 13 46 ?_
          simp only [Act.put, List.setIfInBounds_toArray, List.set_cons_zero, List.set_cons_succ]
          refine tk 14 47 ?_
          simp only [Act.put, List.setIfInBounds_toArray, List.set_cons_zero, List.set_cons_succ]
          refine wpAnyH_ready (rs := [15]) (by kernel_rfl) (by simp) ?_
          refine AllReadyH.cons (o := _) rfl (fun K hK => ?_) AllReadyH.nil
          go_simp
          refine (tbefore_any (K := KS) hKS hT1 q3 q4).mono ?_
          rintro en w3 ⟨rfl, b⟩
          rw [← HP2.out]
          replace BB := below_next BB BB.size b (by rfl) (by rfl) (by rfl) (by rfl)
          have G := mv b (by rfl) <| And.intro t0 <| And.intro r0 <| And.intro r1 <| And.intro r2 <| And.intro s0 <| And.intro s1 <| And.intro s2 <| And.intro z0 <| And.intro z1 <| And.intro z2 <| And.intro z3 <| And.intro z4 <| And.intro z5 <| t1
          clear t0 r0 r1 r2 s0 s1 s2 z0 z1 z2 z3 z4 z5 t1
          obtain ⟨t0, r0, r1, r2, s0, s1, s2, z0, z1, z2, z3, z4, z5, t1⟩ := G
          clear b
          refine hK.out _ _ (by exact ⟨t0, r0, r1, r2, s0, s1, s2, z0, z1, z2, z3, z4, z5⟩) (fun hHeldstf2 => ?_)
          clear hK K hHeldstf1
          try simp only [Act.put]
          refine tk 16 49 ?_
          simp only [Act.put, List.setIfInBounds_toArray, List.set_cons_zero, List.set_cons_succ]
          refine tk 17 50 ?_
          simp only [Act.put, List.setIfInBounds_toArray, List.set_cons_zero, List.set_cons_succ]
          refine wpAnyH_done (by kernel_rfl) ?_ _
          go_wp2
          go_ret
          exact ⟨by first | rfl | simp, BB⟩
        case true =>
          refine wp_region_held_drew (S := fun w' => w'.cell? ⟨w.heap.size, 0, none⟩ = some (.slice (some ⟨g, off, none⟩) m ca) ∧ w'.cell? ⟨g, off + i * 3, none⟩ = some (.bool tx.s) ∧ w'.cell? ⟨g, off + i * 3 + 1, none⟩ = some (.slice A3 n3 c3) ∧ w'.cell? ⟨g, off + i * 3 + 2, none⟩ = some (.int .i64 tx.e) ∧ w'.cell? ⟨g, off + (i + 1) * 3, none⟩ = some (.bool ty.s) ∧ w'.cell? ⟨g, off + (i + 1) * 3 + 1, none⟩ = some (.slice A4 n4 c4) ∧ w'.cell? ⟨g, off + (i + 1) * 3 + 2, none⟩ = some (.int .i64 ty.e) ∧ w'.cell? ⟨wr.heap.size, 0, none⟩ = some (.bool x.lo.s) ∧ w'.cell? ⟨wr.heap.size, 1, none⟩ = some (.slice A1 n1 c1) ∧ w'.cell? ⟨wr.heap.size, 2, none⟩ = some (.int .i64 x.lo.e) ∧ w'.cell? ⟨wr.heap.size, 3, none⟩ = some (.bool x.hi.s) ∧ w'.cell? ⟨wr.heap.size, 4, none⟩ = some (.slice A2 n2 c2) ∧ w'.cell? ⟨wr.heap.size, 5, none⟩ = some (.int .i64 x.hi.e)) (by kernel_rfl) (by exact ⟨t0, r0, r1, r2, s0, s1, s2, z0, z1, z2, z3, z4, z5⟩) (fun hHeldstt0 => ?_)
          generalize World.drew W1 = wd at *
          refine tk 0 33 ?_
          simp only [Act.put, List.setIfInBounds_toArray, List.set_cons_zero, List.set_cons_succ]
          refine wpAnyH_ready (rs := [1]) (by kernel_rfl) (by simp) ?_
          refine AllReadyH.cons (o := _) rfl (fun K hK => ?_) AllReadyH.nil
          go_simp
          refine (imay_any (K := KS) hKS hT1 q1 q2).mono ?_
          rintro en w2 ⟨rfl, b⟩
          rw [← HP1.out]
          replace BB := below_next BB BB.size b (by rfl) (by rfl) (by rfl) (by rfl)
          have G := mv b (by rfl) <| And.intro t0 <| And.intro r0 <| And.intro r1 <| And.intro r2 <| And.intro s0 <| And.intro s1 <| And.intro s2 <| And.intro z0 <| And.intro z1 <| And.intro z2 <| And.intro z3 <| And.intro z4 <| And.intro z5 <| And.intro hT1 <| And.intro q3 <| And.intro q4 <| t1
          clear t0 r0 r1 r2 s0 s1 s2 z0 z1 z2 z3 z4 z5 hT1 q3 q4 t1
          obtain ⟨t0, r0, r1, r2, s0, s1, s2, z0, z1, z2, z3, z4, z5, hT1, q3, q4, t1⟩ := G
          clear b
          refine hK.out _ _ (by exact ⟨t0, r0, r1, r2, s0, s1, s2, z0, z1, z2, z3, z4, z5⟩) (fun hHeldstt1 => ?_)
          clear hK K hHeldstt0
          try simp only [Act.put]
          refine tk 2 35 ?_
          simp only [Act.put, List.setIfInBounds_toArray, List.set_cons_zero, List.set_cons_succ]
          refine tk 3 36 ?_
          simp only [Act.put, List.setIfInBounds_toArray, List.set_cons_zero, List.set_cons_succ]
          refine tk 4 37 ?_
          simp only [Act.put, List.setIfInBounds_toArray, List.set_cons_zero, List.set_cons_succ]
          refine tk 5 38 ?_
          simp only [Act.put, List.setIfInBounds_toArray, List.set_cons_zero, List.set_cons_succ]
          refine tk 6 39 ?_
          simp only [Act.put, List.setIfInBounds_toArray, List.set_cons_zero, List.set_cons_succ]
          refine tk 7 40 ?_
          simp only [Act.put, List.setIfInBounds_toArray, List.set_cons_zero, List.set_cons_succ]
          refine tk 8 41 ?_
          simp only [Act.put, List.setIfInBounds_toArray, List.set_cons_zero, List.set_cons_succ]
          refine tk 9 42 ?_
          simp only [Act.put, List.setIfInBounds_toArray, List.set_cons_zero, List.set_cons_succ]
          refine tk 10 43 ?_
          simp only [Act.put, List.setIfInBounds_toArray, List.set_cons_zero, List.set_cons_succ]
          refine tk 11 44 ?_
          simp only [Act.put, List.setIfInBounds_toArray, List.set_cons_zero, List.set_cons_succ]
          refine tk 12 45 ?_
          simp only [Act.put, List.setIfInBounds_toArray, List.set_cons_zero, List.set_cons_succ]
          refine tk 13 46 ?_
          simp only [Act.put, List.setIfInBounds_toArray, List.set_cons_zero, List.set_cons_succ]
          refine tk 14 47 ?_
          simp only [Act.put, List.setIfInBounds_toArray, List.set_cons_zero, List.set_cons_succ]
          refine wpAnyH_ready (rs := [15]) (by kernel_rfl) (by simp) ?_
          refine AllReadyH.cons (o := _) rfl (fun K hK => ?_) AllReadyH.nil
          go_simp
          refine (tbefore_any (K := KS) hKS hT1 q3 q4).mono ?_
          rintro en w3 ⟨rfl, b⟩
          rw [← HP2.out]
          replace BB := below_next BB BB.size b (by rfl) (by rfl) (by rfl) (by rfl)
          have G := mv b (by rfl) <| And.intro t0 <| And.intro r0 <| And.intro r1 <| And.intro r2 <| And.intro s0 <| And.intro s1 <| And.intro s2 <| And.intro z0 <| And.intro z1 <| And.intro z2 <| And.intro z3 <| And.intro z4 <| And.intro z5 <| t1
          clear t0 r0 r1 r2 s0 s1 s2 z0 z1 z2 z3 z4 z5 t1
          obtain ⟨t0, r0, r1, r2, s0, s1, s2, z0, z1, z2, z3, z4, z5, t1⟩ := G
          clear b
          refine hK.out _ _ (by exact ⟨t0, r0, r1, r2, s0, s1, s2, z0, z1, z2, z3, z4, z5⟩) (fun hHeldstt2 => ?_)
          clear hK K hHeldstt1
          try simp only [Act.put]
          refine tk 16 49 ?_
          simp only [Act.put, List.setIfInBounds_toArray, List.set_cons_zero, List.set_cons_succ]
          refine tk 17 50 ?_
          simp only [Act.put, List.setIfInBounds_toArray, List.set_cons_zero, List.set_cons_succ]
          refine wpAnyH_done (by kernel_rfl) ?_ _
          go_wp2
          go_roundg (gk - 1)
          case measure => have := HG.out; omega
          case rel => exact ⟨i + 1, by have := HG.out; omega, by go_num, Lib.hid (fun j hj => by
            rcases (show j < i ∨ j = i by omega) with h | rfl
            · exact HO.out j h
            · exact ⟨by rw [← HX.out.1]; exact HP1.out.symm, by rw [← HX.out.2.1, ← HX.out.2.2]; exact HP2.out.symm⟩), BB, t0, t1⟩
    · have e : pt = true := HPT.out.trans (okTo_all (by have := HN.out; omega) (by have := HN.out; omega) (by have := HN.out; have := HK5.out; omega) (by have h2 : i = a.n := (by have := HG.out; have := HN.out; omega); rw [← h2]; exact HO.out))
      subst e
      go_wp2
      go_ret
      exact ⟨by first | rfl | simp, BB⟩

end Go.Proofs.YtkpcmgfpmekkjaaDoor
