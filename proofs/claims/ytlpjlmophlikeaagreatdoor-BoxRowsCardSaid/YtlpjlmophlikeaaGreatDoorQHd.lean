/-
 Contracts of box's Corner and Width, at this translation. Condition: the slices read as limbs, the table of math/bits reads as its text lays it.
-/
import Derived.Test.YtlpjlmophlikeaaGreatDoorQHc
set_option maxHeartbeats 8000000
set_option maxRecDepth 100000
namespace Go.Proofs.YtlpjlmophlikeaaGreatDoor
open Go.RowKit


/-- a Dyad that may be, shifted by nothing, is the same -/
theorem dshift_zero {w : World} {a : Rw} {A : Option Addr} {n c : Nat} (ha : a.may = true) (hT : Tab w) (h : Rd w .u64 Go.Proofs.YtlpjlmophlikeaaGreatDoor.W A n c a.l) :
  Calls Tryz.prog 55 #[.agg #[.bool a.s, .slice A n c, .int .i64 a.e], .int .i64 0] w (TellD 0 a w) := by
 obtain ⟨hN, hok, hdig⟩ := rd_okd h ha
 refine (dshift_ok (p := 0) hT hN hok).mono ?_
 rintro en w' ⟨k, s, B, m, d, x, e, rfl, hP, h2, b⟩
 have h4 := h2.rd
 rcases hP with ⟨hx, rfl, rfl, rfl, rfl⟩ | ⟨hx, _, rfl, rfl, rfl, rfl⟩ | ⟨hx, hno, _⟩
 ·rw [hdig] at h4
  exact ⟨B, m, d, rfl, h4, b⟩
 ·rw [hdig] at h4
  exact ⟨B, m, d, by rw [Int.zero_add], h4, b⟩
 ·rcases hok with ⟨h0, _⟩ | ⟨_, _, h3, h5⟩
  ·exact absurd h0 hx
  ·exact absurd ⟨by omega, by omega⟩ hno
/-- is this bit of k 1? -/
def bitZ (k : Int) (i : Nat) : Bool := decide (i < 62) && (bits .and .i64 (k / 2 ^ i) 1 == 1)
def cornQ (k : Int) (i : Nat) (x : Iv) : Rw := if bitZ k i = true then x.hi else x.lo
theorem end_may {K : Nat} {x : Iv} (h : mayI K x = true) : x.lo.may = true ∧ x.hi.may = true := ⟨(mayI_iff.1 h).1, (mayI_iff.1 h).2.1⟩

theorem bcorner1_any {w : World} {K b1 b2 i n c : Nat} {A : Option Addr} {X : Nat → Iv} {kz : Int} (hT : Tab w) (t1 : w.cell? ⟨b1, 0, none⟩ = some (.slice A n c)) (t2 : w.cell? ⟨b2, 0, none⟩ = some (.int .i64 kz)) (h : RdS w A n c X) (hi : i < n) (hm : mayI K (X i) = true) :
  Calls Tryz.prog 54 #[.int .i64 i, .pointer (some ⟨b1, 0, none⟩), .pointer (some ⟨b2, 0, none⟩)] w (TellD 0 (cornQ kz i (X i)) w) := by
 obtain ⟨g, off, rfl, hc⟩ := h.at_ (by omega)
 obtain ⟨A1, n1, c1, A2, n2, c2, ⟨r0, r1, r2, r3, r4, r5⟩, q1, q2⟩ := hc i hi
 clear hc h
 generalize X i = x at *
 replace hm := end_may hm
 have hp2 : (i : Int) < n := by omega
 have hp3 : (0 : Int) ≤ i := by omega
 have b := below_alloc w (.cells #[.bool false, .slice none 0 0, .int .i64 0] 27)
 have BB := b
 have hT1 := mv b rfl hT
 have r := Box.new w false none 0 0 0
 have G := mv b rfl (J10 t1 t2 r0 r1 r2 r3 r4 r5 q1 q2)
 clear t1 t2 r0 r1 r2 r3 r4 r5 q1 q2
 obtain ⟨t1, t2, r0, r1, r2, r3, r4, r5, q1, q2⟩ := G
 clear b
 go_enter Tryz.func54, Tryz.ntmps54
 go_upto_region 1 with fail
 generalize w.alloc (.cells #[.bool false, .slice none 0 0, .int .i64 0] 27) = W1 at *
 go_upto_region 2 with fail
 have x6 := Box.new W1 x.lo.s A1 n1 c1 x.lo.e
 have b := below_alloc W1 (.cells #[.bool x.lo.s, .slice A1 n1 c1, .int .i64 x.lo.e] 27)
 replace BB := bnx BB b
 have hg6 := r.gl
 have G := mv b rfl (J9 hT1 t1 t2 r3 r4 r5 q1 q2 r)
 clear hT1 t1 t2 r3 r4 r5 q1 q2 r
 obtain ⟨hT1, t1, t2, r3, r4, r5, q1, q2, r⟩ := G
 clear b r0 r1 r2
 generalize W1.alloc (.cells #[.bool x.lo.s, .slice A1 n1 c1, .int .i64 x.lo.e] 27) = W2 at *
 generalize W1.heap.size = g6 at *
 by_cases h62 : (i : Int) < 62
 ·have h63 : i < 62 := by omega
  by_cases hb : (bits .and .i64 (kz / 2 ^ i) 1 == 1) = true
  ·have hq : cornQ kz i x = x.hi := if_pos (by unfold bitZ; rw [decide_eq_true h63, hb]; rfl)
   have HQ := Lib.hid hq
   clear hq
   obtain ⟨f0, f1, f2⟩ := x6.open
   obtain ⟨z0, z1, z2⟩ := x6.held
   go_upto_region 4 with fail
   have y6 := x6.put x.hi.s A2 n2 c2 x.hi.e
   have r' := r.put3 (g := g6) (by omega) (.bool x.hi.s) (.slice A2 n2 c2) (.int .i64 x.hi.e)
   have q2' := q2.put3 x6 (.bool x.hi.s) (.slice A2 n2 c2) (.int .i64 x.hi.e)
   have BB' := below_put3 (g := g6) BB (by omega) (.bool x.hi.s) (.slice A2 n2 c2) (.int .i64 x.hi.e)
   clear f0 f1 f2 z0 z1 z2 x6 r q1 q2 BB t1 t2 r3 r4 r5 hT1
   generalize ((W2.setCell ⟨g6, 0, none⟩ (.bool x.hi.s)).setCell ⟨g6, 1, none⟩ (.slice A2 n2 c2)).setCell ⟨g6, 2, none⟩ (.int .i64 x.hi.e) = W4 at *
   have hT4 := mv BB' rfl hT
   obtain ⟨z0, z1, z2⟩ := y6.held
   go_wp2_with fail
   refine (dshift_zero (a := x.hi) hm.2 hT4 q2').mono ?_
   rintro en w3 ⟨A5, n5, c5, rfl, h5, b⟩
   have BC := below_next BB' (Below.size BB') b rfl rfl rfl rfl
   have rr := mv b rfl r'
   clear b hT4 BB' r' q2'
   obtain ⟨f0, f1, f2⟩ := rr.open
   obtain ⟨z3, z4, z5⟩ := rr.held
   go_wp2
   have qq := rr.put x.hi.s A5 n5 c5 x.hi.e
   have hN := h5.put3 rr (.bool x.hi.s) (.slice A5 n5 c5) (.int .i64 x.hi.e)
   have HB3 := below_put3 (g := w.heap.size) BC (by omega) (.bool x.hi.s) (.slice A5 n5 c5) (.int .i64 x.hi.e)
   obtain ⟨z6, z7, z8⟩ := qq.held
   exact bodyPost_ret (v := .tuple #[.agg #[.bool x.hi.s, .slice A5 n5 c5, .int .i64 x.hi.e], .int .i64 0]) (by simp [results, Tryz.results54, go_sem, z6, z7, z8]) rfl (by rw [HQ.out]; exact ⟨_, _, _, rfl, hN, HB3⟩)
  ·have hq : cornQ kz i x = x.lo := if_neg (fun h => by unfold bitZ at h; rw [Bool.and_eq_true] at h; exact hb h.2)
   have HQ := Lib.hid hq
   clear hq
   obtain ⟨z0, z1, z2⟩ := x6.held
   have hT4 := hT1
   go_wp2_with fail
   refine (dshift_zero (a := x.lo) hm.1 hT4 q1).mono ?_
   rintro en w3 ⟨A5, n5, c5, rfl, h5, b⟩
   have BC := below_next BB (Below.size BB) b rfl rfl rfl rfl
   have rr := mv b rfl r
   clear b hT4 BB r q1
   obtain ⟨f0, f1, f2⟩ := rr.open
   obtain ⟨z3, z4, z5⟩ := rr.held
   go_wp2
   have qq := rr.put x.lo.s A5 n5 c5 x.lo.e
   have hN := h5.put3 rr (.bool x.lo.s) (.slice A5 n5 c5) (.int .i64 x.lo.e)
   have HB3 := below_put3 (g := w.heap.size) BC (by omega) (.bool x.lo.s) (.slice A5 n5 c5) (.int .i64 x.lo.e)
   obtain ⟨z6, z7, z8⟩ := qq.held
   exact bodyPost_ret (v := .tuple #[.agg #[.bool x.lo.s, .slice A5 n5 c5, .int .i64 x.lo.e], .int .i64 0]) (by simp [results, Tryz.results54, go_sem, z6, z7, z8]) rfl (by rw [HQ.out]; exact ⟨_, _, _, rfl, hN, HB3⟩)
 ·have hq : cornQ kz i x = x.lo := if_neg (fun h => by unfold bitZ at h; rw [Bool.and_eq_true] at h; have := of_decide_eq_true h.1; omega)
  have HQ := Lib.hid hq
  clear hq
  obtain ⟨z0, z1, z2⟩ := x6.held
  have hT4 := hT1
  go_wp2_with fail
  refine (dshift_zero (a := x.lo) hm.1 hT4 q1).mono ?_
  rintro en w3 ⟨A5, n5, c5, rfl, h5, b⟩
  have BC := below_next BB (Below.size BB) b rfl rfl rfl rfl
  have rr := mv b rfl r
  clear b hT4 BB r q1
  obtain ⟨f0, f1, f2⟩ := rr.open
  obtain ⟨z3, z4, z5⟩ := rr.held
  go_wp2
  have qq := rr.put x.lo.s A5 n5 c5 x.lo.e
  have hN := h5.put3 rr (.bool x.lo.s) (.slice A5 n5 c5) (.int .i64 x.lo.e)
  have HB3 := below_put3 (g := w.heap.size) BC (by omega) (.bool x.lo.s) (.slice A5 n5 c5) (.int .i64 x.lo.e)
  obtain ⟨z6, z7, z8⟩ := qq.held
  exact bodyPost_ret (v := .tuple #[.agg #[.bool x.lo.s, .slice A5 n5 c5, .int .i64 x.lo.e], .int .i64 0]) (by simp [results, Tryz.results54, go_sem, z6, z7, z8]) rfl (by rw [HQ.out]; exact ⟨_, _, _, rfl, hN, HB3⟩)

theorem two_at (w : World) (u1 u2 : Value) (T1 T2 : TypeId) : ((w.alloc (.cells #[u1] T1)).alloc (.cells #[u2] T2)).cell? ⟨w.heap.size, 0, none⟩ = some u1 ∧ ((w.alloc (.cells #[u1] T1)).alloc (.cells #[u2] T2)).cell? ⟨w.heap.size + 1, 0, none⟩ = some u2 := by
 have b2 := below_alloc (w.alloc (.cells #[u1] T1)) (.cells #[u2] T2)
 have x1 := mv b2 rfl (Blk.new w #[u1] T1)
 have x2 := Blk.new (w.alloc (.cells #[u1] T1)) #[u2] T2
 have e1 : (w.alloc (.cells #[u1] T1)).heap.size = w.heap.size + 1 := by simp
 rw [e1] at x2
 exact ⟨x1.at 0, x2.at 0⟩

theorem bcorner_any {w : World} {K n c : Nat} {A : Option Addr} {X : Nat → Iv} {kz : Int} (hK : 4194304 ≤ K) (hT : Tab w) (h : RdS w A n c X) (hn : n ≤ 1000000) (hm : (eachB n fun i => mayI K (X i)) = true) :
  Calls Tryz.prog 17 #[.slice A n c, .int .i64 kz] w fun en w' => ∃ B d, en = .returned (.slice B n d) ∧ RdD w' B n d (fun i => cornQ kz i (X i)) ∧ Below w.heap.size w w' := by
 have BB := two_below w (.cells #[.slice A n c] 39) (.cells #[.int .i64 kz] 3)
 obtain ⟨t1, t2⟩ := two_at w (.slice A n c) (.int .i64 kz) 39 3
 have hT1 := mv BB rfl hT
 have h1 := mv BB rfl h
 have hmf := make_func
 have HM := Lib.hid hm
 clear hT h
 obtain ⟨xr, hxr⟩ : ∃ q, q = fun i => cornQ kz i (X i) := ⟨_, rfl⟩
 rw [← hxr]
 have HX := Lib.hid hxr
 clear hxr hm
 go_enter Tryz.func17, Tryz.ntmps17
 go_wp2_with fail
 refine (bmay_any hK hT1 h1 hn).mono ?_
 rintro en w2 ⟨rfl, b⟩
 rw [HM.out]
 replace BB := bnx BB b
 have G := mv b rfl (J4 t1 t2 hT1 h1)
 clear t1 t2 hT1 h1
 obtain ⟨t1, t2, hT1, h1⟩ := G
 clear b
 have HC := Lib.hid (bmadeD_any (w0 := w2) (n := n) (ft := 54) (q1 := .pointer (some ⟨w.heap.size, 0, none⟩)) (q2 := .pointer (some ⟨w.heap.size + 1, 0, none⟩)) (k := fun _ => 0) (x := fun i => cornQ kz i (X i)) hn (fun _ _ => by kernel_rfl) (fun i hi W2 b => bcorner1_any (mv b rfl hT1) (cell_next b rfl t1) (cell_next b rfl t2) (mv b rfl h1) hi (eachB_iff.1 HM.out i hi)))
 have hz : firstE (fun _ => 0) n = 0 := firstE_zero.2 fun _ _ => rfl
 rw [hz, ← HX.out] at HC
 clear hz h1 hT1
 go_wp2_with fail
 refine HC.out.mono ?_
 rintro en w4 ⟨A5, m5, c5, rfl, hz1, hz2, b⟩
 obtain ⟨rfl, hr⟩ := hz1 rfl
 clear hz2
 replace BB := bnx BB b
 clear b HC
 go_wp2
 exact bodyPost_ret (v := .slice A5 m5 c5) (by simp [results, Tryz.results17, go_sem]) rfl ⟨_, _, rfl, hr, BB⟩

/-- an interval's width is known -/
def Wide (x : Iv) (d : Rw) : Prop := ∀ {W : World} {A1 : Option Addr} {n1 c1 : Nat} {A2 : Option Addr} {n2 c2 : Nat}, Tab W → Rd W .u64 Go.Proofs.YtlpjlmophlikeaaGreatDoor.W A1 n1 c1 x.lo.l → Rd W .u64 Go.Proofs.YtlpjlmophlikeaaGreatDoor.W A2 n2 c2 x.hi.l → Calls Tryz.prog 98 #[.agg #[.bool x.lo.s, .slice A1 n1 c1, .int .i64 x.lo.e, .bool x.hi.s, .slice A2 n2 c2, .int .i64 x.hi.e]] W (TellD 0 d W)
/-- the greatest of the first i -/
def maxW (K : Nat) (D : Nat → Rw) : Nat → Rw
 | 0 => Rw.zero
 | i + 1 => if 0 < cmpQ K (D i) (maxW K D i) then D i else maxW K D i
/-- what stands while the widths are told one by one -/
structure WidI (w0 : World) (b1 b2 b4 n c : Nat) (A : Option Addr) (d : Rw) (w : World) : Prop where
 below : Below w0.heap.size w0 w
 t1 : w.cell? ⟨b1, 0, none⟩ = some (.slice A n c)
 res : Box w b2 false none 0 0 0
 is : ∃ B m e, Box w b4 d.s B m e d.e ∧ Rd w .u64 Go.Proofs.YtlpjlmophlikeaaGreatDoor.W B m e d.l

theorem bwidth1_any {w0 w : World} {K b1 b2 b4 i n c : Nat} {A : Option Addr} {X : Nat → Iv} {D : Nat → Rw} (hK : 4194304 ≤ K) (hT : Tab w0) (h : RdS w0 A n c X) (hi : i < n) (hW : Wide (X i) (D i)) (hb1 : b1 ≠ b4) (hb2 : b2 ≠ b4) (hb4 : w0.heap.size ≤ b4) (hI : WidI w0 b1 b2 b4 n c A (maxW K D i) w) :
  Calls Tryz.prog 97 #[.int .i64 i, .pointer (some ⟨b1, 0, none⟩), .pointer (some ⟨b4, 0, none⟩)] w fun en w' => en = .returned (.int .i64 0) ∧ WidI w0 b1 b2 b4 n c A (maxW K D (i + 1)) w' := by
 have HS : Hid (maxW K D (i + 1) = if 0 < cmpQ K (D i) (maxW K D i) then D i else maxW K D i) := Lib.hid rfl
 generalize maxW K D (i + 1) = e2 at *
 generalize maxW K D i = e1 at *
 obtain ⟨BB, t1, rs, B1, m1, d1, xg, qg⟩ := hI
 obtain ⟨g, off, rfl, hc⟩ := (mv BB rfl h).at_ (by omega)
 obtain ⟨A1, n1, c1, A2, n2, c2, ⟨r0, r1, r2, r3, r4, r5⟩, q1, q2⟩ := hc i hi
 clear hc
 generalize X i = x at *
 generalize D i = dx at *
 have hp2 : (i : Int) < n := by omega
 have hp3 : (0 : Int) ≤ i := by omega
 have hT1 := mv BB rfl hT
 have HW := Lib.hid (hW hT1 q1 q2)
 clear hW
 go_enter Tryz.func97, Tryz.ntmps97
 go_wp2_with fail
 refine HW.out.mono ?_
 rintro en w2 ⟨A5, n5, c5, rfl, h5, b⟩
 replace BB := bnx BB b
 clear r0 r1 r2 r3 r4 r5 q1 q2 hT1 HW
 have G := mv b rfl (J4 t1 rs xg qg)
 clear t1 rs xg qg
 obtain ⟨t1, rs, xg, qg⟩ := G
 clear b
 have b := below_alloc w2 (.cells #[.bool dx.s, .slice A5 n5 c5, .int .i64 dx.e] 27)
 have xw := Box.new w2 dx.s A5 n5 c5 dx.e
 replace BB := bnx BB b
 have G := mv b rfl (J5 t1 rs xg qg h5)
 clear t1 rs xg qg h5
 obtain ⟨t1, rs, xg, qg, h5⟩ := G
 clear b
 go_upto_region 2 with fail
 generalize w2.alloc (.cells #[.bool dx.s, .slice A5 n5 c5, .int .i64 dx.e] 27) = W2 at *
 generalize w2.heap.size = g6 at *
 have hT2 := mv BB rfl hT
 obtain ⟨z0, z1, z2⟩ := xw.held
 obtain ⟨y0, y1, y2⟩ := xg.held
 go_wp2_with fail
 refine (dcmp_raw hK hT2 h5 qg).mono ?_
 rintro en w3 ⟨rfl, b⟩
 replace BB := bnx BB b
 clear z0 z1 z2 y0 y1 y2 hT2
 have G := mv b rfl (J6 t1 rs xg qg h5 xw)
 clear t1 rs xg qg h5 xw
 obtain ⟨t1, rs, xg, qg, h5, xw⟩ := G
 clear b
 change Hid (e2 = if 0 < cmpR K dx.s dx.l dx.e e1.s e1.l e1.e then dx else e1) at HS
 by_cases hc : 0 < cmpR K dx.s dx.l dx.e e1.s e1.l e1.e
 ·have HE := Lib.hid (HS.out.trans (if_pos hc))
  generalize cmpR K dx.s dx.l dx.e e1.s e1.l e1.e = cv at *
  clear HS
  obtain ⟨z0, z1, z2⟩ := xw.held
  obtain ⟨f0, f1, f2⟩ := xg.open
  obtain ⟨y0, y1, y2⟩ := xg.held
  go_upto_region 4 with fail
  clear z0 z1 z2 f0 f1 f2 y0 y1 y2 xw
  have xg2 := xg.put dx.s A5 n5 c5 dx.e
  have h6 := h5.put3 xg (.bool dx.s) (.slice A5 n5 c5) (.int .i64 dx.e)
  have rs2 := rs.put3 (g := b4) hb2 (.bool dx.s) (.slice A5 n5 c5) (.int .i64 dx.e)
  have HB3 := below_put3 (g := b4) BB hb4 (.bool dx.s) (.slice A5 n5 c5) (.int .i64 dx.e)
  have t2 := cell_oth (cell_oth (cell_oth t1 hb1 0 (.bool dx.s)) hb1 1 (.slice A5 n5 c5)) hb1 2 (.int .i64 dx.e)
  clear xg qg h5 BB t1 rs
  generalize ((w3.setCell ⟨b4, 0, none⟩ (.bool dx.s)).setCell ⟨b4, 1, none⟩ (.slice A5 n5 c5)).setCell ⟨b4, 2, none⟩ (.int .i64 dx.e) = W4 at *
  go_wp2
  exact bodyPost_ret (v := .int .i64 0) (by simp [results, Tryz.results97, go_sem]) rfl ⟨rfl, HB3, t2, rs2, by rw [HE.out]; exact ⟨_, _, _, xg2, h6⟩⟩
 ·have HE := Lib.hid (HS.out.trans (if_neg hc))
  generalize cmpR K dx.s dx.l dx.e e1.s e1.l e1.e = cv at *
  clear HS
  go_wp2
  exact bodyPost_ret (v := .int .i64 0) (by simp [results, Tryz.results97, go_sem]) rfl ⟨rfl, BB, t1, rs, by rw [HE.out]; exact ⟨_, _, _, xg, qg⟩⟩

theorem bwidth_any {w : World} {K n c : Nat} {A : Option Addr} {X : Nat → Iv} {D : Nat → Rw} (hK : 4194304 ≤ K) (hT : Tab w) (h : RdS w A n c X) (hn : n ≤ 1000000) (hW : ∀ i, i < n → Wide (X i) (D i)) :
  Calls Tryz.prog 52 #[.slice A n c] w (TellD 0 (maxW K D n) w) := by
 have BB := three_below w (.cells #[.slice A n c] 39) (.cells #[.bool false, .slice none 0 0, .int .i64 0] 27) (.cells #[.bool false, .slice none 0 0, .int .i64 0] 27)
 have b1 := two_below (w.alloc (.cells #[.slice A n c] 39)) (.cells #[.bool false, .slice none 0 0, .int .i64 0] 27) (.cells #[.bool false, .slice none 0 0, .int .i64 0] 27)
 have t1 : World.cell? _ ⟨w.heap.size, 0, none⟩ = some (.slice A n c) := (mv b1 rfl (Blk.new w #[.slice A n c] 39)).at 0
 have e1 : (w.alloc (.cells #[.slice A n c] 39)).heap.size = w.heap.size + 1 := by simp
 have e2 : ((w.alloc (.cells #[.slice A n c] 39)).alloc (.cells #[.bool false, .slice none 0 0, .int .i64 0] 27)).heap.size = w.heap.size + 2 := by simp
 have b2 := below_alloc ((w.alloc (.cells #[.slice A n c] 39)).alloc (.cells #[.bool false, .slice none 0 0, .int .i64 0] 27)) (.cells #[.bool false, .slice none 0 0, .int .i64 0] 27)
 have r := mv b2 rfl (Box.new (w.alloc (.cells #[.slice A n c] 39)) false none 0 0 0)
 have xg := Box.new ((w.alloc (.cells #[.slice A n c] 39)).alloc (.cells #[.bool false, .slice none 0 0, .int .i64 0] 27)) false none 0 0 0
 rw [e1] at r
 rw [e2] at xg
 clear e1 e2 b1 b2
 have hmf := make_func
 have HW := Lib.hid hW
 clear hW
 generalize hdm : maxW K D n = dm
 have HD := Lib.hid hdm
 clear hdm
 go_enter Tryz.func52, Tryz.ntmps52
 go_upto_region 2 with fail
 generalize ((w.alloc (.cells #[.slice A n c] 39)).alloc (.cells #[.bool false, .slice none 0 0, .int .i64 0] 27)).alloc (.cells #[.bool false, .slice none 0 0, .int .i64 0] 27) = W3 at *
 have hT0 := Lib.hid (And.intro hT h)
 have hI : WidI w w.heap.size (w.heap.size + 1) (w.heap.size + 2) n c A (maxW K D 0) W3 := ⟨BB, t1, r, none, 0, 0, xg, rd_nil0 W3⟩
 have HC := Lib.hid (bover_any (f := 97) (p1 := .pointer (some ⟨w.heap.size, 0, none⟩)) (p2 := .pointer (some ⟨w.heap.size + 2, 0, none⟩)) (k := fun _ => 0) (I := fun i W => WidI w w.heap.size (w.heap.size + 1) (w.heap.size + 2) n c A (maxW K D i) W) hn (fun _ _ => by kernel_rfl) hI (fun i hi W2 hI => bwidth1_any hK hT0.out.1 hT0.out.2 hi (HW.out i hi) (by omega) (by omega) (by omega) hI))
 have hz : firstE (fun _ => 0) n = 0 := firstE_zero.2 fun _ _ => rfl
 rw [hz] at HC
 clear hz hT h hI BB r xg
 go_wp2_with fail
 refine HC.out.mono ?_
 rintro en w4 ⟨rfl, i, hin, hI⟩
 clear HC t1
 obtain rfl := hin (by first | rfl | trivial)
 rw [HD.out] at hI
 obtain ⟨BB, _, r, B, m, d, xg, qg⟩ := hI
 obtain ⟨f0, f1, f2⟩ := r.open
 obtain ⟨z0, z1, z2⟩ := r.held
 obtain ⟨y0, y1, y2⟩ := xg.held
 go_wp2
 have qq := r.put dm.s B m d dm.e
 have hN := qg.put3 r (.bool dm.s) (.slice B m d) (.int .i64 dm.e)
 have HB3 := below_put3 (g := w.heap.size + 1) BB (by omega) (.bool dm.s) (.slice B m d) (.int .i64 dm.e)
 obtain ⟨z6, z7, z8⟩ := qq.held
 exact bodyPost_ret (v := .tuple #[.agg #[.bool dm.s, .slice B m d, .int .i64 dm.e], .int .i64 0]) (by simp [results, Tryz.results52, go_sem, z6, z7, z8]) rfl ⟨_, _, _, rfl, hN, HB3⟩

end Go.Proofs.YtlpjlmophlikeaaGreatDoor
