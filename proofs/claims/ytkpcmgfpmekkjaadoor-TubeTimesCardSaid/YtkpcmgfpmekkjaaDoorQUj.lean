/-
  Contracts of tube's Over, At, Make, at this translation. Condition: the slices read as limbs, the table of math/bits reads as its text lays it.
-/
import Derived.Test.YtkpcmgfpmekkjaaDoorQUi
namespace Go.Proofs.YtkpcmgfpmekkjaaDoor
open Go.RowKit


/-- how a face ends that tells a tube and a code -/
def TellT (k : Int) (a : Tb) (w : World) (en : Ending) (w' : World) : Prop := ∃ A c B d, en = .returned (.tuple #[.agg #[.slice A a.m c, .slice B a.n d], .int .i64 k]) ∧ RdTb w' A c B d a ∧ Below w.heap.size w w'
def Tb.zero : Tb := ⟨0, fun _ => Iv.zero, 0, fun _ => Rw.zero⟩
theorem rdtb_zero (w : World) : RdTb w none 0 none 0 Tb.zero := ⟨rdd_nil _ _, rds_nil _ _⟩
/-- own's rows as a tube -/
theorem own_rd {w : World} {b gT gV : Nat} {a : Tb} (hH : HRow w b (.slice (some ⟨gT, 0, none⟩) a.m a.m) (filX Rw.zero a.T a.m a.m)) (hI : IRow w b (.slice (some ⟨gV, 0, none⟩) a.n a.n) (filX Iv.zero a.V a.n a.n)) : RdTb w (some ⟨gT, 0, none⟩) a.m (some ⟨gV, 0, none⟩) a.n a := by
  obtain ⟨A, c, e, r, _⟩ := hH.form
  obtain ⟨B, d, e', r', _⟩ := hI.form
  rw [filX_len] at e r e' r'
  injection e with e1 _ e3
  injection e' with e4 _ e6
  subst e1 e3 e4 e6
  exact ⟨r.congr fun j hj => filX_get hj, r'.congr fun j hj => filX_get hj⟩
/-- rows behind a store of two cells into a tube's box -/
theorem own_put2 {w : World} {b g : Nat} {vT vV u v : Value} {LT : List Rw} {LV : List Iv} (r : Blk w g #[u, v] 25) (hu : NoL u) (hv : NoL v) (hH : HRow w b vT LT) (hI : IRow w b vV LV) (u' v' : Value) : HRow ((w.setCell ⟨g, 0, none⟩ u').setCell ⟨g, 1, none⟩ v') b vT LT ∧ IRow ((w.setCell ⟨g, 0, none⟩ u').setCell ⟨g, 1, none⟩ v') b vV LV := by
  have hno := r.nou hu hv
  constructor
  · refine hH.via (fun q hq => ?_) fun A n c l hr => (hr.set1 (hr.off hno) _ _).set1 (hr.off hno) _ _
    obtain ⟨cs, hk⟩ := hH.kind q hq
    have hne : q ≠ g := kinds_ne hk r.blk (by decide)
    exact (Below.heap_setCell _ _ _ q hne).trans (Below.heap_setCell _ _ _ q hne)
  · refine hI.via (fun q hq => ?_) fun A n c l hr => (hr.set1 (hr.off hno) _ _).set1 (hr.off hno) _ _
    obtain ⟨cs, hk⟩ := hI.kind q hq
    have hne : q ≠ g := kinds_ne hk r.blk (by decide)
    exact (Below.heap_setCell _ _ _ q hne).trans (Below.heap_setCell _ _ _ q hne)
/-- two numbers in one block -/
theorem rdd_two {w : World} {g : Nat} {x y : Rw} {A1 : Option Addr} {n1 c1 : Nat} {A2 : Option Addr} {n2 c2 : Nat} (hb : Blk w g #[.bool x.s, .slice A1 n1 c1, .int .i64 x.e, .bool y.s, .slice A2 n2 c2, .int .i64 y.e] 28) (h1 : Rd w .u64 Go.Proofs.YtkpcmgfpmekkjaaDoor.W A1 n1 c1 x.l) (h2 : Rd w .u64 Go.Proofs.YtkpcmgfpmekkjaaDoor.W A2 n2 c2 y.l) : RdD w (some ⟨g, 0, none⟩) 2 2 (fun i => if i = 0 then x else y) := by
  refine ⟨Nat.le_refl _, by omega, fun _ => ⟨g, 0, rfl, fun i hi => ?_⟩⟩
  match i, hi with
  | 0, _ => exact ⟨A1, n1, c1, ⟨hb.at 0, hb.at 1, hb.at 2⟩, h1⟩
  | 1, _ => exact ⟨A2, n2, c2, ⟨hb.at 3, hb.at 4, hb.at 5⟩, h2⟩
theorem rdv_one {w : World} {g : Nat} {x : Iv} {A1 : Option Addr} {n1 c1 : Nat} {A2 : Option Addr} {n2 c2 : Nat} (hb : Blk w g #[.bool x.lo.s, .slice A1 n1 c1, .int .i64 x.lo.e, .bool x.hi.s, .slice A2 n2 c2, .int .i64 x.hi.e] 35) (h1 : Rd w .u64 Go.Proofs.YtkpcmgfpmekkjaaDoor.W A1 n1 c1 x.lo.l) (h2 : Rd w .u64 Go.Proofs.YtkpcmgfpmekkjaaDoor.W A2 n2 c2 x.hi.l) : RdS w (some ⟨g, 0, none⟩) 1 1 (fun _ => x) := by
  refine ⟨Nat.le_refl _, by omega, fun _ => ⟨g, 0, rfl, fun i hi => ?_⟩⟩
  match i, hi with
  | 0, _ => exact ⟨A1, n1, c1, A2, n2, c2, ⟨hb.at 0, hb.at 1, hb.at 2, hb.at 3, hb.at 4, hb.at 5⟩, h1, h2⟩
theorem mayT_ends {K : Nat} {a : Tb} (h : MayT K a) : (∀ i, i < a.m → (a.T i).may = true) ∧ ∀ i, i < a.n → Ends (a.V i) := ⟨fun i hi => h.T i (by have := h.len; omega), fun i hi => ⟨(mayI_iff.1 (h.V i hi)).1, (mayI_iff.1 (h.V i hi)).2.1⟩⟩
theorem tube_f1 : ∀ (A : Option Addr) (m c : Nat) (B : Option Addr) (n d : Nat) (w : World), (Instr.field 25 (.agg #[.slice A m c, .slice B n d]) 1).run Tryd.prog w = .ok (.slice B n d) w := fun _ _ _ _ _ _ _ => by kernel_rfl
def makeTK (K : Nat) (x y : Rw) (v : Iv) : Int := if mayTb K (oneT x y v) = true then 0 else 1
def makeTT (K : Nat) (x y : Rw) (v : Iv) : Tb := if mayTb K (oneT x y v) = true then oneT x y v else Tb.zero

set_option maxRecDepth 100000 in
set_option maxHeartbeats 8000000 in
theorem tover_any {w : World} {K : Nat} {a : Tb} {Ta Va : Option Addr} {ca da : Nat} {x y : Rw} {A1 : Option Addr} {n1 c1 : Nat} {A2 : Option Addr} {n2 c2 : Nat} (hK : 4194304 ≤ K) (hT : Tab w) (ha : RdTb w Ta ca Va da a) (h1 : Rd w .u64 Go.Proofs.YtkpcmgfpmekkjaaDoor.W A1 n1 c1 x.l) (h2 : Rd w .u64 Go.Proofs.YtkpcmgfpmekkjaaDoor.W A2 n2 c2 y.l) :
    Calls Tryd.prog 11 #[.agg #[.slice Ta a.m ca, .slice Va a.n da], .agg #[.bool x.s, .slice A1 n1 c1, .int .i64 x.e], .agg #[.bool y.s, .slice A2 n2 c2, .int .i64 y.e]] w (TellI (overK K a x y) (overI K a x y) w) := by
  have HK0 := Lib.hid hK
  have hfd := tube_f1
  obtain ⟨kk, hkk⟩ : ∃ z, z = overK K a x y := ⟨_, rfl⟩
  obtain ⟨xx, hxx⟩ : ∃ z, z = overI K a x y := ⟨_, rfl⟩
  rw [← hkk, ← hxx]
  have HKK := Lib.hid hkk
  have HXX := Lib.hid hxx
  clear hkk hxx
  obtain ⟨p1, hp1⟩ : ∃ p, p = mayTb K a := ⟨_, rfl⟩
  have HP1 := Lib.hid hp1
  clear hp1
  obtain ⟨p2, hp2⟩ : ∃ p, p = upB K x y := ⟨_, rfl⟩
  have HP2 := Lib.hid hp2
  clear hp2
  obtain ⟨p3, hp3⟩ : ∃ p, p = spansB K a x y := ⟨_, rfl⟩
  have HP3 := Lib.hid hp3
  clear hp3
  have BB := Below.refl w.heap.size w
  have b := below_alloc w (.cells #[.slice Ta a.m ca, .slice Va a.n da] 25)
  have xt := Blk.new w #[.slice Ta a.m ca, .slice Va a.n da] 25
  replace BB := bnx BB b rfl rfl rfl rfl
  have G := mv b rfl (J4 ha hT h1 h2)
  clear ha hT h1 h2
  obtain ⟨ha, hT, h1, h2⟩ := G
  clear b
  have b := below_alloc (w.alloc (.cells #[.slice Ta a.m ca, .slice Va a.n da] 25)) (.cells #[.bool x.s, .slice A1 n1 c1, .int .i64 x.e] 28)
  have xu := Blk.new (w.alloc (.cells #[.slice Ta a.m ca, .slice Va a.n da] 25)) #[.bool x.s, .slice A1 n1 c1, .int .i64 x.e] 28
  rw [show (w.alloc (.cells #[.slice Ta a.m ca, .slice Va a.n da] 25)).heap.size = w.heap.size + 1 by simp] at xu
  replace BB := bnx BB b rfl rfl rfl rfl
  have G := mv b rfl (J5 ha hT h1 h2 xt)
  clear ha hT h1 h2 xt
  obtain ⟨ha, hT, h1, h2, xt⟩ := G
  clear b
  have b := below_alloc ((w.alloc (.cells #[.slice Ta a.m ca, .slice Va a.n da] 25)).alloc (.cells #[.bool x.s, .slice A1 n1 c1, .int .i64 x.e] 28)) (.cells #[.bool y.s, .slice A2 n2 c2, .int .i64 y.e] 28)
  have xv := Blk.new ((w.alloc (.cells #[.slice Ta a.m ca, .slice Va a.n da] 25)).alloc (.cells #[.bool x.s, .slice A1 n1 c1, .int .i64 x.e] 28)) #[.bool y.s, .slice A2 n2 c2, .int .i64 y.e] 28
  rw [show ((w.alloc (.cells #[.slice Ta a.m ca, .slice Va a.n da] 25)).alloc (.cells #[.bool x.s, .slice A1 n1 c1, .int .i64 x.e] 28)).heap.size = w.heap.size + 2 by simp] at xv
  replace BB := bnx BB b rfl rfl rfl rfl
  have G := mv b rfl (J6 ha hT h1 h2 xt xu)
  clear ha hT h1 h2 xt xu
  obtain ⟨ha, hT, h1, h2, xt, xu⟩ := G
  clear b
  have b := below_alloc (((w.alloc (.cells #[.slice Ta a.m ca, .slice Va a.n da] 25)).alloc (.cells #[.bool x.s, .slice A1 n1 c1, .int .i64 x.e] 28)).alloc (.cells #[.bool y.s, .slice A2 n2 c2, .int .i64 y.e] 28)) (.cells #[.bool false, .slice none 0 0, .int .i64 0, .bool false, .slice none 0 0, .int .i64 0] 35)
  have xr := Blk.new (((w.alloc (.cells #[.slice Ta a.m ca, .slice Va a.n da] 25)).alloc (.cells #[.bool x.s, .slice A1 n1 c1, .int .i64 x.e] 28)).alloc (.cells #[.bool y.s, .slice A2 n2 c2, .int .i64 y.e] 28)) #[.bool false, .slice none 0 0, .int .i64 0, .bool false, .slice none 0 0, .int .i64 0] 35
  rw [show (((w.alloc (.cells #[.slice Ta a.m ca, .slice Va a.n da] 25)).alloc (.cells #[.bool x.s, .slice A1 n1 c1, .int .i64 x.e] 28)).alloc (.cells #[.bool y.s, .slice A2 n2 c2, .int .i64 y.e] 28)).heap.size = w.heap.size + 3 by simp] at xr
  replace BB := bnx BB b rfl rfl rfl rfl
  have G := mv b rfl (J7 ha hT h1 h2 xt xu xv)
  clear ha hT h1 h2 xt xu xv
  obtain ⟨ha, hT, h1, h2, xt, xu, xv⟩ := G
  clear b
  have t0 : World.cell? _ ⟨_, 0, none⟩ = some (.slice Ta a.m ca) := xt.at 0
  have t1 : World.cell? _ ⟨_, 1, none⟩ = some (.slice Va a.n da) := xt.at 1
  have u0 : World.cell? _ ⟨_, 0, none⟩ = some (.bool x.s) := xu.at 0
  have u1 : World.cell? _ ⟨_, 1, none⟩ = some (.slice A1 n1 c1) := xu.at 1
  have u2 : World.cell? _ ⟨_, 2, none⟩ = some (.int .i64 x.e) := xu.at 2
  have v0 : World.cell? _ ⟨_, 0, none⟩ = some (.bool y.s) := xv.at 0
  have v1 : World.cell? _ ⟨_, 1, none⟩ = some (.slice A2 n2 c2) := xv.at 1
  have v2 : World.cell? _ ⟨_, 2, none⟩ = some (.int .i64 y.e) := xv.at 2
  have r : Ibx _ (w.heap.size + 3) false none 0 0 0 false none 0 0 0 := ⟨xr.blk⟩
  clear xt xu xv xr
  go_enter Tryd.func11, Tryd.ntmps11
  go_upto_region 1 with fail
  generalize ((((w.alloc (.cells #[.slice Ta a.m ca, .slice Va a.n da] 25)).alloc (.cells #[.bool x.s, .slice A1 n1 c1, .int .i64 x.e] 28)).alloc (.cells #[.bool y.s, .slice A2 n2 c2, .int .i64 y.e] 28)).alloc (.cells #[.bool false, .slice none 0 0, .int .i64 0, .bool false, .slice none 0 0, .int .i64 0] 35)) = W1 at *
  go_wp2_with fail
  refine (tmayt_any hK hT ha).mono ?_
  rintro en w1 ⟨rfl, b⟩
  replace BB := bnx BB b rfl rfl rfl rfl
  have G := mv b rfl (J13 hT ha h1 h2 t0 t1 u0 u1 u2 v0 v1 v2 r)
  clear hT ha h1 h2 t0 t1 u0 u1 u2 v0 v1 v2 r
  obtain ⟨hT, ha, h1, h2, t0, t1, u0, u1, u2, v0, v1, v2, r⟩ := G
  clear b
  rw [← HP1.out]
  cases p1
  case false =>
    have e1 : kk = 1 := HKK.out.trans (over_1 HK0.out (by rw [← HP1.out]; rfl))
    have e2 : xx = Iv.zero := HXX.out.trans (overI_no (by rw [over_1 HK0.out (by rw [← HP1.out]; rfl)]; decide))
    subst e1 e2
    obtain ⟨f0, f1, f2, f3, f4, f5⟩ := r.open
    obtain ⟨z0, z1, z2, z3, z4, z5⟩ := r.held
    go_wp2
    have qq := r.put false none 0 0 0 false none 0 0 0
    have HB3 := below_put6 (g := w.heap.size + 3) BB (by omega) (.bool false) (.slice none 0 0) (.int .i64 0) (.bool false) (.slice none 0 0) (.int .i64 0)
    obtain ⟨z0, z1, z2, z3, z4, z5⟩ := qq.held
    exact bodyPost_ret (v := .tuple #[.agg #[.bool false, .slice none 0 0, .int .i64 0, .bool false, .slice none 0 0, .int .i64 0], .int .i64 1]) (by simp [results, Tryd.results11, go_sem, z0, z1, z2, z3, z4, z5]) rfl ⟨_, _, _, _, _, _, rfl, rd_nil0 _, rd_nil0 _, HB3⟩
  case true =>
    have HM := Lib.hid (mayTb_iff.1 HP1.out.symm)
    go_wp2_with fail
    refine (tupto_any hK hT h1 h2).mono ?_
    rintro en w2 ⟨rfl, b⟩
    replace BB := bnx BB b rfl rfl rfl rfl
    have G := mv b rfl (J13 hT ha h1 h2 t0 t1 u0 u1 u2 v0 v1 v2 r)
    clear hT ha h1 h2 t0 t1 u0 u1 u2 v0 v1 v2 r
    obtain ⟨hT, ha, h1, h2, t0, t1, u0, u1, u2, v0, v1, v2, r⟩ := G
    clear b
    rw [← HP2.out]
    cases p2
    case false =>
      have e1 : kk = 1 := HKK.out.trans (over_1 HK0.out (by rw [← HP1.out, ← HP2.out]; rfl))
      have e2 : xx = Iv.zero := HXX.out.trans (overI_no (by rw [over_1 HK0.out (by rw [← HP1.out, ← HP2.out]; rfl)]; decide))
      subst e1 e2
      obtain ⟨f0, f1, f2, f3, f4, f5⟩ := r.open
      obtain ⟨z0, z1, z2, z3, z4, z5⟩ := r.held
      go_wp2
      have qq := r.put false none 0 0 0 false none 0 0 0
      have HB3 := below_put6 (g := w.heap.size + 3) BB (by omega) (.bool false) (.slice none 0 0) (.int .i64 0) (.bool false) (.slice none 0 0) (.int .i64 0)
      obtain ⟨z0, z1, z2, z3, z4, z5⟩ := qq.held
      exact bodyPost_ret (v := .tuple #[.agg #[.bool false, .slice none 0 0, .int .i64 0, .bool false, .slice none 0 0, .int .i64 0], .int .i64 1]) (by simp [results, Tryd.results11, go_sem, z0, z1, z2, z3, z4, z5]) rfl ⟨_, _, _, _, _, _, rfl, rd_nil0 _, rd_nil0 _, HB3⟩
    case true =>
      go_wp2_with fail
      refine (tspans_any hK hT ha h1 h2 (by have := HM.out.len; omega)).mono ?_
      rintro en w3 ⟨rfl, b⟩
      replace BB := bnx BB b rfl rfl rfl rfl
      have G := mv b rfl (J13 hT ha h1 h2 t0 t1 u0 u1 u2 v0 v1 v2 r)
      clear hT ha h1 h2 t0 t1 u0 u1 u2 v0 v1 v2 r
      obtain ⟨hT, ha, h1, h2, t0, t1, u0, u1, u2, v0, v1, v2, r⟩ := G
      clear b
      rw [← HP3.out]
      cases p3
      case false =>
        have e1 : kk = 5 := HKK.out.trans (over_5 HK0.out (by rw [← HP1.out, ← HP2.out]; rfl) HP3.out.symm)
        have e2 : xx = Iv.zero := HXX.out.trans (overI_no (by rw [over_5 HK0.out (by rw [← HP1.out, ← HP2.out]; rfl) HP3.out.symm]; decide))
        subst e1 e2
        obtain ⟨f0, f1, f2, f3, f4, f5⟩ := r.open
        obtain ⟨z0, z1, z2, z3, z4, z5⟩ := r.held
        go_wp2
        have qq := r.put false none 0 0 0 false none 0 0 0
        have HB3 := below_put6 (g := w.heap.size + 3) BB (by omega) (.bool false) (.slice none 0 0) (.int .i64 0) (.bool false) (.slice none 0 0) (.int .i64 0)
        obtain ⟨z0, z1, z2, z3, z4, z5⟩ := qq.held
        exact bodyPost_ret (v := .tuple #[.agg #[.bool false, .slice none 0 0, .int .i64 0, .bool false, .slice none 0 0, .int .i64 0], .int .i64 5]) (by simp [results, Tryd.results11, go_sem, z0, z1, z2, z3, z4, z5]) rfl ⟨_, _, _, _, _, _, rfl, rd_nil0 _, rd_nil0 _, HB3⟩
      case true =>
        have hk0 := over_0 HK0.out (show (mayTb K a && upB K x y) = true by rw [← HP1.out, ← HP2.out]; rfl) HP3.out.symm
        have hoh := over_hull HK0.out (overK_ok.1 hk0)
        have e1 : kk = 0 := HKK.out.trans hk0
        subst e1
        rw [← HXX.out] at hoh
        have hle : (selV (upB K) a x y a.n).length ≤ 256 := Nat.le_trans selV_len HM.out.few
        have HC := Lib.hid (tcells_any (comes_up HK0.out) hT ha h1 h2 (by have := HM.out.len; omega) HM.out.few (up_break HK0.out HM.out))
        obtain ⟨t, ht⟩ : ∃ t, t = tbL (selT (upB K) a x y a.n) (selV (upB K) a x y a.n) := ⟨_, rfl⟩
        rw [← ht] at HC
        have HO : Hid (0 < t.n ∧ t.n ≤ 256 ∧ (∀ i, i < t.n → mayI K (t.V i) = true) ∧ hulF K t.V t.n = xx) := Lib.hid (by rw [ht]; exact ⟨hoh.1, hle, hoh.2.1, hoh.2.2⟩)
        clear hoh hle hk0 ht
        go_wp2_with fail
        refine HC.out.mono ?_
        rintro en w4 ⟨A8, c8, B8, d8, rfl, hz, b⟩
        clear HC
        replace BB := bnx BB b rfl rfl rfl rfl
        have G := mv b rfl <| And.intro hT <| r
        clear hT r
        obtain ⟨hT, r⟩ := G
        clear b t0 t1 u0 u1 u2 v0 v1 v2 ha h1 h2
        go_wp2_with fail
        refine (thull_any HK0.out hT hz.v HO.out.1 HO.out.2.1 HO.out.2.2.1).mono ?_
        rw [HO.out.2.2.2]
        rintro en w5 ⟨A5, n5, c5, A6, n6, c6, rfl, h5, h6, b⟩
        replace BB := bnx BB b rfl rfl rfl rfl
        replace r := mv b rfl r
        clear b hz hT
        obtain ⟨f0, f1, f2, f3, f4, f5⟩ := r.open
        obtain ⟨z0, z1, z2, z3, z4, z5⟩ := r.held
        go_wp2
        have qq := r.put xx.lo.s A5 n5 c5 xx.lo.e xx.hi.s A6 n6 c6 xx.hi.e
        have hN := h5.put6 r (.bool xx.lo.s) (.slice A5 n5 c5) (.int .i64 xx.lo.e) (.bool xx.hi.s) (.slice A6 n6 c6) (.int .i64 xx.hi.e)
        have hM := h6.put6 r (.bool xx.lo.s) (.slice A5 n5 c5) (.int .i64 xx.lo.e) (.bool xx.hi.s) (.slice A6 n6 c6) (.int .i64 xx.hi.e)
        have HB3 := below_put6 (g := w.heap.size + 3) BB (by omega) (.bool xx.lo.s) (.slice A5 n5 c5) (.int .i64 xx.lo.e) (.bool xx.hi.s) (.slice A6 n6 c6) (.int .i64 xx.hi.e)
        obtain ⟨z0, z1, z2, z3, z4, z5⟩ := qq.held
        exact bodyPost_ret (v := .tuple #[.agg #[.bool xx.lo.s, .slice A5 n5 c5, .int .i64 xx.lo.e, .bool xx.hi.s, .slice A6 n6 c6, .int .i64 xx.hi.e], .int .i64 0]) (by simp [results, Tryd.results11, go_sem, z0, z1, z2, z3, z4, z5]) rfl ⟨_, _, _, _, _, _, rfl, hN, hM, HB3⟩

set_option maxRecDepth 100000 in
set_option maxHeartbeats 8000000 in
theorem tat_any {w : World} {K : Nat} {a : Tb} {Ta Va : Option Addr} {ca da : Nat} {x : Rw} {A1 : Option Addr} {n1 c1 : Nat} (hK : 4194304 ≤ K) (hT : Tab w) (ha : RdTb w Ta ca Va da a) (h1 : Rd w .u64 Go.Proofs.YtkpcmgfpmekkjaaDoor.W A1 n1 c1 x.l) :
    Calls Tryd.prog 12 #[.agg #[.slice Ta a.m ca, .slice Va a.n da], .agg #[.bool x.s, .slice A1 n1 c1, .int .i64 x.e]] w (TellI (overK K a x x) (overI K a x x) w) := by
  obtain ⟨kk, hkk⟩ : ∃ z, z = overK K a x x := ⟨_, rfl⟩
  obtain ⟨xx, hxx⟩ : ∃ z, z = overI K a x x := ⟨_, rfl⟩
  rw [← hkk, ← hxx]
  have HKK := Lib.hid hkk
  have HXX := Lib.hid hxx
  clear hkk hxx
  have BB := Below.refl w.heap.size w
  have b := below_alloc w (.cells #[.slice Ta a.m ca, .slice Va a.n da] 25)
  have xt := Blk.new w #[.slice Ta a.m ca, .slice Va a.n da] 25
  replace BB := bnx BB b rfl rfl rfl rfl
  have G := mv b rfl (J3 ha hT h1)
  clear ha hT h1
  obtain ⟨ha, hT, h1⟩ := G
  clear b
  have b := below_alloc (w.alloc (.cells #[.slice Ta a.m ca, .slice Va a.n da] 25)) (.cells #[.bool x.s, .slice A1 n1 c1, .int .i64 x.e] 28)
  have xu := Blk.new (w.alloc (.cells #[.slice Ta a.m ca, .slice Va a.n da] 25)) #[.bool x.s, .slice A1 n1 c1, .int .i64 x.e] 28
  rw [show (w.alloc (.cells #[.slice Ta a.m ca, .slice Va a.n da] 25)).heap.size = w.heap.size + 1 by simp] at xu
  replace BB := bnx BB b rfl rfl rfl rfl
  have G := mv b rfl (J4 ha hT h1 xt)
  clear ha hT h1 xt
  obtain ⟨ha, hT, h1, xt⟩ := G
  clear b
  have b := below_alloc ((w.alloc (.cells #[.slice Ta a.m ca, .slice Va a.n da] 25)).alloc (.cells #[.bool x.s, .slice A1 n1 c1, .int .i64 x.e] 28)) (.cells #[.bool false, .slice none 0 0, .int .i64 0, .bool false, .slice none 0 0, .int .i64 0] 35)
  have xr := Blk.new ((w.alloc (.cells #[.slice Ta a.m ca, .slice Va a.n da] 25)).alloc (.cells #[.bool x.s, .slice A1 n1 c1, .int .i64 x.e] 28)) #[.bool false, .slice none 0 0, .int .i64 0, .bool false, .slice none 0 0, .int .i64 0] 35
  rw [show ((w.alloc (.cells #[.slice Ta a.m ca, .slice Va a.n da] 25)).alloc (.cells #[.bool x.s, .slice A1 n1 c1, .int .i64 x.e] 28)).heap.size = w.heap.size + 2 by simp] at xr
  replace BB := bnx BB b rfl rfl rfl rfl
  have G := mv b rfl (J5 ha hT h1 xt xu)
  clear ha hT h1 xt xu
  obtain ⟨ha, hT, h1, xt, xu⟩ := G
  clear b
  have t0 : World.cell? _ ⟨_, 0, none⟩ = some (.slice Ta a.m ca) := xt.at 0
  have t1 : World.cell? _ ⟨_, 1, none⟩ = some (.slice Va a.n da) := xt.at 1
  have u0 : World.cell? _ ⟨_, 0, none⟩ = some (.bool x.s) := xu.at 0
  have u1 : World.cell? _ ⟨_, 1, none⟩ = some (.slice A1 n1 c1) := xu.at 1
  have u2 : World.cell? _ ⟨_, 2, none⟩ = some (.int .i64 x.e) := xu.at 2
  have r : Ibx _ (w.heap.size + 2) false none 0 0 0 false none 0 0 0 := ⟨xr.blk⟩
  clear xt xu xr
  go_enter Tryd.func12, Tryd.ntmps12
  go_upto_region 1 with fail
  generalize (((w.alloc (.cells #[.slice Ta a.m ca, .slice Va a.n da] 25)).alloc (.cells #[.bool x.s, .slice A1 n1 c1, .int .i64 x.e] 28)).alloc (.cells #[.bool false, .slice none 0 0, .int .i64 0, .bool false, .slice none 0 0, .int .i64 0] 35)) = W1 at *
  go_wp2_with fail
  refine (tover_any hK hT ha h1 h1).mono ?_
  rw [← HKK.out, ← HXX.out]
  rintro en w5 ⟨A5, n5, c5, A6, n6, c6, rfl, h5, h6, b⟩
  replace BB := bnx BB b rfl rfl rfl rfl
  replace r := mv b rfl r
  clear b ha hT h1 t0 t1 u0 u1 u2
  obtain ⟨f0, f1, f2, f3, f4, f5⟩ := r.open
  obtain ⟨z0, z1, z2, z3, z4, z5⟩ := r.held
  go_wp2
  have qq := r.put xx.lo.s A5 n5 c5 xx.lo.e xx.hi.s A6 n6 c6 xx.hi.e
  have hN := h5.put6 r (.bool xx.lo.s) (.slice A5 n5 c5) (.int .i64 xx.lo.e) (.bool xx.hi.s) (.slice A6 n6 c6) (.int .i64 xx.hi.e)
  have hM := h6.put6 r (.bool xx.lo.s) (.slice A5 n5 c5) (.int .i64 xx.lo.e) (.bool xx.hi.s) (.slice A6 n6 c6) (.int .i64 xx.hi.e)
  have HB3 := below_put6 (g := w.heap.size + 2) BB (by omega) (.bool xx.lo.s) (.slice A5 n5 c5) (.int .i64 xx.lo.e) (.bool xx.hi.s) (.slice A6 n6 c6) (.int .i64 xx.hi.e)
  obtain ⟨z0, z1, z2, z3, z4, z5⟩ := qq.held
  exact bodyPost_ret (v := .tuple #[.agg #[.bool xx.lo.s, .slice A5 n5 c5, .int .i64 xx.lo.e, .bool xx.hi.s, .slice A6 n6 c6, .int .i64 xx.hi.e], .int .i64 kk]) (by simp [results, Tryd.results12, go_sem, z0, z1, z2, z3, z4, z5]) rfl ⟨_, _, _, _, _, _, rfl, hN, hM, HB3⟩

set_option maxRecDepth 100000 in
set_option maxHeartbeats 8000000 in
theorem tmake_any {w : World} {K : Nat} {x y : Rw} {v : Iv} {A1 : Option Addr} {n1 c1 : Nat} {A2 : Option Addr} {n2 c2 : Nat} {A3 : Option Addr} {n3 c3 : Nat} {A4 : Option Addr} {n4 c4 : Nat} (hK : 4194304 ≤ K) (hT : Tab w) (h1 : Rd w .u64 Go.Proofs.YtkpcmgfpmekkjaaDoor.W A1 n1 c1 x.l) (h2 : Rd w .u64 Go.Proofs.YtkpcmgfpmekkjaaDoor.W A2 n2 c2 y.l) (h3 : Rd w .u64 Go.Proofs.YtkpcmgfpmekkjaaDoor.W A3 n3 c3 v.lo.l) (h4 : Rd w .u64 Go.Proofs.YtkpcmgfpmekkjaaDoor.W A4 n4 c4 v.hi.l) :
    Calls Tryd.prog 20 #[.agg #[.bool x.s, .slice A1 n1 c1, .int .i64 x.e], .agg #[.bool y.s, .slice A2 n2 c2, .int .i64 y.e], .agg #[.bool v.lo.s, .slice A3 n3 c3, .int .i64 v.lo.e, .bool v.hi.s, .slice A4 n4 c4, .int .i64 v.hi.e]] w (TellT (makeTK K x y v) (makeTT K x y v) w) := by
  obtain ⟨p1, hp1⟩ : ∃ p, p = mayTb K (oneT x y v) := ⟨_, rfl⟩
  have HP1 := Lib.hid hp1
  obtain ⟨kk, hkk⟩ : ∃ z, z = makeTK K x y v := ⟨_, rfl⟩
  obtain ⟨tt, htt⟩ : ∃ z, z = makeTT K x y v := ⟨_, rfl⟩
  rw [← hkk, ← htt]
  unfold makeTK at hkk
  unfold makeTT at htt
  rw [← hp1] at hkk htt
  have HKK := Lib.hid hkk
  have HTT := Lib.hid htt
  clear hp1 hkk htt
  have BB := Below.refl w.heap.size w
  have b := below_alloc w (.cells #[.bool x.s, .slice A1 n1 c1, .int .i64 x.e] 28)
  have xd := Blk.new w #[.bool x.s, .slice A1 n1 c1, .int .i64 x.e] 28
  replace BB := bnx BB b rfl rfl rfl rfl
  have G := mv b rfl (J5 hT h1 h2 h3 h4)
  clear hT h1 h2 h3 h4
  obtain ⟨hT, h1, h2, h3, h4⟩ := G
  clear b
  have b := below_alloc (w.alloc (.cells #[.bool x.s, .slice A1 n1 c1, .int .i64 x.e] 28)) (.cells #[.bool y.s, .slice A2 n2 c2, .int .i64 y.e] 28)
  have xe := Blk.new (w.alloc (.cells #[.bool x.s, .slice A1 n1 c1, .int .i64 x.e] 28)) #[.bool y.s, .slice A2 n2 c2, .int .i64 y.e] 28
  rw [show (w.alloc (.cells #[.bool x.s, .slice A1 n1 c1, .int .i64 x.e] 28)).heap.size = w.heap.size + 1 by simp] at xe
  replace BB := bnx BB b rfl rfl rfl rfl
  have G := mv b rfl (J6 hT h1 h2 h3 h4 xd)
  clear hT h1 h2 h3 h4 xd
  obtain ⟨hT, h1, h2, h3, h4, xd⟩ := G
  clear b
  have b := below_alloc ((w.alloc (.cells #[.bool x.s, .slice A1 n1 c1, .int .i64 x.e] 28)).alloc (.cells #[.bool y.s, .slice A2 n2 c2, .int .i64 y.e] 28)) (.cells #[.bool v.lo.s, .slice A3 n3 c3, .int .i64 v.lo.e, .bool v.hi.s, .slice A4 n4 c4, .int .i64 v.hi.e] 35)
  have xi := Blk.new ((w.alloc (.cells #[.bool x.s, .slice A1 n1 c1, .int .i64 x.e] 28)).alloc (.cells #[.bool y.s, .slice A2 n2 c2, .int .i64 y.e] 28)) #[.bool v.lo.s, .slice A3 n3 c3, .int .i64 v.lo.e, .bool v.hi.s, .slice A4 n4 c4, .int .i64 v.hi.e] 35
  rw [show ((w.alloc (.cells #[.bool x.s, .slice A1 n1 c1, .int .i64 x.e] 28)).alloc (.cells #[.bool y.s, .slice A2 n2 c2, .int .i64 y.e] 28)).heap.size = w.heap.size + 2 by simp] at xi
  replace BB := bnx BB b rfl rfl rfl rfl
  have G := mv b rfl (J7 hT h1 h2 h3 h4 xd xe)
  clear hT h1 h2 h3 h4 xd xe
  obtain ⟨hT, h1, h2, h3, h4, xd, xe⟩ := G
  clear b
  have b := below_alloc (((w.alloc (.cells #[.bool x.s, .slice A1 n1 c1, .int .i64 x.e] 28)).alloc (.cells #[.bool y.s, .slice A2 n2 c2, .int .i64 y.e] 28)).alloc (.cells #[.bool v.lo.s, .slice A3 n3 c3, .int .i64 v.lo.e, .bool v.hi.s, .slice A4 n4 c4, .int .i64 v.hi.e] 35)) (.cells #[.slice none 0 0, .slice none 0 0] 25)
  have xr := Blk.new (((w.alloc (.cells #[.bool x.s, .slice A1 n1 c1, .int .i64 x.e] 28)).alloc (.cells #[.bool y.s, .slice A2 n2 c2, .int .i64 y.e] 28)).alloc (.cells #[.bool v.lo.s, .slice A3 n3 c3, .int .i64 v.lo.e, .bool v.hi.s, .slice A4 n4 c4, .int .i64 v.hi.e] 35)) #[.slice none 0 0, .slice none 0 0] 25
  rw [show (((w.alloc (.cells #[.bool x.s, .slice A1 n1 c1, .int .i64 x.e] 28)).alloc (.cells #[.bool y.s, .slice A2 n2 c2, .int .i64 y.e] 28)).alloc (.cells #[.bool v.lo.s, .slice A3 n3 c3, .int .i64 v.lo.e, .bool v.hi.s, .slice A4 n4 c4, .int .i64 v.hi.e] 35)).heap.size = w.heap.size + 3 by simp] at xr
  replace BB := bnx BB b rfl rfl rfl rfl
  have G := mv b rfl (J8 hT h1 h2 h3 h4 xd xe xi)
  clear hT h1 h2 h3 h4 xd xe xi
  obtain ⟨hT, h1, h2, h3, h4, xd, xe, xi⟩ := G
  clear b
  have u0 : World.cell? _ ⟨_, 0, none⟩ = some (.bool x.s) := xd.at 0
  have u1 : World.cell? _ ⟨_, 1, none⟩ = some (.slice A1 n1 c1) := xd.at 1
  have u2 : World.cell? _ ⟨_, 2, none⟩ = some (.int .i64 x.e) := xd.at 2
  have v0 : World.cell? _ ⟨_, 0, none⟩ = some (.bool y.s) := xe.at 0
  have v1 : World.cell? _ ⟨_, 1, none⟩ = some (.slice A2 n2 c2) := xe.at 1
  have v2 : World.cell? _ ⟨_, 2, none⟩ = some (.int .i64 y.e) := xe.at 2
  have y0 : World.cell? _ ⟨_, 0, none⟩ = some (.bool v.lo.s) := xi.at 0
  have y1 : World.cell? _ ⟨_, 1, none⟩ = some (.slice A3 n3 c3) := xi.at 1
  have y2 : World.cell? _ ⟨_, 2, none⟩ = some (.int .i64 v.lo.e) := xi.at 2
  have y3 : World.cell? _ ⟨_, 3, none⟩ = some (.bool v.hi.s) := xi.at 3
  have y4 : World.cell? _ ⟨_, 4, none⟩ = some (.slice A4 n4 c4) := xi.at 4
  have y5 : World.cell? _ ⟨_, 5, none⟩ = some (.int .i64 v.hi.e) := xi.at 5
  clear xd xe xi
  go_enter Tryd.func20, Tryd.ntmps20
  go_upto_region 1 with fail
  generalize ((((w.alloc (.cells #[.bool x.s, .slice A1 n1 c1, .int .i64 x.e] 28)).alloc (.cells #[.bool y.s, .slice A2 n2 c2, .int .i64 y.e] 28)).alloc (.cells #[.bool v.lo.s, .slice A3 n3 c3, .int .i64 v.lo.e, .bool v.hi.s, .slice A4 n4 c4, .int .i64 v.hi.e] 35)).alloc (.cells #[.slice none 0 0, .slice none 0 0] 25)) = W1 at *
  have yb0 := mv (below_alloc W1 (.cells #[.bool x.s, .slice A1 n1 c1, .int .i64 x.e, .bool y.s, .slice A2 n2 c2, .int .i64 y.e] 28)) rfl y0
  have yb1 := mv (below_alloc W1 (.cells #[.bool x.s, .slice A1 n1 c1, .int .i64 x.e, .bool y.s, .slice A2 n2 c2, .int .i64 y.e] 28)) rfl y1
  have yb2 := mv (below_alloc W1 (.cells #[.bool x.s, .slice A1 n1 c1, .int .i64 x.e, .bool y.s, .slice A2 n2 c2, .int .i64 y.e] 28)) rfl y2
  have yb3 := mv (below_alloc W1 (.cells #[.bool x.s, .slice A1 n1 c1, .int .i64 x.e, .bool y.s, .slice A2 n2 c2, .int .i64 y.e] 28)) rfl y3
  have yb4 := mv (below_alloc W1 (.cells #[.bool x.s, .slice A1 n1 c1, .int .i64 x.e, .bool y.s, .slice A2 n2 c2, .int .i64 y.e] 28)) rfl y4
  have yb5 := mv (below_alloc W1 (.cells #[.bool x.s, .slice A1 n1 c1, .int .i64 x.e, .bool y.s, .slice A2 n2 c2, .int .i64 y.e] 28)) rfl y5
  go_upto_region 2 with fail
  have b := below_alloc W1 (.cells #[.bool x.s, .slice A1 n1 c1, .int .i64 x.e, .bool y.s, .slice A2 n2 c2, .int .i64 y.e] 28)
  have x1 := Blk.new W1 #[.bool x.s, .slice A1 n1 c1, .int .i64 x.e, .bool y.s, .slice A2 n2 c2, .int .i64 y.e] 28
  replace BB := bnx BB b rfl rfl rfl rfl
  have G := mv b rfl (J6 hT h1 h2 h3 h4 xr)
  clear hT h1 h2 h3 h4 xr
  obtain ⟨hT, h1, h2, h3, h4, xr⟩ := G
  clear b u0 u1 u2 v0 v1 v2 y0 y1 y2 y3 y4 y5 yb0 yb1 yb2 yb3 yb4 yb5
  have b := below_alloc (W1.alloc (.cells #[.bool x.s, .slice A1 n1 c1, .int .i64 x.e, .bool y.s, .slice A2 n2 c2, .int .i64 y.e] 28)) (.cells #[.bool v.lo.s, .slice A3 n3 c3, .int .i64 v.lo.e, .bool v.hi.s, .slice A4 n4 c4, .int .i64 v.hi.e] 35)
  have x2 := Blk.new (W1.alloc (.cells #[.bool x.s, .slice A1 n1 c1, .int .i64 x.e, .bool y.s, .slice A2 n2 c2, .int .i64 y.e] 28)) #[.bool v.lo.s, .slice A3 n3 c3, .int .i64 v.lo.e, .bool v.hi.s, .slice A4 n4 c4, .int .i64 v.hi.e] 35
  rw [show (W1.alloc (.cells #[.bool x.s, .slice A1 n1 c1, .int .i64 x.e, .bool y.s, .slice A2 n2 c2, .int .i64 y.e] 28)).heap.size = W1.heap.size + 1 by simp] at x2
  replace BB := bnx BB b rfl rfl rfl rfl
  have G := mv b rfl (J7 hT h1 h2 h3 h4 xr x1)
  clear hT h1 h2 h3 h4 xr x1
  obtain ⟨hT, h1, h2, h3, h4, xr, x1⟩ := G
  clear b
  have b := below_alloc ((W1.alloc (.cells #[.bool x.s, .slice A1 n1 c1, .int .i64 x.e, .bool y.s, .slice A2 n2 c2, .int .i64 y.e] 28)).alloc (.cells #[.bool v.lo.s, .slice A3 n3 c3, .int .i64 v.lo.e, .bool v.hi.s, .slice A4 n4 c4, .int .i64 v.hi.e] 35)) (.cells #[.slice (some ⟨W1.heap.size, 0, none⟩) 2 2, .slice (some ⟨W1.heap.size + 1, 0, none⟩) 1 1] 25)
  have x3 := Blk.new ((W1.alloc (.cells #[.bool x.s, .slice A1 n1 c1, .int .i64 x.e, .bool y.s, .slice A2 n2 c2, .int .i64 y.e] 28)).alloc (.cells #[.bool v.lo.s, .slice A3 n3 c3, .int .i64 v.lo.e, .bool v.hi.s, .slice A4 n4 c4, .int .i64 v.hi.e] 35)) #[.slice (some ⟨W1.heap.size, 0, none⟩) 2 2, .slice (some ⟨W1.heap.size + 1, 0, none⟩) 1 1] 25
  rw [show ((W1.alloc (.cells #[.bool x.s, .slice A1 n1 c1, .int .i64 x.e, .bool y.s, .slice A2 n2 c2, .int .i64 y.e] 28)).alloc (.cells #[.bool v.lo.s, .slice A3 n3 c3, .int .i64 v.lo.e, .bool v.hi.s, .slice A4 n4 c4, .int .i64 v.hi.e] 35)).heap.size = W1.heap.size + 1 + 1 by simp] at x3
  replace BB := bnx BB b rfl rfl rfl rfl
  have G := mv b rfl (J8 hT h1 h2 h3 h4 xr x1 x2)
  clear hT h1 h2 h3 h4 xr x1 x2
  obtain ⟨hT, h1, h2, h3, h4, xr, x1, x2⟩ := G
  clear b
  generalize ((W1.alloc (.cells #[.bool x.s, .slice A1 n1 c1, .int .i64 x.e, .bool y.s, .slice A2 n2 c2, .int .i64 y.e] 28)).alloc (.cells #[.bool v.lo.s, .slice A3 n3 c3, .int .i64 v.lo.e, .bool v.hi.s, .slice A4 n4 c4, .int .i64 v.hi.e] 35)).alloc (.cells #[.slice (some ⟨W1.heap.size, 0, none⟩) 2 2, .slice (some ⟨W1.heap.size + 1, 0, none⟩) 1 1] 25) = W2 at *
  generalize W1.heap.size = g1 at *
  have hz : RdTb W2 (some ⟨g1, 0, none⟩) 2 (some ⟨g1 + 1, 0, none⟩) 1 (oneT x y v) := ⟨rdd_two x1 h1 h2, rdv_one x2 h3 h4⟩
  have r := xr
  clear xr x1 x2 h1 h2 h3 h4
  have k0 : World.cell? _ ⟨_, 0, none⟩ = some (.slice (some ⟨g1, 0, none⟩) 2 2) := x3.at 0
  have k1 : World.cell? _ ⟨_, 1, none⟩ = some (.slice (some ⟨g1 + 1, 0, none⟩) 1 1) := x3.at 1
  clear x3
  go_wp2_with fail
  refine (show Calls _ _ #[.agg #[.slice (some ⟨g1, 0, none⟩) 2 2, .slice (some ⟨g1 + 1, 0, none⟩) 1 1]] _ (Bools (mayTb K (oneT x y v)) _) from tmayt_any hK hT hz).mono ?_
  rintro en w5 ⟨rfl, b⟩
  rw [← HP1.out]
  replace BB := bnx BB b rfl rfl rfl rfl
  have G := mv b rfl (J4 hz r k0 k1)
  clear hz r k0 k1
  obtain ⟨hz, r, k0, k1⟩ := G
  clear b
  cases p1
  case false =>
    have e1 : kk = 1 := HKK.out.trans (if_neg (by decide))
    have e2 : tt = Tb.zero := HTT.out.trans (if_neg (by decide))
    subst e1 e2
    obtain ⟨f0, f1⟩ := (show _ ∧ _ from ⟨r.frozen 0, r.frozen 1⟩)
    have z0 : World.cell? _ ⟨w.heap.size + 3, 0, none⟩ = some (.slice none 0 0) := r.at 0
    have z1 : World.cell? _ ⟨w.heap.size + 3, 1, none⟩ = some (.slice none 0 0) := r.at 1
    go_wp2
    have qq := r.put2 (.slice none 0 0) (.slice none 0 0)
    have HB3 := below_put2 (g := w.heap.size + 3) BB (by omega) (.slice none 0 0) (.slice none 0 0)
    have y0 : World.cell? _ ⟨w.heap.size + 3, 0, none⟩ = some (.slice none 0 0) := qq.at 0
    have y1 : World.cell? _ ⟨w.heap.size + 3, 1, none⟩ = some (.slice none 0 0) := qq.at 1
    exact bodyPost_ret (v := .tuple #[.agg #[.slice none 0 0, .slice none 0 0], .int .i64 1]) (by simp [results, Tryd.results20, go_sem, y0, y1]) rfl ⟨_, _, _, _, rfl, rdtb_zero _, HB3⟩
  case true =>
    have e1 : kk = 0 := HKK.out.trans (if_pos rfl)
    have e2 : tt = oneT x y v := HTT.out.trans (if_pos rfl)
    have HT2 := Lib.hid e2
    subst e1
    clear e2
    have HE := Lib.hid (mayT_ends (mayTb_iff.1 HP1.out.symm))
    go_wp2_with fail
    refine (show Calls _ _ #[.agg #[.slice (some ⟨g1, 0, none⟩) 2 2, .slice (some ⟨g1 + 1, 0, none⟩) 1 1]] _ (OwnEnd (oneT x y v) _) from town2_any hz (by show 2 ≤ 1000; omega) (by show 1 ≤ 1000; omega) HE.out.1 HE.out.2).mono ?_
    rw [← HT2.out]
    rintro en w6 ⟨gT, gV, rfl, hH, hI, b⟩
    clear hz k0 k1
    replace BB := bnx BB b rfl rfl rfl rfl
    have r := mv b rfl r
    clear b
    obtain ⟨f0, f1⟩ := (show _ ∧ _ from ⟨r.frozen 0, r.frozen 1⟩)
    have z0 : World.cell? _ ⟨w.heap.size + 3, 0, none⟩ = some (.slice none 0 0) := r.at 0
    have z1 : World.cell? _ ⟨w.heap.size + 3, 1, none⟩ = some (.slice none 0 0) := r.at 1
    go_wp2
    have qq := r.put2 (.slice (some ⟨gT, 0, none⟩) tt.m tt.m) (.slice (some ⟨gV, 0, none⟩) tt.n tt.n)
    have HB3 := below_put2 (g := w.heap.size + 3) BB (by omega) (.slice (some ⟨gT, 0, none⟩) tt.m tt.m) (.slice (some ⟨gV, 0, none⟩) tt.n tt.n)
    obtain ⟨hH2, hI2⟩ := own_put2 r nol_slice nol_slice hH hI (.slice (some ⟨gT, 0, none⟩) tt.m tt.m) (.slice (some ⟨gV, 0, none⟩) tt.n tt.n)
    have y0 : World.cell? _ ⟨w.heap.size + 3, 0, none⟩ = some (.slice (some ⟨gT, 0, none⟩) tt.m tt.m) := qq.at 0
    have y1 : World.cell? _ ⟨w.heap.size + 3, 1, none⟩ = some (.slice (some ⟨gV, 0, none⟩) tt.n tt.n) := qq.at 1
    exact bodyPost_ret (v := .tuple #[.agg #[.slice (some ⟨gT, 0, none⟩) tt.m tt.m, .slice (some ⟨gV, 0, none⟩) tt.n tt.n], .int .i64 0]) (by simp [results, Tryd.results20, go_sem, y0, y1]) rfl ⟨_, _, _, _, rfl, own_rd hH2 hI2, HB3⟩

end Go.Proofs.YtkpcmgfpmekkjaaDoor
