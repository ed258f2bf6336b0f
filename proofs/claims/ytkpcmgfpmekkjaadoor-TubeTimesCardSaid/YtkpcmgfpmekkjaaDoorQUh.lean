/-
  Contract of tube's cells: those of a tube that begin before a time and end behind another one, at this translation. Condition: the slices read as limbs, the table of math/bits reads as its text lays it.
-/
import Derived.StillTailTactics
import Derived.Deep.CutBlock
import Derived.Test.YtkpcmgfpmekkjaaDoorQUg
import Derived.Test.YtkpcmgfpmekkjaaDoorQUd
namespace Go.Proofs.YtkpcmgfpmekkjaaDoor
open Go.RowKit


theorem sel_upto {q : Rw → Rw → Bool} {a : Tb} {x y : Rw} {i n : Nat} (hn : i ≤ n) (h : ∀ j, i ≤ j → j < n → selB q a x y j = false) : selV q a x y n = selV q a x y i ∧ selT q a x y n = selT q a x y i := by
  induction n with
  | zero => obtain rfl : i = 0 := by omega
            exact ⟨rfl, rfl⟩
  | succ n ih =>
    rcases Nat.lt_or_ge n i with h1 | h1
    · obtain rfl : i = n + 1 := by omega
      exact ⟨rfl, rfl⟩
    · obtain ⟨e1, e2⟩ := ih h1 fun j hj hk => h j hj (by omega)
      have hb := h n h1 (by omega)
      exact ⟨by rw [← e1]; exact if_neg (by rw [hb]; decide), by rw [← e2]; exact if_neg (by rw [hb]; decide)⟩

set_option maxRecDepth 100000 in
set_option maxHeartbeats 8000000 in
theorem tcells_any {w : World} {f : FuncId} {q : Rw → Rw → Bool} {a : Tb} {Ta Va : Option Addr} {ca da : Nat} {x y : Rw} {A1 : Option Addr} {n1 c1 : Nat} {A2 : Option Addr} {n2 c2 : Nat} (hS : Comes f q) (hT : Tab w) (ha : RdTb w Ta ca Va da a) (h1 : Rd w .u64 Go.Proofs.YtkpcmgfpmekkjaaDoor.W A1 n1 c1 x.l) (h2 : Rd w .u64 Go.Proofs.YtkpcmgfpmekkjaaDoor.W A2 n2 c2 y.l) (hn : a.n < a.m) (hn5 : a.n ≤ 256) (hbr : ∀ i j, i ≤ j → j < a.n → q (a.T i) y = false → q (a.T j) y = false) :
    Calls Tryd.prog 31 #[.agg #[.slice Ta a.m ca, .slice Va a.n da], .agg #[.bool x.s, .slice A1 n1 c1, .int .i64 x.e], .agg #[.bool y.s, .slice A2 n2 c2, .int .i64 y.e], .func (Fn.func f) #[] #[]] w (GivT (tbL (selT q a x y a.n) (selV q a x y a.n)) w) := by
  have hm9 := ha.at_.cap
  have hn9 := ha.v.cap
  have hm8 := ha.at_.max
  have hn8 := ha.v.max
  have hfg := hS.go
  have HBR := Lib.hid hbr
  clear hbr
  have BB := Below.refl w.heap.size w
  have b := below_alloc w (.cells #[.slice Ta a.m ca, .slice Va a.n da] 25)
  have xt := Blk.new w #[.slice Ta a.m ca, .slice Va a.n da] 25
  replace BB := bnx BB b rfl rfl rfl rfl
  have G := mv b rfl (J4 ha hT h1 h2)
  clear ha hT h1 h2
  obtain ⟨ha, hT, h1, h2⟩ := G
  clear b
  have b := below_alloc (w.alloc (.cells #[.slice Ta a.m ca, .slice Va a.n da] 25)) (.cells #[.bool x.s, .slice A1 n1 c1, .int .i64 x.e] 28)
  have xu := Blk.new (w.alloc (.cells #[.slice Ta a.m ca, .slice Va a.n da] 25)) #[.bool x.s, .slice A1 n1 c1, .int .i64 x.e] 28
  rw [show (w.alloc (.cells #[.slice Ta a.m ca, .slice Va a.n da] 25)).heap.size = w.heap.size + 1 by simp] at xu
  replace BB := bnx BB b rfl rfl rfl rfl
  have G := mv b rfl (J5 ha hT h1 h2 xt)
  clear ha hT h1 h2 xt
  obtain ⟨ha, hT, h1, h2, xt⟩ := G
  clear b
  have b := below_alloc ((w.alloc (.cells #[.slice Ta a.m ca, .slice Va a.n da] 25)).alloc (.cells #[.bool x.s, .slice A1 n1 c1, .int .i64 x.e] 28)) (.cells #[.bool y.s, .slice A2 n2 c2, .int .i64 y.e] 28)
  have xv := Blk.new ((w.alloc (.cells #[.slice Ta a.m ca, .slice Va a.n da] 25)).alloc (.cells #[.bool x.s, .slice A1 n1 c1, .int .i64 x.e] 28)) #[.bool y.s, .slice A2 n2 c2, .int .i64 y.e] 28
  rw [show ((w.alloc (.cells #[.slice Ta a.m ca, .slice Va a.n da] 25)).alloc (.cells #[.bool x.s, .slice A1 n1 c1, .int .i64 x.e] 28)).heap.size = w.heap.size + 2 by simp] at xv
  replace BB := bnx BB b rfl rfl rfl rfl
  have G := mv b rfl (J6 ha hT h1 h2 xt xu)
  clear ha hT h1 h2 xt xu
  obtain ⟨ha, hT, h1, h2, xt, xu⟩ := G
  clear b
  have b := below_alloc (((w.alloc (.cells #[.slice Ta a.m ca, .slice Va a.n da] 25)).alloc (.cells #[.bool x.s, .slice A1 n1 c1, .int .i64 x.e] 28)).alloc (.cells #[.bool y.s, .slice A2 n2 c2, .int .i64 y.e] 28)) (.cells #[.slice none 0 0, .slice none 0 0] 25)
  have xr := Blk.new (((w.alloc (.cells #[.slice Ta a.m ca, .slice Va a.n da] 25)).alloc (.cells #[.bool x.s, .slice A1 n1 c1, .int .i64 x.e] 28)).alloc (.cells #[.bool y.s, .slice A2 n2 c2, .int .i64 y.e] 28)) #[.slice none 0 0, .slice none 0 0] 25
  rw [show (((w.alloc (.cells #[.slice Ta a.m ca, .slice Va a.n da] 25)).alloc (.cells #[.bool x.s, .slice A1 n1 c1, .int .i64 x.e] 28)).alloc (.cells #[.bool y.s, .slice A2 n2 c2, .int .i64 y.e] 28)).heap.size = w.heap.size + 3 by simp] at xr
  replace BB := bnx BB b rfl rfl rfl rfl
  have G := mv b rfl (J7 ha hT h1 h2 xt xu xv)
  clear ha hT h1 h2 xt xu xv
  obtain ⟨ha, hT, h1, h2, xt, xu, xv⟩ := G
  clear b
  have t0 : World.cell? _ ⟨_, 0, none⟩ = some (.slice Ta a.m ca) := xt.at 0
  have t1 : World.cell? _ ⟨_, 1, none⟩ = some (.slice Va a.n da) := xt.at 1
  have u0 : World.cell? _ ⟨_, 0, none⟩ = some (.bool x.s) := xu.at 0
  have u1 : World.cell? _ ⟨_, 1, none⟩ = some (.slice A1 n1 c1) := xu.at 1
  have u2 : World.cell? _ ⟨_, 2, none⟩ = some (.int .i64 x.e) := xu.at 2
  have v0 : World.cell? _ ⟨_, 0, none⟩ = some (.bool y.s) := xv.at 0
  have v1 : World.cell? _ ⟨_, 1, none⟩ = some (.slice A2 n2 c2) := xv.at 1
  have v2 : World.cell? _ ⟨_, 2, none⟩ = some (.int .i64 y.e) := xv.at 2
  clear xt xu xv
  have t1c := mv (below_alloc ((((w.alloc (.cells #[.slice Ta a.m ca, .slice Va a.n da] 25)).alloc (.cells #[.bool x.s, .slice A1 n1 c1, .int .i64 x.e] 28)).alloc (.cells #[.bool y.s, .slice A2 n2 c2, .int .i64 y.e] 28)).alloc (.cells #[.slice none 0 0, .slice none 0 0] 25)) (.cells #[.slice none 0 0, .slice none 0 0] 25)) rfl t1
  go_enter Tryd.func31, Tryd.ntmps31
  go_wp2
  go_step3
  generalize ((((w.alloc (.cells #[.slice Ta a.m ca, .slice Va a.n da] 25)).alloc (.cells #[.bool x.s, .slice A1 n1 c1, .int .i64 x.e] 28)).alloc (.cells #[.bool y.s, .slice A2 n2 c2, .int .i64 y.e] 28)).alloc (.cells #[.slice none 0 0, .slice none 0 0] 25)) = W0 at *
  have TS : TubS W0 (W0.alloc (.cells #[.slice none 0 0, .slice none 0 0] 25)) W0.heap.size (.slice none 0 0) (.slice none 0 0) [] [] := ⟨below_alloc W0 _, Nat.le_refl _, Blk.new W0 _ _, ⟨[], rown_nil .., fun i hi => absurd hi (Nat.not_lt_zero i)⟩, irow_nil _ _⟩
  go_wp2
  go_step3
  go_wp2
  generalize W0.alloc (.cells #[.slice none 0 0, .slice none 0 0] 25) = W1 at *
  generalize W0.heap.size = g9 at TS ⊢
  go_loopg [15] a.n (fun k v wr => ∃ i : Nat, i + k = a.n ∧ v = .int .i64 i ∧ ∃ (AT : Option Addr) (cT : Nat) (AV : Option Addr) (cV : Nat), TubS W0 wr g9 (.slice AT (selT q a x y i).length cT) (.slice AV (selV q a x y i).length cV) (selT q a x y i) (selV q a x y i))
  case atStart => exact ⟨0, by omega, rfl, none, 0, none, 0, TS⟩
  case round =>
    clear TS t1c
    obtain ⟨i, hg, rfl, AT, cT, AV, cV, TS⟩ := hrel
    have HG := Lib.hid hg
    clear hg
    by_cases hi : i < a.n
    · have hp2 : (i : Int) < a.n := by omega
      have hp3 : (0 : Int) ≤ i := by omega
      have hp4 : (i : Int) < a.m := by omega
      have hp5 : (i : Int) + 1 < a.m := by omega
      have hp6 : (0 : Int) ≤ (i : Int) + 1 := by omega
      have hw1 : IntKind.i64.wrap ((i : Int) + 1) = (i : Int) + 1 := IntWalk.i64_in _ (by omega)
      have HB := Lib.hid BB
      clear BB
      obtain ⟨g, off, hTa, hc⟩ := ha.at_.at_ (by omega)
      obtain ⟨A5, n5, c5, ⟨r0, r1, r2⟩, q5⟩ := hc i (by omega)
      obtain ⟨A6, n6, c6, ⟨s0, s1, s2⟩, q6⟩ := hc (i + 1) (by omega)
      obtain ⟨g5, o5, hVa, hd⟩ := ha.v.at_ (by omega)
      obtain ⟨A3, n3, c3, A4, n4, c4, ⟨y0, y1, y2, y3, y4, y5⟩, q3, q4⟩ := hd i (by omega)
      clear hc hd
      subst hTa hVa
      have HV : Hid (selV q a x y (i + 1) = if selB q a x y i = true then selV q a x y i ++ [a.V i] else selV q a x y i) := Lib.hid rfl
      have HTT : Hid (selT q a x y (i + 1) = if selB q a x y i = true then (if (selV q a x y i).length = 0 then selT q a x y i ++ [a.T i] else selT q a x y i) ++ [a.T (i + 1)] else selT q a x y i) := Lib.hid rfl
      have HSB : Hid (selB q a x y i = (q x (a.T (i + 1)) && q (a.T i) y)) := Lib.hid rfl
      have HLT : Hid ((selT q a x y i).length = if (selV q a x y i).length = 0 then 0 else (selV q a x y i).length + 1) := Lib.hid selT_len
      have hlv : (selV q a x y i).length ≤ 256 := by have := selV_len (q := q) (a := a) (x := x) (y := y) (i := i); omega
      have HBI := Lib.hid (fun j hj hk => HBR.out i j hj hk)
      obtain ⟨v, hv⟩ : ∃ z, z = a.V i := ⟨_, rfl⟩
      obtain ⟨tx, htx⟩ : ∃ z, z = a.T i := ⟨_, rfl⟩
      obtain ⟨ty, hty⟩ : ∃ z, z = a.T (i + 1) := ⟨_, rfl⟩
      rw [← hv] at y0 y2 y3 y5 q3 q4
      rw [← htx] at r0 r2 q5
      rw [← hty] at s0 s2 q6
      have HE := Lib.hid (And.intro hv (And.intro htx hty))
      clear hv htx hty
      obtain ⟨b1, hb1⟩ : ∃ b, b = q x ty := ⟨_, rfl⟩
      obtain ⟨b2, hb2⟩ : ∃ b, b = q tx y := ⟨_, rfl⟩
      have HP1 := Lib.hid hb1
      have HP2 := Lib.hid hb2
      clear hb1 hb2
      obtain ⟨LT, hLT⟩ : ∃ l, l = selT q a x y i := ⟨_, rfl⟩
      obtain ⟨LV, hLV⟩ : ∃ l, l = selV q a x y i := ⟨_, rfl⟩
      rw [← hLT, ← hLV] at TS
      rw [← hLT, ← hLV] at HTT HLT
      rw [← hLV] at HV hlv
      skip
      have HL := Lib.hid (And.intro hLT hLV)
      clear hLT hLV
      obtain ⟨nT, hnT⟩ : ∃ k, k = LT.length := ⟨_, rfl⟩
      obtain ⟨nV, hnV⟩ : ∃ k, k = LV.length := ⟨_, rfl⟩
      rw [← hnT, ← hnV] at TS
      rw [← hnT, ← hnV] at HLT
      rw [← hnV] at hlv
      have HN := Lib.hid (And.intro hnT hnV)
      clear hnT hnV
      have y0' := mv TS.below rfl y0
      have y1' := mv TS.below rfl y1
      have y2' := mv TS.below rfl y2
      have y3' := mv TS.below rfl y3
      have y4' := mv TS.below rfl y4
      have y5' := mv TS.below rfl y5
      go_upto_block 2 with fail
      have CS := TS.cel #[.bool v.lo.s, .slice A3 n3 c3, .int .i64 v.lo.e, .bool v.hi.s, .slice A4 n4 c4, .int .i64 v.hi.e]
      clear TS y0' y1' y2' y3' y4' y5'
      generalize wr.alloc (.cells #[.bool v.lo.s, .slice A3 n3 c3, .int .i64 v.lo.e, .bool v.hi.s, .slice A4 n4 c4, .int .i64 v.hi.e] 35) = W2 at *
      generalize wr.heap.size = gz at CS ⊢
      go_cut [46] from 20 to 55 (fun v46 wc => (q x ty = true ∧ q tx y = true) ∧ ∃ (AT2 : Option Addr) (cT2 : Nat) (LT2 : List Rw), LT2 = (if nV = 0 then LT ++ [tx] else LT) ∧ LT2.length = nV + 1 ∧ CelS W0 wc g9 gz (.slice AT2 (nV + 1) cT2) (.slice AV nV cV) (.slice AT2 (nV + 1) cT2) (.slice AV nV cV) LT2 LV #[.bool v.lo.s, .slice A3 n3 c3, .int .i64 v.lo.e, .bool v.hi.s, .slice A4 n4 c4, .int .i64 v.hi.e])
      case first =>
        go_upto_region 5 with fail
        have b : Below W2.heap.size W2 (World.drew W2) := below_drewN (Below.refl _ _) 1
        replace CS := CS.go b
        clear b
        go_wp2_with fail
        refine wp_region_held_drew (S := fun w' => w'.cell? ⟨w.heap.size, 0, none⟩ = some (.slice (some ⟨g, off, none⟩) a.m ca) ∧ w'.cell? ⟨w.heap.size + 1, 0, none⟩ = some (.bool x.s) ∧ w'.cell? ⟨w.heap.size + 1, 1, none⟩ = some (.slice A1 n1 c1) ∧ w'.cell? ⟨w.heap.size + 1, 2, none⟩ = some (.int .i64 x.e) ∧ w'.cell? ⟨g, off + (i + 1) * 3, none⟩ = some (.bool ty.s) ∧ w'.cell? ⟨g, off + (i + 1) * 3 + 1, none⟩ = some (.slice A6 n6 c6) ∧ w'.cell? ⟨g, off + (i + 1) * 3 + 2, none⟩ = some (.int .i64 ty.e)) (by kernel_rfl) (by exact ⟨mv CS.below rfl t0, mv CS.below rfl u0, mv CS.below rfl u1, mv CS.below rfl u2, mv CS.below rfl s0, mv CS.below rfl s1, mv CS.below rfl s2⟩) (fun hHeldc0 => ?_)
        generalize World.drew W2 = wd at *
        refine tk 0 21 ?_
        simp only [Act.put, List.setIfInBounds_toArray, List.set_cons_zero, List.set_cons_succ]
        refine tk 1 22 ?_
        simp only [Act.put, List.setIfInBounds_toArray, List.set_cons_zero, List.set_cons_succ]
        refine tk 2 23 ?_
        simp only [Act.put, List.setIfInBounds_toArray, List.set_cons_zero, List.set_cons_succ]
        refine tk 3 24 ?_
        simp only [Act.put, List.setIfInBounds_toArray, List.set_cons_zero, List.set_cons_succ]
        refine tk 4 25 ?_
        simp only [Act.put, List.setIfInBounds_toArray, List.set_cons_zero, List.set_cons_succ]
        refine tk 5 26 ?_
        simp only [Act.put, List.setIfInBounds_toArray, List.set_cons_zero, List.set_cons_succ]
        refine tk 6 27 ?_
        simp only [Act.put, List.setIfInBounds_toArray, List.set_cons_zero, List.set_cons_succ]
        refine tk 7 28 ?_
        simp only [Act.put, List.setIfInBounds_toArray, List.set_cons_zero, List.set_cons_succ]
        refine wpAnyH_ready (rs := [8]) (by kernel_rfl) (by simp) ?_
        refine AllReadyH.cons (o := _) rfl (fun K hK => ?_) AllReadyH.nil
        go_simp
        refine (hS.is (mv CS.below rfl hT) (mv CS.below rfl h1) (mv CS.below rfl q6)).mono ?_
        rintro en w7 ⟨rfl, b⟩
        rw [← HP1.out]
        replace CS := CS.go b
        clear b
        refine hK.out _ _ (by exact ⟨mv CS.below rfl t0, mv CS.below rfl u0, mv CS.below rfl u1, mv CS.below rfl u2, mv CS.below rfl s0, mv CS.below rfl s1, mv CS.below rfl s2⟩) (fun hHeldc1 => ?_)
        clear hK K hHeldc0
        try simp only [Act.put]
        refine tk 9 30 ?_
        simp only [Act.put, List.setIfInBounds_toArray, List.set_cons_zero, List.set_cons_succ]
        refine tk 10 20 ?_
        simp only [Act.put, List.setIfInBounds_toArray, List.set_cons_zero, List.set_cons_succ]
        refine wpAnyH_done (by kernel_rfl) ?_ _
        cases b1
        case false =>
          have hsb : selB q a x y i = false := by rw [HSB.out, ← HE.out.2.2, ← HP1.out]; rfl
          have e1 : selV q a x y (i + 1) = LV := by rw [HV.out, if_neg (by rw [hsb]; decide)]
          have e2 : selT q a x y (i + 1) = LT := by rw [HTT.out, if_neg (by rw [hsb]; decide)]
          have HEE := Lib.hid (And.intro e1 e2)
          clear e1 e2 hsb
          go_wp2
          go_roundg (gk - 1)
          case measure => have := HG.out; omega
          case rel => exact ⟨i + 1, by have := HG.out; omega, by go_num, by rw [HEE.out.1, HEE.out.2, ← HN.out.1, ← HN.out.2]; exact ⟨_, _, _, _, CS.tub⟩⟩
        case true =>
          go_upto_region 6 with fail
          generalize w7 = W3 at *
          have b : Below W3.heap.size W3 (World.drew W3) := below_drewN (Below.refl _ _) 1
          replace CS := CS.go b
          clear b
          go_wp2_with fail
          refine wp_region_held_drew (S := fun w' => w'.cell? ⟨w.heap.size, 0, none⟩ = some (.slice (some ⟨g, off, none⟩) a.m ca) ∧ w'.cell? ⟨w.heap.size + 2, 0, none⟩ = some (.bool y.s) ∧ w'.cell? ⟨w.heap.size + 2, 1, none⟩ = some (.slice A2 n2 c2) ∧ w'.cell? ⟨w.heap.size + 2, 2, none⟩ = some (.int .i64 y.e) ∧ w'.cell? ⟨g, off + i * 3, none⟩ = some (.bool tx.s) ∧ w'.cell? ⟨g, off + i * 3 + 1, none⟩ = some (.slice A5 n5 c5) ∧ w'.cell? ⟨g, off + i * 3 + 2, none⟩ = some (.int .i64 tx.e)) (by kernel_rfl) (by exact ⟨mv CS.below rfl t0, mv CS.below rfl v0, mv CS.below rfl v1, mv CS.below rfl v2, mv CS.below rfl r0, mv CS.below rfl r1, mv CS.below rfl r2⟩) (fun hHeldd0 => ?_)
          generalize World.drew W3 = wd at *
          refine tk 0 32 ?_
          simp only [Act.put, List.setIfInBounds_toArray, List.set_cons_zero, List.set_cons_succ]
          refine tk 1 33 ?_
          simp only [Act.put, List.setIfInBounds_toArray, List.set_cons_zero, List.set_cons_succ]
          refine tk 2 34 ?_
          simp only [Act.put, List.setIfInBounds_toArray, List.set_cons_zero, List.set_cons_succ]
          refine tk 3 35 ?_
          simp only [Act.put, List.setIfInBounds_toArray, List.set_cons_zero, List.set_cons_succ]
          refine tk 4 36 ?_
          simp only [Act.put, List.setIfInBounds_toArray, List.set_cons_zero, List.set_cons_succ]
          refine tk 5 37 ?_
          simp only [Act.put, List.setIfInBounds_toArray, List.set_cons_zero, List.set_cons_succ]
          refine tk 6 38 ?_
          simp only [Act.put, List.setIfInBounds_toArray, List.set_cons_zero, List.set_cons_succ]
          refine wpAnyH_ready (rs := [7]) (by kernel_rfl) (by simp) ?_
          refine AllReadyH.cons (o := _) rfl (fun K hK => ?_) AllReadyH.nil
          go_simp
          refine (hS.is (mv CS.below rfl hT) (mv CS.below rfl q5) (mv CS.below rfl h2)).mono ?_
          rintro en w7 ⟨rfl, b⟩
          rw [← HP2.out]
          replace CS := CS.go b
          clear b
          refine hK.out _ _ (by exact ⟨mv CS.below rfl t0, mv CS.below rfl v0, mv CS.below rfl v1, mv CS.below rfl v2, mv CS.below rfl r0, mv CS.below rfl r1, mv CS.below rfl r2⟩) (fun hHeldd1 => ?_)
          clear hK K hHeldd0
          try simp only [Act.put]
          refine tk 8 40 ?_
          simp only [Act.put, List.setIfInBounds_toArray, List.set_cons_zero, List.set_cons_succ]
          refine tk 9 31 ?_
          simp only [Act.put, List.setIfInBounds_toArray, List.set_cons_zero, List.set_cons_succ]
          refine wpAnyH_done (by kernel_rfl) ?_ _
          cases b2
          case false =>
            have hst : selV q a x y a.n = LV ∧ selT q a x y a.n = LT := by
              rw [HL.out.1, HL.out.2]
              exact (sel_upto (by omega) fun j hj hk => by
                unfold selB
                rw [HBI.out j hj hk (by rw [← HE.out.2.1]; exact HP2.out.symm), Bool.and_false])
            have HST := Lib.hid hst
            clear hst
            have TS := CS.tub
            clear CS
            have BB := HB.out
            have b0 : World.cell? _ ⟨g9, 0, none⟩ = some (.slice AT nT cT) := TS.box.at 0
            have b1 : World.cell? _ ⟨g9, 1, none⟩ = some (.slice AV nV cV) := TS.box.at 1
            have r := mv TS.below rfl xr
            obtain ⟨f0, f1⟩ := (show _ ∧ _ from ⟨r.frozen 0, r.frozen 1⟩)
            have z0 : World.cell? _ ⟨w.heap.size + 3, 0, none⟩ = some (.slice none 0 0) := r.at 0
            have z1 : World.cell? _ ⟨w.heap.size + 3, 1, none⟩ = some (.slice none 0 0) := r.at 1
            go_wp2
            have hno := r.nou nol_slice nol_slice
            have qq := r.put2 (.slice AT nT cT) (.slice AV nV cV)
            have HB3 := below_put2 (g := w.heap.size + 3) (below_next BB BB.size TS.below rfl rfl rfl rfl) (by omega) (.slice AT nT cT) (.slice AV nV cV)
            have hH : HRow (((_ : World).setCell ⟨w.heap.size + 3, 0, none⟩ (.slice AT nT cT)).setCell ⟨w.heap.size + 3, 1, none⟩ (.slice AV nV cV)) _ _ _ := TS.t.via (fun q hq => by
              obtain ⟨cs, hk⟩ := TS.t.kind q hq
              have hne := kinds_ne hk r.blk (by decide)
              exact (Below.heap_setCell _ _ _ q hne).trans (Below.heap_setCell _ _ _ q hne)) fun A n c l hr => (hr.set1 (hr.off hno) _ _).set1 (hr.off hno) _ _
            have hI : IRow (((_ : World).setCell ⟨w.heap.size + 3, 0, none⟩ (.slice AT nT cT)).setCell ⟨w.heap.size + 3, 1, none⟩ (.slice AV nV cV)) _ _ _ := TS.v.via (fun q hq => by
              obtain ⟨cs, hk⟩ := TS.v.kind q hq
              have hne := kinds_ne hk r.blk (by decide)
              exact (Below.heap_setCell _ _ _ q hne).trans (Below.heap_setCell _ _ _ q hne)) fun A n c l hr => (hr.set1 (hr.off hno) _ _).set1 (hr.off hno) _ _
            have y0 : World.cell? _ ⟨w.heap.size + 3, 0, none⟩ = some (.slice AT nT cT) := qq.at 0
            have y1 : World.cell? _ ⟨w.heap.size + 3, 1, none⟩ = some (.slice AV nV cV) := qq.at 1
            obtain ⟨A8, c8, e8, r8, _⟩ := hH.form
            obtain ⟨A9, c9, e9, r9, _⟩ := hI.form
            injection e8 with e8a e8b e8c
            injection e9 with e9a e9b e9c
            subst e8a e8c e9a e9c
            exact bodyPost_ret (v := .agg #[.slice AT nT cT, .slice AV nV cV]) (by simp [results, Tryd.results31, go_sem, y0, y1]) rfl (by rw [HST.out.1, HST.out.2]; obtain ⟨e1, e2⟩ := HN.out; subst e1 e2; exact ⟨_, _, _, _, rfl, ⟨r8, r9⟩, HB3⟩)
          case true =>
            have b1c : World.cell? _ ⟨g9, 1, none⟩ = some (.slice AV nV cV) := CS.box.at 1
            go_upto_if 41 with fail
            clear b1c
            by_cases hz : nV = 0
            · have hnt : nT = 0 := by have := HLT.out; rw [if_pos hz] at this; exact this
              have hlt0 : LT.length = 0 := by rw [← HN.out.1, hnt]
              have HL0 := Lib.hid hlt0
              clear hlt0
              have HNT := Lib.hid hnt
              clear hnt
              go_upto_region 8 with fail
              have HZ := Lib.hid hz
              clear hz
              have b : Below w7.heap.size w7 (World.drew w7) := below_drewN (Below.refl _ _) 1
              replace CS := CS.go b
              clear b
              refine wp_region_upto (S := fun w' => w'.cell? ⟨g9, 0, none⟩ = some (.slice AT nT cT) ∧ w'.cell? ⟨w.heap.size, 0, none⟩ = some (.slice (some ⟨g, off, none⟩) a.m ca) ∧ w'.cell? ⟨g, off + i * 3, none⟩ = some (.bool tx.s) ∧ w'.cell? ⟨g, off + i * 3 + 1, none⟩ = some (.slice A5 n5 c5) ∧ w'.cell? ⟨g, off + i * 3 + 2, none⟩ = some (.int .i64 tx.e)) 10 (by kernel_rfl) (by exact ⟨CS.box.at 0, mv CS.below rfl t0, mv CS.below rfl r0, mv CS.below rfl r1, mv CS.below rfl r2⟩) (fun hHelde0 => ?_)
              generalize World.drew w7 = wd8 at *
              refine wpAnyT_take (i := 0) (v := ?e1v0) rfl (by kernel_rfl) (by kernel_rfl) (by kernel_rfl) (by kernel_rfl) (by kernel_rfl) (by kernel_rfl) (fun _ _ _ h => panic_put (P := Tryd.prog) (fn := Tryd.f31) (R := (GivT (tbL (selT q a x y a.n) (selV q a x y a.n)) w)) h) (Or.inl ⟨by rfl, ?e1y0⟩) (by assumption) ?_
              case e1y0 => (intro w hSw; (try dsimp only at hSw); go_simp); try with_reducible rfl
              change wpAnyT _ _ _ _ _ _ _ _ (Act.put _ (some 46) _) _
              simp only [Act.put, List.setIfInBounds_toArray, List.set_cons_zero, List.set_cons_succ]
              refine wpAnyT_take (i := 1) (v := ?e2v1) rfl (by kernel_rfl) (by kernel_rfl) (by kernel_rfl) (by kernel_rfl) (by kernel_rfl) (by kernel_rfl) (fun _ _ _ h => panic_put (P := Tryd.prog) (fn := Tryd.f31) (R := (GivT (tbL (selT q a x y a.n) (selV q a x y a.n)) w)) h) (Or.inl ⟨by rfl, ?e2y1⟩) (by assumption) ?_
              case e2y1 => (intro w hSw; (try dsimp only at hSw); go_simp); try with_reducible rfl
              change wpAnyT _ _ _ _ _ _ _ _ (Act.put _ (some 47) _) _
              simp only [Act.put, List.setIfInBounds_toArray, List.set_cons_zero, List.set_cons_succ]
              refine wpAnyT_take (i := 2) (v := ?e3v2) rfl (by kernel_rfl) (by kernel_rfl) (by kernel_rfl) (by kernel_rfl) (by kernel_rfl) (by kernel_rfl) (fun _ _ _ h => panic_put (P := Tryd.prog) (fn := Tryd.f31) (R := (GivT (tbL (selT q a x y a.n) (selV q a x y a.n)) w)) h) (Or.inl ⟨by rfl, ?e3y2⟩) (by assumption) ?_
              case e3y2 => (intro w hSw; (try dsimp only at hSw); go_simp); try with_reducible rfl
              change wpAnyT _ _ _ _ _ _ _ _ (Act.put _ (some 48) _) _
              simp only [Act.put, List.setIfInBounds_toArray, List.set_cons_zero, List.set_cons_succ]
              refine wpAnyT_take (i := 3) (v := ?e4v3) rfl (by kernel_rfl) (by kernel_rfl) (by kernel_rfl) (by kernel_rfl) (by kernel_rfl) (by kernel_rfl) (fun _ _ _ h => panic_put (P := Tryd.prog) (fn := Tryd.f31) (R := (GivT (tbL (selT q a x y a.n) (selV q a x y a.n)) w)) h) (Or.inl ⟨by rfl, ?e4y3⟩) (by assumption) ?_
              case e4y3 => (intro w hSw; (try dsimp only at hSw); go_simp); try with_reducible rfl
              change wpAnyT _ _ _ _ _ _ _ _ (Act.put _ (some 49) _) _
              simp only [Act.put, List.setIfInBounds_toArray, List.set_cons_zero, List.set_cons_succ]
              refine wpAnyT_take (i := 4) (v := ?e5v4) rfl (by kernel_rfl) (by kernel_rfl) (by kernel_rfl) (by kernel_rfl) (by kernel_rfl) (by kernel_rfl) (fun _ _ _ h => panic_put (P := Tryd.prog) (fn := Tryd.f31) (R := (GivT (tbL (selT q a x y a.n) (selV q a x y a.n)) w)) h) (Or.inl ⟨by rfl, ?e5y4⟩) (by assumption) ?_
              case e5y4 => (intro w hSw; (try dsimp only at hSw); go_simp); try with_reducible rfl
              change wpAnyT _ _ _ _ _ _ _ _ (Act.put _ (some 50) _) _
              simp only [Act.put, List.setIfInBounds_toArray, List.set_cons_zero, List.set_cons_succ]
              refine wpAnyT_take (i := 5) (v := ?e6v5) rfl (by kernel_rfl) (by kernel_rfl) (by kernel_rfl) (by kernel_rfl) (by kernel_rfl) (by kernel_rfl) (fun _ _ _ h => panic_put (P := Tryd.prog) (fn := Tryd.f31) (R := (GivT (tbL (selT q a x y a.n) (selV q a x y a.n)) w)) h) (Or.inl ⟨by rfl, ?e6y5⟩) (by assumption) ?_
              case e6y5 => (intro w hSw; (try dsimp only at hSw); go_simp); try with_reducible rfl
              change wpAnyT _ _ _ _ _ _ _ _ (Act.put _ (some 51) _) _
              simp only [Act.put, List.setIfInBounds_toArray, List.set_cons_zero, List.set_cons_succ]
              refine wpAnyT_take (i := 6) (v := ?e7v6) rfl (by kernel_rfl) (by kernel_rfl) (by kernel_rfl) (by kernel_rfl) (by kernel_rfl) (by kernel_rfl) (fun _ _ _ h => panic_put (P := Tryd.prog) (fn := Tryd.f31) (R := (GivT (tbL (selT q a x y a.n) (selV q a x y a.n)) w)) h) (Or.inl ⟨by rfl, ?e7y6⟩) (by assumption) ?_
              case e7y6 => (intro w hSw; (try dsimp only at hSw); go_simp); try with_reducible rfl
              change wpAnyT _ _ _ _ _ _ _ _ (Act.put _ (some 52) _) _
              simp only [Act.put, List.setIfInBounds_toArray, List.set_cons_zero, List.set_cons_succ]
              refine wpAnyT_ready (rs := [7]) (by kernel_rfl) (by simp) ?_
              refine AllReadyT.cons (o := _) rfl (fun K hK => ?_) (AllReadyT.nil)
              go_simp
              have b := below_alloc wd8 (.cells #[.bool tx.s, .slice A5 n5 c5, .int .i64 tx.e] 28)
              have xd := Blk.new wd8 #[.bool tx.s, .slice A5 n5 c5, .int .i64 tx.e] 28
              replace CS := CS.go b
              clear b
              generalize wd8.alloc (.cells #[.bool tx.s, .slice A5 n5 c5, .int .i64 tx.e] 28) = ub at *
              generalize wd8.heap.size = gd at xd ⊢
              refine hK.out _ _ (by exact ⟨CS.box.at 0, mv CS.below rfl t0, mv CS.below rfl r0, mv CS.below rfl r1, mv CS.below rfl r2⟩) (fun hHelde1 => ?_)
              clear hK K hHelde0
              try simp only [Act.put]
              refine wpAnyT_ready (rs := [8]) (by kernel_rfl) (by simp) ?_
              refine AllReadyT.cons (o := _) rfl (fun K hK => ?_) (AllReadyT.nil)
              rw [if_pos (by rfl)]
              unfold Oper.wp execOp
              simp only [List.getElem_toArray, List.getElem_cons_succ, List.getElem_cons_zero, resolve, invoke, builtin, Sem.run_bind, Sem.run_pure, Result.andThen_ok, List.map_toArray, List.map_cons, List.map_nil]
              have qc := mv CS.below rfl q5
              obtain ⟨v', uc, hr', G1, G2, _⟩ := apph_run 22 CS.t xd qc (by rw [HL0.out]; omega) CS.below.size
              change Oper.upon _ _ _ _ _ ((Sem.run _ (Builtin.append_ _ _ #[.slice AT nT cT, .slice (some ⟨gd, 0, none⟩) 1 1]) _).andThen _)
              rw [hr']
              replace CS := CS.appT G1 G2
              obtain ⟨AT2, cT2, e2⟩ := G1.slice
              rw [show (LT ++ [tx]).length = nV + 1 by rw [List.length_append, List.length_singleton, HL0.out, HZ.out]] at e2
              subst e2
              go_simp
              clear hr' G1 G2 qc xd
              refine hK.out _ _ (by exact ⟨CS.box.at 0, mv CS.below rfl t0, mv CS.below rfl r0, mv CS.below rfl r1, mv CS.below rfl r2⟩) (fun hHelde2 => ?_)
              clear hK K hHelde1
              try simp only [Act.put]
              refine wpAnyT_take (i := 9) (v := ?e8v9) rfl (by kernel_rfl) (by kernel_rfl) (by kernel_rfl) (by kernel_rfl) (by kernel_rfl) (by kernel_rfl) (fun _ _ _ h => panic_put (P := Tryd.prog) (fn := Tryd.f31) (R := (GivT (tbL (selT q a x y a.n) (selV q a x y a.n)) w)) h) (Or.inl ⟨by rfl, ?e8y9⟩) (by assumption) ?_
              case e8y9 => (intro w hSw; (try dsimp only at hSw); go_simp); try with_reducible rfl
              change wpAnyT _ _ _ _ _ _ _ _ (Act.put _ (some 55) _) _
              simp only [Act.put, List.setIfInBounds_toArray, List.set_cons_zero, List.set_cons_succ]
              rotate_left
              all_goals (
                clear hHelde2
                refine wpAnyT_ready (rs := [10]) (by kernel_rfl) (by simp) ?_
                refine AllReadyT.consB (o := _) rfl (by kernel_rfl) (fun K hK => ?_) AllReadyT.nil
                have f0 := CS.box.frozen 0
                have b0 : World.cell? _ ⟨g9, 0, none⟩ = some (.slice AT nT cT) := CS.box.at 0
                go_simp
                replace CS := CS.put0 nol_slice nol_slice (.slice AT2 (nV + 1) cT2)
                clear f0 b0
                refine hK.out _ _ ?_
                clear hK K
                try simp only [Act.put]
                refine wpAnyT_done (by kernel_rfl) ?_ _
                go_wp2
                go_meet
                case rel => exact ⟨⟨HP1.out.symm, HP2.out.symm⟩, AT2, cT2, _, by rw [if_pos HZ.out], by rw [List.length_append, List.length_singleton, HL0.out, HZ.out], CS⟩)
            · have hnt : nT = nV + 1 := by have := HLT.out; rw [if_neg hz] at this; exact this
              subst hnt
              go_wp2
              go_meet
              case rel => exact ⟨⟨HP1.out.symm, HP2.out.symm⟩, AT, cT, LT, by rw [if_neg hz], HN.out.1.symm, CS⟩
      case rest =>
        clear CS HP1 HP2 b1 b2
        obtain ⟨⟨hp1, hp2b⟩, AT2, cT2, LT2, hL2, hn2, CS⟩ := hcut
        have HPP := Lib.hid (And.intro hp1 hp2b)
        clear hp1 hp2b
        have HL2 := Lib.hid (And.intro hL2 hn2)
        clear hL2 hn2
        clear HLT
        go_upto_region 9 with fail
        have b : Below wc.heap.size wc (World.drew wc) := below_drewN (Below.refl _ _) 1
        replace CS := CS.go b
        clear b
        refine wp_region_upto (S := fun w' => w'.cell? ⟨g9, 0, none⟩ = some (.slice AT2 (nV + 1) cT2) ∧ w'.cell? ⟨g9, 1, none⟩ = some (.slice AV nV cV) ∧ w'.cell? ⟨w.heap.size, 0, none⟩ = some (.slice (some ⟨g, off, none⟩) a.m ca) ∧ w'.cell? ⟨g, off + (i + 1) * 3, none⟩ = some (.bool ty.s) ∧ w'.cell? ⟨g, off + (i + 1) * 3 + 1, none⟩ = some (.slice A6 n6 c6) ∧ w'.cell? ⟨g, off + (i + 1) * 3 + 2, none⟩ = some (.int .i64 ty.e) ∧ w'.cell? ⟨gz, 0, none⟩ = some (.bool v.lo.s) ∧ w'.cell? ⟨gz, 1, none⟩ = some (.slice A3 n3 c3) ∧ w'.cell? ⟨gz, 2, none⟩ = some (.int .i64 v.lo.e) ∧ w'.cell? ⟨gz, 3, none⟩ = some (.bool v.hi.s) ∧ w'.cell? ⟨gz, 4, none⟩ = some (.slice A4 n4 c4) ∧ w'.cell? ⟨gz, 5, none⟩ = some (.int .i64 v.hi.e)) 16 (by kernel_rfl) (by exact ⟨CS.box.at 0, CS.box.at 1, mv CS.below rfl t0, mv CS.below rfl s0, mv CS.below rfl s1, mv CS.below rfl s2, CS.z.at 0, CS.z.at 1, CS.z.at 2, CS.z.at 3, CS.z.at 4, CS.z.at 5⟩) (fun hHeldg0 => ?_)
        generalize World.drew wc = wd9 at *
        refine wpAnyT_take (i := 0) (v := ?g9v0) rfl (by kernel_rfl) (by kernel_rfl) (by kernel_rfl) (by kernel_rfl) (by kernel_rfl) (by kernel_rfl) (fun _ _ _ h => panic_put (P := Tryd.prog) (fn := Tryd.f31) (R := (GivT (tbL (selT q a x y a.n) (selV q a x y a.n)) w)) h) (Or.inl ⟨by rfl, ?g9y0⟩) (by assumption) ?_
        case g9y0 => (intro w hSw; (try dsimp only at hSw); go_simp); try with_reducible rfl
        change wpAnyT _ _ _ _ _ _ _ _ (Act.put _ (some 56) _) _
        simp only [Act.put, List.setIfInBounds_toArray, List.set_cons_zero, List.set_cons_succ]
        refine wpAnyT_take (i := 1) (v := ?g10v1) rfl (by kernel_rfl) (by kernel_rfl) (by kernel_rfl) (by kernel_rfl) (by kernel_rfl) (by kernel_rfl) (fun _ _ _ h => panic_put (P := Tryd.prog) (fn := Tryd.f31) (R := (GivT (tbL (selT q a x y a.n) (selV q a x y a.n)) w)) h) (Or.inl ⟨by rfl, ?g10y1⟩) (by assumption) ?_
        case g10y1 => (intro w hSw; (try dsimp only at hSw); go_simp); try with_reducible rfl
        change wpAnyT _ _ _ _ _ _ _ _ (Act.put _ (some 57) _) _
        simp only [Act.put, List.setIfInBounds_toArray, List.set_cons_zero, List.set_cons_succ]
        refine wpAnyT_take (i := 2) (v := ?g11v2) rfl (by kernel_rfl) (by kernel_rfl) (by kernel_rfl) (by kernel_rfl) (by kernel_rfl) (by kernel_rfl) (fun _ _ _ h => panic_put (P := Tryd.prog) (fn := Tryd.f31) (R := (GivT (tbL (selT q a x y a.n) (selV q a x y a.n)) w)) h) (Or.inl ⟨by rfl, ?g11y2⟩) (by assumption) ?_
        case g11y2 => (intro w hSw; (try dsimp only at hSw); go_simp); try with_reducible rfl
        change wpAnyT _ _ _ _ _ _ _ _ (Act.put _ (some 58) _) _
        simp only [Act.put, List.setIfInBounds_toArray, List.set_cons_zero, List.set_cons_succ]
        refine wpAnyT_take (i := 3) (v := ?g12v3) rfl (by kernel_rfl) (by kernel_rfl) (by kernel_rfl) (by kernel_rfl) (by kernel_rfl) (by kernel_rfl) (fun _ _ _ h => panic_put (P := Tryd.prog) (fn := Tryd.f31) (R := (GivT (tbL (selT q a x y a.n) (selV q a x y a.n)) w)) h) (Or.inl ⟨by rfl, ?g12y3⟩) (by assumption) ?_
        case g12y3 => (intro w hSw; (try dsimp only at hSw); go_simp); try with_reducible rfl
        change wpAnyT _ _ _ _ _ _ _ _ (Act.put _ (some 59) _) _
        simp only [Act.put, List.setIfInBounds_toArray, List.set_cons_zero, List.set_cons_succ]
        refine wpAnyT_take (i := 4) (v := ?g13v4) rfl (by kernel_rfl) (by kernel_rfl) (by kernel_rfl) (by kernel_rfl) (by kernel_rfl) (by kernel_rfl) (fun _ _ _ h => panic_put (P := Tryd.prog) (fn := Tryd.f31) (R := (GivT (tbL (selT q a x y a.n) (selV q a x y a.n)) w)) h) (Or.inl ⟨by rfl, ?g13y4⟩) (by assumption) ?_
        case g13y4 => (intro w hSw; (try dsimp only at hSw); go_simp); try with_reducible rfl
        change wpAnyT _ _ _ _ _ _ _ _ (Act.put _ (some 60) _) _
        simp only [Act.put, List.setIfInBounds_toArray, List.set_cons_zero, List.set_cons_succ]
        refine wpAnyT_take (i := 5) (v := ?g14v5) rfl (by kernel_rfl) (by kernel_rfl) (by kernel_rfl) (by kernel_rfl) (by kernel_rfl) (by kernel_rfl) (fun _ _ _ h => panic_put (P := Tryd.prog) (fn := Tryd.f31) (R := (GivT (tbL (selT q a x y a.n) (selV q a x y a.n)) w)) h) (Or.inl ⟨by rfl, ?g14y5⟩) (by assumption) ?_
        case g14y5 => (intro w hSw; (try dsimp only at hSw); go_simp); try with_reducible rfl
        change wpAnyT _ _ _ _ _ _ _ _ (Act.put _ (some 61) _) _
        simp only [Act.put, List.setIfInBounds_toArray, List.set_cons_zero, List.set_cons_succ]
        refine wpAnyT_take (i := 6) (v := ?g15v6) rfl (by kernel_rfl) (by kernel_rfl) (by kernel_rfl) (by kernel_rfl) (by kernel_rfl) (by kernel_rfl) (fun _ _ _ h => panic_put (P := Tryd.prog) (fn := Tryd.f31) (R := (GivT (tbL (selT q a x y a.n) (selV q a x y a.n)) w)) h) (Or.inl ⟨by rfl, ?g15y6⟩) (by assumption) ?_
        case g15y6 => (intro w hSw; (try dsimp only at hSw); go_simp); try with_reducible rfl
        change wpAnyT _ _ _ _ _ _ _ _ (Act.put _ (some 62) _) _
        simp only [Act.put, List.setIfInBounds_toArray, List.set_cons_zero, List.set_cons_succ]
        refine wpAnyT_take (i := 7) (v := ?g16v7) rfl (by kernel_rfl) (by kernel_rfl) (by kernel_rfl) (by kernel_rfl) (by kernel_rfl) (by kernel_rfl) (fun _ _ _ h => panic_put (P := Tryd.prog) (fn := Tryd.f31) (R := (GivT (tbL (selT q a x y a.n) (selV q a x y a.n)) w)) h) (Or.inl ⟨by rfl, ?g16y7⟩) (by assumption) ?_
        case g16y7 => (intro w hSw; (try dsimp only at hSw); go_simp); try with_reducible rfl
        change wpAnyT _ _ _ _ _ _ _ _ (Act.put _ (some 63) _) _
        simp only [Act.put, List.setIfInBounds_toArray, List.set_cons_zero, List.set_cons_succ]
        refine wpAnyT_take (i := 10) (v := ?g17v10) rfl (by kernel_rfl) (by kernel_rfl) (by kernel_rfl) (by kernel_rfl) (by kernel_rfl) (by kernel_rfl) (fun _ _ _ h => panic_put (P := Tryd.prog) (fn := Tryd.f31) (R := (GivT (tbL (selT q a x y a.n) (selV q a x y a.n)) w)) h) (Or.inl ⟨by rfl, ?g17y10⟩) (by assumption) ?_
        case g17y10 => (intro w hSw; (try dsimp only at hSw); go_simp); try with_reducible rfl
        change wpAnyT _ _ _ _ _ _ _ _ (Act.put _ (some 66) _) _
        simp only [Act.put, List.setIfInBounds_toArray, List.set_cons_zero, List.set_cons_succ]
        refine wpAnyT_take (i := 11) (v := ?g18v11) rfl (by kernel_rfl) (by kernel_rfl) (by kernel_rfl) (by kernel_rfl) (by kernel_rfl) (by kernel_rfl) (fun _ _ _ h => panic_put (P := Tryd.prog) (fn := Tryd.f31) (R := (GivT (tbL (selT q a x y a.n) (selV q a x y a.n)) w)) h) (Or.inl ⟨by rfl, ?g18y11⟩) (by assumption) ?_
        case g18y11 => (intro w hSw; (try dsimp only at hSw); go_simp); try with_reducible rfl
        change wpAnyT _ _ _ _ _ _ _ _ (Act.put _ (some 67) _) _
        simp only [Act.put, List.setIfInBounds_toArray, List.set_cons_zero, List.set_cons_succ]
        refine wpAnyT_take (i := 12) (v := ?g19v12) rfl (by kernel_rfl) (by kernel_rfl) (by kernel_rfl) (by kernel_rfl) (by kernel_rfl) (by kernel_rfl) (fun _ _ _ h => panic_put (P := Tryd.prog) (fn := Tryd.f31) (R := (GivT (tbL (selT q a x y a.n) (selV q a x y a.n)) w)) h) (Or.inl ⟨by rfl, ?g19y12⟩) (by assumption) ?_
        case g19y12 => (intro w hSw; (try dsimp only at hSw); go_simp); try with_reducible rfl
        change wpAnyT _ _ _ _ _ _ _ _ (Act.put _ (some 68) _) _
        simp only [Act.put, List.setIfInBounds_toArray, List.set_cons_zero, List.set_cons_succ]
        refine wpAnyT_ready (rs := [8, 13]) (by kernel_rfl) (by simp) ?_
        refine AllReadyT.cons (o := _) rfl (fun K hK => ?_) (AllReadyT.cons (o := _) rfl (fun K hK => ?_) (AllReadyT.nil))
        go_simp
        have b := below_alloc wd9 (.cells #[.bool ty.s, .slice A6 n6 c6, .int .i64 ty.e] 28)
        have xd := Blk.new wd9 #[.bool ty.s, .slice A6 n6 c6, .int .i64 ty.e] 28
        replace CS := CS.go b
        clear b
        generalize wd9.alloc (.cells #[.bool ty.s, .slice A6 n6 c6, .int .i64 ty.e] 28) = ub at *
        generalize wd9.heap.size = gd at xd ⊢
        refine hK.out _ _ (by exact ⟨CS.box.at 0, CS.box.at 1, mv CS.below rfl t0, mv CS.below rfl s0, mv CS.below rfl s1, mv CS.below rfl s2, CS.z.at 0, CS.z.at 1, CS.z.at 2, CS.z.at 3, CS.z.at 4, CS.z.at 5⟩) (fun hHeldg1 => ?_)
        clear hK K hHeldg0
        try simp only [Act.put]
        refine wpAnyT_ready (rs := [9, 13]) (by kernel_rfl) (by simp) ?_
        refine AllReadyT.cons (o := _) rfl (fun K hK => ?_) (AllReadyT.cons (o := _) rfl (fun K hK => ?_) (AllReadyT.nil))
        rw [if_pos (by rfl)]
        unfold Oper.wp execOp
        simp only [List.getElem_toArray, List.getElem_cons_succ, List.getElem_cons_zero, resolve, invoke, builtin, Sem.run_bind, Sem.run_pure, Result.andThen_ok, List.map_toArray, List.map_cons, List.map_nil]
        have qc := mv CS.below rfl q6
        obtain ⟨v', uc, hr', G1, G2, _⟩ := apph_run 22 CS.t xd qc (by rw [HL2.out.2]; omega) CS.below.size
        change Oper.upon _ _ _ _ _ ((Sem.run _ (Builtin.append_ _ _ #[.slice AT2 (nV + 1) cT2, .slice (some ⟨gd, 0, none⟩) 1 1]) _).andThen _)
        rw [hr']
        replace CS := CS.appT G1 G2
        obtain ⟨AT3, cT3, e2⟩ := G1.slice
        rw [show (LT2 ++ [ty]).length = nV + 1 + 1 by rw [List.length_append, List.length_singleton, HL2.out.2]] at e2
        subst e2
        go_simp
        clear hr' G1 G2 qc xd
        refine hK.out _ _ (by exact ⟨CS.box.at 0, CS.box.at 1, mv CS.below rfl t0, mv CS.below rfl s0, mv CS.below rfl s1, mv CS.below rfl s2, CS.z.at 0, CS.z.at 1, CS.z.at 2, CS.z.at 3, CS.z.at 4, CS.z.at 5⟩) (fun hHeldg2 => ?_)
        clear hK K hHeldg1
        try simp only [Act.put]
        refine wpAnyT_take (i := 15) (v := ?g20v15) rfl (by kernel_rfl) (by kernel_rfl) (by kernel_rfl) (by kernel_rfl) (by kernel_rfl) (by kernel_rfl) (fun _ _ _ h => panic_put (P := Tryd.prog) (fn := Tryd.f31) (R := (GivT (tbL (selT q a x y a.n) (selV q a x y a.n)) w)) h) (Or.inl ⟨by rfl, ?g20y15⟩) (by assumption) ?_
        case g20y15 => (intro w hSw; (try dsimp only at hSw); go_simp); try with_reducible rfl
        change wpAnyT _ _ _ _ _ _ _ _ (Act.put _ (some 71) _) _
        simp only [Act.put, List.setIfInBounds_toArray, List.set_cons_zero, List.set_cons_succ]
        refine wpAnyT_ready (rs := [13]) (by kernel_rfl) (by simp) ?_
        refine AllReadyT.cons (o := _) rfl (fun K hK => ?_) (AllReadyT.nil)
        go_simp
        have b := below_alloc uc (.cells #[.bool v.lo.s, .slice A3 n3 c3, .int .i64 v.lo.e, .bool v.hi.s, .slice A4 n4 c4, .int .i64 v.hi.e] 35)
        have xi := Blk.new uc #[.bool v.lo.s, .slice A3 n3 c3, .int .i64 v.lo.e, .bool v.hi.s, .slice A4 n4 c4, .int .i64 v.hi.e] 35
        replace CS := CS.go b
        clear b
        generalize uc.alloc (.cells #[.bool v.lo.s, .slice A3 n3 c3, .int .i64 v.lo.e, .bool v.hi.s, .slice A4 n4 c4, .int .i64 v.hi.e] 35) = ud at *
        generalize uc.heap.size = gi at xi ⊢
        refine hK.out _ _ (by exact ⟨CS.box.at 0, CS.box.at 1, mv CS.below rfl t0, mv CS.below rfl s0, mv CS.below rfl s1, mv CS.below rfl s2, CS.z.at 0, CS.z.at 1, CS.z.at 2, CS.z.at 3, CS.z.at 4, CS.z.at 5⟩) (fun hHeldg3 => ?_)
        clear hK K hHeldg2
        try simp only [Act.put]
        refine wpAnyT_ready (rs := [14]) (by kernel_rfl) (by simp) ?_
        refine AllReadyT.cons (o := _) rfl (fun K hK => ?_) (AllReadyT.nil)
        rw [if_pos (by rfl)]
        unfold Oper.wp execOp
        simp only [List.getElem_toArray, List.getElem_cons_succ, List.getElem_cons_zero, resolve, invoke, builtin, Sem.run_bind, Sem.run_pure, Result.andThen_ok, List.map_toArray, List.map_cons, List.map_nil]
        have qc := mv CS.below rfl q3
        have qd := mv CS.below rfl q4
        obtain ⟨v', ue, hr', G1, G2, G3⟩ := appi_run 23 (q := v) CS.v ⟨xi.blk⟩ qc qd (by rw [← HN.out.2]; omega) CS.below.size
        change Oper.upon _ _ _ _ _ ((Sem.run _ (Builtin.append_ _ _ #[.slice AV nV cV, .slice (some ⟨gi, 0, none⟩) 1 1]) _).andThen _)
        rw [hr']
        replace CS := CS.appV G1 G2 G3
        obtain ⟨AV3, cV3, e2⟩ := G1.slice
        rw [show (LV ++ [v]).length = nV + 1 by rw [List.length_append, List.length_singleton, ← HN.out.2]] at e2
        subst e2
        go_simp
        clear hr' G1 G2 G3 qc qd xi
        refine hK.out _ _ (by exact ⟨CS.box.at 0, CS.box.at 1, mv CS.below rfl t0, mv CS.below rfl s0, mv CS.below rfl s1, mv CS.below rfl s2, CS.z.at 0, CS.z.at 1, CS.z.at 2, CS.z.at 3, CS.z.at 4, CS.z.at 5⟩) (fun hHeldg4 => ?_)
        clear hK K hHeldg3
        try simp only [Act.put]
        rotate_left
        go_simp
        have b := below_alloc ub (.cells #[.bool v.lo.s, .slice A3 n3 c3, .int .i64 v.lo.e, .bool v.hi.s, .slice A4 n4 c4, .int .i64 v.hi.e] 35)
        have xi := Blk.new ub #[.bool v.lo.s, .slice A3 n3 c3, .int .i64 v.lo.e, .bool v.hi.s, .slice A4 n4 c4, .int .i64 v.hi.e] 35
        replace CS := CS.go b
        replace xd := mv b (by rfl) xd
        clear b
        generalize ub.alloc (.cells #[.bool v.lo.s, .slice A3 n3 c3, .int .i64 v.lo.e, .bool v.hi.s, .slice A4 n4 c4, .int .i64 v.hi.e] 35) = uc at *
        generalize ub.heap.size = gi at xi ⊢
        refine hK.out _ _ (by exact ⟨CS.box.at 0, CS.box.at 1, mv CS.below rfl t0, mv CS.below rfl s0, mv CS.below rfl s1, mv CS.below rfl s2, CS.z.at 0, CS.z.at 1, CS.z.at 2, CS.z.at 3, CS.z.at 4, CS.z.at 5⟩) (fun hHeldg2 => ?_)
        clear hK K hHeldg1
        try simp only [Act.put]
        refine wpAnyT_ready (rs := [9]) (by kernel_rfl) (by simp) ?_
        refine AllReadyT.cons (o := _) rfl (fun K hK => ?_) (AllReadyT.nil)
        rw [if_pos (by rfl)]
        unfold Oper.wp execOp
        simp only [List.getElem_toArray, List.getElem_cons_succ, List.getElem_cons_zero, resolve, invoke, builtin, Sem.run_bind, Sem.run_pure, Result.andThen_ok, List.map_toArray, List.map_cons, List.map_nil]
        have qc := mv CS.below rfl q6
        obtain ⟨v', ud, hr', G1, G2, _⟩ := apph_run 22 CS.t xd qc (by rw [HL2.out.2]; omega) CS.below.size
        change Oper.upon _ _ _ _ _ ((Sem.run _ (Builtin.append_ _ _ #[.slice AT2 (nV + 1) cT2, .slice (some ⟨gd, 0, none⟩) 1 1]) _).andThen _)
        rw [hr']
        replace xi := xi.grw G2 (fun e => by
          obtain ⟨cs', hk⟩ := CS.t.kind gi e
          exact kinds_ne hk xi.blk (by decide) rfl)
        replace CS := CS.appT G1 G2
        obtain ⟨AT3, cT3, e2⟩ := G1.slice
        rw [show (LT2 ++ [ty]).length = nV + 1 + 1 by rw [List.length_append, List.length_singleton, HL2.out.2]] at e2
        subst e2
        go_simp
        clear hr' G1 G2 qc xd
        refine hK.out _ _ (by exact ⟨CS.box.at 0, CS.box.at 1, mv CS.below rfl t0, mv CS.below rfl s0, mv CS.below rfl s1, mv CS.below rfl s2, CS.z.at 0, CS.z.at 1, CS.z.at 2, CS.z.at 3, CS.z.at 4, CS.z.at 5⟩) (fun hHeldg3 => ?_)
        clear hK K hHeldg2
        try simp only [Act.put]
        refine wpAnyT_take (i := 15) (v := ?g21v15) rfl (by kernel_rfl) (by kernel_rfl) (by kernel_rfl) (by kernel_rfl) (by kernel_rfl) (by kernel_rfl) (fun _ _ _ h => panic_put (P := Tryd.prog) (fn := Tryd.f31) (R := (GivT (tbL (selT q a x y a.n) (selV q a x y a.n)) w)) h) (Or.inl ⟨by rfl, ?g21y15⟩) (by assumption) ?_
        case g21y15 => (intro w hSw; (try dsimp only at hSw); go_simp); try with_reducible rfl
        change wpAnyT _ _ _ _ _ _ _ _ (Act.put _ (some 71) _) _
        simp only [Act.put, List.setIfInBounds_toArray, List.set_cons_zero, List.set_cons_succ]
        refine wpAnyT_ready (rs := [14]) (by kernel_rfl) (by simp) ?_
        refine AllReadyT.cons (o := _) rfl (fun K hK => ?_) (AllReadyT.nil)
        rw [if_pos (by rfl)]
        unfold Oper.wp execOp
        simp only [List.getElem_toArray, List.getElem_cons_succ, List.getElem_cons_zero, resolve, invoke, builtin, Sem.run_bind, Sem.run_pure, Result.andThen_ok, List.map_toArray, List.map_cons, List.map_nil]
        have qc := mv CS.below rfl q3
        have qd := mv CS.below rfl q4
        obtain ⟨v', ue, hr', G1, G2, G3⟩ := appi_run 23 (q := v) CS.v ⟨xi.blk⟩ qc qd (by rw [← HN.out.2]; omega) CS.below.size
        change Oper.upon _ _ _ _ _ ((Sem.run _ (Builtin.append_ _ _ #[.slice AV nV cV, .slice (some ⟨gi, 0, none⟩) 1 1]) _).andThen _)
        rw [hr']
        replace CS := CS.appV G1 G2 G3
        obtain ⟨AV3, cV3, e2⟩ := G1.slice
        rw [show (LV ++ [v]).length = nV + 1 by rw [List.length_append, List.length_singleton, ← HN.out.2]] at e2
        subst e2
        go_simp
        clear hr' G1 G2 G3 qc qd xi
        refine hK.out _ _ (by exact ⟨CS.box.at 0, CS.box.at 1, mv CS.below rfl t0, mv CS.below rfl s0, mv CS.below rfl s1, mv CS.below rfl s2, CS.z.at 0, CS.z.at 1, CS.z.at 2, CS.z.at 3, CS.z.at 4, CS.z.at 5⟩) (fun hHeldg4 => ?_)
        clear hK K hHeldg3
        try simp only [Act.put]
        rotate_left
        go_simp
        have b := below_alloc wd9 (.cells #[.bool v.lo.s, .slice A3 n3 c3, .int .i64 v.lo.e, .bool v.hi.s, .slice A4 n4 c4, .int .i64 v.hi.e] 35)
        have xi := Blk.new wd9 #[.bool v.lo.s, .slice A3 n3 c3, .int .i64 v.lo.e, .bool v.hi.s, .slice A4 n4 c4, .int .i64 v.hi.e] 35
        replace CS := CS.go b
        clear b
        generalize wd9.alloc (.cells #[.bool v.lo.s, .slice A3 n3 c3, .int .i64 v.lo.e, .bool v.hi.s, .slice A4 n4 c4, .int .i64 v.hi.e] 35) = ub at *
        generalize wd9.heap.size = gi at xi ⊢
        refine hK.out _ _ (by exact ⟨CS.box.at 0, CS.box.at 1, mv CS.below rfl t0, mv CS.below rfl s0, mv CS.below rfl s1, mv CS.below rfl s2, CS.z.at 0, CS.z.at 1, CS.z.at 2, CS.z.at 3, CS.z.at 4, CS.z.at 5⟩) (fun hHeldg1 => ?_)
        clear hK K hHeldg0
        try simp only [Act.put]
        refine wpAnyT_ready (rs := [8]) (by kernel_rfl) (by simp) ?_
        refine AllReadyT.cons (o := _) rfl (fun K hK => ?_) (AllReadyT.nil)
        go_simp
        have b := below_alloc ub (.cells #[.bool ty.s, .slice A6 n6 c6, .int .i64 ty.e] 28)
        have xd := Blk.new ub #[.bool ty.s, .slice A6 n6 c6, .int .i64 ty.e] 28
        replace CS := CS.go b
        replace xi := mv b (by rfl) xi
        clear b
        generalize ub.alloc (.cells #[.bool ty.s, .slice A6 n6 c6, .int .i64 ty.e] 28) = uc at *
        generalize ub.heap.size = gd at xd ⊢
        refine hK.out _ _ (by exact ⟨CS.box.at 0, CS.box.at 1, mv CS.below rfl t0, mv CS.below rfl s0, mv CS.below rfl s1, mv CS.below rfl s2, CS.z.at 0, CS.z.at 1, CS.z.at 2, CS.z.at 3, CS.z.at 4, CS.z.at 5⟩) (fun hHeldg2 => ?_)
        clear hK K hHeldg1
        try simp only [Act.put]
        refine wpAnyT_ready (rs := [9]) (by kernel_rfl) (by simp) ?_
        refine AllReadyT.cons (o := _) rfl (fun K hK => ?_) (AllReadyT.nil)
        rw [if_pos (by rfl)]
        unfold Oper.wp execOp
        simp only [List.getElem_toArray, List.getElem_cons_succ, List.getElem_cons_zero, resolve, invoke, builtin, Sem.run_bind, Sem.run_pure, Result.andThen_ok, List.map_toArray, List.map_cons, List.map_nil]
        have qc := mv CS.below rfl q6
        obtain ⟨v', ud, hr', G1, G2, _⟩ := apph_run 22 CS.t xd qc (by rw [HL2.out.2]; omega) CS.below.size
        change Oper.upon _ _ _ _ _ ((Sem.run _ (Builtin.append_ _ _ #[.slice AT2 (nV + 1) cT2, .slice (some ⟨gd, 0, none⟩) 1 1]) _).andThen _)
        rw [hr']
        replace xi := xi.grw G2 (fun e => by
          obtain ⟨cs', hk⟩ := CS.t.kind gi e
          exact kinds_ne hk xi.blk (by decide) rfl)
        replace CS := CS.appT G1 G2
        obtain ⟨AT3, cT3, e2⟩ := G1.slice
        rw [show (LT2 ++ [ty]).length = nV + 1 + 1 by rw [List.length_append, List.length_singleton, HL2.out.2]] at e2
        subst e2
        go_simp
        clear hr' G1 G2 qc xd
        refine hK.out _ _ (by exact ⟨CS.box.at 0, CS.box.at 1, mv CS.below rfl t0, mv CS.below rfl s0, mv CS.below rfl s1, mv CS.below rfl s2, CS.z.at 0, CS.z.at 1, CS.z.at 2, CS.z.at 3, CS.z.at 4, CS.z.at 5⟩) (fun hHeldg3 => ?_)
        clear hK K hHeldg2
        try simp only [Act.put]
        refine wpAnyT_take (i := 15) (v := ?g22v15) rfl (by kernel_rfl) (by kernel_rfl) (by kernel_rfl) (by kernel_rfl) (by kernel_rfl) (by kernel_rfl) (fun _ _ _ h => panic_put (P := Tryd.prog) (fn := Tryd.f31) (R := (GivT (tbL (selT q a x y a.n) (selV q a x y a.n)) w)) h) (Or.inl ⟨by rfl, ?g22y15⟩) (by assumption) ?_
        case g22y15 => (intro w hSw; (try dsimp only at hSw); go_simp); try with_reducible rfl
        change wpAnyT _ _ _ _ _ _ _ _ (Act.put _ (some 71) _) _
        simp only [Act.put, List.setIfInBounds_toArray, List.set_cons_zero, List.set_cons_succ]
        refine wpAnyT_ready (rs := [14]) (by kernel_rfl) (by simp) ?_
        refine AllReadyT.cons (o := _) rfl (fun K hK => ?_) (AllReadyT.nil)
        rw [if_pos (by rfl)]
        unfold Oper.wp execOp
        simp only [List.getElem_toArray, List.getElem_cons_succ, List.getElem_cons_zero, resolve, invoke, builtin, Sem.run_bind, Sem.run_pure, Result.andThen_ok, List.map_toArray, List.map_cons, List.map_nil]
        have qc := mv CS.below rfl q3
        have qd := mv CS.below rfl q4
        obtain ⟨v', ue, hr', G1, G2, G3⟩ := appi_run 23 (q := v) CS.v ⟨xi.blk⟩ qc qd (by rw [← HN.out.2]; omega) CS.below.size
        change Oper.upon _ _ _ _ _ ((Sem.run _ (Builtin.append_ _ _ #[.slice AV nV cV, .slice (some ⟨gi, 0, none⟩) 1 1]) _).andThen _)
        rw [hr']
        replace CS := CS.appV G1 G2 G3
        obtain ⟨AV3, cV3, e2⟩ := G1.slice
        rw [show (LV ++ [v]).length = nV + 1 by rw [List.length_append, List.length_singleton, ← HN.out.2]] at e2
        subst e2
        go_simp
        clear hr' G1 G2 G3 qc qd xi
        refine hK.out _ _ (by exact ⟨CS.box.at 0, CS.box.at 1, mv CS.below rfl t0, mv CS.below rfl s0, mv CS.below rfl s1, mv CS.below rfl s2, CS.z.at 0, CS.z.at 1, CS.z.at 2, CS.z.at 3, CS.z.at 4, CS.z.at 5⟩) (fun hHeldg4 => ?_)
        clear hK K hHeldg3
        try simp only [Act.put]
        rotate_left
        all_goals (
          clear hHeldg4
          refine wpAnyT_ready (rs := [16]) (by kernel_rfl) (by simp) ?_
          refine AllReadyT.consB (o := _) rfl (by kernel_rfl) (fun K hK => ?_) AllReadyT.nil
          have f0 := CS.box.frozen 0
          have b0 : World.cell? _ ⟨g9, 0, none⟩ = some (.slice AT2 (nV + 1) cT2) := CS.box.at 0
          go_simp
          replace CS := CS.put0 nol_slice nol_slice (.slice AT3 (nV + 1 + 1) cT3)
          clear f0 b0
          refine hK.out _ _ ?_
          clear hK K
          try simp only [Act.put]
          refine wpAnyT_ready (rs := [17]) (by kernel_rfl) (by simp) ?_
          refine AllReadyT.consB (o := _) rfl (by kernel_rfl) (fun K hK => ?_) AllReadyT.nil
          go_simp
          refine hK.out _ _ ?_
          clear hK K
          try simp only [Act.put]
          refine wpAnyT_ready (rs := [18]) (by kernel_rfl) (by simp) ?_
          refine AllReadyT.consB (o := _) rfl (by kernel_rfl) (fun K hK => ?_) AllReadyT.nil
          have f1 := CS.box.frozen 1
          have b1 : World.cell? _ ⟨g9, 1, none⟩ = some (.slice AV nV cV) := CS.box.at 1
          go_simp
          replace CS := CS.put1 nol_slice nol_slice (.slice AV3 (nV + 1) cV3)
          clear f1 b1
          refine hK.out _ _ ?_
          clear hK K
          try simp only [Act.put]
          refine wpAnyT_done (by kernel_rfl) ?_ _
          have hsb : selB q a x y i = true := by rw [HSB.out, ← HE.out.2.2, HPP.out.1, ← HE.out.2.1, HPP.out.2]; rfl
          have e1 : selV q a x y (i + 1) = LV ++ [v] := by rw [HV.out, if_pos hsb, HE.out.1]
          have e2 : selT q a x y (i + 1) = LT2 ++ [ty] := by rw [HTT.out, if_pos hsb, HL2.out.1, HE.out.2.1, HE.out.2.2, HN.out.2]
          have e3 : (LV ++ [v]).length = nV + 1 := by rw [List.length_append, List.length_singleton, ← HN.out.2]
          have e4 : (LT2 ++ [ty]).length = nV + 1 + 1 := by rw [List.length_append, List.length_singleton, HL2.out.2]
          have HEE := Lib.hid (And.intro e1 (And.intro e2 (And.intro e3 e4)))
          clear e1 e2 e3 e4 hsb
          go_wp2
          go_roundg (gk - 1)
          case measure => have := HG.out; omega
          case rel => exact ⟨i + 1, by have := HG.out; omega, by go_num, by rw [HEE.out.1, HEE.out.2.1, HEE.out.2.2.1, HEE.out.2.2.2]; exact ⟨_, _, _, _, CS.tub⟩⟩)
    · have hin : i = a.n := by have := HG.out; omega
      rw [hin] at TS
      clear HG hin
      have b0 : World.cell? _ ⟨g9, 0, none⟩ = some (.slice AT (selT q a x y a.n).length cT) := TS.box.at 0
      have b1 : World.cell? _ ⟨g9, 1, none⟩ = some (.slice AV (selV q a x y a.n).length cV) := TS.box.at 1
      have r := mv TS.below rfl xr
      obtain ⟨f0, f1⟩ := (show _ ∧ _ from ⟨r.frozen 0, r.frozen 1⟩)
      have z0 : World.cell? _ ⟨w.heap.size + 3, 0, none⟩ = some (.slice none 0 0) := r.at 0
      have z1 : World.cell? _ ⟨w.heap.size + 3, 1, none⟩ = some (.slice none 0 0) := r.at 1
      go_wp2
      have hno := r.nou nol_slice nol_slice
      have qq := r.put2 (.slice AT (selT q a x y a.n).length cT) (.slice AV (selV q a x y a.n).length cV)
      have HB3 := below_put2 (g := w.heap.size + 3) (below_next BB BB.size TS.below rfl rfl rfl rfl) (by omega) (.slice AT (selT q a x y a.n).length cT) (.slice AV (selV q a x y a.n).length cV)
      have hH : HRow (((_ : World).setCell ⟨w.heap.size + 3, 0, none⟩ (.slice AT (selT q a x y a.n).length cT)).setCell ⟨w.heap.size + 3, 1, none⟩ (.slice AV (selV q a x y a.n).length cV)) _ _ _ := TS.t.via (fun q hq => by
        obtain ⟨cs, hk⟩ := TS.t.kind q hq
        have hne := kinds_ne hk r.blk (by decide)
        exact (Below.heap_setCell _ _ _ q hne).trans (Below.heap_setCell _ _ _ q hne)) fun A n c l hr => (hr.set1 (hr.off hno) _ _).set1 (hr.off hno) _ _
      have hI : IRow (((_ : World).setCell ⟨w.heap.size + 3, 0, none⟩ (.slice AT (selT q a x y a.n).length cT)).setCell ⟨w.heap.size + 3, 1, none⟩ (.slice AV (selV q a x y a.n).length cV)) _ _ _ := TS.v.via (fun q hq => by
        obtain ⟨cs, hk⟩ := TS.v.kind q hq
        have hne := kinds_ne hk r.blk (by decide)
        exact (Below.heap_setCell _ _ _ q hne).trans (Below.heap_setCell _ _ _ q hne)) fun A n c l hr => (hr.set1 (hr.off hno) _ _).set1 (hr.off hno) _ _
      have y0 : World.cell? _ ⟨w.heap.size + 3, 0, none⟩ = some (.slice AT (selT q a x y a.n).length cT) := qq.at 0
      have y1 : World.cell? _ ⟨w.heap.size + 3, 1, none⟩ = some (.slice AV (selV q a x y a.n).length cV) := qq.at 1
      obtain ⟨A8, c8, e8, r8, _⟩ := hH.form
      obtain ⟨A9, c9, e9, r9, _⟩ := hI.form
      injection e8 with e8a e8b e8c
      injection e9 with e9a e9b e9c
      subst e8a e8c e9a e9c
      exact bodyPost_ret (v := .agg #[.slice AT (selT q a x y a.n).length cT, .slice AV (selV q a x y a.n).length cV]) (by simp [results, Tryd.results31, go_sem, y0, y1]) rfl (⟨_, _, _, _, rfl, ⟨r8, r9⟩, HB3⟩)

end Go.Proofs.YtkpcmgfpmekkjaaDoor
