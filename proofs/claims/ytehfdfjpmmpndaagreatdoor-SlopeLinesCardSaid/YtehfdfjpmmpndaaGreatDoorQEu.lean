/-
  Outcomes of expo's inverse and next, at this translation.
-/
import Derived.Test.YtehfdfjpmmpndaaGreatDoorQEp
import Derived.Test.YtehfdfjpmmpndaaGreatDoorQLg
set_option maxHeartbeats 8000000
set_option maxRecDepth 100000
namespace Go.Proofs.YtehfdfjpmmpndaaGreatDoor
open Go.RowKit
variable {w : World}
def oneQ : Rw := Rw.of false 1 0
def invO (S : Sc) (x : Iv) (p : Int) : Except Int Iv := thn (quoO S p false oneQ x.hi) fun l => thn (quoO S p true oneQ x.lo) fun h => .ok ⟨l, h⟩
def twoO (S : Sc) (n : Int) : Except Int Rw := S.oc (Nm false 1 n)
def nxtO (S : Sc) (d : Rw) (p : Int) : Except Int Rw := thn (twoO S (d.e + (blen (val W d.l) : Int) - p)) fun st => addO S d st
theorem twoO_cod {S : Sc} {n : Int} : Cod (twoO S n) := oc_cod (nm_only _ _ _) (nm_some _ _ _)
theorem two_tell (S : Sc) {n : Int} (hT : Tab w) : Calls Tryz.prog 12 #[.int .i64 1, .int .i64 n] w (TellQ (twoO S n) w) := tells_oc S (nm_only _ _ _) (nm_null _ _ _) (of_pos (a := 1) (e := n) hT (by omega))
theorem einv_run (S : Sc) {p : Int} {x : Iv} {A1 : Option Addr} {n1 c1 : Nat} {A2 : Option Addr} {n2 c2 : Nat} (hT : Tab w) (h1 : Rd w .u64 W A1 n1 c1 x.lo.l) (h2 : Rd w .u64 W A2 n2 c2 x.hi.l) :
  Calls Tryz.prog 169 #[.agg #[.bool x.lo.s, .slice A1 n1 c1, .int .i64 x.lo.e, .bool x.hi.s, .slice A2 n2 c2, .int .i64 x.hi.e], .int .i64 p] w (RunI (invO S x p) w) := by
 obtain ⟨q, hq⟩ : ∃ q : Except Int Iv, q = invO S x p := ⟨_, rfl⟩
 rw [← hq]
 have HQ := hyd hq
 clear hq
 have BB := two_below w (.cells #[.bool x.lo.s, .slice A1 n1 c1, .int .i64 x.lo.e, .bool x.hi.s, .slice A2 n2 c2, .int .i64 x.hi.e] 30) (.cells #[.bool false, .slice none 0 0, .int .i64 0, .bool false, .slice none 0 0, .int .i64 0] 30)
 have xa := (Ibx.new w x.lo.s A1 n1 c1 x.lo.e x.hi.s A2 n2 c2 x.hi.e).alloc (.cells #[.bool false, .slice none 0 0, .int .i64 0, .bool false, .slice none 0 0, .int .i64 0] 30)
 have r := ibx_one w (.cells #[.bool x.lo.s, .slice A1 n1 c1, .int .i64 x.lo.e, .bool x.hi.s, .slice A2 n2 c2, .int .i64 x.hi.e] 30) false none 0 0 0 false none 0 0 0
 obtain ⟨a0, a1, a2, a3, a4, a5⟩ := xa.held
 clear xa
 have G := mv BB rfl (J3 hT h1 h2)
 clear hT h1 h2
 obtain ⟨hT, h1, h2⟩ := G
 go_enter Tryz.func169, Tryz.ntmps169
 go_wp2_with fail
 have b := drew_b ((w.alloc (.cells #[.bool x.lo.s, .slice A1 n1 c1, .int .i64 x.lo.e, .bool x.hi.s, .slice A2 n2 c2, .int .i64 x.hi.e] 30)).alloc (.cells #[.bool false, .slice none 0 0, .int .i64 0, .bool false, .slice none 0 0, .int .i64 0] 30))
 replace BB := bnx BB b
 have G := mv b rfl (J10 hT h1 h2 r a0 a1 a2 a3 a4 a5)
 clear b hT h1 h2 r a0 a1 a2 a3 a4 a5
 obtain ⟨hT, h1, h2, r, a0, a1, a2, a3, a4, a5⟩ := G
 obtain ⟨o1, ho1⟩ : ∃ o, o = quoO S p false oneQ x.hi := ⟨_, rfl⟩
 have HO1 := hyd ho1
 clear ho1
 have HC1 : Cod o1 := by rw [HO1.out]; exact quoO_cod
 obtain ⟨o2, ho2⟩ : ∃ o, o = quoO S p true oneQ x.lo := ⟨_, rfl⟩
 have HO2 := hyd ho2
 clear ho2
 have HC2 : Cod o2 := by rw [HO2.out]; exact quoO_cod
 generalize hwd : World.drew ((w.alloc (.cells #[.bool x.lo.s, .slice A1 n1 c1, .int .i64 x.lo.e, .bool x.hi.s, .slice A2 n2 c2, .int .i64 x.hi.e] 30)).alloc (.cells #[.bool false, .slice none 0 0, .int .i64 0, .bool false, .slice none 0 0, .int .i64 0] 30)) = wd at *
 have HS := J6 a0 a1 a2 a3 a4 a5
 revert HS
 apply rg hwd
 intro hHeldv0
 clear hwd
 refine tl 1 ?_
 refine tl 2 ?_
 refine tl 3 ?_
 refine tl 9 ?_
 refine tl 10 ?_
 refine tl 11 ?_
 refine rdy 0 fun K hK => ?_
 go_simp
 refine (eone_ok hT).mono ?_
 rintro en w' ⟨A3, n3, c3, rfl, N3, b⟩
 have h3 : Rd w' .u64 W A3 n3 c3 oneQ.l := N3.rd
 clear N3
 replace BB := bnx BB b
 have G := mv b (by rfl) (J10 hT h1 h2 r a0 a1 a2 a3 a4 a5)
 clear b hT h1 h2 r a0 a1 a2 a3 a4 a5
 obtain ⟨hT, h1, h2, r, a0, a1, a2, a3, a4, a5⟩ := G
 refine kp hK ⟨a0, a1, a2, a3, a4, a5⟩ fun hHeldv1 => ?_
 clear hK K hHeldv0
 try simp only [Act.put]
 refine rdy 4 fun K hK => ?_
 go_simp
 refine (tellq_to HO1.out (quot_tell S (a := oneQ) (b := x.hi) hT h3 h2)).mono ?_
 rintro en w' ⟨A4, n4, c4, rfl, h4, b⟩
 replace BB := bnx BB b
 have G := mv b (by rfl) (J11 hT h1 h2 r a0 a1 a2 a3 a4 a5 h3)
 clear b hT h1 h2 r a0 a1 a2 a3 a4 a5 h3
 obtain ⟨hT, h1, h2, r, a0, a1, a2, a3, a4, a5, h3⟩ := G
 refine kp hK ⟨a0, a1, a2, a3, a4, a5⟩ fun hHeldv2 => ?_
 clear hK K hHeldv1
 try simp only [Act.put]
 refine tl 5 ?_
 refine tl 6 ?_
 refine rdy 7 fun K hK => ?_
 go_simp
 refine (must_run HC1 h4).mono ?_
 rintro en w' (⟨v1, hv1, A5, n5, c5, rfl, h5, b⟩ | ⟨kk, hk, hk0, rfl, b⟩)
 rotate_left
 ·exact ⟨rfl, .inr ⟨kk, (HQ.out.trans (by simp only [invO, thn, ← HO1.out, hk])), hk0, rfl, bnx BB b⟩⟩
 have HV1 := hyd hv1
 clear hv1 h4
 replace BB := bnx BB b
 have G := mv b (by rfl) (J11 hT h1 h2 r a0 a1 a2 a3 a4 a5 h3)
 clear b hT h1 h2 r a0 a1 a2 a3 a4 a5 h3
 obtain ⟨hT, h1, h2, r, a0, a1, a2, a3, a4, a5, h3⟩ := G
 refine kp hK ⟨a0, a1, a2, a3, a4, a5⟩ fun hHeldv3 => ?_
 clear hK K hHeldv2
 try simp only [Act.put]
 refine rdy 8 fun K hK => ?_
 go_simp
 refine (eone_ok hT).mono ?_
 rintro en w' ⟨A6, n6, c6, rfl, N6, b⟩
 have h6 : Rd w' .u64 W A6 n6 c6 oneQ.l := N6.rd
 clear N6
 replace BB := bnx BB b
 have G := mv b (by rfl) (J12 hT h1 h2 r a0 a1 a2 a3 a4 a5 h3 h5)
 clear b hT h1 h2 r a0 a1 a2 a3 a4 a5 h3 h5
 obtain ⟨hT, h1, h2, r, a0, a1, a2, a3, a4, a5, h3, h5⟩ := G
 refine kp hK ⟨a0, a1, a2, a3, a4, a5⟩ fun hHeldv4 => ?_
 clear hK K hHeldv3
 try simp only [Act.put]
 refine rdy 12 fun K hK => ?_
 go_simp
 refine (tellq_to HO2.out (quot_tell S (a := oneQ) (b := x.lo) hT h6 h1)).mono ?_
 rintro en w' ⟨A7, n7, c7, rfl, h7, b⟩
 replace BB := bnx BB b
 have G := mv b (by rfl) (J13 hT h1 h2 r a0 a1 a2 a3 a4 a5 h3 h5 h6)
 clear b hT h1 h2 r a0 a1 a2 a3 a4 a5 h3 h5 h6
 obtain ⟨hT, h1, h2, r, a0, a1, a2, a3, a4, a5, h3, h5, h6⟩ := G
 refine kp hK ⟨a0, a1, a2, a3, a4, a5⟩ fun hHeldv5 => ?_
 clear hK K hHeldv4
 try simp only [Act.put]
 refine tl 13 ?_
 refine tl 14 ?_
 refine rdy 15 fun K hK => ?_
 go_simp
 refine (must_run HC2 h7).mono ?_
 rintro en w' (⟨v2, hv2, A8, n8, c8, rfl, h8, b⟩ | ⟨kk, hk, hk0, rfl, b⟩)
 rotate_left
 ·exact ⟨rfl, .inr ⟨kk, (HQ.out.trans (by simp only [invO, thn, ← HO1.out, HV1.out, ← HO2.out, hk])), hk0, rfl, bnx BB b⟩⟩
 have HV2 := hyd hv2
 clear hv2 h7
 replace BB := bnx BB b
 have G := mv b (by rfl) (J13 hT h1 h2 r a0 a1 a2 a3 a4 a5 h3 h5 h6)
 clear b hT h1 h2 r a0 a1 a2 a3 a4 a5 h3 h5 h6
 obtain ⟨hT, h1, h2, r, a0, a1, a2, a3, a4, a5, h3, h5, h6⟩ := G
 obtain ⟨f0, f1, f2, f3, f4, f5⟩ := r.open
 obtain ⟨z0, z1, z2, z3, z4, z5⟩ := r.held
 refine kp hK ⟨a0, a1, a2, a3, a4, a5⟩ fun hHeldv6 => ?_
 clear hK K hHeldv5
 try simp only [Act.put]
 refine tl 16 ?_
 refine rdy 17 fun K hK => ?_
 go_simp
 refine hK.out _ _ (by exact ⟨cell_oth6 a0 (by omega), cell_oth6 a1 (by omega), cell_oth6 a2 (by omega), cell_oth6 a3 (by omega), cell_oth6 a4 (by omega), cell_oth6 a5 (by omega)⟩) (fun hHeldv7 => ?_)
 clear hK K hHeldv6
 try simp only [Act.put]
 refine wpAnyH_done (by kernel_rfl) ?_ _
 go_wp2
 obtain ⟨f0, f1, f2, f3, f4, f5⟩ := r.open
 obtain ⟨z0, z1, z2, z3, z4, z5⟩ := r.held
 exact ret6 rfl rfl rfl r h5 h8 BB (by omega) fun _ hN hM HB3 => (.inl ⟨⟨v1, v2⟩, (HQ.out.trans (by simp only [invO, thn, ← HO1.out, HV1.out, ← HO2.out, HV2.out])), _, _, _, _, _, _, rfl, hN, hM, HB3⟩)
theorem enext_run (S : Sc) {p : Int} {d : Rw} {A1 : Option Addr} {n1 c1 : Nat} (hT : Tab w) (h1 : Rd w .u64 W A1 n1 c1 d.l) (hm : d.may = true) (hp1 : 0 ≤ p) (hp2 : p ≤ 10000) :
  Calls Tryz.prog 152 #[.agg #[.bool d.s, .slice A1 n1 c1, .int .i64 d.e], .int .i64 p] w (RunQ (nxtO S d p) w) := by
 obtain ⟨N1, hok, _⟩ := rd_okd h1 hm
 obtain ⟨X, hX⟩ : ∃ X, X = val W d.l := ⟨_, rfl⟩
 rw [← hX] at N1 hok
 have hbX : blen X ≤ 4096 := by
  rcases hok with ⟨h, _⟩ | ⟨_, h, _⟩
  ·rw [h, blen_zero]; omega
  exact (blen_le _ (64 * 64)).2 (Nat.lt_of_lt_of_eq h W64_pow)
 have hde : -1048576 ≤ d.e ∧ d.e ≤ 1048576 := by
  rcases hok with ⟨_, _, h⟩ | ⟨_, _, h⟩
  ·rw [h]; omega
  exact h
 obtain ⟨n, hn⟩ : ∃ n, n = d.e + (blen X : Int) - p := ⟨_, rfl⟩
 have hw1 : IntKind.i64.wrap (d.e + (blen X : Int)) = d.e + (blen X : Int) := IntWalk.i64_in _ (by omega)
 have hw2 : IntKind.i64.wrap (d.e + (blen X : Int) - p) = n := by rw [hn]; exact IntWalk.i64_in _ (by omega)
 have HOK := hyd hok
 have HNX : Hid (nxtO S d p = thn (twoO S n) fun st => addO S d st) := hyd (by unfold nxtO; rw [← hX, ← hn])
 clear hok hX hbX hde
 obtain ⟨q, hq⟩ : ∃ q : Except Int Rw, q = nxtO S d p := ⟨_, rfl⟩
 rw [← hq]
 have HQ := hyd hq
 clear hq
 replace HQ : Hid (q = thn (twoO S n) fun st => addO S d st) := hyd (HQ.out.trans HNX.out)
 have HN := hyd hn
 clear HNX hn hm
 obtain ⟨o1, ho1⟩ : ∃ o, o = twoO S n := ⟨_, rfl⟩
 have HO1 := hyd ho1
 clear ho1
 have HC1 : Cod o1 := by rw [HO1.out]; exact twoO_cod
 have BB := two_below w (.cells #[.bool d.s, .slice A1 n1 c1, .int .i64 d.e] 28) (.cells #[.bool false, .slice none 0 0, .int .i64 0] 28)
 obtain ⟨a0, a1, a2⟩ := ((Box.new w d.s A1 n1 c1 d.e).alloc (.cells #[.bool false, .slice none 0 0, .int .i64 0] 28)).held
 have r := box_one w (.cells #[.bool d.s, .slice A1 n1 c1, .int .i64 d.e] 28) false none 0 0 0
 have G := mv BB rfl (J3 hT h1 N1)
 clear hT h1 N1
 obtain ⟨hT, h1, N1⟩ := G
 go_enter Tryz.func152, Tryz.ntmps152
 go_upto_region 1 with fail
 go_cut [5] (fun v5 wc => ∃ (g5 : Nat) (A5 : Option Addr) (n5 c5 : Nat) (v : Rw), o1 = .ok v ∧ v5 = .pointer (some ⟨g5, 0, none⟩) ∧ w.heap.size + 1 < g5 ∧ Box wc g5 v.s A5 n5 c5 v.e ∧ Rd wc .u64 W A5 n5 c5 v.l ∧ Below w.heap.size w wc ∧ Below ((w.alloc (.cells #[.bool d.s, .slice A1 n1 c1, .int .i64 d.e] 28)).alloc (.cells #[.bool false, .slice none 0 0, .int .i64 0] 28)).heap.size ((w.alloc (.cells #[.bool d.s, .slice A1 n1 c1, .int .i64 d.e] 28)).alloc (.cells #[.bool false, .slice none 0 0, .int .i64 0] 28)) wc)
 case first =>
  have BD := Below.refl ((w.alloc (.cells #[.bool d.s, .slice A1 n1 c1, .int .i64 d.e] 28)).alloc (.cells #[.bool false, .slice none 0 0, .int .i64 0] 28)).heap.size ((w.alloc (.cells #[.bool d.s, .slice A1 n1 c1, .int .i64 d.e] 28)).alloc (.cells #[.bool false, .slice none 0 0, .int .i64 0] 28))
  clear r
  have b := drew_b ((w.alloc (.cells #[.bool d.s, .slice A1 n1 c1, .int .i64 d.e] 28)).alloc (.cells #[.bool false, .slice none 0 0, .int .i64 0] 28))
  replace BD := below_next BD BD.size b rfl rfl rfl rfl
  replace BB := bnx BB b
  have G := mv b rfl (J6 hT h1 N1 a0 a1 a2)
  clear b hT h1 N1 a0 a1 a2
  obtain ⟨hT, h1, N1, a0, a1, a2⟩ := G
  generalize hwd : World.drew ((w.alloc (.cells #[.bool d.s, .slice A1 n1 c1, .int .i64 d.e] 28)).alloc (.cells #[.bool false, .slice none 0 0, .int .i64 0] 28)) = wd at *
  have HS := J3 a0 a1 a2
  revert HS
  apply rg hwd
  intro hHeldt0
  clear hwd
  refine tl 0 ?_
  refine tl 1 ?_
  refine tl 2 ?_
  refine tl 5 ?_
  refine wpAnyH_ready (rs := [3, 11]) (by kernel_rfl) (by simp) ?_
  refine AllReadyH.cons (o := _) rfl (fun K hK => ?_) (AllReadyH.cons (o := _) rfl (fun K hK => ?_) (AllReadyH.nil))
  ·go_simp
   refine (bits_ok hT N1 HOK.out).mono ?_
   rintro en u1 ⟨rfl, b⟩
   replace BD := below_next BD BD.size b (by rfl) (by rfl) (by rfl) (by rfl)
   replace BB := bnx BB b
   have G := mv b (by rfl) (J6 hT h1 N1 a0 a1 a2)
   clear b hT h1 N1 a0 a1 a2
   obtain ⟨hT, h1, N1, a0, a1, a2⟩ := G
   refine kp hK ⟨a0, a1, a2⟩ fun hHeldt1 => ?_
   clear hK K hHeldt0
   try simp only [Act.put]
   refine wpAnyH_take (i := 4) (v := ?t5v4) rfl (by kernel_rfl) (by kernel_rfl) (by kernel_rfl) (fun _ _ _ h => panic_put (P := Tryz.prog) (fn := Tryz.f152) (R := (fun en w' => RunQ q w en w')) h) (Or.inl ⟨by rfl, ?t5y4⟩) (by assumption) ?_
   case t5y4 => (intro w hSw; (try dsimp only at hSw); go_simp; (try simp only [hw1, hw2])); try with_reducible rfl
   change wpAnyH _ _ _ _ _ _ _ (Act.put _ (some 10) _) _
   simp only [Act.put, List.setIfInBounds_toArray, List.set_cons_zero, List.set_cons_succ]
   refine wpAnyH_take (i := 6) (v := ?t6v6) rfl (by kernel_rfl) (by kernel_rfl) (by kernel_rfl) (fun _ _ _ h => panic_put (P := Tryz.prog) (fn := Tryz.f152) (R := (fun en w' => RunQ q w en w')) h) (Or.inl ⟨by rfl, ?t6y6⟩) (by assumption) ?_
   case t6y6 => (intro w hSw; (try dsimp only at hSw); go_simp; (try simp only [hw1, hw2])); try with_reducible rfl
   change wpAnyH _ _ _ _ _ _ _ (Act.put _ (some 12) _) _
   simp only [Act.put, List.setIfInBounds_toArray, List.set_cons_zero, List.set_cons_succ]
   refine wpAnyH_ready (rs := [7, 11]) (by kernel_rfl) (by simp) ?_
   refine AllReadyH.cons (o := _) rfl (fun K hK => ?_) (AllReadyH.cons (o := _) rfl (fun K hK => ?_) (AllReadyH.nil))
   ·go_simp
    refine (tellq_to HO1.out (two_tell S (n := n) hT)).mono ?_
    rintro en u2 ⟨A3, n3, c3, rfl, h3, b⟩
    replace BD := below_next BD BD.size b (by rfl) (by rfl) (by rfl) (by rfl)
    replace BB := bnx BB b
    have G := mv b (by rfl) (J6 hT h1 N1 a0 a1 a2)
    clear b hT h1 N1 a0 a1 a2
    obtain ⟨hT, h1, N1, a0, a1, a2⟩ := G
    refine kp hK ⟨a0, a1, a2⟩ fun hHeldt2 => ?_
    clear hK K hHeldt1
    try simp only [Act.put]
    refine tl 8 ?_
    refine tl 9 ?_
    refine wpAnyH_ready (rs := [10, 11]) (by kernel_rfl) (by simp) ?_
    refine AllReadyH.cons (o := _) rfl (fun K hK => ?_) (AllReadyH.cons (o := _) rfl (fun K hK => ?_) (AllReadyH.nil))
    ·go_simp
     refine (must_run HC1 h3).mono ?_
     rintro en u3 (⟨v1, hv1, A4, n4, c4, rfl, h4, b⟩ | ⟨kk, hk, hk0, rfl, b⟩)
     rotate_left
     ·exact ⟨rfl, .inr ⟨kk, (HQ.out.trans (by simp only [thn, ← HO1.out, hk])), hk0, rfl, bnx BB b⟩⟩
     have HV1 := hyd hv1
     clear hv1 h3
     replace BD := below_next BD BD.size b (by rfl) (by rfl) (by rfl) (by rfl)
     replace BB := bnx BB b
     have G := mv b (by rfl) (J6 hT h1 N1 a0 a1 a2)
     clear b hT h1 N1 a0 a1 a2
     obtain ⟨hT, h1, N1, a0, a1, a2⟩ := G
     refine kp hK ⟨a0, a1, a2⟩ fun hHeldt3 => ?_
     clear hK K hHeldt2
     try simp only [Act.put]
     refine rdy 11 fun K hK => ?_
     go_simp
     have gl5 : w.heap.size + 1 < u3.heap.size := by have := BD.size; simp at this; omega
     have gd5 : ((w.alloc (.cells #[.bool d.s, .slice A1 n1 c1, .int .i64 d.e] 28)).alloc (.cells #[.bool false, .slice none 0 0, .int .i64 0] 28)).heap.size ≤ u3.heap.size := BD.size
     have p5 := Box.new u3 false none 0 0 0
     have b := below_alloc u3 (.cells #[.bool false, .slice none 0 0, .int .i64 0] 28)
     replace BD := below_next BD BD.size b (by rfl) (by rfl) (by rfl) (by rfl)
     replace BB := bnx BB b
     have G := mv b (by rfl) (J7 hT h1 N1 a0 a1 a2 h4)
     clear b hT h1 N1 a0 a1 a2 h4
     obtain ⟨hT, h1, N1, a0, a1, a2, h4⟩ := G
     generalize u3.alloc (.cells #[.bool false, .slice none 0 0, .int .i64 0] 28) = u4 at *
     generalize u3.heap.size = g5 at *
     refine kp hK ⟨a0, a1, a2⟩ fun hHeldt4 => ?_
     clear hK K hHeldt3
     try simp only [Act.put]
     refine rdy 12 fun K hK => ?_
     obtain ⟨f0, f1, f2⟩ := p5.open
     obtain ⟨z0, z1, z2⟩ := p5.held
     go_simp
     replace a0 := nr_oth (g := g5) (u0 := .bool v1.s) (u1 := .slice A4 n4 c4) (u2 := .int .i64 v1.e) a0 (by omega)
     replace a1 := nr_oth (g := g5) (u0 := .bool v1.s) (u1 := .slice A4 n4 c4) (u2 := .int .i64 v1.e) a1 (by omega)
     replace a2 := nr_oth (g := g5) (u0 := .bool v1.s) (u1 := .slice A4 n4 c4) (u2 := .int .i64 v1.e) a2 (by omega)
     replace h4 := h4.put3 p5 (.bool v1.s) (.slice A4 n4 c4) (.int .i64 v1.e)
     replace BB := below_put3 (g := g5) BB (by omega) (.bool v1.s) (.slice A4 n4 c4) (.int .i64 v1.e)
     replace BD := below_put3 (g := g5) BD gd5 (.bool v1.s) (.slice A4 n4 c4) (.int .i64 v1.e)
     replace p5 := p5.put v1.s A4 n4 c4 v1.e
     clear f0 f1 f2 z0 z1 z2 hT h1 N1
     refine kp hK ⟨a0, a1, a2⟩ fun hHeldt5 => ?_
     clear hK K hHeldt4
     try simp only [Act.put]
     refine wpAnyH_done (by kernel_rfl) ?_ _
     go_wp2_with fail
     go_meet
     case rel => exact ⟨g5, A4, n4, c4, v1, HV1.out, rfl, gl5, p5, h4, BB, BD⟩
    go_simp
    have gl5 : w.heap.size + 1 < u2.heap.size := by have := BD.size; simp at this; omega
    have gd5 : ((w.alloc (.cells #[.bool d.s, .slice A1 n1 c1, .int .i64 d.e] 28)).alloc (.cells #[.bool false, .slice none 0 0, .int .i64 0] 28)).heap.size ≤ u2.heap.size := BD.size
    have p5 := Box.new u2 false none 0 0 0
    have b := below_alloc u2 (.cells #[.bool false, .slice none 0 0, .int .i64 0] 28)
    replace BD := below_next BD BD.size b (by rfl) (by rfl) (by rfl) (by rfl)
    replace BB := bnx BB b
    have G := mv b (by rfl) (J7 hT h1 N1 a0 a1 a2 h3)
    clear b hT h1 N1 a0 a1 a2 h3
    obtain ⟨hT, h1, N1, a0, a1, a2, h3⟩ := G
    generalize u2.alloc (.cells #[.bool false, .slice none 0 0, .int .i64 0] 28) = u3 at *
    generalize u2.heap.size = g5 at *
    refine kp hK ⟨a0, a1, a2⟩ fun hHeldt3 => ?_
    clear hK K hHeldt2
    try simp only [Act.put]
    refine rdy 10 fun K hK => ?_
    go_simp
    refine (must_run HC1 h3).mono ?_
    rintro en u4 (⟨v1, hv1, A4, n4, c4, rfl, h4, b⟩ | ⟨kk, hk, hk0, rfl, b⟩)
    rotate_left
    ·exact ⟨rfl, .inr ⟨kk, (HQ.out.trans (by simp only [thn, ← HO1.out, hk])), hk0, rfl, bnx BB b⟩⟩
    have HV1 := hyd hv1
    clear hv1 h3
    replace BD := below_next BD BD.size b (by rfl) (by rfl) (by rfl) (by rfl)
    replace BB := bnx BB b
    have G := mv b (by rfl) (J7 hT h1 N1 a0 a1 a2 p5)
    clear b hT h1 N1 a0 a1 a2 p5
    obtain ⟨hT, h1, N1, a0, a1, a2, p5⟩ := G
    refine kp hK ⟨a0, a1, a2⟩ fun hHeldt4 => ?_
    clear hK K hHeldt3
    try simp only [Act.put]
    refine rdy 12 fun K hK => ?_
    obtain ⟨f0, f1, f2⟩ := p5.open
    obtain ⟨z0, z1, z2⟩ := p5.held
    go_simp
    replace a0 := nr_oth (g := g5) (u0 := .bool v1.s) (u1 := .slice A4 n4 c4) (u2 := .int .i64 v1.e) a0 (by omega)
    replace a1 := nr_oth (g := g5) (u0 := .bool v1.s) (u1 := .slice A4 n4 c4) (u2 := .int .i64 v1.e) a1 (by omega)
    replace a2 := nr_oth (g := g5) (u0 := .bool v1.s) (u1 := .slice A4 n4 c4) (u2 := .int .i64 v1.e) a2 (by omega)
    replace h4 := h4.put3 p5 (.bool v1.s) (.slice A4 n4 c4) (.int .i64 v1.e)
    replace BB := below_put3 (g := g5) BB (by omega) (.bool v1.s) (.slice A4 n4 c4) (.int .i64 v1.e)
    replace BD := below_put3 (g := g5) BD gd5 (.bool v1.s) (.slice A4 n4 c4) (.int .i64 v1.e)
    replace p5 := p5.put v1.s A4 n4 c4 v1.e
    clear f0 f1 f2 z0 z1 z2 hT h1 N1
    refine kp hK ⟨a0, a1, a2⟩ fun hHeldt5 => ?_
    clear hK K hHeldt4
    try simp only [Act.put]
    refine wpAnyH_done (by kernel_rfl) ?_ _
    go_wp2_with fail
    go_meet
    case rel => exact ⟨g5, A4, n4, c4, v1, HV1.out, rfl, gl5, p5, h4, BB, BD⟩
   go_simp
   have gl5 : w.heap.size + 1 < u1.heap.size := by have := BD.size; simp at this; omega
   have gd5 : ((w.alloc (.cells #[.bool d.s, .slice A1 n1 c1, .int .i64 d.e] 28)).alloc (.cells #[.bool false, .slice none 0 0, .int .i64 0] 28)).heap.size ≤ u1.heap.size := BD.size
   have p5 := Box.new u1 false none 0 0 0
   have b := below_alloc u1 (.cells #[.bool false, .slice none 0 0, .int .i64 0] 28)
   replace BD := below_next BD BD.size b (by rfl) (by rfl) (by rfl) (by rfl)
   replace BB := bnx BB b
   have G := mv b (by rfl) (J6 hT h1 N1 a0 a1 a2)
   clear b hT h1 N1 a0 a1 a2
   obtain ⟨hT, h1, N1, a0, a1, a2⟩ := G
   generalize u1.alloc (.cells #[.bool false, .slice none 0 0, .int .i64 0] 28) = u2 at *
   generalize u1.heap.size = g5 at *
   refine kp hK ⟨a0, a1, a2⟩ fun hHeldt2 => ?_
   clear hK K hHeldt1
   try simp only [Act.put]
   refine rdy 7 fun K hK => ?_
   go_simp
   refine (tellq_to HO1.out (two_tell S (n := n) hT)).mono ?_
   rintro en u3 ⟨A3, n3, c3, rfl, h3, b⟩
   replace BD := below_next BD BD.size b (by rfl) (by rfl) (by rfl) (by rfl)
   replace BB := bnx BB b
   have G := mv b (by rfl) (J7 hT h1 N1 a0 a1 a2 p5)
   clear b hT h1 N1 a0 a1 a2 p5
   obtain ⟨hT, h1, N1, a0, a1, a2, p5⟩ := G
   refine kp hK ⟨a0, a1, a2⟩ fun hHeldt3 => ?_
   clear hK K hHeldt2
   try simp only [Act.put]
   refine tl 8 ?_
   refine tl 9 ?_
   refine rdy 10 fun K hK => ?_
   go_simp
   refine (must_run HC1 h3).mono ?_
   rintro en u4 (⟨v1, hv1, A4, n4, c4, rfl, h4, b⟩ | ⟨kk, hk, hk0, rfl, b⟩)
   rotate_left
   ·exact ⟨rfl, .inr ⟨kk, (HQ.out.trans (by simp only [thn, ← HO1.out, hk])), hk0, rfl, bnx BB b⟩⟩
   have HV1 := hyd hv1
   clear hv1 h3
   replace BD := below_next BD BD.size b (by rfl) (by rfl) (by rfl) (by rfl)
   replace BB := bnx BB b
   have G := mv b (by rfl) (J7 hT h1 N1 a0 a1 a2 p5)
   clear b hT h1 N1 a0 a1 a2 p5
   obtain ⟨hT, h1, N1, a0, a1, a2, p5⟩ := G
   refine kp hK ⟨a0, a1, a2⟩ fun hHeldt4 => ?_
   clear hK K hHeldt3
   try simp only [Act.put]
   refine rdy 12 fun K hK => ?_
   obtain ⟨f0, f1, f2⟩ := p5.open
   obtain ⟨z0, z1, z2⟩ := p5.held
   go_simp
   replace a0 := nr_oth (g := g5) (u0 := .bool v1.s) (u1 := .slice A4 n4 c4) (u2 := .int .i64 v1.e) a0 (by omega)
   replace a1 := nr_oth (g := g5) (u0 := .bool v1.s) (u1 := .slice A4 n4 c4) (u2 := .int .i64 v1.e) a1 (by omega)
   replace a2 := nr_oth (g := g5) (u0 := .bool v1.s) (u1 := .slice A4 n4 c4) (u2 := .int .i64 v1.e) a2 (by omega)
   replace h4 := h4.put3 p5 (.bool v1.s) (.slice A4 n4 c4) (.int .i64 v1.e)
   replace BB := below_put3 (g := g5) BB (by omega) (.bool v1.s) (.slice A4 n4 c4) (.int .i64 v1.e)
   replace BD := below_put3 (g := g5) BD gd5 (.bool v1.s) (.slice A4 n4 c4) (.int .i64 v1.e)
   replace p5 := p5.put v1.s A4 n4 c4 v1.e
   clear f0 f1 f2 z0 z1 z2 hT h1 N1
   refine kp hK ⟨a0, a1, a2⟩ fun hHeldt5 => ?_
   clear hK K hHeldt4
   try simp only [Act.put]
   refine wpAnyH_done (by kernel_rfl) ?_ _
   go_wp2_with fail
   go_meet
   case rel => exact ⟨g5, A4, n4, c4, v1, HV1.out, rfl, gl5, p5, h4, BB, BD⟩
  go_simp
  have gl5 : w.heap.size + 1 < wd.heap.size := by have := BD.size; simp at this; omega
  have gd5 : ((w.alloc (.cells #[.bool d.s, .slice A1 n1 c1, .int .i64 d.e] 28)).alloc (.cells #[.bool false, .slice none 0 0, .int .i64 0] 28)).heap.size ≤ wd.heap.size := BD.size
  have p5 := Box.new wd false none 0 0 0
  have b := below_alloc wd (.cells #[.bool false, .slice none 0 0, .int .i64 0] 28)
  replace BD := below_next BD BD.size b (by rfl) (by rfl) (by rfl) (by rfl)
  replace BB := bnx BB b
  have G := mv b (by rfl) (J6 hT h1 N1 a0 a1 a2)
  clear b hT h1 N1 a0 a1 a2
  obtain ⟨hT, h1, N1, a0, a1, a2⟩ := G
  generalize wd.alloc (.cells #[.bool false, .slice none 0 0, .int .i64 0] 28) = u1 at *
  generalize wd.heap.size = g5 at *
  refine kp hK ⟨a0, a1, a2⟩ fun hHeldt1 => ?_
  clear hK K hHeldt0
  try simp only [Act.put]
  refine rdy 3 fun K hK => ?_
  go_simp
  refine (bits_ok hT N1 HOK.out).mono ?_
  rintro en u2 ⟨rfl, b⟩
  replace BD := below_next BD BD.size b (by rfl) (by rfl) (by rfl) (by rfl)
  replace BB := bnx BB b
  have G := mv b (by rfl) (J7 hT h1 N1 a0 a1 a2 p5)
  clear b hT h1 N1 a0 a1 a2 p5
  obtain ⟨hT, h1, N1, a0, a1, a2, p5⟩ := G
  refine kp hK ⟨a0, a1, a2⟩ fun hHeldt2 => ?_
  clear hK K hHeldt1
  try simp only [Act.put]
  refine wpAnyH_take (i := 4) (v := ?t11v4) rfl (by kernel_rfl) (by kernel_rfl) (by kernel_rfl) (fun _ _ _ h => panic_put (P := Tryz.prog) (fn := Tryz.f152) (R := (fun en w' => RunQ q w en w')) h) (Or.inl ⟨by rfl, ?t11y4⟩) (by assumption) ?_
  case t11y4 => (intro w hSw; (try dsimp only at hSw); go_simp; (try simp only [hw1, hw2])); try with_reducible rfl
  change wpAnyH _ _ _ _ _ _ _ (Act.put _ (some 10) _) _
  simp only [Act.put, List.setIfInBounds_toArray, List.set_cons_zero, List.set_cons_succ]
  refine wpAnyH_take (i := 6) (v := ?t12v6) rfl (by kernel_rfl) (by kernel_rfl) (by kernel_rfl) (fun _ _ _ h => panic_put (P := Tryz.prog) (fn := Tryz.f152) (R := (fun en w' => RunQ q w en w')) h) (Or.inl ⟨by rfl, ?t12y6⟩) (by assumption) ?_
  case t12y6 => (intro w hSw; (try dsimp only at hSw); go_simp; (try simp only [hw1, hw2])); try with_reducible rfl
  change wpAnyH _ _ _ _ _ _ _ (Act.put _ (some 12) _) _
  simp only [Act.put, List.setIfInBounds_toArray, List.set_cons_zero, List.set_cons_succ]
  refine rdy 7 fun K hK => ?_
  go_simp
  refine (tellq_to HO1.out (two_tell S (n := n) hT)).mono ?_
  rintro en u3 ⟨A3, n3, c3, rfl, h3, b⟩
  replace BD := below_next BD BD.size b (by rfl) (by rfl) (by rfl) (by rfl)
  replace BB := bnx BB b
  have G := mv b (by rfl) (J7 hT h1 N1 a0 a1 a2 p5)
  clear b hT h1 N1 a0 a1 a2 p5
  obtain ⟨hT, h1, N1, a0, a1, a2, p5⟩ := G
  refine kp hK ⟨a0, a1, a2⟩ fun hHeldt3 => ?_
  clear hK K hHeldt2
  try simp only [Act.put]
  refine tl 8 ?_
  refine tl 9 ?_
  refine rdy 10 fun K hK => ?_
  go_simp
  refine (must_run HC1 h3).mono ?_
  rintro en u4 (⟨v1, hv1, A4, n4, c4, rfl, h4, b⟩ | ⟨kk, hk, hk0, rfl, b⟩)
  rotate_left
  ·exact ⟨rfl, .inr ⟨kk, (HQ.out.trans (by simp only [thn, ← HO1.out, hk])), hk0, rfl, bnx BB b⟩⟩
  have HV1 := hyd hv1
  clear hv1 h3
  replace BD := below_next BD BD.size b (by rfl) (by rfl) (by rfl) (by rfl)
  replace BB := bnx BB b
  have G := mv b (by rfl) (J7 hT h1 N1 a0 a1 a2 p5)
  clear b hT h1 N1 a0 a1 a2 p5
  obtain ⟨hT, h1, N1, a0, a1, a2, p5⟩ := G
  refine kp hK ⟨a0, a1, a2⟩ fun hHeldt4 => ?_
  clear hK K hHeldt3
  try simp only [Act.put]
  refine rdy 12 fun K hK => ?_
  obtain ⟨f0, f1, f2⟩ := p5.open
  obtain ⟨z0, z1, z2⟩ := p5.held
  go_simp
  replace a0 := nr_oth (g := g5) (u0 := .bool v1.s) (u1 := .slice A4 n4 c4) (u2 := .int .i64 v1.e) a0 (by omega)
  replace a1 := nr_oth (g := g5) (u0 := .bool v1.s) (u1 := .slice A4 n4 c4) (u2 := .int .i64 v1.e) a1 (by omega)
  replace a2 := nr_oth (g := g5) (u0 := .bool v1.s) (u1 := .slice A4 n4 c4) (u2 := .int .i64 v1.e) a2 (by omega)
  replace h4 := h4.put3 p5 (.bool v1.s) (.slice A4 n4 c4) (.int .i64 v1.e)
  replace BB := below_put3 (g := g5) BB (by omega) (.bool v1.s) (.slice A4 n4 c4) (.int .i64 v1.e)
  replace BD := below_put3 (g := g5) BD gd5 (.bool v1.s) (.slice A4 n4 c4) (.int .i64 v1.e)
  replace p5 := p5.put v1.s A4 n4 c4 v1.e
  clear f0 f1 f2 z0 z1 z2 hT h1 N1
  refine kp hK ⟨a0, a1, a2⟩ fun hHeldt5 => ?_
  clear hK K hHeldt4
  try simp only [Act.put]
  refine wpAnyH_done (by kernel_rfl) ?_ _
  go_wp2_with fail
  go_meet
  case rel => exact ⟨g5, A4, n4, c4, v1, HV1.out, rfl, gl5, p5, h4, BB, BD⟩
 case rest =>
  obtain ⟨g5, A5, n5, c5, v1, hv1, rfl, gl5, p5, h5, BB2, b⟩ := hcut
  have HV1 := hyd hv1
  clear hv1
  obtain ⟨hT, h1, a0, a1, a2, r⟩ := mv b rfl <| And.intro hT <| And.intro h1 <| And.intro a0 <| And.intro a1 <| And.intro a2 <| r
  replace BB := BB2
  clear BB2 b
  obtain ⟨y0, y1, y2⟩ := p5.held
  obtain ⟨o2, ho2⟩ : ∃ o, o = addO S d v1 := ⟨_, rfl⟩
  have HO2 := hyd ho2
  clear ho2
  have HC2 : Cod o2 := by rw [HO2.out]; exact addO_cod
  go_wp2_with fail
  refine (tellq_to HO2.out (dadd_tell S (a := d) (b := v1) hT h1 h5)).mono ?_
  rintro en w1 ⟨A6, n6, c6, rfl, h6, b⟩
  clear h5
  replace BB := bnx BB b
  have G := mv b rfl (J9 hT h1 a0 a1 a2 r y0 y1 y2)
  clear b hT h1 a0 a1 a2 r y0 y1 y2
  obtain ⟨hT, h1, a0, a1, a2, r, y0, y1, y2⟩ := G
  go_wp2_with fail
  refine (must_run HC2 h6).mono ?_
  rintro en w2 (⟨v2, hv2, A7, n7, c7, rfl, h7, b⟩ | ⟨kk, hk, hk0, rfl, b⟩)
  rotate_left
  ·replace BB := bnx BB b
   clear b
   have HKK := hyd (And.intro hk hk0)
   clear hk hk0
   go_wp2
   exact ⟨rfl, .inr ⟨kk, (HQ.out.trans (by simp only [thn, ← HO1.out, HV1.out, ← HO2.out, HKK.out.1])), HKK.out.2, rfl, BB⟩⟩
  have HV2 := hyd hv2
  clear hv2
  clear h6
  replace BB := bnx BB b
  have G := mv b rfl (J9 hT h1 a0 a1 a2 r y0 y1 y2)
  clear b hT h1 a0 a1 a2 r y0 y1 y2
  obtain ⟨hT, h1, a0, a1, a2, r, y0, y1, y2⟩ := G
  have HL : q = .ok v2 := by rw [HQ.out, ← HO1.out, HV1.out]; exact HO2.out.symm.trans HV2.out
  obtain ⟨f0, f1, f2⟩ := r.open
  obtain ⟨z0, z1, z2⟩ := r.held
  go_wp2
  exact ret3 rfl rfl rfl r BB (by omega) (h7.put3 r _ _ _) fun hN HB3 => (.inl ⟨v2, HL, _, _, _, rfl, hN, HB3⟩)
end Go.Proofs.YtehfdfjpmmpndaaGreatDoor
