/-
  Outcome of expo's part, at this translation.
-/
import Derived.Test.YtehfdfjpmmpndaaGreatDoorQEp
import Derived.Test.YtehfdfjpmmpndaaGreatDoorQIs
import Derived.Test.YtehfdfjpmmpndaaGreatDoorQEq
import Derived.Test.YtehfdfjpmmpndaaGreatDoorQEu
set_option maxHeartbeats 8000000
set_option maxRecDepth 100000
namespace Go.Proofs.YtehfdfjpmmpndaaGreatDoor
open Go.RowKit
variable {A1 : Option Addr} {c1 g k n n1 q x y : Nat} {e : Int} {s : Bool} {w : World}
def partO (x : Nat) (e : Int) (k q : Nat) : Option (Nat × Nat) :=
 if 0 ≤ e - (k : Int) + (q : Int) then (if x * 2 ^ (e - (k : Int) + (q : Int)).toNat < W ^ 64 then some (x * 2 ^ (e - (k : Int) + (q : Int)).toNat, x * 2 ^ (e - (k : Int) + (q : Int)).toNat) else none)
 else some (x / 2 ^ (-(e - (k : Int) + (q : Int))).toNat, upN x (-(e - (k : Int) + (q : Int))).toNat)
theorem epart_no (h1 : Nt w A1 n1 c1 x) (h0 : x ≠ 0) (hn : e - (k : Int) + (q : Int) = (n : Int)) (he1 : -1000000 ≤ e) (he2 : e ≤ 1000000) (hk : k ≤ 1000000) (hn2 : n ≤ 1000000) (hl : W ^ 64 ≤ x * 2 ^ n) :
  Calls Tryz.prog 167 #[.agg #[.bool s, .slice A1 n1 c1, .int .i64 e], .int .i64 (k : Int), .int .i64 (q : Int)] w (Faults 2 w) := by
 have BB := two_below w (.cells #[.bool s, .slice A1 n1 c1, .int .i64 e] 28) (.cells #[.slice none 0 0, .slice none 0 0, .int .i64 0] 143)
 obtain ⟨a0, a1, a2⟩ := ((Box.new w s A1 n1 c1 e).alloc (.cells #[.slice none 0 0, .slice none 0 0, .int .i64 0] 143)).held
 have hw1 : IntKind.i64.wrap (e - (k : Int)) = e - (k : Int) := IntWalk.i64_in _ (by omega)
 have hw2 : IntKind.i64.wrap (e - (k : Int) + (q : Int)) = (n : Int) := by rw [hn]; exact IntWalk.i64_in _ (by omega)
 have d1 : decide ((n : Int) ≥ 0) = true := decide_eq_true (by omega)
 have d2 : decide ((0 : Int) ≤ (n : Int)) = true := d1
 have HL := hyd (And.intro h0 hl)
 clear hl hn h0
 replace h1 := mv BB rfl h1
 go_enter Tryz.func167, Tryz.ntmps167
 go_wp2_with fail
 refine (shl_over (s := n) h1 HL.out.1 HL.out.2).mono ?_
 rintro en w1 ⟨rfl, rfl⟩
 go_wp2_with fail
 refine (natural_bad (by decide)).mono ?_
 rintro en w2 ⟨rfl, rfl⟩
 go_wp2
 exact ⟨rfl, rfl, BB⟩
theorem epart_low (hT : Tab w) (h1 : Nt w A1 n1 c1 x) (h0 : x ≠ 0) (hn1 : 1 ≤ n) (hn : e - (k : Int) + (q : Int) = -(n : Int)) (he1 : -1000000 ≤ e) (he2 : e ≤ 1000000) (hk : k ≤ 1000000) (hn2 : n ≤ 1000000) :
  Calls Tryz.prog 167 #[.agg #[.bool s, .slice A1 n1 c1, .int .i64 e], .int .i64 (k : Int), .int .i64 (q : Int)] w (NearIs (x / 2 ^ n) (upN x n) (q : Int) w) := by
 have BB := two_below w (.cells #[.bool s, .slice A1 n1 c1, .int .i64 e] 28) (.cells #[.slice none 0 0, .slice none 0 0, .int .i64 0] 143)
 obtain ⟨a0, a1, a2⟩ := ((Box.new w s A1 n1 c1 e).alloc (.cells #[.slice none 0 0, .slice none 0 0, .int .i64 0] 143)).held
 have r := Nrb.at_ (w := (w.alloc (.cells #[.bool s, .slice A1 n1 c1, .int .i64 e] 28))) (sizes_up rfl) none 0 0 none 0 0 0
 have hw1 : IntKind.i64.wrap (e - (k : Int)) = e - (k : Int) := IntWalk.i64_in _ (by omega)
 have hw2 : IntKind.i64.wrap (e - (k : Int) + (q : Int)) = -(n : Int) := by rw [hn]; exact IntWalk.i64_in _ (by omega)
 have hw3 : IntKind.i64.wrap (-(-(n : Int))) = (n : Int) := by rw [IntWalk.i64_in _ (by omega)]; omega
 have hw4 : IntKind.i64.wrap (n : Int) = (n : Int) := IntWalk.i64_in _ (by omega)
 have d0 : decide (n = 0) = false := decide_eq_false (by omega)
 have d1 : decide (-(n : Int) ≥ 0) = false := decide_eq_false (by omega)
 have d2 : decide ((0 : Int) ≤ -(n : Int)) = false := d1
 have HL := hyd (And.intro h0 hn2)
 clear hn h0
 have G := mv BB rfl <| And.intro hT <| h1
 clear hT h1
 obtain ⟨hT, h1⟩ := G
 go_enter Tryz.func167, Tryz.ntmps167
 go_wp2_with fail
 have b := drew_b ((w.alloc (.cells #[.bool s, .slice A1 n1 c1, .int .i64 e] 28)).alloc (.cells #[.slice none 0 0, .slice none 0 0, .int .i64 0] 143))
 replace BB := bnx BB b
 have G := mv b rfl (J6 hT h1 a0 a1 a2 r)
 clear b hT h1 a0 a1 a2 r
 obtain ⟨hT, h1, a0, a1, a2, r⟩ := G
 generalize hwd : World.drew ((w.alloc (.cells #[.bool s, .slice A1 n1 c1, .int .i64 e] 28)).alloc (.cells #[.slice none 0 0, .slice none 0 0, .int .i64 0] 143)) = wd at *
 have HS := J3 a0 a1 a2
 revert HS
 apply rg hwd
 intro hHeldu0
 clear hwd
 refine tl 0 ?_
 refine tl 1 ?_
 refine tl 2 ?_
 refine tl 3 ?_
 refine tl 5 ?_
 refine tl 6 ?_
 refine tl 7 ?_
 refine tl 8 ?_
 refine tl 10 ?_
 refine rdy 4 fun K hK => ?_
 go_simp
 refine (elow_ok (s := n) h1 (by omega)).mono ?_
 rintro en w' ⟨A3, n3, c3, rfl, h3, b⟩
 replace BB := bnx BB b
 have G := mv b (by rfl) (J6 hT h1 a0 a1 a2 r)
 clear b hT h1 a0 a1 a2 r
 obtain ⟨hT, h1, a0, a1, a2, r⟩ := G
 refine kp hK ⟨a0, a1, a2⟩ fun hHeldu1 => ?_
 clear hK K hHeldu0
 try simp only [Act.put]
 refine rdy 9 fun K hK => ?_
 go_simp
 refine (erai_ok (s := n) hT h1 HL.out.1 (by omega) (half_fits (by omega) h1.lt)).mono ?_
 rintro en w' ⟨A4, n4, c4, rfl, h4, b⟩
 replace BB := bnx BB b
 have G := mv b (by rfl) (J7 hT h1 a0 a1 a2 r h3)
 clear b hT h1 a0 a1 a2 r h3
 obtain ⟨hT, h1, a0, a1, a2, r, h3⟩ := G
 obtain ⟨f0, f1, f2⟩ := r.open
 obtain ⟨z0, z1, z2⟩ := r.held
 refine kp hK ⟨a0, a1, a2⟩ fun hHeldu2 => ?_
 clear hK K hHeldu1
 try simp only [Act.put]
 refine tl 11 ?_
 refine rdy 12 fun K hK => ?_
 go_simp
 refine hK.out _ _ (by exact ⟨nr_oth a0 (by omega), nr_oth a1 (by omega), nr_oth a2 (by omega)⟩) (fun hHeldu3 => ?_)
 clear hK K hHeldu2
 try simp only [Act.put]
 refine wpAnyH_done (by kernel_rfl) ?_ _
 go_wp2
 have qq := r.put A3 n3 c3 A4 n4 c4 (q : Int)
 have hN := h3.putN r (.slice A3 n3 c3) (.slice A4 n4 c4) (.int .i64 (q : Int))
 have hM := h4.putN r (.slice A3 n3 c3) (.slice A4 n4 c4) (.int .i64 (q : Int))
 have HB3 := below_put3 (g := w.heap.size + 1) BB (by omega) (.slice A3 n3 c3) (.slice A4 n4 c4) (.int .i64 (q : Int))
 obtain ⟨z0, z1, z2⟩ := qq.held
 exact bodyPost_ret (v := .agg #[.slice A3 n3 c3, .slice A4 n4 c4, .int .i64 (q : Int)]) (by simp [results, Tryz.results167, go_sem, z0, z1, z2]) rfl ⟨_, _, _, _, _, _, rfl, hN, hM, HB3⟩
theorem epart_any (hT : Tab w) (h1 : Nt w A1 n1 c1 x) (h0 : x ≠ 0) (he1 : -100000 ≤ e) (he2 : e ≤ 100000) (hk : k ≤ 100000) (hq : q ≤ 100000) :
  Calls Tryz.prog 167 #[.agg #[.bool s, .slice A1 n1 c1, .int .i64 e], .int .i64 (k : Int), .int .i64 (q : Int)] w (NearO (partO x e k q) (q : Int) w) := by
 unfold partO
 by_cases h : 0 ≤ e - (k : Int) + (q : Int)
 ·obtain ⟨n, hn⟩ := Int.eq_ofNat_of_zero_le h
  rw [if_pos h, hn, Int.toNat_natCast]
  by_cases hl : x * 2 ^ n < W ^ 64
  ·rw [if_pos hl]
   exact epart_ok h1 hn (by omega) (by omega) (by omega) (by omega) hl
  rw [if_neg hl]
  exact epart_no h1 h0 hn (by omega) (by omega) (by omega) (by omega) (by omega)
 obtain ⟨n, hn⟩ : ∃ n : Nat, e - (k : Int) + (q : Int) = -(n : Int) := ⟨(-(e - (k : Int) + (q : Int))).toNat, by omega⟩
 rw [if_neg h, hn, show (-(-(n : Int))).toNat = n by omega]
 exact epart_low hT h1 h0 (by omega) hn (by omega) (by omega) (by omega) (by omega)
theorem sumF_is : ∀ {g j : Nat} {a : Nat × Nat}, sumF x y q g j (sIt x y q j) = some a → ∃ n, a = ((sIt x y q n).2.2.1, (sIt x y q n).2.2.2 + (sIt x y q n).2.1) := by
 intro g
 induction g with
 | zero => intro j a h; cases h
 | succ g ih =>
  intro j a h
  unfold sumF at h
  have e : sStep x y q (j + 1) (sIt x y q j) = sIt x y q (j + 1) := rfl
  rw [e] at h
  split at h
  ·split at h
   ·split at h
    ·split at h
     ·injection h with h
      exact ⟨j + 1, h.symm⟩
     cases h
    exact ih h
   cases h
  cases h
theorem serO_is {a : Nat × Nat} (h : serO x y q = some a) : ∃ n, a = ((sIt x y q n).2.2.1, (sIt x y q n).2.2.2 + (sIt x y q n).2.1) := by
 unfold serO at h
 split at h
 ·exact sumF_is (j := 0) h
 cases h
def sqF (q : Nat) : Nat → Nat × Nat → Option (Nat × Nat)
 | 0, s => some s
 | k + 1, s => match timO q s s with
  | none => none
  | some u => sqF q k u
theorem timO_sq {s u : Nat × Nat} (h : timO q s s = some u) : u = qStep q s := by
 unfold timO at h
 split at h
 ·injection h with h
  exact h.symm
 cases h
def bndO (m : Nat) (e : Int) (k q : Nat) : Option (Nat × Nat) := match partO m e k q with
 | none => none
 | some x => match serO x.1 x.2 q with
  | none => none
  | some s => sqF q k s
theorem part_half {m k q b : Nat} {x : Nat × Nat} (hm : m ≠ 0) (hb : m < 2 ^ b) (hk : (b : Int) + e + 8 ≤ (k : Int)) (hq : 9 ≤ q) (h : partO m e k q = some x) : x.2 ≠ 0 ∧ 2 * x.2 ≤ 2 ^ q := by
 unfold partO at h
 split at h
 ·rename_i h0
  split at h
  ·injection h with h
   subst h
   obtain ⟨n, hn⟩ := Int.eq_ofNat_of_zero_le h0
   rw [hn, Int.toNat_natCast]
   refine ⟨Nat.mul_ne_zero hm (Nat.ne_of_gt (Nat.pow_pos (by omega))), ?_⟩
   have h1 : m * 2 ^ n ≤ 2 ^ b * 2 ^ n := Nat.mul_le_mul_right _ (Nat.le_of_lt hb)
   rw [← Nat.pow_add] at h1
   have h2 : 2 ^ (b + n) * 2 ≤ 2 ^ q := by
    rw [← Nat.pow_succ]
    exact Nat.pow_le_pow_right (by omega) (by omega)
   show 2 * (m * 2 ^ n) ≤ 2 ^ q
   omega
  cases h
 rename_i h0
 injection h with h
 subst h
 obtain ⟨n, hn⟩ : ∃ n : Nat, e - (k : Int) + (q : Int) = -(n : Int) := ⟨(-(e - (k : Int) + (q : Int))).toNat, by omega⟩
 rw [hn, show (-(-(n : Int))).toNat = n by omega]
 refine ⟨upN_pos hm, ?_⟩
 have h1 : upN m n ≤ m / 2 ^ n + 1 := by unfold upN; split <;> omega
 have h2 : m / 2 ^ n < 2 ^ (q - 8) := by
  refine (Nat.div_lt_iff_lt_mul (Nat.pow_pos (by omega))).2 ?_
  rw [← Nat.pow_add]
  exact Nat.lt_of_lt_of_le hb (Nat.pow_le_pow_right (by omega) (by omega))
 have h3 : 2 ^ q = 2 ^ (q - 8) * 256 := by
  rw [show (256 : Nat) = 2 ^ 8 from rfl, ← Nat.pow_add]
  exact congrArg (2 ^ ·) (by omega)
 have h4 : 2 ≤ 2 ^ (q - 8) := by
  have := Nat.pow_le_pow_right (n := 2) (by omega) (show 1 ≤ q - 8 by omega)
  rwa [Nat.pow_one] at this
 show 2 * upN m n ≤ 2 ^ q
 omega
set_option maxHeartbeats 8000000
set_option maxRecDepth 100000
def natQ (S : Sc) (a q : Nat) : Rw := orw (S.oc (Nm false a (-(q : Int))))
def fromO (S : Sc) (q : Nat) (neg : Bool) : Option (Nat × Nat) → Except Int Iv
 | none => .error 2
 | some u => if neg = true then invO S ⟨natQ S u.1 q, natQ S u.2 q⟩ (q : Int) else .ok ⟨natQ S u.1 q, natQ S u.2 q⟩
def bouO (S : Sc) (m : Nat) (e : Int) (k q : Nat) (neg : Bool) : Except Int Iv := fromO S q neg (bndO m e k q)
theorem nat_told {S : Sc} {A : Option Addr} {n c x q : Nat} (h : Nt w A n c x) (hq : q ≤ 100000) : ∃ s m e, Nm false x (-(q : Int)) 0 s m e ∧ natQ S x q = Rw.of s m e := by
 obtain ⟨k, s, m, e, hn⟩ := nm_total false x (-(q : Int))
 have hb : blen x ≤ 4096 := (blen_le _ (64 * 64)).2 (Nat.lt_of_lt_of_eq h.lt W64_pow)
 obtain rfl := nm_good hn hb (by omega) (by omega)
 refine ⟨s, m, e, hn, ?_⟩
 have h2 := (S.is _ _ _ _ _ (nm_only _ _ _) hn).1 rfl
 unfold natQ
 rw [h2]
 rfl
theorem ebet_any (S : Sc) {A2 : Option Addr} {n2 c2 : Nat} (hT : Tab w) (h1 : Nt w A1 n1 c1 x) (h2 : Nt w A2 n2 c2 y) (hq : q ≤ 100000) :
  Calls Tryz.prog 170 #[.agg #[.slice A1 n1 c1, .slice A2 n2 c2, .int .i64 (q : Int)]] w (GivI ⟨natQ S x q, natQ S y q⟩ w) := by
 obtain ⟨s3, m3, e3, n3', r3⟩ := nat_told (S := S) h1 hq
 obtain ⟨s4, m4, e4, n4', r4⟩ := nat_told (S := S) h2 hq
 rw [r3, r4]
 exact (ebet_ok hT h1 h2 (by omega) n3' n4').mono fun _ _ ⟨A, n, c, B, m, d, e, a1, a2, b⟩ => ⟨A, n, c, B, m, d, e, a1.rd, a2.rd, b⟩
theorem sqF_none {s : Nat × Nat} (h : timO q s s = none) : sqF q (g + 1) s = none := by
 unfold sqF
 rw [h]
theorem sqF_some {s u : Nat × Nat} (h : timO q s s = some u) : sqF q (g + 1) s = sqF q g u := by
 rw [sqF, h]
theorem timO_pos {s u : Nat × Nat} (h0 : s.2 ≠ 0) (h : timO q s s = some u) : u.2 ≠ 0 := by
 rw [timO_sq h]
 exact upN_pos (Nat.mul_ne_zero h0 h0)
theorem ser_pos {a b : Nat} (h : serO x y q = some (a, b)) : b ≠ 0 := by
 obtain ⟨n, hn⟩ := serO_is h
 injection hn with h1 h2
 have key : ∀ n, 2 ^ q ≤ (sIt x y q n).2.2.2 := fun n => by
  induction n with
  | zero => exact Nat.le_refl _
  | succ n ih => exact Nat.le_trans ih (Nat.le_add_right _ _)
 have h3 := key n
 have h4 : 0 < 2 ^ q := Nat.pow_pos (by omega)
 omega
theorem ebounds_run (S : Sc) (hT : Tab w) (h1 : Nt w A1 n1 c1 x) (hd : OkD s x e) (h0 : x ≠ 0) (he1 : -1000 ≤ e) (he2 : e ≤ 1000) (hk : (k : Int) = max 0 ((blen x : Int) + e + 8)) (hq9 : 9 ≤ q) (hq : q ≤ 100000) :
  Calls Tryz.prog 151 #[.agg #[.bool s, .slice A1 n1 c1, .int .i64 e], .int .i64 (q : Int)] w (RunI (bouO S x e k q s) w) := by
 obtain ⟨o, ho⟩ : ∃ o, o = bouO S x e k q s := ⟨_, rfl⟩
 rw [← ho]
 have HO : Hid (o = bouO S x e k q s) := hyd ho
 clear ho
 obtain ⟨b2, hb2⟩ : ∃ b2, b2 = blen x := ⟨_, rfl⟩
 have HBL : Hid (x < 2 ^ b2) := hyd ((blen_le x b2).1 (by omega))
 rw [← hb2] at hk
 have hbk : b2 ≤ 4096 := by rw [hb2]; exact (blen_le _ (64 * 64)).2 (Nat.lt_of_lt_of_eq h1.lt W64_pow)
 have hw1 : IntKind.i64.wrap ((b2 : Int) + e) = (b2 : Int) + e := IntWalk.i64_in _ (by omega)
 have hw2 : IntKind.i64.wrap ((b2 : Int) + e + 8) = (b2 : Int) + e + 8 := IntWalk.i64_in _ (by omega)
 have hkk : (b2 : Int) + e + 8 ≤ (k : Int) := by omega
 have hk9 : k ≤ 100000 := by omega
 have hmx : max (0 : Int) ((b2 : Int) + e + 8) = (k : Int) := by omega
 have HK := hyd (And.intro hkk hq9)
 have HD := hyd hd
 have HB2 := hyd hb2
 have HX0 := hyd h0
 clear hk hkk hd hb2 h0 hbk hq9
 have BB := two_below w (.cells #[.bool s, .slice A1 n1 c1, .int .i64 e] 28) (.cells #[.bool false, .slice none 0 0, .int .i64 0, .bool false, .slice none 0 0, .int .i64 0] 30)
 have X0 := (Box.new w s A1 n1 c1 e).alloc (.cells #[.bool false, .slice none 0 0, .int .i64 0, .bool false, .slice none 0 0, .int .i64 0] 30)
 have r := ibx_one w (.cells #[.bool s, .slice A1 n1 c1, .int .i64 e] 28) false none 0 0 0 false none 0 0 0
 obtain ⟨a0, a1, a2⟩ := X0.held
 have G := mv BB rfl <| And.intro hT <| h1
 clear hT h1
 obtain ⟨hT, h1⟩ := G
 go_enter Tryz.func151, Tryz.ntmps151
 go_wp2_with fail
 have b := drew_b ((w.alloc (.cells #[.bool s, .slice A1 n1 c1, .int .i64 e] 28)).alloc (.cells #[.bool false, .slice none 0 0, .int .i64 0, .bool false, .slice none 0 0, .int .i64 0] 30))
 replace BB := bnx BB b
 have G := mv b rfl (J7 hT h1 r X0 a0 a1 a2)
 clear b hT h1 r X0 a0 a1 a2
 obtain ⟨hT, h1, r, X0, a0, a1, a2⟩ := G
 generalize hwd : World.drew ((w.alloc (.cells #[.bool s, .slice A1 n1 c1, .int .i64 e] 28)).alloc (.cells #[.bool false, .slice none 0 0, .int .i64 0, .bool false, .slice none 0 0, .int .i64 0] 30)) = wd at *
 have HS := J3 a0 a1 a2
 revert HS
 apply rg hwd
 intro hHeldv0
 clear hwd
 refine tl 0 ?_
 refine tl 2 ?_
 refine tl 3 ?_
 refine rdy 1 fun K hK => ?_
 go_simp
 have hbi := bits_ok hT h1 HD.out
 rw [← HB2.out] at hbi
 refine hbi.mono ?_
 rintro en w' ⟨rfl, b⟩
 clear hbi
 replace BB := bnx BB b
 have G := mv b (by rfl) (J7 hT h1 r X0 a0 a1 a2)
 clear b hT h1 r X0 a0 a1 a2
 obtain ⟨hT, h1, r, X0, a0, a1, a2⟩ := G
 refine kp hK ⟨a0, a1, a2⟩ fun hHeldv1 => ?_
 clear hK K hHeldv0
 try simp only [Act.put]
 refine wpAnyH_take (i := 4) (v := ?vv4) rfl (by kernel_rfl) (by kernel_rfl) (by kernel_rfl) (fun _ _ _ h => panic_put (P := Tryz.prog) (fn := Tryz.f151) (R := (fun en w' => RunI o w en w')) h) (Or.inl ⟨by rfl, ?vy4⟩) (by assumption) ?_
 case vy4 => (intro w hSw; (try dsimp only at hSw); go_simp; (try simp only [hw1, hw2, hmx])); try with_reducible rfl
 change wpAnyH _ _ _ _ _ _ _ (Act.put _ (some 11) _) _
 simp only [Act.put, List.setIfInBounds_toArray, List.set_cons_zero, List.set_cons_succ]
 refine wpAnyH_take (i := 5) (v := ?vv5) rfl (by kernel_rfl) (by kernel_rfl) (by kernel_rfl) (fun _ _ _ h => panic_put (P := Tryz.prog) (fn := Tryz.f151) (R := (fun en w' => RunI o w en w')) h) (Or.inl ⟨by rfl, ?vy5⟩) (by assumption) ?_
 case vy5 => (intro w hSw; (try dsimp only at hSw); go_simp; (try simp only [hw1, hw2, hmx])); try with_reducible rfl
 change wpAnyH _ _ _ _ _ _ _ (Act.put _ (some 12) _) _
 simp only [Act.put, List.setIfInBounds_toArray, List.set_cons_zero, List.set_cons_succ]
 refine tl 6 ?_
 refine tl 7 ?_
 refine wpAnyH_done (by kernel_rfl) ?_ _
 clear hHeldv1
 have hc := epart_any (k := k) (q := q) (s := s) (e := e) hT h1 HX0.out (by omega) (by omega) hk9 hq
 obtain ⟨op, hop⟩ : ∃ z, z = partO x e k q := ⟨_, rfl⟩
 rw [← hop] at hc
 have HOP := hyd hop
 clear hop
 cases op with
 | none =>
  have HB : Hid (o = .error 2) := hyd (by rw [HO.out]; unfold bouO bndO; rw [← HOP.out]; rfl)
  go_wp2_with fail
  refine hc.mono ?_
  rintro en u1 ⟨rfl, b⟩
  replace BB := bnx BB b
  clear b
  go_wp2
  exact ⟨rfl, .inr ⟨2, HB.out, by decide, rfl, BB⟩⟩
 | some z =>
  obtain ⟨zl, zh⟩ := z
  obtain ⟨hy0, hy2⟩ := part_half HX0.out HBL.out HK.out.1 HK.out.2 HOP.out.symm
  go_wp2_with fail
  refine hc.mono ?_
  rintro en w2 ⟨A3, n3, c3, A4, n4, c4, rfl, h3, h4, b⟩
  clear hc
  replace BB := bnx BB b
  have G := mv b rfl (J7 hT h1 r X0 a0 a1 a2)
  clear b hT h1 r X0 a0 a1 a2
  obtain ⟨hT, h1, r, X0, a0, a1, a2⟩ := G
  have hc := esum_any (x := zl) (y := zh) (q := q) hT h3 h4 (by have := HK.out.2; omega) hq hy0 hy2
  obtain ⟨os, hos⟩ : ∃ z, z = serO zl zh q := ⟨_, rfl⟩
  rw [← hos] at hc
  have HOS := hyd hos
  clear hos hy0 hy2
  cases os with
  | none =>
   have HB : Hid (o = .error 2) := hyd (by rw [HO.out]; unfold bouO bndO; rw [← HOP.out]; dsimp only; rw [← HOS.out]; rfl)
   go_wp2_with fail
   refine hc.mono ?_
   rintro en u1 ⟨rfl, b⟩
   replace BB := bnx BB b
   clear b
   go_wp2
   exact ⟨rfl, .inr ⟨2, HB.out, by decide, rfl, BB⟩⟩
  | some z =>
   obtain ⟨L0, H0⟩ := z
   have HZ : Hid (H0 ≠ 0) := hyd (ser_pos HOS.out.symm)
   obtain ⟨bo, hbo⟩ : ∃ z, z = sqF q k (L0, H0) := ⟨_, rfl⟩
   have HBO := hyd hbo
   have HO2 : Hid (o = fromO S q s bo) := hyd (by rw [HO.out]; unfold bouO bndO; rw [← HOP.out]; dsimp only; rw [← HOS.out]; dsimp only; rw [← hbo])
   clear hbo HO HOP HOS
   go_wp2_with fail
   refine hc.mono ?_
   rintro en w3 ⟨A5, n5, c5, A6, n6, c6, rfl, h5, h6, b⟩
   clear hc h3 h4
   replace BB := bnx BB b
   have G := mv b rfl (J7 hT h1 r X0 a0 a1 a2)
   clear b hT h1 r X0 a0 a1 a2
   obtain ⟨hT, h1, r, X0, a0, a1, a2⟩ := G
   have gl := r.gl
   have BW := BB
   clear BB a0 a1 a2
   have p6 := Nrb.new w3 A5 n5 c5 A6 n6 c6 (q : Int)
   have BB := below_alloc w3 (.cells #[.slice A5 n5 c5, .slice A6 n6 c6, .int .i64 (q : Int)] 143)
   obtain ⟨k5, k6⟩ := mv BB rfl <| And.intro h5 h6
   obtain ⟨a0, a1, a2⟩ := X0.held
   go_wp2
   go_loopg [20] k (fun gk v20 wr => ∃ (j l h : Nat) (A7 : Option Addr) (n7 c7 : Nat) (A8 : Option Addr) (n8 c8 : Nat), j + gk = k ∧ v20 = .int .i64 (j : Int) ∧ Hid (bo = sqF q gk (l, h)) ∧ Hid (h ≠ 0) ∧ Nrb wr w3.heap.size A7 n7 c7 A8 n8 c8 (q : Int) ∧ Nt wr A7 n7 c7 l ∧ Nt wr A8 n8 c8 h ∧ Below w3.heap.size w3 wr)
   case atStart => exact ⟨0, L0, H0, A5, n5, c5, A6, n6, c6, by omega, rfl, HBO, HZ, p6, k5, k6, BB⟩
   case round =>
    clear p6 k5 k6 BB a0 a1 a2
    obtain ⟨j, l, h, A7, n7, c7, A8, n8, c8, hg, rfl, HI, HH, p6, h7, h8, BB⟩ := hrel
    have HG := hyd hg
    by_cases hj : j < k
    ·obtain ⟨gq, rfl⟩ : ∃ z, gk = z + 1 := ⟨gk - 1, by omega⟩
     have d0 : decide ((j : Int) < (k : Int)) = true := decide_eq_true (by omega)
     clear hg
     have t0 := mv BB rfl hT
     obtain ⟨y0, y1, y2⟩ := p6.held
     have hc := etim_any (q := q) (q2 := (q : Int)) t0 h7 h8 h7 h8 (Nat.mul_ne_zero HH.out HH.out) (by have := HK.out.2; omega) (by omega)
     obtain ⟨ot, hot⟩ : ∃ z, z = timO q (l, h) (l, h) := ⟨_, rfl⟩
     rw [← hot] at hc
     have HOT := hyd hot
     clear hot
     cases ot with
     | none =>
      have HB : Hid (o = .error 2) := hyd (by rw [HO2.out, HI.out, sqF_none HOT.out.symm]; rfl)
      go_wp2_with fail
      refine hc.mono ?_
      rintro en u1 ⟨rfl, b⟩
      replace BB := bnx BB b
      replace BB := BW.trans (BB.mono BW.size)
      clear b
      go_wp2
      exact ⟨rfl, .inr ⟨2, HB.out, by decide, rfl, BB⟩⟩
     | some z =>
      obtain ⟨l2, h2⟩ := z
      have HI2 : Hid (bo = sqF q gq (l2, h2)) := hyd (by rw [HI.out, sqF_some HOT.out.symm])
      have HH2 : Hid (h2 ≠ 0) := hyd (timO_pos HH.out HOT.out.symm)
      clear HI HH HOT
      go_wp2_with fail
      refine hc.mono ?_
      rintro en u1 ⟨A9, n9, c9, A10, n10, c10, rfl, h9, h10, b⟩
      clear y0 y1 y2 t0 hc
      clear h7 h8
      replace BB := bnx BB b
      replace p6 := mv b rfl p6
      clear b
      obtain ⟨f0, f1, f2⟩ := p6.open
      obtain ⟨y0, y1, y2⟩ := p6.held
      have g6l := p6.gl
      go_upto_region 6 with fail
      clear f0 f1 f2 y0 y1 y2
      replace h9 := h9.putN p6 (.slice A9 n9 c9) (.slice A10 n10 c10) (.int .i64 (q : Int))
      replace h10 := h10.putN p6 (.slice A9 n9 c9) (.slice A10 n10 c10) (.int .i64 (q : Int))
      replace BB := below_put3 (g := w3.heap.size) BB (by omega) (.slice A9 n9 c9) (.slice A10 n10 c10) (.int .i64 (q : Int))
      replace p6 := p6.put A9 n9 c9 A10 n10 c10 (q : Int)
      generalize ((u1.setCell ⟨w3.heap.size, 0, none⟩ (.slice A9 n9 c9)).setCell ⟨w3.heap.size, 1, none⟩ (.slice A10 n10 c10)).setCell ⟨w3.heap.size, 2, none⟩ (.int .i64 (q : Int)) = u2 at *
      have HG2 : Hid (j + 1 + gq = k) := hyd (by have := HG.out; omega)
      clear HG
      go_wp2
      go_roundg gq
      case measure => omega
      case rel => exact ⟨j + 1, l2, h2, _, _, _, _, _, _, HG2.out, by first | rfl | go_num | (congr 1 <;> omega), HI2, HH2, p6, h9, h10, BB⟩
    obtain rfl : j = k := by omega
    obtain rfl : gk = 0 := by omega
    have HO3 : Hid (o = if s = true then invO S ⟨natQ S l q, natQ S h q⟩ (q : Int) else .ok ⟨natQ S l q, natQ S h q⟩) := hyd (by rw [HO2.out, HI.out]; rfl)
    clear hg hj HG HI HO2
    obtain ⟨t0, k1, ya, r⟩ := mv BB rfl <| And.intro hT <| And.intro h1 <| And.intro X0 r
    have BB1 : Below w.heap.size w wr := BW.trans (BB.mono BW.size)
    replace BB := BB1
    clear BB1
    obtain ⟨a0, a1, a2⟩ := ya.held
    obtain ⟨y0, y1, y2⟩ := p6.held
    have hsg := sign_ok t0 k1 HD.out
    cases s with
    | true =>
     have hz : signD true x = (-1) := by unfold signD; rw [if_neg HX0.out]; rfl
     rw [hz] at hsg
     go_wp2_with fail
     refine hsg.mono ?_
     rintro en u3 ⟨rfl, b⟩
     clear a0 a1 a2 y0 y1 y2 k1 ya hsg
     replace BB := bnx BB b
     have G := mv b rfl (J5 t0 p6 h7 h8 r)
     clear b t0 p6 h7 h8 r
     obtain ⟨t0, p6, h7, h8, r⟩ := G
     obtain ⟨y0, y1, y2⟩ := p6.held
     obtain ⟨v, hv⟩ : ∃ v : Iv, v = ⟨natQ S l q, natQ S h q⟩ := ⟨_, rfl⟩
     have hbt := ebet_any S (q := q) t0 h7 h8 hq
     rw [← hv] at hbt
     have HO4 : Hid (o = invO S v (q : Int)) := hyd (HO3.out.trans (by rw [← hv]; first | exact if_pos rfl | exact if_pos trivial))
     clear hv
     go_wp2_with fail
     refine hbt.mono ?_
     rintro en u4 ⟨A11, n11, c11, A12, n12, c12, rfl, h11, h12, b⟩
     clear y0 y1 y2 hbt
     clear p6 h7 h8
     replace BB := bnx BB b
     have G := mv b rfl <| And.intro t0 <| r
     clear b t0 r
     obtain ⟨t0, r⟩ := G
     go_wp2_with fail
     refine (einv_run S (p := (q : Int)) t0 h11 h12).mono ?_
     rintro en u5 (⟨v2, hv2, A13, n13, c13, A14, n14, c14, rfl, h13, h14, b⟩ | ⟨kk, hk, hk0, rfl, b⟩)
     rotate_left
     ·replace BB := bnx BB b
      clear b
      have HKK := hyd (And.intro hk hk0)
      clear hk hk0
      go_wp2
      exact ⟨rfl, .inr ⟨kk, HO4.out.trans HKK.out.1, HKK.out.2, rfl, BB⟩⟩
     have HV := hyd (HO4.out.trans hv2)
     clear hv2
     clear t0 h11 h12
     replace BB := bnx BB b
     replace r := mv b rfl r
     clear b
     obtain ⟨f0, f1, f2, f3, f4, f5⟩ := r.open
     obtain ⟨z0, z1, z2, z3, z4, z5⟩ := r.held
     go_wp2
     exact ret6 rfl rfl rfl r h13 h14 BB (by omega) fun _ hN hM HB3 => (.inl ⟨v2, HV.out, _, _, _, _, _, _, rfl, hN, hM, HB3⟩)
    | false =>
     have hz : signD false x = 1 := by unfold signD; rw [if_neg HX0.out]; rfl
     rw [hz] at hsg
     go_wp2_with fail
     refine hsg.mono ?_
     rintro en u3 ⟨rfl, b⟩
     clear a0 a1 a2 y0 y1 y2 k1 ya hsg
     replace BB := bnx BB b
     have G := mv b rfl (J5 t0 p6 h7 h8 r)
     clear b t0 p6 h7 h8 r
     obtain ⟨t0, p6, h7, h8, r⟩ := G
     obtain ⟨y0, y1, y2⟩ := p6.held
     obtain ⟨v, hv⟩ : ∃ v : Iv, v = ⟨natQ S l q, natQ S h q⟩ := ⟨_, rfl⟩
     have hbt := ebet_any S (q := q) t0 h7 h8 hq
     rw [← hv] at hbt
     have HO4 : Hid (o = .ok v) := hyd (HO3.out.trans (by rw [← hv]; exact if_neg Bool.false_ne_true))
     clear hv
     go_wp2_with fail
     refine hbt.mono ?_
     rintro en u4 ⟨A11, n11, c11, A12, n12, c12, rfl, h11, h12, b⟩
     clear y0 y1 y2 hbt
     clear p6 h7 h8
     replace BB := bnx BB b
     have G := mv b rfl <| And.intro t0 <| r
     clear b t0 r
     obtain ⟨t0, r⟩ := G
     obtain ⟨f0, f1, f2, f3, f4, f5⟩ := r.open
     obtain ⟨z0, z1, z2, z3, z4, z5⟩ := r.held
     go_wp2
     exact ret6 rfl rfl rfl r h11 h12 BB (by omega) fun _ hN hM HB3 => (.inl ⟨v, HO4.out, _, _, _, _, _, _, rfl, hN, hM, HB3⟩)
end Go.Proofs.YtehfdfjpmmpndaaGreatDoor
