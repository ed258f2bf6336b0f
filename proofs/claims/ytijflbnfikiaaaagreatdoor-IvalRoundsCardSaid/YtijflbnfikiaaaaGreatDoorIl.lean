/-
  Contracts of ival's Width and Mid with an answer that is known, and of the statements' own Few and same, at this translation. Condition: the slices read as limbs, the table of math/bits reads as its text lays it.
-/
import Derived.Test.YtijflbnfikiaaaaGreatDoorIi
import Derived.Test.YtijflbnfikiaaaaGreatDoorRt
namespace Go.Proofs.YtijflbnfikiaaaaGreatDoor
open Go.RowKit

/-- a known answer -/
def IsD (s : Bool) (m : Nat) (e : Int) (k' : Int) (s' : Bool) (m' : Nat) (e' : Int) : Prop := k' = 0 ∧ s' = s ∧ m' = m ∧ e' = e
def Rw.of (s : Bool) (m : Nat) (e : Int) : Rw := ⟨s, dig Go.Proofs.YtijflbnfikiaaaaGreatDoor.W m, e, (can_dig W_two m).1⟩
theorem Rw.of_may {s : Bool} {m : Nat} {e : Int} (h : OkD s m e) : (Rw.of s m e).may = true := mayD_ok h
theorem Rw.of_v {K : Nat} {s : Bool} {m : Nat} {e : Int} : (Rw.of s m e).v K = vz K s m e := by
  unfold Rw.of Rw.v
  rw [val_dig W_two]
theorem okd_1 : OkD false 1 0 := okd_small rfl (by omega) (by decide) (by decide)
theorem okd_3 : OkD false 3 0 := okd_small rfl (by omega) (by decide) (by decide)
theorem vz_1 (K m : Nat) : vz K false m 0 = (m : Int) * ((2 ^ K : Nat) : Int) := by
  unfold vz sg
  have e1 : ((0 : Int) + (K : Int)).toNat = K := by omega
  rw [e1, if_neg Bool.false_ne_true, Int.one_mul, Int.natCast_mul]
theorem vz_2 (K m j : Nat) : vz K false m (j : Int) = ((m * 2 ^ j : Nat) : Int) * ((2 ^ K : Nat) : Int) := by
  have h := vz_up (K := K) (s := false) (m := m) (e := 0) (by omega) j
  rw [Int.zero_add] at h
  rw [h, vz_1]
/-- 1, 3, and the interval from 1 to 3 -/
def q1 : Rw := Rw.of false 1 0
def q3 : Rw := Rw.of false 3 0
theorem q1_may : q1.may = true := Rw.of_may okd_1
theorem q3_may : q3.may = true := Rw.of_may okd_3
theorem q_vals (K : Nat) : q1.v K < q3.v K := by
  unfold q1 q3
  rw [Rw.of_v, Rw.of_v, vz_1, vz_1]
  have := pow_pos2 K
  generalize 2 ^ K = P at *
  omega
theorem may_13 (K : Nat) : mayI K ⟨q1, q3⟩ = true := mayI_iff.2 ⟨q1_may, q3_may, Int.le_of_lt (q_vals K)⟩
theorem may_31 (K : Nat) : mayI K ⟨q3, q1⟩ = false := Bool.eq_false_iff.2 fun h => by
  have h1 := (mayI_iff.1 h).2.2
  have h2 := q_vals K
  have h3 : q3.v K ≤ q1.v K := h1
  omega
theorem meet_13 (K : Nat) : meetQ K ⟨q1, q1⟩ ⟨q3, q3⟩ = ⟨q3, q1⟩ := by
  have h1 : cmpQ K q1 q3 < 0 := (cmpQ_lt q1_may q3_may).2 (q_vals K)
  unfold meetQ furQ
  rw [decide_eq_true h1]
  rfl
theorem meetK_13 (K : Nat) : meetK K ⟨q1, q1⟩ ⟨q3, q3⟩ = 5 := by
  unfold meetK
  rw [if_pos ⟨mayI_point q1_may, mayI_point q3_may⟩, meet_13, may_31, if_neg Bool.false_ne_true]
theorem has_13 (K : Nat) : hasI K ⟨q1, q3⟩ q1 = true := hasI_iff.2 ⟨may_13 K, q1_may, Int.le_refl _, Int.le_of_lt (q_vals K)⟩
theorem within_13 (K : Nat) : withinI K ⟨q3, q3⟩ ⟨q1, q3⟩ = true := withinI_iff.2 ⟨mayI_point q3_may, may_13 K, Int.le_of_lt (q_vals K), Int.le_refl _⟩
theorem inside_13 (K : Nat) : insideI K ⟨q3, q3⟩ ⟨q1, q3⟩ = false := Bool.eq_false_iff.2 fun h => by
  have h1 : q3.v K < q3.v K := (insideI_iff.1 h).2.2.2
  omega
theorem mayI_zero (K : Nat) : mayI K Iv.zero = true := mayI_point Rw.zero_may
theorem sub_13 {K : Nat} (hK : 4194304 ≤ K) (k : Int) (s : Bool) (m : Nat) (e : Int) (h : subR K q3.s q3.l q3.e q1.s q1.l q1.e k s m e) : k = 0 ∧ s = false ∧ m = 1 ∧ e = 1 := by
  unfold subR at h
  rw [if_pos ⟨q3_may, q1_may⟩] at h
  have hv : vz K false 1 1 = vz K q3.s (val Go.Proofs.YtijflbnfikiaaaaGreatDoor.W q3.l) q3.e - vz K q1.s (val Go.Proofs.YtijflbnfikiaaaaGreatDoor.W q1.l) q1.e := by
    show _ = q3.v K - q1.v K
    unfold q1 q3
    rw [Rw.of_v, Rw.of_v, vz_1, vz_1]
    have := vz_2 K 1 1
    have e1 : ((1 : Nat) : Int) = 1 := rfl
    rw [e1] at this
    rw [this]
    generalize 2 ^ K = P
    omega
  obtain ⟨h1, h2, h3, h4⟩ := nmv_hit hK h (okd_small (m := 1) (e := 1) rfl (by omega) (by decide) (by decide)) hv
  exact ⟨h1, h2, h3, h4⟩
theorem add_13 {K : Nat} (hK : 4194304 ≤ K) (k : Int) (s : Bool) (m : Nat) (e : Int) (h : addR K q1.s q1.l q1.e q3.s q3.l q3.e k s m e) : k = 0 ∧ s = false ∧ m = 1 ∧ e = 2 := by
  unfold addR at h
  rw [if_pos ⟨q1_may, q3_may⟩] at h
  have hv : vz K false 1 2 = vz K q1.s (val Go.Proofs.YtijflbnfikiaaaaGreatDoor.W q1.l) q1.e + vz K q3.s (val Go.Proofs.YtijflbnfikiaaaaGreatDoor.W q3.l) q3.e := by
    show _ = q1.v K + q3.v K
    unfold q1 q3
    rw [Rw.of_v, Rw.of_v, vz_1, vz_1]
    have := vz_2 K 1 2
    have e1 : ((2 : Nat) : Int) = 2 := rfl
    rw [e1] at this
    rw [this]
    generalize 2 ^ K = P
    omega
  obtain ⟨h1, h2, h3, h4⟩ := nmv_hit hK h (okd_small (m := 1) (e := 2) rfl (by omega) (by decide) (by decide)) hv
  exact ⟨h1, h2, h3, h4⟩

theorem told_is' {f : FuncId} {args : Array Value} {P : Int → Bool → Nat → Int → Prop} {w : World} {s : Bool} {m : Nat} {e k : Int} (h : Calls Tryz.prog f args w (Tells P w)) (hP : ∀ k1 s1 m1 e1, P k1 s1 m1 e1 → k1 = k ∧ s1 = s ∧ m1 = m ∧ e1 = e) : Calls Tryz.prog f args w (ToldIs s m e k w) := h.mono fun _ _ h => told_is h hP

set_option maxRecDepth 100000 in
set_option maxHeartbeats 8000000 in
theorem half_ok {w : World} {A1 : Option Addr} {n1 c1 m : Nat} {s : Bool} {e : Int} (hT : Tab w) (h1 : Nt w A1 n1 c1 m) (hd : OkD s m e) (hx : m ≠ 0) (he : -1048576 ≤ -1 + e) (he' : -1 + e ≤ 1048576) :
    Calls Tryz.prog 63 #[.agg #[.bool s, .slice A1 n1 c1, .int .i64 e]] w (Goods s m (-1 + e) w) := by
  have BB := two_below w (.cells #[.bool s, .slice A1 n1 c1, .int .i64 e] 24) (.cells #[.bool false, .slice none 0 0, .int .i64 0] 24)
  obtain ⟨a10, a11, a12⟩ := ((Box.new w s A1 n1 c1 e).alloc (.cells #[.bool false, .slice none 0 0, .int .i64 0] 24)).held
  have r := box_one w (.cells #[.bool s, .slice A1 n1 c1, .int .i64 e] 24) false none 0 0 0
  have G := mv BB rfl <| And.intro hT <| h1
  clear hT h1
  obtain ⟨hT, h1⟩ := G
  have HD := Lib.hid hd
  have HX := Lib.hid hx
  have HE := Lib.hid (And.intro he he')
  clear hd hx he he'
  go_enter Tryz.func63, Tryz.ntmps63
  go_wp2_with fail
  refine (told_is' (dshift_ok (p := -1) hT h1 HD.out) (fun k s' m' e' hs => by
    rcases hs with ⟨h, _⟩ | ⟨_, _, h1, h2, h3, h4⟩ | ⟨_, h, _⟩
    · exact absurd h HX.out
    · exact ⟨h1, h2, h3, h4⟩
    · exact absurd (And.intro HE.out.1 HE.out.2) h)).mono ?_
  rintro en w1 ⟨A3, n3, c3, rfl, h3, b⟩
  clear h1
  replace BB := below_next BB BB.size b rfl rfl rfl rfl
  have G := mv b rfl <| And.intro a10 <| And.intro a11 <| And.intro a12 <| And.intro hT <| r
  clear b a10 a11 a12 hT r
  obtain ⟨a10, a11, a12, hT, r⟩ := G
  go_wp2_with fail
  refine (must_ok h3).mono ?_
  rintro en w2 ⟨A5, n5, c5, rfl, h5, b⟩
  clear h3
  replace BB := below_next BB BB.size b rfl rfl rfl rfl
  have G := mv b rfl <| And.intro a10 <| And.intro a11 <| And.intro a12 <| And.intro hT <| r
  clear b a10 a11 a12 hT r
  obtain ⟨a10, a11, a12, hT, r⟩ := G
  obtain ⟨f0, f1, f2⟩ := r.open
  obtain ⟨z0, z1, z2⟩ := r.held
  go_wp2
  have qq := r.put s A5 n5 c5 (-1 + e)
  have hN := h5.put3 r (.bool s) (.slice A5 n5 c5) (.int .i64 (-1 + e))
  have HB3 := below_put3 (g := w.heap.size + 1) BB (by omega) (.bool s) (.slice A5 n5 c5) (.int .i64 (-1 + e))
  obtain ⟨z0, z1, z2⟩ := qq.held
  exact bodyPost_ret (v := .agg #[.bool s, .slice A5 n5 c5, .int .i64 (-1 + e)]) (by simp [results, Tryz.results63, go_sem, z0, z1, z2]) rfl ⟨_, _, _, rfl, hN, HB3⟩

set_option maxRecDepth 100000 in
set_option maxHeartbeats 8000000 in
theorem width1_is {w : World} {K g : Nat} {x : Iv} {A1 : Option Addr} {n1 c1 : Nat} {A2 : Option Addr} {n2 c2 : Nat} {s0 : Bool} {m0 : Nat} {e0 : Int} (hK : 4194304 ≤ K) (hT : Tab w) (h1 : Rd w .u64 Go.Proofs.YtijflbnfikiaaaaGreatDoor.W A1 n1 c1 x.lo.l) (h2 : Rd w .u64 Go.Proofs.YtijflbnfikiaaaaGreatDoor.W A2 n2 c2 x.hi.l) (hm : mayI K x = true) (xa : Ibx w g x.lo.s A1 n1 c1 x.lo.e x.hi.s A2 n2 c2 x.hi.e) (hs : ∀ k s m e, subR K x.hi.s x.hi.l x.hi.e x.lo.s x.lo.l x.lo.e k s m e → k = 0 ∧ s = s0 ∧ m = m0 ∧ e = e0) :
    Calls Tryz.prog 64 #[.pointer (some ⟨g, 0, none⟩)] w (Ran (IsD s0 m0 e0) w) := by
  have BB := below_alloc w (.cells #[.bool false, .slice none 0 0, .int .i64 0] 24)
  have la := xa.gl
  have r := Box.new w false none 0 0 0
  have G := mv BB rfl <| And.intro hT <| And.intro h1 <| And.intro h2 <| xa
  clear hT h1 h2 xa
  obtain ⟨hT, h1, h2, xa⟩ := G
  obtain ⟨a0, a1, a2, a3, a4, a5⟩ := xa.held
  have rw1 := rows_one (w := (w.alloc (.cells #[.bool false, .slice none 0 0, .int .i64 0] 24))) (g := w.heap.size + 1) (by simp) h1 h2
  have b := below_alloc (w.alloc (.cells #[.bool false, .slice none 0 0, .int .i64 0] 24)) (.cells #[.bool x.lo.s, .slice A1 n1 c1, .int .i64 x.lo.e, .bool x.hi.s, .slice A2 n2 c2, .int .i64 x.hi.e] 26)
  replace BB := below_next BB BB.size b rfl rfl rfl rfl
  have G := mv b rfl <| And.intro hT <| And.intro h1 <| And.intro h2 <| And.intro xa <| r
  clear b hT h1 h2 xa r
  obtain ⟨hT, h1, h2, xa, r⟩ := G
  have HM := Lib.hid hm
  have HK := Lib.hid hK
  have HS := Lib.hid hs
  clear hm hK hs
  go_enter Tryz.func64, Tryz.ntmps64
  go_wp2_with fail
  refine (icheck_all HK.out hT rw1 (by omega) (one_may.2 HM.out)).mono ?_
  rintro en w1 ⟨rfl, b⟩
  clear rw1
  clear a0 a1 a2 a3 a4 a5
  replace BB := below_next BB BB.size b rfl rfl rfl rfl
  have G := mv b rfl <| And.intro hT <| And.intro h1 <| And.intro h2 <| And.intro xa <| r
  clear b hT h1 h2 xa r
  obtain ⟨hT, h1, h2, xa, r⟩ := G
  obtain ⟨a0, a1, a2, a3, a4, a5⟩ := xa.held
  clear xa HM
  go_wp2_with fail
  refine (told_is' (dsub_raw (K := K) (s1 := x.hi.s) (e1 := x.hi.e) (s2 := x.lo.s) (e2 := x.lo.e) HK.out hT h2 h1) HS.out).mono ?_
  rintro en w2 ⟨A3, n3, c3, rfl, h3, b⟩
  clear h1 h2
  replace BB := below_next BB BB.size b rfl rfl rfl rfl
  have G := mv b rfl <| And.intro hT <| And.intro r <| And.intro a0 <| And.intro a1 <| And.intro a2 <| And.intro a3 <| And.intro a4 <| a5
  clear b hT r a0 a1 a2 a3 a4 a5
  obtain ⟨hT, r, a0, a1, a2, a3, a4, a5⟩ := G
  clear HK HS
  go_wp2_with fail
  refine (must_ok h3).mono ?_
  rintro en w3 ⟨A5, n5, c5, rfl, h5, b⟩
  clear h3
  replace BB := below_next BB BB.size b rfl rfl rfl rfl
  have G := mv b rfl <| And.intro hT <| And.intro r <| And.intro a0 <| And.intro a1 <| And.intro a2 <| And.intro a3 <| And.intro a4 <| a5
  clear b hT r a0 a1 a2 a3 a4 a5
  obtain ⟨hT, r, a0, a1, a2, a3, a4, a5⟩ := G
  obtain ⟨f0, f1, f2⟩ := r.open
  obtain ⟨z0, z1, z2⟩ := r.held
  go_wp2
  have qq := r.put s0 A5 n5 c5 e0
  have hN := h5.put3 r (.bool s0) (.slice A5 n5 c5) (.int .i64 e0)
  have HB3 := below_put3 (g := w.heap.size) BB (by omega) (.bool s0) (.slice A5 n5 c5) (.int .i64 e0)
  obtain ⟨z0, z1, z2⟩ := qq.held
  exact bodyPost_ret (v := .agg #[.bool s0, .slice A5 n5 c5, .int .i64 e0]) (by simp [results, Tryz.results64, go_sem, z0, z1, z2]) rfl (.inl ⟨_, _, _, _, _, _, rfl, ⟨rfl, rfl, rfl, rfl⟩, hN, HB3⟩)

set_option maxRecDepth 100000 in
set_option maxHeartbeats 8000000 in
theorem mid1_is {w : World} {K g : Nat} {x : Iv} {A1 : Option Addr} {n1 c1 : Nat} {A2 : Option Addr} {n2 c2 : Nat} {s0 : Bool} {m0 : Nat} {e0 : Int} (hK : 4194304 ≤ K) (hT : Tab w) (h1 : Rd w .u64 Go.Proofs.YtijflbnfikiaaaaGreatDoor.W A1 n1 c1 x.lo.l) (h2 : Rd w .u64 Go.Proofs.YtijflbnfikiaaaaGreatDoor.W A2 n2 c2 x.hi.l) (hm : mayI K x = true) (xa : Ibx w g x.lo.s A1 n1 c1 x.lo.e x.hi.s A2 n2 c2 x.hi.e) {e1 : Int} (hs : ∀ k s m e, addR K x.lo.s x.lo.l x.lo.e x.hi.s x.hi.l x.hi.e k s m e → k = 0 ∧ s = s0 ∧ m = m0 ∧ e = e1) (hd : OkD s0 m0 e1) (hx : m0 ≠ 0) (he0 : -1 + e1 = e0) (he : -1048576 ≤ e0) (he' : e0 ≤ 1048576) :
    Calls Tryz.prog 61 #[.pointer (some ⟨g, 0, none⟩)] w (Ran (IsD s0 m0 e0) w) := by
  have HD := Lib.hid hd
  have HX := Lib.hid hx
  have HE := Lib.hid (And.intro he0 <| And.intro he he')
  clear hd hx he0 he he'
  have BB := below_alloc w (.cells #[.bool false, .slice none 0 0, .int .i64 0] 24)
  have la := xa.gl
  have r := Box.new w false none 0 0 0
  have G := mv BB rfl <| And.intro hT <| And.intro h1 <| And.intro h2 <| xa
  clear hT h1 h2 xa
  obtain ⟨hT, h1, h2, xa⟩ := G
  obtain ⟨a0, a1, a2, a3, a4, a5⟩ := xa.held
  have rw1 := rows_one (w := (w.alloc (.cells #[.bool false, .slice none 0 0, .int .i64 0] 24))) (g := w.heap.size + 1) (by simp) h1 h2
  have b := below_alloc (w.alloc (.cells #[.bool false, .slice none 0 0, .int .i64 0] 24)) (.cells #[.bool x.lo.s, .slice A1 n1 c1, .int .i64 x.lo.e, .bool x.hi.s, .slice A2 n2 c2, .int .i64 x.hi.e] 26)
  replace BB := below_next BB BB.size b rfl rfl rfl rfl
  have G := mv b rfl <| And.intro hT <| And.intro h1 <| And.intro h2 <| And.intro xa <| r
  clear b hT h1 h2 xa r
  obtain ⟨hT, h1, h2, xa, r⟩ := G
  have HM := Lib.hid hm
  have HK := Lib.hid hK
  have HS := Lib.hid hs
  clear hm hK hs
  go_enter Tryz.func61, Tryz.ntmps61
  go_wp2_with fail
  refine (icheck_all HK.out hT rw1 (by omega) (one_may.2 HM.out)).mono ?_
  rintro en w1 ⟨rfl, b⟩
  clear rw1
  clear a0 a1 a2 a3 a4 a5
  replace BB := below_next BB BB.size b rfl rfl rfl rfl
  have G := mv b rfl <| And.intro hT <| And.intro h1 <| And.intro h2 <| And.intro xa <| r
  clear b hT h1 h2 xa r
  obtain ⟨hT, h1, h2, xa, r⟩ := G
  obtain ⟨a0, a1, a2, a3, a4, a5⟩ := xa.held
  clear xa HM
  go_wp2_with fail
  refine (told_is' (dadd_raw (K := K) (s1 := x.lo.s) (e1 := x.lo.e) (s2 := x.hi.s) (e2 := x.hi.e) HK.out hT h1 h2) HS.out).mono ?_
  rintro en w2 ⟨A3, n3, c3, rfl, h3, b⟩
  clear h1 h2
  replace BB := below_next BB BB.size b rfl rfl rfl rfl
  have G := mv b rfl <| And.intro hT <| And.intro r <| And.intro a0 <| And.intro a1 <| And.intro a2 <| And.intro a3 <| And.intro a4 <| a5
  clear b hT r a0 a1 a2 a3 a4 a5
  obtain ⟨hT, r, a0, a1, a2, a3, a4, a5⟩ := G
  clear HK HS
  obtain ⟨b0, b1, b2⟩ := (Box.new w2 s0 A3 n3 c3 e1).held
  have b := below_alloc w2 (.cells #[.bool s0, .slice A3 n3 c3, .int .i64 e1] 24)
  replace BB := below_next BB BB.size b rfl rfl rfl rfl
  have G := mv b rfl <| And.intro hT <| And.intro r <| And.intro a0 <| And.intro a1 <| And.intro a2 <| And.intro a3 <| And.intro a4 <| And.intro a5 <| h3
  clear b hT r a0 a1 a2 a3 a4 a5 h3
  obtain ⟨hT, r, a0, a1, a2, a3, a4, a5, h3⟩ := G
  go_wp2_with fail
  refine (must_ok h3).mono ?_
  rintro en w3 ⟨A4, n4, c4, rfl, h4, b⟩
  clear h3
  replace BB := below_next BB BB.size b rfl rfl rfl rfl
  have G := mv b rfl <| And.intro hT <| And.intro r <| And.intro a0 <| And.intro a1 <| And.intro a2 <| And.intro a3 <| And.intro a4 <| And.intro a5 <| And.intro b0 <| And.intro b1 <| b2
  clear b hT r a0 a1 a2 a3 a4 a5 b0 b1 b2
  obtain ⟨hT, r, a0, a1, a2, a3, a4, a5, b0, b1, b2⟩ := G
  go_wp2_with fail
  refine (half_ok hT h4 HD.out HX.out (by rw [HE.out.1]; exact HE.out.2.1) (by rw [HE.out.1]; exact HE.out.2.2)).mono ?_
  rintro en w4 ⟨A5, n5, c5, rfl, h5, b⟩
  rw [HE.out.1]
  clear h4
  replace BB := below_next BB BB.size b rfl rfl rfl rfl
  have G := mv b rfl <| And.intro hT <| And.intro r <| And.intro a0 <| And.intro a1 <| And.intro a2 <| And.intro a3 <| And.intro a4 <| And.intro a5 <| And.intro b0 <| And.intro b1 <| b2
  clear b hT r a0 a1 a2 a3 a4 a5 b0 b1 b2
  obtain ⟨hT, r, a0, a1, a2, a3, a4, a5, b0, b1, b2⟩ := G
  obtain ⟨f0, f1, f2⟩ := r.open
  obtain ⟨z0, z1, z2⟩ := r.held
  go_wp2
  have qq := r.put s0 A5 n5 c5 e0
  have hN := h5.put3 r (.bool s0) (.slice A5 n5 c5) (.int .i64 e0)
  have HB3 := below_put3 (g := w.heap.size) BB (by omega) (.bool s0) (.slice A5 n5 c5) (.int .i64 e0)
  obtain ⟨z0, z1, z2⟩ := qq.held
  exact bodyPost_ret (v := .agg #[.bool s0, .slice A5 n5 c5, .int .i64 e0]) (by simp [results, Tryz.results61, go_sem, z0, z1, z2]) rfl (.inl ⟨_, _, _, _, _, _, rfl, ⟨rfl, rfl, rfl, rfl⟩, hN, HB3⟩)

set_option maxRecDepth 100000 in
set_option maxHeartbeats 8000000 in
theorem iwidth_is {w : World} {K : Nat} {x : Iv} {A1 : Option Addr} {n1 c1 : Nat} {A2 : Option Addr} {n2 c2 : Nat} {s0 : Bool} {m0 : Nat} {e0 : Int} (hK : 4194304 ≤ K) (hT : Tab w) (h1 : Rd w .u64 Go.Proofs.YtijflbnfikiaaaaGreatDoor.W A1 n1 c1 x.lo.l) (h2 : Rd w .u64 Go.Proofs.YtijflbnfikiaaaaGreatDoor.W A2 n2 c2 x.hi.l) (hm : mayI K x = true) (hs : ∀ k s m e, subR K x.hi.s x.hi.l x.hi.e x.lo.s x.lo.l x.lo.e k s m e → k = 0 ∧ s = s0 ∧ m = m0 ∧ e = e0) :
    Calls Tryz.prog 29 #[.agg #[.bool x.lo.s, .slice A1 n1 c1, .int .i64 x.lo.e, .bool x.hi.s, .slice A2 n2 c2, .int .i64 x.hi.e]] w (ToldIs s0 m0 e0 0 w) := by
  have BB := two_below w (.cells #[.bool x.lo.s, .slice A1 n1 c1, .int .i64 x.lo.e, .bool x.hi.s, .slice A2 n2 c2, .int .i64 x.hi.e] 26) (.cells #[.bool false, .slice none 0 0, .int .i64 0] 24)
  have xa := (Ibx.new w x.lo.s A1 n1 c1 x.lo.e x.hi.s A2 n2 c2 x.hi.e).alloc (.cells #[.bool false, .slice none 0 0, .int .i64 0] 24)
  have r := box_one w (.cells #[.bool x.lo.s, .slice A1 n1 c1, .int .i64 x.lo.e, .bool x.hi.s, .slice A2 n2 c2, .int .i64 x.hi.e] 26) false none 0 0 0
  have hmf := make_func
  have G := mv BB rfl <| And.intro hT <| And.intro h1 <| h2
  clear hT h1 h2
  obtain ⟨hT, h1, h2⟩ := G
  go_enter Tryz.func29, Tryz.ntmps29
  go_wp2_with fail
  refine (told_face (P := IsD s0 m0 e0) (fun _ => by kernel_rfl) (fun W2 hw => ?_)).mono ?_
  · subst hw
    have b2 := two_below ((w.alloc (.cells #[.bool x.lo.s, .slice A1 n1 c1, .int .i64 x.lo.e, .bool x.hi.s, .slice A2 n2 c2, .int .i64 x.hi.e] 26)).alloc (.cells #[.bool false, .slice none 0 0, .int .i64 0] 24)) (.cells #[.bool false, .slice none 0 0, .int .i64 0] 24) (.cells #[.int .i64 0] 3)
    exact width1_is hK (mv b2 rfl hT) (mv b2 rfl h1) (mv b2 rfl h2) hm (mv b2 rfl xa) hs
  rintro en w5 ⟨k, s', A5, n5, c5, m', e', rfl, ⟨rfl, rfl, rfl, rfl⟩, h5, b⟩
  clear hT h1 h2 xa
  replace BB := below_next BB BB.size b rfl rfl rfl rfl
  replace r := mv b rfl r
  clear b
  obtain ⟨f0, f1, f2⟩ := r.open
  obtain ⟨z0, z1, z2⟩ := r.held
  go_wp2
  have qq := r.put s' A5 n5 c5 e'
  have hN := h5.put3 r (.bool s') (.slice A5 n5 c5) (.int .i64 e')
  have HB3 := below_put3 (g := w.heap.size + 1) BB (by omega) (.bool s') (.slice A5 n5 c5) (.int .i64 e')
  obtain ⟨z0, z1, z2⟩ := qq.held
  exact bodyPost_ret (v := .tuple #[.agg #[.bool s', .slice A5 n5 c5, .int .i64 e'], .int .i64 0]) (by simp [results, Tryz.results29, go_sem, z0, z1, z2]) rfl ⟨_, _, _, rfl, hN, HB3⟩

set_option maxRecDepth 100000 in
set_option maxHeartbeats 8000000 in
theorem imid_is {w : World} {K : Nat} {x : Iv} {A1 : Option Addr} {n1 c1 : Nat} {A2 : Option Addr} {n2 c2 : Nat} {s0 : Bool} {m0 : Nat} {e0 : Int} (hK : 4194304 ≤ K) (hT : Tab w) (h1 : Rd w .u64 Go.Proofs.YtijflbnfikiaaaaGreatDoor.W A1 n1 c1 x.lo.l) (h2 : Rd w .u64 Go.Proofs.YtijflbnfikiaaaaGreatDoor.W A2 n2 c2 x.hi.l) (hm : mayI K x = true) {e1 : Int} (hs : ∀ k s m e, addR K x.lo.s x.lo.l x.lo.e x.hi.s x.hi.l x.hi.e k s m e → k = 0 ∧ s = s0 ∧ m = m0 ∧ e = e1) (hd : OkD s0 m0 e1) (hx : m0 ≠ 0) (he0 : -1 + e1 = e0) (he : -1048576 ≤ e0) (he' : e0 ≤ 1048576) :
    Calls Tryz.prog 28 #[.agg #[.bool x.lo.s, .slice A1 n1 c1, .int .i64 x.lo.e, .bool x.hi.s, .slice A2 n2 c2, .int .i64 x.hi.e]] w (ToldIs s0 m0 e0 0 w) := by
  have BB := two_below w (.cells #[.bool x.lo.s, .slice A1 n1 c1, .int .i64 x.lo.e, .bool x.hi.s, .slice A2 n2 c2, .int .i64 x.hi.e] 26) (.cells #[.bool false, .slice none 0 0, .int .i64 0] 24)
  have xa := (Ibx.new w x.lo.s A1 n1 c1 x.lo.e x.hi.s A2 n2 c2 x.hi.e).alloc (.cells #[.bool false, .slice none 0 0, .int .i64 0] 24)
  have r := box_one w (.cells #[.bool x.lo.s, .slice A1 n1 c1, .int .i64 x.lo.e, .bool x.hi.s, .slice A2 n2 c2, .int .i64 x.hi.e] 26) false none 0 0 0
  have hmf := make_func
  have G := mv BB rfl <| And.intro hT <| And.intro h1 <| h2
  clear hT h1 h2
  obtain ⟨hT, h1, h2⟩ := G
  go_enter Tryz.func28, Tryz.ntmps28
  go_wp2_with fail
  refine (told_face (P := IsD s0 m0 e0) (fun _ => by kernel_rfl) (fun W2 hw => ?_)).mono ?_
  · subst hw
    have b2 := two_below ((w.alloc (.cells #[.bool x.lo.s, .slice A1 n1 c1, .int .i64 x.lo.e, .bool x.hi.s, .slice A2 n2 c2, .int .i64 x.hi.e] 26)).alloc (.cells #[.bool false, .slice none 0 0, .int .i64 0] 24)) (.cells #[.bool false, .slice none 0 0, .int .i64 0] 24) (.cells #[.int .i64 0] 3)
    exact mid1_is hK (mv b2 rfl hT) (mv b2 rfl h1) (mv b2 rfl h2) hm (mv b2 rfl xa) hs hd hx he0 he he'
  rintro en w5 ⟨k, s', A5, n5, c5, m', e', rfl, ⟨rfl, rfl, rfl, rfl⟩, h5, b⟩
  clear hT h1 h2 xa
  replace BB := below_next BB BB.size b rfl rfl rfl rfl
  replace r := mv b rfl r
  clear b
  obtain ⟨f0, f1, f2⟩ := r.open
  obtain ⟨z0, z1, z2⟩ := r.held
  go_wp2
  have qq := r.put s' A5 n5 c5 e'
  have hN := h5.put3 r (.bool s') (.slice A5 n5 c5) (.int .i64 e')
  have HB3 := below_put3 (g := w.heap.size + 1) BB (by omega) (.bool s') (.slice A5 n5 c5) (.int .i64 e')
  obtain ⟨z0, z1, z2⟩ := qq.held
  exact bodyPost_ret (v := .tuple #[.agg #[.bool s', .slice A5 n5 c5, .int .i64 e'], .int .i64 0]) (by simp [results, Tryz.results28, go_sem, z0, z1, z2]) rfl ⟨_, _, _, rfl, hN, HB3⟩

set_option maxRecDepth 100000 in
set_option maxHeartbeats 8000000 in
theorem few5_any {w : World} {x : Iv} {A1 : Option Addr} {n1 c1 : Nat} {A2 : Option Addr} {n2 c2 : Nat} (hn : n1 ≤ 9223372036854775807) (hm : n2 ≤ 9223372036854775807) :
    Calls Tryz.prog 5 #[.agg #[.bool x.lo.s, .slice A1 n1 c1, .int .i64 x.lo.e, .bool x.hi.s, .slice A2 n2 c2, .int .i64 x.hi.e]] w (Bools (decide (n1 ≤ 70) && decide (n2 ≤ 70)) w) := by
  obtain ⟨p1, hp1⟩ : ∃ p, p = decide (n1 ≤ 70) := ⟨_, rfl⟩
  obtain ⟨p2, hp2⟩ : ∃ p, p = decide (n2 ≤ 70) := ⟨_, rfl⟩
  have HP1 := Lib.hid hp1
  have HP2 := Lib.hid hp2
  rw [← hp1, ← hp2]
  clear hp1 hp2
  have BB := below_alloc w (.cells #[.bool x.lo.s, .slice A1 n1 c1, .int .i64 x.lo.e, .bool x.hi.s, .slice A2 n2 c2, .int .i64 x.hi.e] 26)
  obtain ⟨a0, a1, a2, a3, a4, a5⟩ := (Ibx.new w x.lo.s A1 n1 c1 x.lo.e x.hi.s A2 n2 c2 x.hi.e).held
  go_enter Tryz.func5, Tryz.ntmps5
  go_wp2_with fail
  refine (dfew_any (s := x.lo.s) (e := x.lo.e) hn).mono ?_
  rintro en w1 ⟨rfl, b⟩
  rw [← HP1.out]
  clear HP1
  replace BB := below_next BB BB.size b rfl rfl rfl rfl
  have G := mv b rfl <| And.intro a0 <| And.intro a1 <| And.intro a2 <| And.intro a3 <| And.intro a4 <| a5
  clear b a0 a1 a2 a3 a4 a5
  obtain ⟨a0, a1, a2, a3, a4, a5⟩ := G
  cases p1
  · go_wp2
    go_ret
    exact ⟨by first | rfl | simp, BB⟩
  go_wp2_with fail
  refine (dfew_any (s := x.hi.s) (e := x.hi.e) hm).mono ?_
  rintro en w2 ⟨rfl, b⟩
  rw [← HP2.out]
  clear HP2
  replace BB := below_next BB BB.size b rfl rfl rfl rfl
  have G := mv b rfl <| And.intro a0 <| And.intro a1 <| And.intro a2 <| And.intro a3 <| And.intro a4 <| a5
  clear b a0 a1 a2 a3 a4 a5
  obtain ⟨a0, a1, a2, a3, a4, a5⟩ := G
  go_wp2
  go_ret
  exact ⟨by first | rfl | simp, BB⟩

end Go.Proofs.YtijflbnfikiaaaaGreatDoor
