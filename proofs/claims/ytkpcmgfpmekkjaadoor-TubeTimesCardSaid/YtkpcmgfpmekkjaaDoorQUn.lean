/-
  Contract of tube's Halve, where each middle is told, at this translation. Condition: the slices read as limbs, the table of math/bits reads as its text lays it.
-/
import Derived.StillTailTactics
import Derived.Deep.CutBlock
import Derived.Test.YtkpcmgfpmekkjaaDoorQUk
import Derived.Test.YtkpcmgfpmekkjaaDoorQUl
import Derived.Test.YtkpcmgfpmekkjaaDoorQUd
import Derived.Test.YtkpcmgfpmekkjaaDoorQHc
namespace Go.Proofs.YtkpcmgfpmekkjaaDoor
open Go.RowKit


/-- what Mid tells of an interval -/
structure MidT (x : Iv) (k : Int) (d : Rw) : Prop where
  is : ∀ {W : World} {A1 : Option Addr} {n1 c1 : Nat} {A2 : Option Addr} {n2 c2 : Nat}, Tab W → Rd W .u64 Go.Proofs.YtkpcmgfpmekkjaaDoor.W A1 n1 c1 x.lo.l → Rd W .u64 Go.Proofs.YtkpcmgfpmekkjaaDoor.W A2 n2 c2 x.hi.l → Calls Tryd.prog 42 #[.agg #[.bool x.lo.s, .slice A1 n1 c1, .int .i64 x.lo.e, .bool x.hi.s, .slice A2 n2 c2, .int .i64 x.hi.e]] W (TellD k d W)
def halT (a : Tb) (M : Nat → Rw) : Nat → List Rw
  | 0 => [a.T 0]
  | i + 1 => halT a M i ++ [M i, a.T (i + 1)]
def halV (a : Tb) : Nat → List Iv
  | 0 => []
  | i + 1 => halV a i ++ [a.V i, a.V i]
section
variable {a : Tb} {M : Nat → Rw}
theorem halT_len : ∀ {i : Nat}, (halT a M i).length = 2 * i + 1
  | 0 => rfl
  | i + 1 => by
    show (halT a M i ++ [M i, a.T (i + 1)]).length = _
    rw [List.length_append, halT_len]; simp; omega
theorem halV_len : ∀ {i : Nat}, (halV a i).length = 2 * i
  | 0 => rfl
  | i + 1 => by
    show (halV a i ++ [a.V i, a.V i]).length = _
    rw [List.length_append, halV_len]; simp; omega
theorem getD_left {α : Type} {L N : List α} {z : α} {j : Nat} (h : j < L.length) : (L ++ N).getD j z = L.getD j z := by
  rw [List.getD_eq_getElem?_getD, List.getD_eq_getElem?_getD, List.getElem?_append_left h]
theorem getD_right {α : Type} {L N : List α} {z : α} {j : Nat} (h : L.length ≤ j) : (L ++ N).getD j z = N.getD (j - L.length) z := by
  rw [List.getD_eq_getElem?_getD, List.getD_eq_getElem?_getD, List.getElem?_append_right h]
theorem halT_get : ∀ {i j : Nat}, j < 2 * i + 1 → (halT a M i).getD j Rw.zero = (halfT a M).T j
  | 0, j, hj => by
    obtain rfl : j = 0 := by omega
    rfl
  | i + 1, j, hj => by
    show (halT a M i ++ [M i, a.T (i + 1)]).getD j Rw.zero = _
    rcases Nat.lt_or_ge j (2 * i + 1) with h | h
    · rw [getD_left (by rw [halT_len]; exact h)]
      exact halT_get h
    · rw [getD_right (by rw [halT_len]; exact h), halT_len]
      show _ = if j % 2 = 0 then a.T (j / 2) else M (j / 2)
      rcases (show j = 2 * i + 1 ∨ j = 2 * i + 2 by omega) with rfl | rfl
      · rw [if_neg (by omega), show 2 * i + 1 - (2 * i + 1) = 0 by omega, show (2 * i + 1) / 2 = i by omega]; rfl
      · rw [if_pos (by omega), show 2 * i + 2 - (2 * i + 1) = 1 by omega, show (2 * i + 2) / 2 = i + 1 by omega]; rfl
theorem halV_get : ∀ {i j : Nat}, j < 2 * i → (halV a i).getD j Iv.zero = (halfT a M).V j
  | 0, j, hj => absurd hj (Nat.not_lt_zero j)
  | i + 1, j, hj => by
    show (halV a i ++ [a.V i, a.V i]).getD j Iv.zero = _
    rcases Nat.lt_or_ge j (2 * i) with h | h
    · rw [getD_left (by rw [halV_len]; exact h)]
      exact halV_get h
    · rw [getD_right (by rw [halV_len]; exact h), halV_len]
      show _ = a.V (j / 2)
      rcases (show j = 2 * i ∨ j = 2 * i + 1 by omega) with rfl | rfl
      · rw [show 2 * i - 2 * i = 0 by omega, show 2 * i / 2 = i by omega]; rfl
      · rw [show 2 * i + 1 - 2 * i = 1 by omega, show (2 * i + 1) / 2 = i by omega]; rfl
end
/-- a slice of one number that was written down -/
theorem hrow_one {w : World} {base g : Nat} {x : Rw} {A : Option Addr} {n c : Nat} (hb : Blk w g #[.bool x.s, .slice A n c, .int .i64 x.e] 28) (hr : Rd w .u64 Go.Proofs.YtkpcmgfpmekkjaaDoor.W A n c x.l) (hg : base ≤ g) : HRow w base (.slice (some ⟨g, 0, none⟩) 1 1) [x] := by
  refine ⟨[.bool x.s, .slice A n c, .int .i64 x.e], ⟨⟨rfl, .inr ⟨g, 1, _, rfl, hg, hb.blk, Nat.le_refl _, by unfold maxLen; omega, rfl, rfl⟩⟩, fun k hk i y hy => ?_⟩, fun i hi => ?_⟩
  · injection hk with hk
    have hk : g = k := hk
    subst hk
    rw [cell_of_row w g i _ _ (0, 0) hb.blk] at hy
    match i, hy with
    | 0, hy => cases hy
    | 1, hy => cases hy
    | 2, hy => cases hy
    | i + 3, hy => simp at hy
  · have hi : i < 1 := hi
    obtain rfl : i = 0 := by omega
    exact ⟨A, n, c, rfl, rfl, rfl, hr⟩
theorem rdv_two {w : World} {g : Nat} {x : Iv} {A1 : Option Addr} {n1 c1 : Nat} {A2 : Option Addr} {n2 c2 : Nat} (hb : Blk w g #[.bool x.lo.s, .slice A1 n1 c1, .int .i64 x.lo.e, .bool x.hi.s, .slice A2 n2 c2, .int .i64 x.hi.e, .bool x.lo.s, .slice A1 n1 c1, .int .i64 x.lo.e, .bool x.hi.s, .slice A2 n2 c2, .int .i64 x.hi.e] 35) (h1 : Rd w .u64 Go.Proofs.YtkpcmgfpmekkjaaDoor.W A1 n1 c1 x.lo.l) (h2 : Rd w .u64 Go.Proofs.YtkpcmgfpmekkjaaDoor.W A2 n2 c2 x.hi.l) : RdS w (some ⟨g, 0, none⟩) 2 2 (fun _ => x) := by
  refine ⟨Nat.le_refl _, by omega, fun _ => ⟨g, 0, rfl, fun i hi => ?_⟩⟩
  match i, hi with
  | 0, _ => exact ⟨A1, n1, c1, A2, n2, c2, ⟨hb.at 0, hb.at 1, hb.at 2, hb.at 3, hb.at 4, hb.at 5⟩, h1, h2⟩
  | 1, _ => exact ⟨A1, n1, c1, A2, n2, c2, ⟨hb.at 6, hb.at 7, hb.at 8, hb.at 9, hb.at 10, hb.at 11⟩, h1, h2⟩

theorem CelS.put7 {W1 w : World} {g9 gz g : Nat} {bT bV vT vV : Value} {LT : List Rw} {LV : List Iv} {zc : Array Value} (h : CelS W1 w g9 gz bT bV vT vV LT LV zc) (hne : vT.ownBlock ≠ some g) (hg : W1.heap.size ≤ g) {s : Bool} {A : Option Addr} {n c : Nat} {e : Int} (x : Blk w g #[.bool s, .slice A n c, .int .i64 e] 28) (u0 u1 u2 : Value) :
    CelS W1 (((w.setCell ⟨g, 0, none⟩ u0).setCell ⟨g, 1, none⟩ u1).setCell ⟨g, 2, none⟩ u2) g9 gz bT bV vT vV LT LV zc := by
  have bx : Box w g s A n c e := ⟨x.blk⟩
  have no := bx.no
  have h9 : g9 ≠ g := kinds_ne h.box.blk x.blk (by decide)
  have hz : gz ≠ g := kinds_ne h.z.blk x.blk (by decide)
  have hr : ∀ A n c l, Rd w .u64 Go.Proofs.YtkpcmgfpmekkjaaDoor.W A n c l → Rd (((w.setCell ⟨g, 0, none⟩ u0).setCell ⟨g, 1, none⟩ u1).setCell ⟨g, 2, none⟩ u2) .u64 Go.Proofs.YtkpcmgfpmekkjaaDoor.W A n c l := fun A n c l hr => ((hr.set1 (hr.off no) _ _).set1 (hr.off no) _ _).set1 (hr.off no) _ _
  have key : ∀ q, q ≠ g → (((w.setCell ⟨g, 0, none⟩ u0).setCell ⟨g, 1, none⟩ u1).setCell ⟨g, 2, none⟩ u2).heap[q]? = w.heap[q]? := fun q hq => (Below.heap_setCell _ _ _ q hq).trans ((Below.heap_setCell _ _ _ q hq).trans (Below.heap_setCell _ _ _ q hq))
  refine ⟨below_put3 h.below hg _ _ _, h.lo, ((h.box.oth h9 _ _).oth h9 _ _).oth h9 _ _, h.t.via (fun q hq => key q fun e => hne (e ▸ hq)) hr, h.v.via (fun q hq => ?_) hr, ((h.z.oth hz _ _).oth hz _ _).oth hz _ _, h.zne⟩
  obtain ⟨cs, hk⟩ := h.v.kind q hq
  exact key q (kinds_ne hk x.blk (by decide))

set_option maxRecDepth 100000 in
set_option maxHeartbeats 8000000 in
theorem thalve_any {w : World} {KS : Nat} {a : Tb} {Ta Va : Option Addr} {ca da : Nat} {kf : Nat → Int} {M : Nat → Rw} (hKS : 4194304 ≤ KS) (hT : Tab w) (ha : RdTb w Ta ca Va da a) (hm : MayT KS a) (hn : a.n ≤ 100) (hM : ∀ i, i < a.n → MidT ⟨a.T i, a.T (i + 1)⟩ (kf i) (M i)) (hEN : (∀ j, j < a.n → kf j = 0) → (∀ i, i < (halfT a M).m → ((halfT a M).T i).may = true) ∧ ∀ i, i < (halfT a M).n → Ends ((halfT a M).V i)) :
    Calls Tryd.prog 18 #[.agg #[.slice Ta a.m ca, .slice Va a.n da]] w (TellT (firstE kf a.n) (if firstE kf a.n = 0 then halfT a M else Tb.zero) w) := by
  have HEN := Lib.hid hEN
  clear hEN
  have HK0 := Lib.hid hKS
  have HMM := Lib.hid hM
  clear hM
  have HMA := Lib.hid hm
  clear hm
  have hlen : a.m = a.n + 1 := HMA.out.len
  have hpos : 1 ≤ a.n := HMA.out.pos
  have HLN := Lib.hid (And.intro hlen hpos)
  have hp0 : (0 : Int) < a.m := by omega
  have hp0n : 0 < a.m := by omega
  clear hlen
  have hcp := ha.v.cap
  have hcm := ha.v.max
  have hcs := ha.at_.cap
  have hct := ha.at_.max
  obtain ⟨kk, hkk⟩ : ∃ z, z = firstE kf a.n := ⟨_, rfl⟩
  obtain ⟨tt, htt⟩ : ∃ z, z = (if firstE kf a.n = 0 then halfT a M else Tb.zero) := ⟨_, rfl⟩
  rw [← htt, ← hkk]
  rw [← hkk] at htt
  have HKK := Lib.hid hkk
  have HTT := Lib.hid htt
  clear hkk htt
  have BB := Below.refl w.heap.size w
  have b := below_alloc w (.cells #[.slice Ta a.m ca, .slice Va a.n da] 25)
  have xa := Blk.new w #[.slice Ta a.m ca, .slice Va a.n da] 25
  replace BB := bnx BB b rfl rfl rfl rfl
  have G := mv b rfl <| And.intro ha <| hT
  clear ha hT
  obtain ⟨ha, hT⟩ := G
  clear b
  have b := below_alloc (w.alloc (.cells #[.slice Ta a.m ca, .slice Va a.n da] 25)) (.cells #[.slice none 0 0, .slice none 0 0] 25)
  have xr := Blk.new (w.alloc (.cells #[.slice Ta a.m ca, .slice Va a.n da] 25)) #[.slice none 0 0, .slice none 0 0] 25
  rw [show (w.alloc (.cells #[.slice Ta a.m ca, .slice Va a.n da] 25)).heap.size = w.heap.size + 1 by simp] at xr
  replace BB := bnx BB b rfl rfl rfl rfl
  have G := mv b rfl (J3 ha hT xa)
  clear ha hT xa
  obtain ⟨ha, hT, xa⟩ := G
  clear b
  have a0 : World.cell? _ ⟨_, 0, none⟩ = some (.slice Ta a.m ca) := xa.at 0
  have a1 : World.cell? _ ⟨_, 1, none⟩ = some (.slice Va a.n da) := xa.at 1
  have r := xr
  clear xa xr
  go_enter Tryd.func18, Tryd.ntmps18
  go_upto_region 1 with fail
  generalize ((w.alloc (.cells #[.slice Ta a.m ca, .slice Va a.n da] 25)).alloc (.cells #[.slice none 0 0, .slice none 0 0] 25)) = W0 at *
  go_wp2_with fail
  refine (show Calls _ _ _ _ (Bools true _) from by have h := tmayt_any HK0.out hT ha; rw [mayTb_iff.2 HMA.out] at h; exact h).mono ?_
  rintro en w1 ⟨rfl, b⟩
  replace BB := bnx BB b rfl rfl rfl rfl
  have G := mv b rfl (J5 ha hT a0 a1 r)
  clear ha hT a0 a1 r
  obtain ⟨ha, hT, a0, a1, r⟩ := G
  clear b
  obtain ⟨g1, o1, hTa, hc⟩ := ha.at_.at_ (by omega)
  obtain ⟨A1, n1, c1, ⟨r0, r1, r2⟩, q1⟩ := hc 0 (by omega)
  simp only [Nat.zero_mul, Nat.add_zero] at r0 r1 r2
  clear hc
  subst hTa
  go_upto_region 3 with fail
  go_upto_region 4 with fail
  have TS : TubS w1 ((w1.alloc (.cells #[.bool (a.T 0).s, .slice A1 n1 c1, .int .i64 (a.T 0).e] 28)).alloc (.cells #[.slice (some ⟨w1.heap.size, 0, none⟩) 1 1, .slice none 0 0] 25)) (w1.heap.size + 1) (.slice (some ⟨w1.heap.size, 0, none⟩) 1 1) (.slice none 0 0) (halT a M 0) (halV a 0) := by
    have b1 := below_alloc w1 (.cells #[.bool (a.T 0).s, .slice A1 n1 c1, .int .i64 (a.T 0).e] 28)
    have x1 := Blk.new w1 #[.bool (a.T 0).s, .slice A1 n1 c1, .int .i64 (a.T 0).e] 28
    have b2 := below_alloc (w1.alloc (.cells #[.bool (a.T 0).s, .slice A1 n1 c1, .int .i64 (a.T 0).e] 28)) (.cells #[.slice (some ⟨w1.heap.size, 0, none⟩) 1 1, .slice none 0 0] 25)
    have x2 := Blk.new (w1.alloc (.cells #[.bool (a.T 0).s, .slice A1 n1 c1, .int .i64 (a.T 0).e] 28)) #[.slice (some ⟨w1.heap.size, 0, none⟩) 1 1, .slice none 0 0] 25
    rw [show (w1.alloc (.cells #[.bool (a.T 0).s, .slice A1 n1 c1, .int .i64 (a.T 0).e] 28)).heap.size = w1.heap.size + 1 by simp] at x2
    exact ⟨below_next b1 b1.size b2 rfl rfl rfl rfl, by omega, x2, hrow_one (mv b2 rfl x1) (mv b2 rfl (mv b1 rfl q1)) (Nat.le_refl _), irow_nil _ _⟩
  clear r0 r1 r2 q1
  generalize (w1.alloc (.cells #[.bool (a.T 0).s, .slice A1 n1 c1, .int .i64 (a.T 0).e] 28)).alloc (.cells #[.slice (some ⟨w1.heap.size, 0, none⟩) 1 1, .slice none 0 0] 25) = W2 at *
  generalize w1.heap.size + 1 = g4 at TS ⊢
  have a1c := mv TS.below rfl a1
  go_wp2
  go_loopg [22] a.n (fun k v wr => ∃ i : Nat, i + k = a.n ∧ v = .int .i64 i ∧ Hid (∀ j, j < i → kf j = 0) ∧ ∃ (AT : Option Addr) (cT : Nat) (AV : Option Addr) (cV : Nat), TubS w1 wr g4 (.slice AT (2 * i + 1) cT) (.slice AV (2 * i) cV) (halT a M i) (halV a i))
  case atStart => exact ⟨0, by omega, rfl, Lib.hid (fun j hj => absurd hj (Nat.not_lt_zero j)), _, _, _, _, TS⟩
  case round =>
    clear TS a1c
    obtain ⟨i, hg, rfl, HO, AT, cT, AV, cV, TS⟩ := hrel
    have HG := Lib.hid hg
    clear hg
    by_cases hi : i < a.n
    · have hp2 : (i : Int) < a.n := by omega
      have hp3 : (0 : Int) ≤ i := by omega
      have hp4 : (i : Int) < a.m := by have := HLN.out.1; omega
      have hp5 : (i : Int) + 1 < a.m := by have := HLN.out.1; omega
      have hp6 : (0 : Int) ≤ (i : Int) + 1 := by omega
      have hw1 : IntKind.i64.wrap ((i : Int) + 1) = (i : Int) + 1 := IntWalk.i64_in _ (by omega)
      obtain ⟨gg, off, hTa, hc⟩ := ha.at_.at_ (by omega)
      injection hTa with hTa
      injection hTa with e1 e2
      subst e1 e2
      obtain ⟨A5, n5, c5, ⟨r0, r1, r2⟩, q5⟩ := hc i (by have := HLN.out.1; omega)
      obtain ⟨A6, n6, c6, ⟨s0, s1, s2⟩, q6⟩ := hc (i + 1) (by have := HLN.out.1; omega)
      obtain ⟨g5, o5, hVa, hd⟩ := ha.v.at_ (by omega)
      obtain ⟨A3, n3, c3, A4, n4, c4, ⟨y0, y1, y2, y3, y4, y5⟩, q3, q4⟩ := hd i (by omega)
      clear hc hd
      subst hVa
      have HT2 : Hid (halT a M (i + 1) = halT a M i ++ [M i, a.T (i + 1)]) := Lib.hid rfl
      have HV2 : Hid (halV a (i + 1) = halV a i ++ [a.V i, a.V i]) := Lib.hid rfl
      have HMI := Lib.hid (HMM.out i hi)
      obtain ⟨v, hv⟩ : ∃ z, z = a.V i := ⟨_, rfl⟩
      obtain ⟨tx, htx⟩ : ∃ z, z = a.T i := ⟨_, rfl⟩
      obtain ⟨ty, hty⟩ : ∃ z, z = a.T (i + 1) := ⟨_, rfl⟩
      obtain ⟨mi, hmi⟩ : ∃ z, z = M i := ⟨_, rfl⟩
      obtain ⟨ki, hki⟩ : ∃ z, z = kf i := ⟨_, rfl⟩
      rw [← hv] at y0 y2 y3 y5 q3 q4
      rw [← htx] at r0 r2 q5
      rw [← hty] at s0 s2 q6
      have HMJ := HMI.out
      rw [← htx, ← hty, ← hmi, ← hki] at HMJ
      replace HMI := Lib.hid HMJ
      clear HMJ
      have HE := Lib.hid (And.intro hv (And.intro hty (And.intro hmi hki)))
      clear hv htx hty hmi hki
      obtain ⟨LT, hLT⟩ : ∃ l, l = halT a M i := ⟨_, rfl⟩
      obtain ⟨LV, hLV⟩ : ∃ l, l = halV a i := ⟨_, rfl⟩
      have hnT : LT.length = 2 * i + 1 := by rw [hLT]; exact halT_len
      have hnV : LV.length = 2 * i := by rw [hLV]; exact halV_len
      rw [← hLT, ← hLV] at TS
      rw [← hLT] at HT2
      rw [← hLV] at HV2
      have HN := Lib.hid (And.intro hnT hnV)
      clear hLT hLV hnT hnV
      obtain ⟨nT, hnT⟩ : ∃ k, k = 2 * i + 1 := ⟨_, rfl⟩
      obtain ⟨nV, hnV⟩ : ∃ k, k = 2 * i := ⟨_, rfl⟩
      rw [← hnT, ← hnV] at TS HN
      have HNN := Lib.hid (And.intro hnT hnV)
      clear hnT hnV
      have y0' := mv TS.below rfl y0
      have y1' := mv TS.below rfl y1
      have y2' := mv TS.below rfl y2
      have y3' := mv TS.below rfl y3
      have y4' := mv TS.below rfl y4
      have y5' := mv TS.below rfl y5
      go_upto_region 7 with fail
      have CS := TS.cel #[.bool v.lo.s, .slice A3 n3 c3, .int .i64 v.lo.e, .bool v.hi.s, .slice A4 n4 c4, .int .i64 v.hi.e]
      clear TS y0' y1' y2' y3' y4' y5'
      generalize wr.alloc (.cells #[.bool v.lo.s, .slice A3 n3 c3, .int .i64 v.lo.e, .bool v.hi.s, .slice A4 n4 c4, .int .i64 v.hi.e] 35) = W3 at *
      generalize wr.heap.size = gz at CS ⊢
      go_cut [7, 8] from 27 to 42 (fun v7 v8 wc => ∃ (g7 : Nat) (A7 : Option Addr) (n7 c7 : Nat), v7 = .pointer (some ⟨g7, 0, none⟩) ∧ v8 = .int .i64 ki ∧ (Value.slice AT nT cT).ownBlock ≠ some g7 ∧ CelS w1 wc g4 gz (.slice AT nT cT) (.slice AV nV cV) (.slice AT nT cT) (.slice AV nV cV) LT LV #[.bool v.lo.s, .slice A3 n3 c3, .int .i64 v.lo.e, .bool v.hi.s, .slice A4 n4 c4, .int .i64 v.hi.e] ∧ Blk wc g7 #[.bool mi.s, .slice A7 n7 c7, .int .i64 mi.e] 28 ∧ Rd wc .u64 Go.Proofs.YtkpcmgfpmekkjaaDoor.W A7 n7 c7 mi.l)
      case first =>
        have b : Below W3.heap.size W3 (World.drew W3) := below_drewN (Below.refl _ _) 1
        replace CS := CS.go b
        clear b
        refine wp_region_upto (S := fun w' => w'.cell? ⟨w.heap.size, 0, none⟩ = some (.slice (some ⟨g1, o1, none⟩) a.m ca) ∧ w'.cell? ⟨g1, o1 + i * 3, none⟩ = some (.bool tx.s) ∧ w'.cell? ⟨g1, o1 + i * 3 + 1, none⟩ = some (.slice A5 n5 c5) ∧ w'.cell? ⟨g1, o1 + i * 3 + 2, none⟩ = some (.int .i64 tx.e) ∧ w'.cell? ⟨g1, o1 + (i + 1) * 3, none⟩ = some (.bool ty.s) ∧ w'.cell? ⟨g1, o1 + (i + 1) * 3 + 1, none⟩ = some (.slice A6 n6 c6) ∧ w'.cell? ⟨g1, o1 + (i + 1) * 3 + 2, none⟩ = some (.int .i64 ty.e)) 18 (by kernel_rfl) (by exact ⟨mv CS.below rfl a0, mv CS.below rfl r0, mv CS.below rfl r1, mv CS.below rfl r2, mv CS.below rfl s0, mv CS.below rfl s1, mv CS.below rfl s2⟩) (fun hHeldm0 => ?_)
        generalize World.drew W3 = wd7 at *
        refine wpAnyT_take (i := 0) (v := ?m1v0) rfl (by kernel_rfl) (by kernel_rfl) (by kernel_rfl) (by kernel_rfl) (by kernel_rfl) (by kernel_rfl) (fun _ _ _ h => panic_put (P := Tryd.prog) (fn := Tryd.f18) (R := (TellT kk tt w)) h) (Or.inl ⟨by rfl, ?m1y0⟩) (by assumption) ?_
        case m1y0 => (intro w hSw; (try dsimp only at hSw); go_simp); try with_reducible rfl
        change wpAnyT _ _ _ _ _ _ _ _ (Act.put _ (some 28) _) _
        simp only [Act.put, List.setIfInBounds_toArray, List.set_cons_zero, List.set_cons_succ]
        refine wpAnyT_take (i := 1) (v := ?m2v1) rfl (by kernel_rfl) (by kernel_rfl) (by kernel_rfl) (by kernel_rfl) (by kernel_rfl) (by kernel_rfl) (fun _ _ _ h => panic_put (P := Tryd.prog) (fn := Tryd.f18) (R := (TellT kk tt w)) h) (Or.inl ⟨by rfl, ?m2y1⟩) (by assumption) ?_
        case m2y1 => (intro w hSw; (try dsimp only at hSw); go_simp); try with_reducible rfl
        change wpAnyT _ _ _ _ _ _ _ _ (Act.put _ (some 29) _) _
        simp only [Act.put, List.setIfInBounds_toArray, List.set_cons_zero, List.set_cons_succ]
        refine wpAnyT_take (i := 2) (v := ?m3v2) rfl (by kernel_rfl) (by kernel_rfl) (by kernel_rfl) (by kernel_rfl) (by kernel_rfl) (by kernel_rfl) (fun _ _ _ h => panic_put (P := Tryd.prog) (fn := Tryd.f18) (R := (TellT kk tt w)) h) (Or.inl ⟨by rfl, ?m3y2⟩) (by assumption) ?_
        case m3y2 => (intro w hSw; (try dsimp only at hSw); go_simp); try with_reducible rfl
        change wpAnyT _ _ _ _ _ _ _ _ (Act.put _ (some 30) _) _
        simp only [Act.put, List.setIfInBounds_toArray, List.set_cons_zero, List.set_cons_succ]
        refine wpAnyT_take (i := 3) (v := ?m4v3) rfl (by kernel_rfl) (by kernel_rfl) (by kernel_rfl) (by kernel_rfl) (by kernel_rfl) (by kernel_rfl) (fun _ _ _ h => panic_put (P := Tryd.prog) (fn := Tryd.f18) (R := (TellT kk tt w)) h) (Or.inl ⟨by rfl, ?m4y3⟩) (by assumption) ?_
        case m4y3 => (intro w hSw; (try dsimp only at hSw); go_simp); try with_reducible rfl
        change wpAnyT _ _ _ _ _ _ _ _ (Act.put _ (some 31) _) _
        simp only [Act.put, List.setIfInBounds_toArray, List.set_cons_zero, List.set_cons_succ]
        refine wpAnyT_take (i := 4) (v := ?m5v4) rfl (by kernel_rfl) (by kernel_rfl) (by kernel_rfl) (by kernel_rfl) (by kernel_rfl) (by kernel_rfl) (fun _ _ _ h => panic_put (P := Tryd.prog) (fn := Tryd.f18) (R := (TellT kk tt w)) h) (Or.inl ⟨by rfl, ?m5y4⟩) (by assumption) ?_
        case m5y4 => (intro w hSw; (try dsimp only at hSw); go_simp); try with_reducible rfl
        change wpAnyT _ _ _ _ _ _ _ _ (Act.put _ (some 32) _) _
        simp only [Act.put, List.setIfInBounds_toArray, List.set_cons_zero, List.set_cons_succ]
        refine wpAnyT_take (i := 5) (v := ?m6v5) rfl (by kernel_rfl) (by kernel_rfl) (by kernel_rfl) (by kernel_rfl) (by kernel_rfl) (by kernel_rfl) (fun _ _ _ h => panic_put (P := Tryd.prog) (fn := Tryd.f18) (R := (TellT kk tt w)) h) (Or.inl ⟨by rfl, ?m6y5⟩) (by assumption) ?_
        case m6y5 => (intro w hSw; (try dsimp only at hSw); go_simp); try with_reducible rfl
        change wpAnyT _ _ _ _ _ _ _ _ (Act.put _ (some 33) _) _
        simp only [Act.put, List.setIfInBounds_toArray, List.set_cons_zero, List.set_cons_succ]
        refine wpAnyT_take (i := 6) (v := ?m7v6) rfl (by kernel_rfl) (by kernel_rfl) (by kernel_rfl) (by kernel_rfl) (by kernel_rfl) (by kernel_rfl) (fun _ _ _ h => panic_put (P := Tryd.prog) (fn := Tryd.f18) (R := (TellT kk tt w)) h) (Or.inl ⟨by rfl, ?m7y6⟩) (by assumption) ?_
        case m7y6 => (intro w hSw; (try dsimp only at hSw); go_simp); try with_reducible rfl
        change wpAnyT _ _ _ _ _ _ _ _ (Act.put _ (some 34) _) _
        simp only [Act.put, List.setIfInBounds_toArray, List.set_cons_zero, List.set_cons_succ]
        refine wpAnyT_take (i := 7) (v := ?m8v7) rfl (by kernel_rfl) (by kernel_rfl) (by kernel_rfl) (by kernel_rfl) (by kernel_rfl) (by kernel_rfl) (fun _ _ _ h => panic_put (P := Tryd.prog) (fn := Tryd.f18) (R := (TellT kk tt w)) h) (Or.inl ⟨by rfl, ?m8y7⟩) (by assumption) ?_
        case m8y7 => (intro w hSw; (try dsimp only at hSw); go_simp); try with_reducible rfl
        change wpAnyT _ _ _ _ _ _ _ _ (Act.put _ (some 35) _) _
        simp only [Act.put, List.setIfInBounds_toArray, List.set_cons_zero, List.set_cons_succ]
        refine wpAnyT_take (i := 8) (v := ?m9v8) rfl (by kernel_rfl) (by kernel_rfl) (by kernel_rfl) (by kernel_rfl) (by kernel_rfl) (by kernel_rfl) (fun _ _ _ h => panic_put (P := Tryd.prog) (fn := Tryd.f18) (R := (TellT kk tt w)) h) (Or.inl ⟨by rfl, ?m9y8⟩) (by assumption) ?_
        case m9y8 => (intro w hSw; (try dsimp only at hSw); go_simp); try with_reducible rfl
        change wpAnyT _ _ _ _ _ _ _ _ (Act.put _ (some 36) _) _
        simp only [Act.put, List.setIfInBounds_toArray, List.set_cons_zero, List.set_cons_succ]
        refine wpAnyT_take (i := 9) (v := ?m10v9) rfl (by kernel_rfl) (by kernel_rfl) (by kernel_rfl) (by kernel_rfl) (by kernel_rfl) (by kernel_rfl) (fun _ _ _ h => panic_put (P := Tryd.prog) (fn := Tryd.f18) (R := (TellT kk tt w)) h) (Or.inl ⟨by rfl, ?m10y9⟩) (by assumption) ?_
        case m10y9 => (intro w hSw; (try dsimp only at hSw); go_simp); try with_reducible rfl
        change wpAnyT _ _ _ _ _ _ _ _ (Act.put _ (some 37) _) _
        simp only [Act.put, List.setIfInBounds_toArray, List.set_cons_zero, List.set_cons_succ]
        refine wpAnyT_take (i := 10) (v := ?m11v10) rfl (by kernel_rfl) (by kernel_rfl) (by kernel_rfl) (by kernel_rfl) (by kernel_rfl) (by kernel_rfl) (fun _ _ _ h => panic_put (P := Tryd.prog) (fn := Tryd.f18) (R := (TellT kk tt w)) h) (Or.inl ⟨by rfl, ?m11y10⟩) (by assumption) ?_
        case m11y10 => (intro w hSw; (try dsimp only at hSw); go_simp); try with_reducible rfl
        change wpAnyT _ _ _ _ _ _ _ _ (Act.put _ (some 38) _) _
        simp only [Act.put, List.setIfInBounds_toArray, List.set_cons_zero, List.set_cons_succ]
        refine wpAnyT_take (i := 11) (v := ?m12v11) rfl (by kernel_rfl) (by kernel_rfl) (by kernel_rfl) (by kernel_rfl) (by kernel_rfl) (by kernel_rfl) (fun _ _ _ h => panic_put (P := Tryd.prog) (fn := Tryd.f18) (R := (TellT kk tt w)) h) (Or.inl ⟨by rfl, ?m12y11⟩) (by assumption) ?_
        case m12y11 => (intro w hSw; (try dsimp only at hSw); go_simp); try with_reducible rfl
        change wpAnyT _ _ _ _ _ _ _ _ (Act.put _ (some 39) _) _
        simp only [Act.put, List.setIfInBounds_toArray, List.set_cons_zero, List.set_cons_succ]
        refine wpAnyT_ready (rs := [12, 16]) (by kernel_rfl) (by simp) ?_
        refine AllReadyT.cons (o := _) rfl (fun K hK => ?_) (AllReadyT.cons (o := _) rfl (fun K hK => ?_) (AllReadyT.nil))
        go_simp
        refine (show Calls _ _ #[.agg #[.bool tx.s, .slice A5 n5 c5, .int .i64 tx.e, .bool ty.s, .slice A6 n6 c6, .int .i64 ty.e]] _ (TellD ki mi _) from HMI.out.is (mv CS.below rfl hT) (mv CS.below rfl q5) (mv CS.below rfl q6)).mono ?_
        rintro en ub ⟨A7, n7, c7, rfl, q7, b⟩
        replace CS := CS.go b
        clear b
        refine hK.out _ _ (by exact ⟨mv CS.below rfl a0, mv CS.below rfl r0, mv CS.below rfl r1, mv CS.below rfl r2, mv CS.below rfl s0, mv CS.below rfl s1, mv CS.below rfl s2⟩) (fun hHeldm1 => ?_)
        clear hK K hHeldm0
        try simp only [Act.put]
        refine wpAnyT_take (i := 13) (v := ?m13v13) rfl (by kernel_rfl) (by kernel_rfl) (by kernel_rfl) (by kernel_rfl) (by kernel_rfl) (by kernel_rfl) (fun _ _ _ h => panic_put (P := Tryd.prog) (fn := Tryd.f18) (R := (TellT kk tt w)) h) (Or.inl ⟨by rfl, ?m13y13⟩) (by assumption) ?_
        case m13y13 => (intro w hSw; (try dsimp only at hSw); go_simp); try with_reducible rfl
        change wpAnyT _ _ _ _ _ _ _ _ (Act.put _ (some 27) _) _
        simp only [Act.put, List.setIfInBounds_toArray, List.set_cons_zero, List.set_cons_succ]
        refine wpAnyT_take (i := 14) (v := ?m14v14) rfl (by kernel_rfl) (by kernel_rfl) (by kernel_rfl) (by kernel_rfl) (by kernel_rfl) (by kernel_rfl) (fun _ _ _ h => panic_put (P := Tryd.prog) (fn := Tryd.f18) (R := (TellT kk tt w)) h) (Or.inl ⟨by rfl, ?m14y14⟩) (by assumption) ?_
        case m14y14 => (intro w hSw; (try dsimp only at hSw); go_simp); try with_reducible rfl
        change wpAnyT _ _ _ _ _ _ _ _ (Act.put _ (some 41) _) _
        simp only [Act.put, List.setIfInBounds_toArray, List.set_cons_zero, List.set_cons_succ]
        refine wpAnyT_take (i := 15) (v := ?m15v15) rfl (by kernel_rfl) (by kernel_rfl) (by kernel_rfl) (by kernel_rfl) (by kernel_rfl) (by kernel_rfl) (fun _ _ _ h => panic_put (P := Tryd.prog) (fn := Tryd.f18) (R := (TellT kk tt w)) h) (Or.inl ⟨by rfl, ?m15y15⟩) (by assumption) ?_
        case m15y15 => (intro w hSw; (try dsimp only at hSw); go_simp); try with_reducible rfl
        change wpAnyT _ _ _ _ _ _ _ _ (Act.put _ (some 42) _) _
        simp only [Act.put, List.setIfInBounds_toArray, List.set_cons_zero, List.set_cons_succ]
        refine wpAnyT_ready (rs := [16]) (by kernel_rfl) (by simp) ?_
        refine AllReadyT.cons (o := _) rfl (fun K hK => ?_) (AllReadyT.nil)
        go_simp
        have hne7 : (Value.slice AT nT cT).ownBlock ≠ some ub.heap.size := fun e => by have := (CS.t.lt _ e).2; omega
        have b := below_alloc ub (.cells #[.bool false, .slice none 0 0, .int .i64 0] 28)
        have xm := Blk.new ub #[.bool false, .slice none 0 0, .int .i64 0] 28
        have hb7 : w1.heap.size ≤ ub.heap.size := CS.below.size
        replace CS := CS.go b
        replace q7 := mv b (by rfl) q7
        clear b
        generalize ub.alloc (.cells #[.bool false, .slice none 0 0, .int .i64 0] 28) = uc at *
        generalize hq7 : ub.heap.size = g7 at xm hne7 hb7 ⊢
        clear hq7
        refine hK.out _ _ (by exact ⟨mv CS.below rfl a0, mv CS.below rfl r0, mv CS.below rfl r1, mv CS.below rfl r2, mv CS.below rfl s0, mv CS.below rfl s1, mv CS.below rfl s2⟩) (fun hHeldm2 => ?_)
        clear hK K hHeldm1
        try simp only [Act.put]
        refine wpAnyT_ready (rs := [17]) (by kernel_rfl) (by simp) ?_
        refine AllReadyT.cons (o := _) rfl (fun K hK => ?_) (AllReadyT.nil)
        obtain ⟨f0, f1, f2⟩ := (show _ ∧ _ ∧ _ from ⟨xm.frozen 0, xm.frozen 1, xm.frozen 2⟩)
        have z0 : World.cell? _ ⟨g7, 0, none⟩ = some (.bool false) := xm.at 0
        have z1 : World.cell? _ ⟨g7, 1, none⟩ = some (.slice none 0 0) := xm.at 1
        have z2 : World.cell? _ ⟨g7, 2, none⟩ = some (.int .i64 0) := xm.at 2
        go_simp
        have bx7 : Box _ g7 false none 0 0 0 := ⟨xm.blk⟩
        have by7 := bx7.put mi.s A7 n7 c7 mi.e
        have q7' := q7.put3 bx7 (.bool mi.s) (.slice A7 n7 c7) (.int .i64 mi.e)
        have CS' := CS.put7 hne7 hb7 xm (.bool mi.s) (.slice A7 n7 c7) (.int .i64 mi.e)
        clear CS xm q7 bx7 f0 f1 f2 z0 z1 z2
        have CS := CS'
        clear CS'
        refine hK.out _ _ (by exact ⟨mv CS.below rfl a0, mv CS.below rfl r0, mv CS.below rfl r1, mv CS.below rfl r2, mv CS.below rfl s0, mv CS.below rfl s1, mv CS.below rfl s2⟩) (fun hHeldm3 => ?_)
        clear hK K hHeldm2
        try simp only [Act.put]
        rotate_left
        go_simp
        have hne7 : (Value.slice AT nT cT).ownBlock ≠ some wd7.heap.size := fun e => by have := (CS.t.lt _ e).2; omega
        have b := below_alloc wd7 (.cells #[.bool false, .slice none 0 0, .int .i64 0] 28)
        have xm := Blk.new wd7 #[.bool false, .slice none 0 0, .int .i64 0] 28
        have hb7 : w1.heap.size ≤ wd7.heap.size := CS.below.size
        replace CS := CS.go b
        clear b
        generalize wd7.alloc (.cells #[.bool false, .slice none 0 0, .int .i64 0] 28) = ub at *
        generalize hq7 : wd7.heap.size = g7 at xm hne7 hb7 ⊢
        clear hq7
        refine hK.out _ _ (by exact ⟨mv CS.below rfl a0, mv CS.below rfl r0, mv CS.below rfl r1, mv CS.below rfl r2, mv CS.below rfl s0, mv CS.below rfl s1, mv CS.below rfl s2⟩) (fun hHeldm1 => ?_)
        clear hK K hHeldm0
        try simp only [Act.put]
        refine wpAnyT_ready (rs := [12]) (by kernel_rfl) (by simp) ?_
        refine AllReadyT.cons (o := _) rfl (fun K hK => ?_) (AllReadyT.nil)
        go_simp
        refine (show Calls _ _ #[.agg #[.bool tx.s, .slice A5 n5 c5, .int .i64 tx.e, .bool ty.s, .slice A6 n6 c6, .int .i64 ty.e]] _ (TellD ki mi _) from HMI.out.is (mv CS.below rfl hT) (mv CS.below rfl q5) (mv CS.below rfl q6)).mono ?_
        rintro en uc ⟨A7, n7, c7, rfl, q7, b⟩
        replace CS := CS.go b
        replace xm := mv b (by rfl) xm
        clear b
        refine hK.out _ _ (by exact ⟨mv CS.below rfl a0, mv CS.below rfl r0, mv CS.below rfl r1, mv CS.below rfl r2, mv CS.below rfl s0, mv CS.below rfl s1, mv CS.below rfl s2⟩) (fun hHeldm2 => ?_)
        clear hK K hHeldm1
        try simp only [Act.put]
        refine wpAnyT_take (i := 13) (v := ?m16v13) rfl (by kernel_rfl) (by kernel_rfl) (by kernel_rfl) (by kernel_rfl) (by kernel_rfl) (by kernel_rfl) (fun _ _ _ h => panic_put (P := Tryd.prog) (fn := Tryd.f18) (R := (TellT kk tt w)) h) (Or.inl ⟨by rfl, ?m16y13⟩) (by assumption) ?_
        case m16y13 => (intro w hSw; (try dsimp only at hSw); go_simp); try with_reducible rfl
        change wpAnyT _ _ _ _ _ _ _ _ (Act.put _ (some 27) _) _
        simp only [Act.put, List.setIfInBounds_toArray, List.set_cons_zero, List.set_cons_succ]
        refine wpAnyT_take (i := 14) (v := ?m17v14) rfl (by kernel_rfl) (by kernel_rfl) (by kernel_rfl) (by kernel_rfl) (by kernel_rfl) (by kernel_rfl) (fun _ _ _ h => panic_put (P := Tryd.prog) (fn := Tryd.f18) (R := (TellT kk tt w)) h) (Or.inl ⟨by rfl, ?m17y14⟩) (by assumption) ?_
        case m17y14 => (intro w hSw; (try dsimp only at hSw); go_simp); try with_reducible rfl
        change wpAnyT _ _ _ _ _ _ _ _ (Act.put _ (some 41) _) _
        simp only [Act.put, List.setIfInBounds_toArray, List.set_cons_zero, List.set_cons_succ]
        refine wpAnyT_take (i := 15) (v := ?m18v15) rfl (by kernel_rfl) (by kernel_rfl) (by kernel_rfl) (by kernel_rfl) (by kernel_rfl) (by kernel_rfl) (fun _ _ _ h => panic_put (P := Tryd.prog) (fn := Tryd.f18) (R := (TellT kk tt w)) h) (Or.inl ⟨by rfl, ?m18y15⟩) (by assumption) ?_
        case m18y15 => (intro w hSw; (try dsimp only at hSw); go_simp); try with_reducible rfl
        change wpAnyT _ _ _ _ _ _ _ _ (Act.put _ (some 42) _) _
        simp only [Act.put, List.setIfInBounds_toArray, List.set_cons_zero, List.set_cons_succ]
        refine wpAnyT_ready (rs := [17]) (by kernel_rfl) (by simp) ?_
        refine AllReadyT.cons (o := _) rfl (fun K hK => ?_) (AllReadyT.nil)
        obtain ⟨f0, f1, f2⟩ := (show _ ∧ _ ∧ _ from ⟨xm.frozen 0, xm.frozen 1, xm.frozen 2⟩)
        have z0 : World.cell? _ ⟨g7, 0, none⟩ = some (.bool false) := xm.at 0
        have z1 : World.cell? _ ⟨g7, 1, none⟩ = some (.slice none 0 0) := xm.at 1
        have z2 : World.cell? _ ⟨g7, 2, none⟩ = some (.int .i64 0) := xm.at 2
        go_simp
        have bx7 : Box _ g7 false none 0 0 0 := ⟨xm.blk⟩
        have by7 := bx7.put mi.s A7 n7 c7 mi.e
        have q7' := q7.put3 bx7 (.bool mi.s) (.slice A7 n7 c7) (.int .i64 mi.e)
        have CS' := CS.put7 hne7 hb7 xm (.bool mi.s) (.slice A7 n7 c7) (.int .i64 mi.e)
        clear CS xm q7 bx7 f0 f1 f2 z0 z1 z2
        have CS := CS'
        clear CS'
        refine hK.out _ _ (by exact ⟨mv CS.below rfl a0, mv CS.below rfl r0, mv CS.below rfl r1, mv CS.below rfl r2, mv CS.below rfl s0, mv CS.below rfl s1, mv CS.below rfl s2⟩) (fun hHeldm3 => ?_)
        clear hK K hHeldm2
        try simp only [Act.put]
        rotate_left
        all_goals (
          clear hHeldm3
          refine wpAnyT_ready (rs := [18]) (by kernel_rfl) (by simp) ?_
          refine AllReadyT.consB (o := _) rfl (by kernel_rfl) (fun K hK => ?_) AllReadyT.nil
          go_simp
          refine hK.out _ _ ?_
          clear hK K
          try simp only [Act.put]
          refine wpAnyT_done (by kernel_rfl) ?_ _
          go_wp2
          go_meet
          case rel => exact ⟨g7, A7, n7, c7, rfl, rfl, hne7, CS, ⟨by7.blk⟩, q7'⟩)
      case rest =>
        clear CS
        obtain ⟨g7, A7, n7, c7, rfl, rfl, hne7, CS, xm, q7⟩ := hcut
        by_cases hk : ki = 0
        rotate_left
        · have HF := Lib.hid (firstE_hit HO.out (fun h => hk (HE.out.2.2.2.trans h)) hi)
          have e1 : kk = ki := HKK.out.trans (HF.out.trans HE.out.2.2.2.symm)
          have e2 : tt = Tb.zero := HTT.out.trans (if_neg (by rw [e1]; exact hk))
          subst e2
          subst e1
          have BB := below_next BB BB.size CS.below rfl rfl rfl rfl
          have r := mv CS.below rfl r
          obtain ⟨f0, f1⟩ := (show _ ∧ _ from ⟨r.frozen 0, r.frozen 1⟩)
          have z0 : World.cell? _ ⟨w.heap.size + 1, 0, none⟩ = some (.slice none 0 0) := r.at 0
          have z1 : World.cell? _ ⟨w.heap.size + 1, 1, none⟩ = some (.slice none 0 0) := r.at 1
          go_wp2
          have qq := r.put2 (.slice none 0 0) (.slice none 0 0)
          have HB3 := below_put2 (g := w.heap.size + 1) BB (by omega) (.slice none 0 0) (.slice none 0 0)
          have y0 : World.cell? _ ⟨w.heap.size + 1, 0, none⟩ = some (.slice none 0 0) := qq.at 0
          have y1 : World.cell? _ ⟨w.heap.size + 1, 1, none⟩ = some (.slice none 0 0) := qq.at 1
          exact bodyPost_ret (v := .tuple #[.agg #[.slice none 0 0, .slice none 0 0], .int .i64 kk]) (by simp [results, Tryd.results18, go_sem, y0, y1]) rfl ⟨_, _, _, _, rfl, rdtb_zero _, HB3⟩
        · subst hk
          have HKI := Lib.hid HE.out.2.2.2
          go_upto_region 10 with fail
          have b : Below wc.heap.size wc (World.drew wc) := below_drewN (Below.refl _ _) 1
          replace CS := CS.go b
          have G := mv b rfl <| And.intro xm <| q7
          clear xm q7
          obtain ⟨xm, q7⟩ := G
          clear b
          refine wp_region_upto (S := fun w' => w'.cell? ⟨g4, 0, none⟩ = some (.slice AT nT cT) ∧ w'.cell? ⟨g7, 0, none⟩ = some (.bool mi.s) ∧ w'.cell? ⟨g7, 1, none⟩ = some (.slice A7 n7 c7) ∧ w'.cell? ⟨g7, 2, none⟩ = some (.int .i64 mi.e) ∧ w'.cell? ⟨w.heap.size, 0, none⟩ = some (.slice (some ⟨g1, o1, none⟩) a.m ca) ∧ w'.cell? ⟨g1, o1 + (i + 1) * 3, none⟩ = some (.bool ty.s) ∧ w'.cell? ⟨g1, o1 + (i + 1) * 3 + 1, none⟩ = some (.slice A6 n6 c6) ∧ w'.cell? ⟨g1, o1 + (i + 1) * 3 + 2, none⟩ = some (.int .i64 ty.e)) 12 (by kernel_rfl) (by exact ⟨CS.box.at 0, xm.at 0, xm.at 1, xm.at 2, mv CS.below rfl a0, mv CS.below rfl s0, mv CS.below rfl s1, mv CS.below rfl s2⟩) (fun hHeldn0 => ?_)
          generalize World.drew wc = wd10 at *
          refine wpAnyT_take (i := 0) (v := ?n19v0) rfl (by kernel_rfl) (by kernel_rfl) (by kernel_rfl) (by kernel_rfl) (by kernel_rfl) (by kernel_rfl) (fun _ _ _ h => panic_put (P := Tryd.prog) (fn := Tryd.f18) (R := (TellT kk tt w)) h) (Or.inl ⟨by rfl, ?n19y0⟩) (by assumption) ?_
          case n19y0 => (intro w hSw; (try dsimp only at hSw); go_simp); try with_reducible rfl
          change wpAnyT _ _ _ _ _ _ _ _ (Act.put _ (some 47) _) _
          simp only [Act.put, List.setIfInBounds_toArray, List.set_cons_zero, List.set_cons_succ]
          refine wpAnyT_take (i := 1) (v := ?n20v1) rfl (by kernel_rfl) (by kernel_rfl) (by kernel_rfl) (by kernel_rfl) (by kernel_rfl) (by kernel_rfl) (fun _ _ _ h => panic_put (P := Tryd.prog) (fn := Tryd.f18) (R := (TellT kk tt w)) h) (Or.inl ⟨by rfl, ?n20y1⟩) (by assumption) ?_
          case n20y1 => (intro w hSw; (try dsimp only at hSw); go_simp); try with_reducible rfl
          change wpAnyT _ _ _ _ _ _ _ _ (Act.put _ (some 48) _) _
          simp only [Act.put, List.setIfInBounds_toArray, List.set_cons_zero, List.set_cons_succ]
          refine wpAnyT_take (i := 2) (v := ?n21v2) rfl (by kernel_rfl) (by kernel_rfl) (by kernel_rfl) (by kernel_rfl) (by kernel_rfl) (by kernel_rfl) (fun _ _ _ h => panic_put (P := Tryd.prog) (fn := Tryd.f18) (R := (TellT kk tt w)) h) (Or.inl ⟨by rfl, ?n21y2⟩) (by assumption) ?_
          case n21y2 => (intro w hSw; (try dsimp only at hSw); go_simp); try with_reducible rfl
          change wpAnyT _ _ _ _ _ _ _ _ (Act.put _ (some 49) _) _
          simp only [Act.put, List.setIfInBounds_toArray, List.set_cons_zero, List.set_cons_succ]
          refine wpAnyT_take (i := 3) (v := ?n22v3) rfl (by kernel_rfl) (by kernel_rfl) (by kernel_rfl) (by kernel_rfl) (by kernel_rfl) (by kernel_rfl) (fun _ _ _ h => panic_put (P := Tryd.prog) (fn := Tryd.f18) (R := (TellT kk tt w)) h) (Or.inl ⟨by rfl, ?n22y3⟩) (by assumption) ?_
          case n22y3 => (intro w hSw; (try dsimp only at hSw); go_simp); try with_reducible rfl
          change wpAnyT _ _ _ _ _ _ _ _ (Act.put _ (some 50) _) _
          simp only [Act.put, List.setIfInBounds_toArray, List.set_cons_zero, List.set_cons_succ]
          refine wpAnyT_take (i := 4) (v := ?n23v4) rfl (by kernel_rfl) (by kernel_rfl) (by kernel_rfl) (by kernel_rfl) (by kernel_rfl) (by kernel_rfl) (fun _ _ _ h => panic_put (P := Tryd.prog) (fn := Tryd.f18) (R := (TellT kk tt w)) h) (Or.inl ⟨by rfl, ?n23y4⟩) (by assumption) ?_
          case n23y4 => (intro w hSw; (try dsimp only at hSw); go_simp); try with_reducible rfl
          change wpAnyT _ _ _ _ _ _ _ _ (Act.put _ (some 51) _) _
          simp only [Act.put, List.setIfInBounds_toArray, List.set_cons_zero, List.set_cons_succ]
          refine wpAnyT_take (i := 5) (v := ?n24v5) rfl (by kernel_rfl) (by kernel_rfl) (by kernel_rfl) (by kernel_rfl) (by kernel_rfl) (by kernel_rfl) (fun _ _ _ h => panic_put (P := Tryd.prog) (fn := Tryd.f18) (R := (TellT kk tt w)) h) (Or.inl ⟨by rfl, ?n24y5⟩) (by assumption) ?_
          case n24y5 => (intro w hSw; (try dsimp only at hSw); go_simp); try with_reducible rfl
          change wpAnyT _ _ _ _ _ _ _ _ (Act.put _ (some 52) _) _
          simp only [Act.put, List.setIfInBounds_toArray, List.set_cons_zero, List.set_cons_succ]
          refine wpAnyT_take (i := 6) (v := ?n25v6) rfl (by kernel_rfl) (by kernel_rfl) (by kernel_rfl) (by kernel_rfl) (by kernel_rfl) (by kernel_rfl) (fun _ _ _ h => panic_put (P := Tryd.prog) (fn := Tryd.f18) (R := (TellT kk tt w)) h) (Or.inl ⟨by rfl, ?n25y6⟩) (by assumption) ?_
          case n25y6 => (intro w hSw; (try dsimp only at hSw); go_simp); try with_reducible rfl
          change wpAnyT _ _ _ _ _ _ _ _ (Act.put _ (some 53) _) _
          simp only [Act.put, List.setIfInBounds_toArray, List.set_cons_zero, List.set_cons_succ]
          refine wpAnyT_take (i := 7) (v := ?n26v7) rfl (by kernel_rfl) (by kernel_rfl) (by kernel_rfl) (by kernel_rfl) (by kernel_rfl) (by kernel_rfl) (fun _ _ _ h => panic_put (P := Tryd.prog) (fn := Tryd.f18) (R := (TellT kk tt w)) h) (Or.inl ⟨by rfl, ?n26y7⟩) (by assumption) ?_
          case n26y7 => (intro w hSw; (try dsimp only at hSw); go_simp); try with_reducible rfl
          change wpAnyT _ _ _ _ _ _ _ _ (Act.put _ (some 54) _) _
          simp only [Act.put, List.setIfInBounds_toArray, List.set_cons_zero, List.set_cons_succ]
          refine wpAnyT_take (i := 8) (v := ?n27v8) rfl (by kernel_rfl) (by kernel_rfl) (by kernel_rfl) (by kernel_rfl) (by kernel_rfl) (by kernel_rfl) (fun _ _ _ h => panic_put (P := Tryd.prog) (fn := Tryd.f18) (R := (TellT kk tt w)) h) (Or.inl ⟨by rfl, ?n27y8⟩) (by assumption) ?_
          case n27y8 => (intro w hSw; (try dsimp only at hSw); go_simp); try with_reducible rfl
          change wpAnyT _ _ _ _ _ _ _ _ (Act.put _ (some 55) _) _
          simp only [Act.put, List.setIfInBounds_toArray, List.set_cons_zero, List.set_cons_succ]
          refine wpAnyT_ready (rs := [9]) (by kernel_rfl) (by simp) ?_
          refine AllReadyT.cons (o := _) rfl (fun K hK => ?_) (AllReadyT.nil)
          go_simp
          have b := below_alloc wd10 (.cells #[.bool mi.s, .slice A7 n7 c7, .int .i64 mi.e, .bool ty.s, .slice A6 n6 c6, .int .i64 ty.e] 28)
          have xd := Blk.new wd10 #[.bool mi.s, .slice A7 n7 c7, .int .i64 mi.e, .bool ty.s, .slice A6 n6 c6, .int .i64 ty.e] 28
          replace CS := CS.go b
          have G := mv b (by rfl) <| And.intro xm <| q7
          clear xm q7
          obtain ⟨xm, q7⟩ := G
          clear b
          generalize wd10.alloc (.cells #[.bool mi.s, .slice A7 n7 c7, .int .i64 mi.e, .bool ty.s, .slice A6 n6 c6, .int .i64 ty.e] 28) = ub at *
          generalize wd10.heap.size = gd at xd ⊢
          refine hK.out _ _ (by exact ⟨CS.box.at 0, xm.at 0, xm.at 1, xm.at 2, mv CS.below rfl a0, mv CS.below rfl s0, mv CS.below rfl s1, mv CS.below rfl s2⟩) (fun hHeldn1 => ?_)
          clear hK K hHeldn0
          try simp only [Act.put]
          refine wpAnyT_ready (rs := [10]) (by kernel_rfl) (by simp) ?_
          refine AllReadyT.cons (o := _) rfl (fun K hK => ?_) (AllReadyT.nil)
          rw [if_pos (by rfl)]
          unfold Oper.wp execOp
          simp only [List.getElem_toArray, List.getElem_cons_succ, List.getElem_cons_zero, resolve, invoke, builtin, Sem.run_bind, Sem.run_pure, Result.andThen_ok, List.map_toArray, List.map_cons, List.map_nil]
          have qc := mv CS.below rfl q6
          obtain ⟨v', uc, hr', G1, G2, _⟩ := apph2_run 22 CS.t xd q7 qc (by rw [HN.out.1, HNN.out.1]; omega) CS.below.size
          change Oper.upon _ _ _ _ _ ((Sem.run _ (Builtin.append_ _ _ #[.slice AT nT cT, .slice (some ⟨gd, 0, none⟩) 2 2]) _).andThen _)
          rw [hr']
          replace xm := xm.grw G2 hne7
          replace CS := CS.appT G1 G2
          obtain ⟨AT2, cT2, e2⟩ := G1.slice
          rw [show (LT ++ [mi, ty]).length = nT + 2 by rw [List.length_append, HN.out.1]; rfl] at e2
          subst e2
          go_simp
          clear hr' G1 G2 qc xd q7
          refine hK.out _ _ (by exact ⟨CS.box.at 0, xm.at 0, xm.at 1, xm.at 2, mv CS.below rfl a0, mv CS.below rfl s0, mv CS.below rfl s1, mv CS.below rfl s2⟩) (fun hHeldn2 => ?_)
          clear hK K hHeldn1
          try simp only [Act.put]
          refine wpAnyT_take (i := 11) (v := ?n28v11) rfl (by kernel_rfl) (by kernel_rfl) (by kernel_rfl) (by kernel_rfl) (by kernel_rfl) (by kernel_rfl) (fun _ _ _ h => panic_put (P := Tryd.prog) (fn := Tryd.f18) (R := (TellT kk tt w)) h) (Or.inl ⟨by rfl, ?n28y11⟩) (by assumption) ?_
          case n28y11 => (intro w hSw; (try dsimp only at hSw); go_simp); try with_reducible rfl
          change wpAnyT _ _ _ _ _ _ _ _ (Act.put _ (some 58) _) _
          simp only [Act.put, List.setIfInBounds_toArray, List.set_cons_zero, List.set_cons_succ]
          rotate_left
          all_goals (
            clear hHeldn2
            refine wpAnyT_ready (rs := [12]) (by kernel_rfl) (by simp) ?_
            refine AllReadyT.consB (o := _) rfl (by kernel_rfl) (fun K hK => ?_) AllReadyT.nil
            have f0 := CS.box.frozen 0
            have b0 : World.cell? _ ⟨g4, 0, none⟩ = some (.slice AT nT cT) := CS.box.at 0
            go_simp
            replace CS := CS.put0 nol_slice nol_slice (.slice AT2 (nT + 2) cT2)
            clear f0 b0
            refine hK.out _ _ ?_
            clear hK K
            try simp only [Act.put]
            refine wpAnyT_done (by kernel_rfl) ?_ _
            clear xm hne7
            generalize World.setCell _ _ _ = W5 at *
            go_upto_region 11 with fail
            have qa := mv CS.below rfl q3
            have qb := mv CS.below rfl q4
            have b1 : World.cell? _ ⟨g4, 1, none⟩ = some (.slice AV nV cV) := CS.box.at 1
            have z0 : World.cell? _ ⟨gz, 0, none⟩ = some (.bool v.lo.s) := CS.z.at 0
            have z1 : World.cell? _ ⟨gz, 1, none⟩ = some (.slice A3 n3 c3) := CS.z.at 1
            have z2 : World.cell? _ ⟨gz, 2, none⟩ = some (.int .i64 v.lo.e) := CS.z.at 2
            have z3 : World.cell? _ ⟨gz, 3, none⟩ = some (.bool v.hi.s) := CS.z.at 3
            have z4 : World.cell? _ ⟨gz, 4, none⟩ = some (.slice A4 n4 c4) := CS.z.at 4
            have z5 : World.cell? _ ⟨gz, 5, none⟩ = some (.int .i64 v.hi.e) := CS.z.at 5
            have b := below_alloc W5 (.cells #[.bool v.lo.s, .slice A3 n3 c3, .int .i64 v.lo.e, .bool v.hi.s, .slice A4 n4 c4, .int .i64 v.hi.e, .bool v.lo.s, .slice A3 n3 c3, .int .i64 v.lo.e, .bool v.hi.s, .slice A4 n4 c4, .int .i64 v.hi.e] 35)
            have xi := Blk.new W5 #[.bool v.lo.s, .slice A3 n3 c3, .int .i64 v.lo.e, .bool v.hi.s, .slice A4 n4 c4, .int .i64 v.hi.e, .bool v.lo.s, .slice A3 n3 c3, .int .i64 v.lo.e, .bool v.hi.s, .slice A4 n4 c4, .int .i64 v.hi.e] 35
            have CS2 := CS.go b
            replace qa := mv b rfl qa
            replace qb := mv b rfl qb
            clear b
            obtain ⟨v', W6, hr', G1, G2, G3⟩ := appr_run 23 CS2.v (rdv_two xi qa qb) (by omega) (by rw [HN.out.2, HNN.out.2]; omega) CS2.below.size
            replace CS := CS2.appV G1 G2 G3
            clear CS2 xi qa qb
            have e8 : LV ++ (List.range 2).map (fun _ => v) = LV ++ [v, v] := rfl
            rw [e8] at CS G1
            obtain ⟨AV2, cV2, e2⟩ := G1.slice
            rw [show (LV ++ [v, v]).length = nV + 2 by rw [List.length_append, HN.out.2]; rfl] at e2
            subst e2
            clear G1 G2 G3 e8
            have f1 := CS.box.frozen 1
            have b1w : World.cell? _ ⟨g4, 1, none⟩ = some (.slice AV nV cV) := CS.box.at 1
            have CS3 := CS.put1 nol_slice nol_slice (.slice AV2 (nV + 2) cV2)
            go_wp2_with (at_builtin; refine wp_grow rfl _ _ rfl rfl rfl hr' ?_)
            go_roundg (gk - 1)
            case measure => have := HG.out; omega
            case rel => exact ⟨i + 1, by have := HG.out; omega, by go_num, Lib.hid (fun j hj => by
              rcases (show j < i ∨ j = i by omega) with h | rfl
              · exact HO.out j h
              · exact HKI.out.symm), AT2, cT2, AV2, cV2, by rw [HT2.out, HV2.out, ← HE.out.1, ← HE.out.2.1, ← HE.out.2.2.1, show 2 * (i + 1) + 1 = nT + 2 by rw [HNN.out.1]; omega, show 2 * (i + 1) = nV + 2 by rw [HNN.out.2]; omega]; exact CS3.tub⟩)
    · have hin : i = a.n := by have := HG.out; omega
      rw [hin] at TS HO
      clear HG hin
      have hk0 : firstE kf a.n = 0 := firstE_zero.2 HO.out
      have e1 : kk = 0 := HKK.out.trans hk0
      have e2 : tt = halfT a M := HTT.out.trans (if_pos e1)
      subst e1
      have HTE := Lib.hid e2
      clear e2 hk0
      have b0 : World.cell? _ ⟨g4, 0, none⟩ = some (.slice AT (2 * a.n + 1) cT) := TS.box.at 0
      have b1 : World.cell? _ ⟨g4, 1, none⟩ = some (.slice AV (2 * a.n) cV) := TS.box.at 1
      have h256 : ¬ ((2 * a.n : Nat) : Int) > 256 := by omega
      have h256b : ¬ (256 : Int) < ((2 * a.n : Nat) : Int) := by omega
      have hz : RdTb wr AT cT AV cV (halfT a M) := by
        obtain ⟨A8, c8, e8, r8, _⟩ := TS.t.form
        obtain ⟨A9, c9, e9, r9, _⟩ := TS.v.form
        rw [halT_len] at e8 r8
        rw [halV_len] at e9 r9
        injection e8 with e8a e8b e8c
        injection e9 with e9a e9b e9c
        subst e8a e8c e9a e9c
        exact ⟨r8.congr fun j hj => halT_get hj, r9.congr fun j hj => halV_get hj⟩
      have r := mv TS.below rfl r
      have BB := below_next BB BB.size TS.below rfl rfl rfl rfl
      generalize hn2 : 2 * a.n = n2 at *
      have HN2 := Lib.hid hn2
      clear hn2
      go_wp2_with fail
      refine (show Calls _ _ #[.agg #[.slice AT (n2 + 1) cT, .slice AV n2 cV]] _ (OwnEnd (halfT a M) _) from by rw [← HN2.out]; exact town2_any hz (show 2 * a.n + 1 ≤ 1000 by omega) (show 2 * a.n ≤ 1000 by omega) (HEN.out HO.out).1 (HEN.out HO.out).2).mono ?_
      rw [← HTE.out]
      rintro en w6 ⟨gT, gV, rfl, hH, hI, b⟩
      clear hz b0 b1
      replace BB := bnx BB b rfl rfl rfl rfl
      replace r := mv b rfl r
      clear b
      obtain ⟨f0, f1⟩ := (show _ ∧ _ from ⟨r.frozen 0, r.frozen 1⟩)
      have z0 : World.cell? _ ⟨w.heap.size + 1, 0, none⟩ = some (.slice none 0 0) := r.at 0
      have z1 : World.cell? _ ⟨w.heap.size + 1, 1, none⟩ = some (.slice none 0 0) := r.at 1
      go_wp2
      have qq := r.put2 (.slice (some ⟨gT, 0, none⟩) tt.m tt.m) (.slice (some ⟨gV, 0, none⟩) tt.n tt.n)
      have HB3 := below_put2 (g := w.heap.size + 1) BB (by omega) (.slice (some ⟨gT, 0, none⟩) tt.m tt.m) (.slice (some ⟨gV, 0, none⟩) tt.n tt.n)
      obtain ⟨hH2, hI2⟩ := own_put2 r nol_slice nol_slice hH hI (.slice (some ⟨gT, 0, none⟩) tt.m tt.m) (.slice (some ⟨gV, 0, none⟩) tt.n tt.n)
      have y0 : World.cell? _ ⟨w.heap.size + 1, 0, none⟩ = some (.slice (some ⟨gT, 0, none⟩) tt.m tt.m) := qq.at 0
      have y1 : World.cell? _ ⟨w.heap.size + 1, 1, none⟩ = some (.slice (some ⟨gV, 0, none⟩) tt.n tt.n) := qq.at 1
      exact bodyPost_ret (v := .tuple #[.agg #[.slice (some ⟨gT, 0, none⟩) tt.m tt.m, .slice (some ⟨gV, 0, none⟩) tt.n tt.n], .int .i64 0]) (by simp [results, Tryd.results18, go_sem, y0, y1]) rfl ⟨_, _, _, _, rfl, own_rd hH2 hI2, HB3⟩

end Go.Proofs.YtkpcmgfpmekkjaaDoor
