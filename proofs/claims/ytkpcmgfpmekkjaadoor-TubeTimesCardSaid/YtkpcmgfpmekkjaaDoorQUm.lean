/-
  Contract of tube's Join, at this translation. Condition: the slices read as limbs, the table of math/bits reads as its text lays it.
-/
import Derived.StillTailTactics
import Derived.Deep.CutBlock
import Derived.Test.YtkpcmgfpmekkjaaDoorQUk
import Derived.Test.YtkpcmgfpmekkjaaDoorQUl
import Derived.Test.YtkpcmgfpmekkjaaDoorQUd
namespace Go.Proofs.YtkpcmgfpmekkjaaDoor
open Go.RowKit


/-- a slice from its second number on -/
theorem RdD.tail {w : World} {g off m c : Nat} {X : Nat → Rw} (h : RdD w (some ⟨g, off, none⟩) m c X) (hm : 1 ≤ m) : RdD w (some ⟨g, off + 3, none⟩) (m - 1) (c - 1) (fun i => X (i + 1)) :=
  ⟨by have := h.cap; omega, by have := h.max; omega, fun hn => by
    obtain ⟨b, o, e, hc⟩ := h.at_ (by omega)
    injection e with e
    injection e with e1 e2
    subst e1 e2
    exact ⟨g, off + 3, rfl, fun i hi => by
      have := hc (i + 1) (by omega)
      rwa [show off + (i + 1) * 3 = off + 3 + i * 3 by omega] at this⟩⟩
def joinTT (K : Nat) (a b : Tb) : Tb := if joinK K a b = 0 then joinT a b else Tb.zero
section
variable {K : Nat} {a b : Tb}
theorem join_no (h : ¬ (mayTb K a = true ∧ mayTb K b = true ∧ sameQ (a.T a.n) (b.T 0) = true)) (hK : 4194304 ≤ K) : joinK K a b = 1 := by
  unfold joinK
  refine if_neg fun h2 => h ?_
  simp only [Bool.and_eq_true, decide_eq_true_eq] at h2
  obtain ⟨h3, h4, h5, _⟩ := h2
  have ha := mayTb_iff.1 h3
  have hb := mayTb_iff.1 h4
  exact ⟨h3, h4, sameQ_iff.2 (one_of_v hK (ha.T _ (by omega)) (hb.T 0 (by omega)) ((cmpQ_eq (ha.T _ (by omega)) (hb.T 0 (by omega))).1 h5))⟩
theorem join_yes (h1 : mayTb K a = true) (h2 : mayTb K b = true) (h3 : sameQ (a.T a.n) (b.T 0) = true) (hn : a.n + b.n ≤ 256) : joinK K a b = 0 := joinK_ok.2 ⟨mayTb_iff.1 h1, mayTb_iff.1 h2, by rw [show a.t K a.n = (a.T a.n).v K from rfl, sameQ_iff.1 h3]; rfl, hn⟩
/-- the lists of a join read as the join -/
theorem join_T (ha : a.m = a.n + 1) (hb : b.m = b.n + 1) {i : Nat} (hi : i < a.n + b.n + 1) : (((List.range a.m).map a.T ++ (List.range (b.m - 1)).map fun i => b.T (i + 1)) : List Rw).getD i Rw.zero = (joinT a b).T i := by
  show _ = if i < a.n + 1 then a.T i else b.T (i - a.n)
  split
  · next h1 =>
    rw [List.getD_eq_getElem?_getD, List.getElem?_append_left (by simp; omega), ← List.getD_eq_getElem?_getD]
    exact map_getD (by omega)
  · next h1 =>
    rw [List.getD_eq_getElem?_getD, List.getElem?_append_right (by simp; omega), ← List.getD_eq_getElem?_getD, map_getD (by simp; omega)]
    congr 1
    simp
    omega
theorem join_V {i : Nat} (hi : i < a.n + b.n) : (((List.range a.n).map a.V ++ (List.range b.n).map b.V) : List Iv).getD i Iv.zero = (joinT a b).V i := by
  show _ = if i < a.n then a.V i else b.V (i - a.n)
  split
  · next h1 =>
    rw [List.getD_eq_getElem?_getD, List.getElem?_append_left (by simp; omega), ← List.getD_eq_getElem?_getD]
    exact map_getD (by omega)
  · next h1 =>
    rw [List.getD_eq_getElem?_getD, List.getElem?_append_right (by simp; omega), ← List.getD_eq_getElem?_getD, map_getD (by simp; omega)]
    simp
end

set_option maxRecDepth 100000 in
set_option maxHeartbeats 8000000 in
theorem tjoin_any {w : World} {KS : Nat} {a : Tb} {Ta Va : Option Addr} {ca da : Nat} {u : Tb} {Tu Vu : Option Addr} {cu du : Nat} (hKS : 4194304 ≤ KS) (hT : Tab w) (ha : RdTb w Ta ca Va da a) (hu : RdTb w Tu cu Vu du u) (hna : a.n ≤ 40) (hnu : u.n ≤ 40) :
    Calls Tryd.prog 17 #[.agg #[.slice Ta a.m ca, .slice Va a.n da], .agg #[.slice Tu u.m cu, .slice Vu u.n du]] w (TellT (joinK KS a u) (joinTT KS a u) w) := by
  have HK0 := Lib.hid hKS
  obtain ⟨kk, hkk⟩ : ∃ z, z = joinK KS a u := ⟨_, rfl⟩
  obtain ⟨tt, htt⟩ : ∃ z, z = joinTT KS a u := ⟨_, rfl⟩
  rw [← hkk, ← htt]
  unfold joinTT at htt
  rw [← hkk] at htt
  have HKK := Lib.hid hkk
  have HTT := Lib.hid htt
  clear hkk htt
  have hcp := ha.v.cap
  have hcm := ha.v.max
  have hcq := hu.v.cap
  have hcr := hu.v.max
  have hcs := hu.at_.cap
  have hct := hu.at_.max
  obtain ⟨p1, hp1⟩ : ∃ p, p = mayTb KS a := ⟨_, rfl⟩
  have HP1 := Lib.hid hp1
  clear hp1
  obtain ⟨p2, hp2⟩ : ∃ p, p = mayTb KS u := ⟨_, rfl⟩
  have HP2 := Lib.hid hp2
  clear hp2
  obtain ⟨p3, hp3⟩ : ∃ p, p = sameQ (a.T a.n) (u.T 0) := ⟨_, rfl⟩
  have HP3 := Lib.hid hp3
  clear hp3
  have BB := Below.refl w.heap.size w
  have b := below_alloc w (.cells #[.slice Ta a.m ca, .slice Va a.n da] 25)
  have xa := Blk.new w #[.slice Ta a.m ca, .slice Va a.n da] 25
  replace BB := bnx BB b rfl rfl rfl rfl
  have G := mv b rfl (J3 ha hu hT)
  clear ha hu hT
  obtain ⟨ha, hu, hT⟩ := G
  clear b
  have b := below_alloc (w.alloc (.cells #[.slice Ta a.m ca, .slice Va a.n da] 25)) (.cells #[.slice Tu u.m cu, .slice Vu u.n du] 25)
  have xu := Blk.new (w.alloc (.cells #[.slice Ta a.m ca, .slice Va a.n da] 25)) #[.slice Tu u.m cu, .slice Vu u.n du] 25
  rw [show (w.alloc (.cells #[.slice Ta a.m ca, .slice Va a.n da] 25)).heap.size = w.heap.size + 1 by simp] at xu
  replace BB := bnx BB b rfl rfl rfl rfl
  have G := mv b rfl (J4 ha hu hT xa)
  clear ha hu hT xa
  obtain ⟨ha, hu, hT, xa⟩ := G
  clear b
  have b := below_alloc ((w.alloc (.cells #[.slice Ta a.m ca, .slice Va a.n da] 25)).alloc (.cells #[.slice Tu u.m cu, .slice Vu u.n du] 25)) (.cells #[.slice none 0 0, .slice none 0 0] 25)
  have xr := Blk.new ((w.alloc (.cells #[.slice Ta a.m ca, .slice Va a.n da] 25)).alloc (.cells #[.slice Tu u.m cu, .slice Vu u.n du] 25)) #[.slice none 0 0, .slice none 0 0] 25
  rw [show ((w.alloc (.cells #[.slice Ta a.m ca, .slice Va a.n da] 25)).alloc (.cells #[.slice Tu u.m cu, .slice Vu u.n du] 25)).heap.size = w.heap.size + 2 by simp] at xr
  replace BB := bnx BB b rfl rfl rfl rfl
  have G := mv b rfl (J5 ha hu hT xa xu)
  clear ha hu hT xa xu
  obtain ⟨ha, hu, hT, xa, xu⟩ := G
  clear b
  have a0 : World.cell? _ ⟨_, 0, none⟩ = some (.slice Ta a.m ca) := xa.at 0
  have a1 : World.cell? _ ⟨_, 1, none⟩ = some (.slice Va a.n da) := xa.at 1
  have b0 : World.cell? _ ⟨_, 0, none⟩ = some (.slice Tu u.m cu) := xu.at 0
  have b1 : World.cell? _ ⟨_, 1, none⟩ = some (.slice Vu u.n du) := xu.at 1
  have r := xr
  clear xa xu xr
  go_enter Tryd.func17, Tryd.ntmps17
  go_upto_region 1 with fail
  generalize (((w.alloc (.cells #[.slice Ta a.m ca, .slice Va a.n da] 25)).alloc (.cells #[.slice Tu u.m cu, .slice Vu u.n du] 25)).alloc (.cells #[.slice none 0 0, .slice none 0 0] 25)) = W1 at *
  have b9 : Below W1.heap.size W1 (World.drew W1) := below_drewN (Below.refl _ _) 1
  cases p1
  case false =>
    have e1 : kk = 1 := HKK.out.trans (join_no (fun h => by rw [← HP1.out] at h; exact absurd h.1 (by decide)) HK0.out)
    have e2 : tt = Tb.zero := HTT.out.trans (if_neg (by rw [e1]; decide))
    subst e1 e2
    replace BB := below_next BB BB.size b9 rfl rfl rfl rfl
    have G := mv b9 rfl (J8 ha hu hT a0 a1 b0 b1 r)
    clear ha hu hT a0 a1 b0 b1 r
    obtain ⟨ha, hu, hT, a0, a1, b0, b1, r⟩ := G
    clear b9
    go_wp2_with fail
    refine wp_region_held_drew (S := fun w' => w'.cell? ⟨w.heap.size, 0, none⟩ = some (.slice Ta a.m ca) ∧ w'.cell? ⟨w.heap.size, 1, none⟩ = some (.slice Va a.n da) ∧ w'.cell? ⟨w.heap.size + 1, 0, none⟩ = some (.slice Tu u.m cu) ∧ w'.cell? ⟨w.heap.size + 1, 1, none⟩ = some (.slice Vu u.n du)) (by kernel_rfl) (by exact ⟨a0, a1, b0, b1⟩) (fun hHeldja0 => ?_)
    generalize World.drew W1 = wd at *
    refine tk 0 6 ?_
    simp only [Act.put, List.setIfInBounds_toArray, List.set_cons_zero, List.set_cons_succ]
    refine wpAnyH_ready (rs := [1]) (by kernel_rfl) (by simp) ?_
    refine AllReadyH.cons (o := _) rfl (fun K hK => ?_) AllReadyH.nil
    go_simp
    refine (tmayt_any HK0.out hT ha).mono ?_
    rintro en w1 ⟨rfl, b⟩
    rw [← HP1.out]
    replace BB := below_next BB BB.size b (by rfl) (by rfl) (by rfl) (by rfl)
    have G := mv b (by rfl) <| And.intro ha <| And.intro hu <| And.intro hT <| And.intro a0 <| And.intro a1 <| And.intro b0 <| And.intro b1 <| r
    clear ha hu hT a0 a1 b0 b1 r
    obtain ⟨ha, hu, hT, a0, a1, b0, b1, r⟩ := G
    clear b
    refine hK.out _ _ (by exact ⟨a0, a1, b0, b1⟩) (fun hHeldja1 => ?_)
    clear hK K hHeldja0
    try simp only [Act.put]
    refine tk 2 8 ?_
    simp only [Act.put, List.setIfInBounds_toArray, List.set_cons_zero, List.set_cons_succ]
    refine tk 3 9 ?_
    simp only [Act.put, List.setIfInBounds_toArray, List.set_cons_zero, List.set_cons_succ]
    refine wpAnyH_take (i := 4) (v := undef) rfl (by kernel_rfl) (by kernel_rfl) (by kernel_rfl) (fun _ _ _ h => panic_put (P := Tryd.prog) (fn := Tryd.f17) (R := (TellT 1 Tb.zero w)) h) (Or.inr ⟨by rfl, rfl⟩) (by assumption) ?_
    change wpAnyH _ _ _ _ _ _ _ (Act.put _ (some 10) _) _
    simp only [Act.put, List.setIfInBounds_toArray, List.set_cons_zero, List.set_cons_succ]
    refine wpAnyH_take (i := 5) (v := undef) rfl (by kernel_rfl) (by kernel_rfl) (by kernel_rfl) (fun _ _ _ h => panic_put (P := Tryd.prog) (fn := Tryd.f17) (R := (TellT 1 Tb.zero w)) h) (Or.inr ⟨by rfl, rfl⟩) (by assumption) ?_
    change wpAnyH _ _ _ _ _ _ _ (Act.put _ (some 11) _) _
    simp only [Act.put, List.setIfInBounds_toArray, List.set_cons_zero, List.set_cons_succ]
    refine wpAnyH_take (i := 6) (v := undef) rfl (by kernel_rfl) (by kernel_rfl) (by kernel_rfl) (fun _ _ _ h => panic_put (P := Tryd.prog) (fn := Tryd.f17) (R := (TellT 1 Tb.zero w)) h) (Or.inr ⟨by rfl, rfl⟩) (by assumption) ?_
    change wpAnyH _ _ _ _ _ _ _ (Act.put _ (some 12) _) _
    simp only [Act.put, List.setIfInBounds_toArray, List.set_cons_zero, List.set_cons_succ]
    refine tk 7 13 ?_
    simp only [Act.put, List.setIfInBounds_toArray, List.set_cons_zero, List.set_cons_succ]
    refine tk 8 14 ?_
    simp only [Act.put, List.setIfInBounds_toArray, List.set_cons_zero, List.set_cons_succ]
    refine wpAnyH_take (i := 9) (v := undef) rfl (by kernel_rfl) (by kernel_rfl) (by kernel_rfl) (fun _ _ _ h => panic_put (P := Tryd.prog) (fn := Tryd.f17) (R := (TellT 1 Tb.zero w)) h) (Or.inr ⟨by rfl, rfl⟩) (by assumption) ?_
    change wpAnyH _ _ _ _ _ _ _ (Act.put _ (some 15) _) _
    simp only [Act.put, List.setIfInBounds_toArray, List.set_cons_zero, List.set_cons_succ]
    refine wpAnyH_take (i := 10) (v := undef) rfl (by kernel_rfl) (by kernel_rfl) (by kernel_rfl) (fun _ _ _ h => panic_put (P := Tryd.prog) (fn := Tryd.f17) (R := (TellT 1 Tb.zero w)) h) (Or.inr ⟨by rfl, rfl⟩) (by assumption) ?_
    change wpAnyH _ _ _ _ _ _ _ (Act.put _ (some 16) _) _
    simp only [Act.put, List.setIfInBounds_toArray, List.set_cons_zero, List.set_cons_succ]
    refine wpAnyH_take (i := 11) (v := undef) rfl (by kernel_rfl) (by kernel_rfl) (by kernel_rfl) (fun _ _ _ h => panic_put (P := Tryd.prog) (fn := Tryd.f17) (R := (TellT 1 Tb.zero w)) h) (Or.inr ⟨by rfl, rfl⟩) (by assumption) ?_
    change wpAnyH _ _ _ _ _ _ _ (Act.put _ (some 17) _) _
    simp only [Act.put, List.setIfInBounds_toArray, List.set_cons_zero, List.set_cons_succ]
    refine wpAnyH_take (i := 12) (v := undef) rfl (by kernel_rfl) (by kernel_rfl) (by kernel_rfl) (fun _ _ _ h => panic_put (P := Tryd.prog) (fn := Tryd.f17) (R := (TellT 1 Tb.zero w)) h) (Or.inr ⟨by rfl, rfl⟩) (by assumption) ?_
    change wpAnyH _ _ _ _ _ _ _ (Act.put _ (some 18) _) _
    simp only [Act.put, List.setIfInBounds_toArray, List.set_cons_zero, List.set_cons_succ]
    refine wpAnyH_take (i := 13) (v := undef) rfl (by kernel_rfl) (by kernel_rfl) (by kernel_rfl) (fun _ _ _ h => panic_put (P := Tryd.prog) (fn := Tryd.f17) (R := (TellT 1 Tb.zero w)) h) (Or.inr ⟨by rfl, rfl⟩) (by assumption) ?_
    change wpAnyH _ _ _ _ _ _ _ (Act.put _ (some 19) _) _
    simp only [Act.put, List.setIfInBounds_toArray, List.set_cons_zero, List.set_cons_succ]
    refine wpAnyH_take (i := 14) (v := undef) rfl (by kernel_rfl) (by kernel_rfl) (by kernel_rfl) (fun _ _ _ h => panic_put (P := Tryd.prog) (fn := Tryd.f17) (R := (TellT 1 Tb.zero w)) h) (Or.inr ⟨by rfl, rfl⟩) (by assumption) ?_
    change wpAnyH _ _ _ _ _ _ _ (Act.put _ (some 20) _) _
    simp only [Act.put, List.setIfInBounds_toArray, List.set_cons_zero, List.set_cons_succ]
    refine wpAnyH_take (i := 15) (v := undef) rfl (by kernel_rfl) (by kernel_rfl) (by kernel_rfl) (fun _ _ _ h => panic_put (P := Tryd.prog) (fn := Tryd.f17) (R := (TellT 1 Tb.zero w)) h) (Or.inr ⟨by rfl, rfl⟩) (by assumption) ?_
    change wpAnyH _ _ _ _ _ _ _ (Act.put _ (some 21) _) _
    simp only [Act.put, List.setIfInBounds_toArray, List.set_cons_zero, List.set_cons_succ]
    refine wpAnyH_take (i := 16) (v := undef) rfl (by kernel_rfl) (by kernel_rfl) (by kernel_rfl) (fun _ _ _ h => panic_put (P := Tryd.prog) (fn := Tryd.f17) (R := (TellT 1 Tb.zero w)) h) (Or.inr ⟨by rfl, rfl⟩) (by assumption) ?_
    change wpAnyH _ _ _ _ _ _ _ (Act.put _ (some 22) _) _
    simp only [Act.put, List.setIfInBounds_toArray, List.set_cons_zero, List.set_cons_succ]
    refine tk 17 23 ?_
    simp only [Act.put, List.setIfInBounds_toArray, List.set_cons_zero, List.set_cons_succ]
    refine tk 18 24 ?_
    simp only [Act.put, List.setIfInBounds_toArray, List.set_cons_zero, List.set_cons_succ]
    refine wpAnyH_take (i := 19) (v := undef) rfl (by kernel_rfl) (by kernel_rfl) (by kernel_rfl) (fun _ _ _ h => panic_put (P := Tryd.prog) (fn := Tryd.f17) (R := (TellT 1 Tb.zero w)) h) (Or.inr ⟨by rfl, rfl⟩) (by assumption) ?_
    change wpAnyH _ _ _ _ _ _ _ (Act.put _ (some 25) _) _
    simp only [Act.put, List.setIfInBounds_toArray, List.set_cons_zero, List.set_cons_succ]
    refine wpAnyH_take (i := 20) (v := undef) rfl (by kernel_rfl) (by kernel_rfl) (by kernel_rfl) (fun _ _ _ h => panic_put (P := Tryd.prog) (fn := Tryd.f17) (R := (TellT 1 Tb.zero w)) h) (Or.inr ⟨by rfl, rfl⟩) (by assumption) ?_
    change wpAnyH _ _ _ _ _ _ _ (Act.put _ (some 26) _) _
    simp only [Act.put, List.setIfInBounds_toArray, List.set_cons_zero, List.set_cons_succ]
    refine wpAnyH_take (i := 21) (v := undef) rfl (by kernel_rfl) (by kernel_rfl) (by kernel_rfl) (fun _ _ _ h => panic_put (P := Tryd.prog) (fn := Tryd.f17) (R := (TellT 1 Tb.zero w)) h) (Or.inr ⟨by rfl, rfl⟩) (by assumption) ?_
    change wpAnyH _ _ _ _ _ _ _ (Act.put _ (some 27) _) _
    simp only [Act.put, List.setIfInBounds_toArray, List.set_cons_zero, List.set_cons_succ]
    refine wpAnyH_take (i := 22) (v := undef) rfl (by kernel_rfl) (by kernel_rfl) (by kernel_rfl) (fun _ _ _ h => panic_put (P := Tryd.prog) (fn := Tryd.f17) (R := (TellT 1 Tb.zero w)) h) (Or.inr ⟨by rfl, rfl⟩) (by assumption) ?_
    change wpAnyH _ _ _ _ _ _ _ (Act.put _ (some 28) _) _
    simp only [Act.put, List.setIfInBounds_toArray, List.set_cons_zero, List.set_cons_succ]
    refine wpAnyH_take (i := 23) (v := undef) rfl (by kernel_rfl) (by kernel_rfl) (by kernel_rfl) (fun _ _ _ h => panic_put (P := Tryd.prog) (fn := Tryd.f17) (R := (TellT 1 Tb.zero w)) h) (Or.inr ⟨by rfl, rfl⟩) (by assumption) ?_
    change wpAnyH _ _ _ _ _ _ _ (Act.put _ (some 29) _) _
    simp only [Act.put, List.setIfInBounds_toArray, List.set_cons_zero, List.set_cons_succ]
    refine wpAnyH_take (i := 24) (v := undef) rfl (by kernel_rfl) (by kernel_rfl) (by kernel_rfl) (fun _ _ _ h => panic_put (P := Tryd.prog) (fn := Tryd.f17) (R := (TellT 1 Tb.zero w)) h) (Or.inr ⟨by rfl, rfl⟩) (by assumption) ?_
    change wpAnyH _ _ _ _ _ _ _ (Act.put _ (some 30) _) _
    simp only [Act.put, List.setIfInBounds_toArray, List.set_cons_zero, List.set_cons_succ]
    refine wpAnyH_take (i := 25) (v := undef) rfl (by kernel_rfl) (by kernel_rfl) (by kernel_rfl) (fun _ _ _ h => panic_put (P := Tryd.prog) (fn := Tryd.f17) (R := (TellT 1 Tb.zero w)) h) (Or.inr ⟨by rfl, rfl⟩) (by assumption) ?_
    change wpAnyH _ _ _ _ _ _ _ (Act.put _ (some 31) _) _
    simp only [Act.put, List.setIfInBounds_toArray, List.set_cons_zero, List.set_cons_succ]
    refine wpAnyH_take (i := 26) (v := undef) rfl (by kernel_rfl) (by kernel_rfl) (by kernel_rfl) (fun _ _ _ h => panic_put (P := Tryd.prog) (fn := Tryd.f17) (R := (TellT 1 Tb.zero w)) h) (Or.inr ⟨by rfl, rfl⟩) (by assumption) ?_
    change wpAnyH _ _ _ _ _ _ _ (Act.put _ (some 32) _) _
    simp only [Act.put, List.setIfInBounds_toArray, List.set_cons_zero, List.set_cons_succ]
    refine tk 27 33 ?_
    simp only [Act.put, List.setIfInBounds_toArray, List.set_cons_zero, List.set_cons_succ]
    refine wpAnyH_done (by kernel_rfl) ?_ _
    obtain ⟨f0, f1⟩ := (show _ ∧ _ from ⟨r.frozen 0, r.frozen 1⟩)
    have z0 : World.cell? _ ⟨w.heap.size + 2, 0, none⟩ = some (.slice none 0 0) := r.at 0
    have z1 : World.cell? _ ⟨w.heap.size + 2, 1, none⟩ = some (.slice none 0 0) := r.at 1
    go_wp2
    have qq := r.put2 (.slice none 0 0) (.slice none 0 0)
    have HB3 := below_put2 (g := w.heap.size + 2) BB (by omega) (.slice none 0 0) (.slice none 0 0)
    have y0 : World.cell? _ ⟨w.heap.size + 2, 0, none⟩ = some (.slice none 0 0) := qq.at 0
    have y1 : World.cell? _ ⟨w.heap.size + 2, 1, none⟩ = some (.slice none 0 0) := qq.at 1
    exact bodyPost_ret (v := .tuple #[.agg #[.slice none 0 0, .slice none 0 0], .int .i64 1]) (by simp [results, Tryd.results17, go_sem, y0, y1]) rfl ⟨_, _, _, _, rfl, rdtb_zero _, HB3⟩
  case true =>
    have HMA := Lib.hid (mayTb_iff.1 HP1.out.symm)
    cases p2
    case false =>
      have e1 : kk = 1 := HKK.out.trans (join_no (fun h => by rw [← HP2.out] at h; exact absurd h.2.1 (by decide)) HK0.out)
      have e2 : tt = Tb.zero := HTT.out.trans (if_neg (by rw [e1]; decide))
      subst e1 e2
      replace BB := below_next BB BB.size b9 rfl rfl rfl rfl
      have G := mv b9 rfl (J8 ha hu hT a0 a1 b0 b1 r)
      clear ha hu hT a0 a1 b0 b1 r
      obtain ⟨ha, hu, hT, a0, a1, b0, b1, r⟩ := G
      clear b9
      go_wp2_with fail
      refine wp_region_held_drew (S := fun w' => w'.cell? ⟨w.heap.size, 0, none⟩ = some (.slice Ta a.m ca) ∧ w'.cell? ⟨w.heap.size, 1, none⟩ = some (.slice Va a.n da) ∧ w'.cell? ⟨w.heap.size + 1, 0, none⟩ = some (.slice Tu u.m cu) ∧ w'.cell? ⟨w.heap.size + 1, 1, none⟩ = some (.slice Vu u.n du)) (by kernel_rfl) (by exact ⟨a0, a1, b0, b1⟩) (fun hHeldjb0 => ?_)
      generalize World.drew W1 = wd at *
      refine tk 0 6 ?_
      simp only [Act.put, List.setIfInBounds_toArray, List.set_cons_zero, List.set_cons_succ]
      refine wpAnyH_ready (rs := [1]) (by kernel_rfl) (by simp) ?_
      refine AllReadyH.cons (o := _) rfl (fun K hK => ?_) AllReadyH.nil
      go_simp
      refine (tmayt_any HK0.out hT ha).mono ?_
      rintro en w1 ⟨rfl, b⟩
      rw [← HP1.out]
      replace BB := below_next BB BB.size b (by rfl) (by rfl) (by rfl) (by rfl)
      have G := mv b (by rfl) <| And.intro ha <| And.intro hu <| And.intro hT <| And.intro a0 <| And.intro a1 <| And.intro b0 <| And.intro b1 <| r
      clear ha hu hT a0 a1 b0 b1 r
      obtain ⟨ha, hu, hT, a0, a1, b0, b1, r⟩ := G
      clear b
      refine hK.out _ _ (by exact ⟨a0, a1, b0, b1⟩) (fun hHeldjb1 => ?_)
      clear hK K hHeldjb0
      try simp only [Act.put]
      refine tk 2 8 ?_
      simp only [Act.put, List.setIfInBounds_toArray, List.set_cons_zero, List.set_cons_succ]
      refine tk 3 9 ?_
      simp only [Act.put, List.setIfInBounds_toArray, List.set_cons_zero, List.set_cons_succ]
      refine tk 4 10 ?_
      simp only [Act.put, List.setIfInBounds_toArray, List.set_cons_zero, List.set_cons_succ]
      refine wpAnyH_ready (rs := [5]) (by kernel_rfl) (by simp) ?_
      refine AllReadyH.cons (o := _) rfl (fun K hK => ?_) AllReadyH.nil
      go_simp
      refine (tmayt_any HK0.out hT hu).mono ?_
      rintro en w2 ⟨rfl, b⟩
      rw [← HP2.out]
      replace BB := below_next BB BB.size b (by rfl) (by rfl) (by rfl) (by rfl)
      have G := mv b (by rfl) <| And.intro ha <| And.intro hu <| And.intro hT <| And.intro a0 <| And.intro a1 <| And.intro b0 <| And.intro b1 <| r
      clear ha hu hT a0 a1 b0 b1 r
      obtain ⟨ha, hu, hT, a0, a1, b0, b1, r⟩ := G
      clear b
      refine hK.out _ _ (by exact ⟨a0, a1, b0, b1⟩) (fun hHeldjb2 => ?_)
      clear hK K hHeldjb1
      try simp only [Act.put]
      refine tk 6 12 ?_
      simp only [Act.put, List.setIfInBounds_toArray, List.set_cons_zero, List.set_cons_succ]
      refine tk 7 13 ?_
      simp only [Act.put, List.setIfInBounds_toArray, List.set_cons_zero, List.set_cons_succ]
      refine tk 8 14 ?_
      simp only [Act.put, List.setIfInBounds_toArray, List.set_cons_zero, List.set_cons_succ]
      refine wpAnyH_take (i := 9) (v := undef) rfl (by kernel_rfl) (by kernel_rfl) (by kernel_rfl) (fun _ _ _ h => panic_put (P := Tryd.prog) (fn := Tryd.f17) (R := (TellT 1 Tb.zero w)) h) (Or.inr ⟨by rfl, rfl⟩) (by assumption) ?_
      change wpAnyH _ _ _ _ _ _ _ (Act.put _ (some 15) _) _
      simp only [Act.put, List.setIfInBounds_toArray, List.set_cons_zero, List.set_cons_succ]
      refine wpAnyH_take (i := 10) (v := undef) rfl (by kernel_rfl) (by kernel_rfl) (by kernel_rfl) (fun _ _ _ h => panic_put (P := Tryd.prog) (fn := Tryd.f17) (R := (TellT 1 Tb.zero w)) h) (Or.inr ⟨by rfl, rfl⟩) (by assumption) ?_
      change wpAnyH _ _ _ _ _ _ _ (Act.put _ (some 16) _) _
      simp only [Act.put, List.setIfInBounds_toArray, List.set_cons_zero, List.set_cons_succ]
      refine wpAnyH_take (i := 11) (v := undef) rfl (by kernel_rfl) (by kernel_rfl) (by kernel_rfl) (fun _ _ _ h => panic_put (P := Tryd.prog) (fn := Tryd.f17) (R := (TellT 1 Tb.zero w)) h) (Or.inr ⟨by rfl, rfl⟩) (by assumption) ?_
      change wpAnyH _ _ _ _ _ _ _ (Act.put _ (some 17) _) _
      simp only [Act.put, List.setIfInBounds_toArray, List.set_cons_zero, List.set_cons_succ]
      refine wpAnyH_take (i := 12) (v := undef) rfl (by kernel_rfl) (by kernel_rfl) (by kernel_rfl) (fun _ _ _ h => panic_put (P := Tryd.prog) (fn := Tryd.f17) (R := (TellT 1 Tb.zero w)) h) (Or.inr ⟨by rfl, rfl⟩) (by assumption) ?_
      change wpAnyH _ _ _ _ _ _ _ (Act.put _ (some 18) _) _
      simp only [Act.put, List.setIfInBounds_toArray, List.set_cons_zero, List.set_cons_succ]
      refine wpAnyH_take (i := 13) (v := undef) rfl (by kernel_rfl) (by kernel_rfl) (by kernel_rfl) (fun _ _ _ h => panic_put (P := Tryd.prog) (fn := Tryd.f17) (R := (TellT 1 Tb.zero w)) h) (Or.inr ⟨by rfl, rfl⟩) (by assumption) ?_
      change wpAnyH _ _ _ _ _ _ _ (Act.put _ (some 19) _) _
      simp only [Act.put, List.setIfInBounds_toArray, List.set_cons_zero, List.set_cons_succ]
      refine wpAnyH_take (i := 14) (v := undef) rfl (by kernel_rfl) (by kernel_rfl) (by kernel_rfl) (fun _ _ _ h => panic_put (P := Tryd.prog) (fn := Tryd.f17) (R := (TellT 1 Tb.zero w)) h) (Or.inr ⟨by rfl, rfl⟩) (by assumption) ?_
      change wpAnyH _ _ _ _ _ _ _ (Act.put _ (some 20) _) _
      simp only [Act.put, List.setIfInBounds_toArray, List.set_cons_zero, List.set_cons_succ]
      refine wpAnyH_take (i := 15) (v := undef) rfl (by kernel_rfl) (by kernel_rfl) (by kernel_rfl) (fun _ _ _ h => panic_put (P := Tryd.prog) (fn := Tryd.f17) (R := (TellT 1 Tb.zero w)) h) (Or.inr ⟨by rfl, rfl⟩) (by assumption) ?_
      change wpAnyH _ _ _ _ _ _ _ (Act.put _ (some 21) _) _
      simp only [Act.put, List.setIfInBounds_toArray, List.set_cons_zero, List.set_cons_succ]
      refine wpAnyH_take (i := 16) (v := undef) rfl (by kernel_rfl) (by kernel_rfl) (by kernel_rfl) (fun _ _ _ h => panic_put (P := Tryd.prog) (fn := Tryd.f17) (R := (TellT 1 Tb.zero w)) h) (Or.inr ⟨by rfl, rfl⟩) (by assumption) ?_
      change wpAnyH _ _ _ _ _ _ _ (Act.put _ (some 22) _) _
      simp only [Act.put, List.setIfInBounds_toArray, List.set_cons_zero, List.set_cons_succ]
      refine tk 17 23 ?_
      simp only [Act.put, List.setIfInBounds_toArray, List.set_cons_zero, List.set_cons_succ]
      refine tk 18 24 ?_
      simp only [Act.put, List.setIfInBounds_toArray, List.set_cons_zero, List.set_cons_succ]
      refine wpAnyH_take (i := 19) (v := undef) rfl (by kernel_rfl) (by kernel_rfl) (by kernel_rfl) (fun _ _ _ h => panic_put (P := Tryd.prog) (fn := Tryd.f17) (R := (TellT 1 Tb.zero w)) h) (Or.inr ⟨by rfl, rfl⟩) (by assumption) ?_
      change wpAnyH _ _ _ _ _ _ _ (Act.put _ (some 25) _) _
      simp only [Act.put, List.setIfInBounds_toArray, List.set_cons_zero, List.set_cons_succ]
      refine wpAnyH_take (i := 20) (v := undef) rfl (by kernel_rfl) (by kernel_rfl) (by kernel_rfl) (fun _ _ _ h => panic_put (P := Tryd.prog) (fn := Tryd.f17) (R := (TellT 1 Tb.zero w)) h) (Or.inr ⟨by rfl, rfl⟩) (by assumption) ?_
      change wpAnyH _ _ _ _ _ _ _ (Act.put _ (some 26) _) _
      simp only [Act.put, List.setIfInBounds_toArray, List.set_cons_zero, List.set_cons_succ]
      refine wpAnyH_take (i := 21) (v := undef) rfl (by kernel_rfl) (by kernel_rfl) (by kernel_rfl) (fun _ _ _ h => panic_put (P := Tryd.prog) (fn := Tryd.f17) (R := (TellT 1 Tb.zero w)) h) (Or.inr ⟨by rfl, rfl⟩) (by assumption) ?_
      change wpAnyH _ _ _ _ _ _ _ (Act.put _ (some 27) _) _
      simp only [Act.put, List.setIfInBounds_toArray, List.set_cons_zero, List.set_cons_succ]
      refine wpAnyH_take (i := 22) (v := undef) rfl (by kernel_rfl) (by kernel_rfl) (by kernel_rfl) (fun _ _ _ h => panic_put (P := Tryd.prog) (fn := Tryd.f17) (R := (TellT 1 Tb.zero w)) h) (Or.inr ⟨by rfl, rfl⟩) (by assumption) ?_
      change wpAnyH _ _ _ _ _ _ _ (Act.put _ (some 28) _) _
      simp only [Act.put, List.setIfInBounds_toArray, List.set_cons_zero, List.set_cons_succ]
      refine wpAnyH_take (i := 23) (v := undef) rfl (by kernel_rfl) (by kernel_rfl) (by kernel_rfl) (fun _ _ _ h => panic_put (P := Tryd.prog) (fn := Tryd.f17) (R := (TellT 1 Tb.zero w)) h) (Or.inr ⟨by rfl, rfl⟩) (by assumption) ?_
      change wpAnyH _ _ _ _ _ _ _ (Act.put _ (some 29) _) _
      simp only [Act.put, List.setIfInBounds_toArray, List.set_cons_zero, List.set_cons_succ]
      refine wpAnyH_take (i := 24) (v := undef) rfl (by kernel_rfl) (by kernel_rfl) (by kernel_rfl) (fun _ _ _ h => panic_put (P := Tryd.prog) (fn := Tryd.f17) (R := (TellT 1 Tb.zero w)) h) (Or.inr ⟨by rfl, rfl⟩) (by assumption) ?_
      change wpAnyH _ _ _ _ _ _ _ (Act.put _ (some 30) _) _
      simp only [Act.put, List.setIfInBounds_toArray, List.set_cons_zero, List.set_cons_succ]
      refine wpAnyH_take (i := 25) (v := undef) rfl (by kernel_rfl) (by kernel_rfl) (by kernel_rfl) (fun _ _ _ h => panic_put (P := Tryd.prog) (fn := Tryd.f17) (R := (TellT 1 Tb.zero w)) h) (Or.inr ⟨by rfl, rfl⟩) (by assumption) ?_
      change wpAnyH _ _ _ _ _ _ _ (Act.put _ (some 31) _) _
      simp only [Act.put, List.setIfInBounds_toArray, List.set_cons_zero, List.set_cons_succ]
      refine wpAnyH_take (i := 26) (v := undef) rfl (by kernel_rfl) (by kernel_rfl) (by kernel_rfl) (fun _ _ _ h => panic_put (P := Tryd.prog) (fn := Tryd.f17) (R := (TellT 1 Tb.zero w)) h) (Or.inr ⟨by rfl, rfl⟩) (by assumption) ?_
      change wpAnyH _ _ _ _ _ _ _ (Act.put _ (some 32) _) _
      simp only [Act.put, List.setIfInBounds_toArray, List.set_cons_zero, List.set_cons_succ]
      refine tk 27 33 ?_
      simp only [Act.put, List.setIfInBounds_toArray, List.set_cons_zero, List.set_cons_succ]
      refine wpAnyH_done (by kernel_rfl) ?_ _
      obtain ⟨f0, f1⟩ := (show _ ∧ _ from ⟨r.frozen 0, r.frozen 1⟩)
      have z0 : World.cell? _ ⟨w.heap.size + 2, 0, none⟩ = some (.slice none 0 0) := r.at 0
      have z1 : World.cell? _ ⟨w.heap.size + 2, 1, none⟩ = some (.slice none 0 0) := r.at 1
      go_wp2
      have qq := r.put2 (.slice none 0 0) (.slice none 0 0)
      have HB3 := below_put2 (g := w.heap.size + 2) BB (by omega) (.slice none 0 0) (.slice none 0 0)
      have y0 : World.cell? _ ⟨w.heap.size + 2, 0, none⟩ = some (.slice none 0 0) := qq.at 0
      have y1 : World.cell? _ ⟨w.heap.size + 2, 1, none⟩ = some (.slice none 0 0) := qq.at 1
      exact bodyPost_ret (v := .tuple #[.agg #[.slice none 0 0, .slice none 0 0], .int .i64 1]) (by simp [results, Tryd.results17, go_sem, y0, y1]) rfl ⟨_, _, _, _, rfl, rdtb_zero _, HB3⟩
    case true =>
      have HMB := Lib.hid (mayTb_iff.1 HP2.out.symm)
      have HL : Hid (a.n < a.m ∧ u.n < u.m) := Lib.hid ⟨by have := HMA.out.len; omega, by have := HMB.out.len; omega⟩
      have hp3 : (0 : Int) < u.m := by have := HL.out; omega
      have hp3n : 0 < u.m := by have := HL.out; omega
      obtain ⟨g2, o2, hTu, hd⟩ := hu.at_.at_ (by omega)
      obtain ⟨A2, n2, c2, ⟨s0, s1, s2⟩, q2⟩ := hd 0 (by omega)
      simp only [Nat.zero_mul, Nat.add_zero] at s0 s1 s2
      clear hd
      subst hTu
      obtain ⟨tb, htb⟩ : ∃ z, z = u.T 0 := ⟨_, rfl⟩
      rw [← htb] at s0 s2 q2
      have HTE := Lib.hid htb
      have HP3b := HP3.out
      rw [← htb] at HP3b
      replace HP3 := Lib.hid HP3b
      clear HP3b htb
      cases p3
      case false =>
        have e1 : kk = 1 := HKK.out.trans (join_no (fun h => by rw [← HTE.out, ← HP3.out] at h; exact absurd h.2.2 (by decide)) HK0.out)
        have e2 : tt = Tb.zero := HTT.out.trans (if_neg (by rw [e1]; decide))
        subst e1 e2
        replace BB := below_next BB BB.size b9 rfl rfl rfl rfl
        have G := mv b9 rfl (J12 ha hu hT a0 a1 b0 b1 s0 s1 s2 q2 r)
        clear ha hu hT a0 a1 b0 b1 s0 s1 s2 q2 r
        obtain ⟨ha, hu, hT, a0, a1, b0, b1, s0, s1, s2, q2, r⟩ := G
        clear b9
        go_wp2_with fail
        refine wp_region_held_drew (S := fun w' => w'.cell? ⟨w.heap.size, 0, none⟩ = some (.slice Ta a.m ca) ∧ w'.cell? ⟨w.heap.size, 1, none⟩ = some (.slice Va a.n da) ∧ w'.cell? ⟨w.heap.size + 1, 0, none⟩ = some (.slice (some ⟨g2, o2, none⟩) u.m cu) ∧ w'.cell? ⟨w.heap.size + 1, 1, none⟩ = some (.slice Vu u.n du) ∧ w'.cell? ⟨g2, o2, none⟩ = some (.bool tb.s) ∧ w'.cell? ⟨g2, o2 + 1, none⟩ = some (.slice A2 n2 c2) ∧ w'.cell? ⟨g2, o2 + 2, none⟩ = some (.int .i64 tb.e)) (by kernel_rfl) (by exact ⟨a0, a1, b0, b1, s0, s1, s2⟩) (fun hHeldjc0 => ?_)
        generalize World.drew W1 = wd at *
        refine tk 0 6 ?_
        simp only [Act.put, List.setIfInBounds_toArray, List.set_cons_zero, List.set_cons_succ]
        refine wpAnyH_ready (rs := [1]) (by kernel_rfl) (by simp) ?_
        refine AllReadyH.cons (o := _) rfl (fun K hK => ?_) AllReadyH.nil
        go_simp
        refine (tmayt_any HK0.out hT ha).mono ?_
        rintro en w1 ⟨rfl, b⟩
        rw [← HP1.out]
        replace BB := below_next BB BB.size b (by rfl) (by rfl) (by rfl) (by rfl)
        have G := mv b (by rfl) <| And.intro ha <| And.intro hu <| And.intro hT <| And.intro a0 <| And.intro a1 <| And.intro b0 <| And.intro b1 <| And.intro s0 <| And.intro s1 <| And.intro s2 <| And.intro q2 <| r
        clear ha hu hT a0 a1 b0 b1 s0 s1 s2 q2 r
        obtain ⟨ha, hu, hT, a0, a1, b0, b1, s0, s1, s2, q2, r⟩ := G
        clear b
        refine hK.out _ _ (by exact ⟨a0, a1, b0, b1, s0, s1, s2⟩) (fun hHeldjc1 => ?_)
        clear hK K hHeldjc0
        try simp only [Act.put]
        refine tk 2 8 ?_
        simp only [Act.put, List.setIfInBounds_toArray, List.set_cons_zero, List.set_cons_succ]
        refine tk 3 9 ?_
        simp only [Act.put, List.setIfInBounds_toArray, List.set_cons_zero, List.set_cons_succ]
        refine tk 4 10 ?_
        simp only [Act.put, List.setIfInBounds_toArray, List.set_cons_zero, List.set_cons_succ]
        refine wpAnyH_ready (rs := [5]) (by kernel_rfl) (by simp) ?_
        refine AllReadyH.cons (o := _) rfl (fun K hK => ?_) AllReadyH.nil
        go_simp
        refine (tmayt_any HK0.out hT hu).mono ?_
        rintro en w2 ⟨rfl, b⟩
        rw [← HP2.out]
        replace BB := below_next BB BB.size b (by rfl) (by rfl) (by rfl) (by rfl)
        have G := mv b (by rfl) <| And.intro ha <| And.intro hu <| And.intro hT <| And.intro a0 <| And.intro a1 <| And.intro b0 <| And.intro b1 <| And.intro s0 <| And.intro s1 <| And.intro s2 <| And.intro q2 <| r
        clear ha hu hT a0 a1 b0 b1 s0 s1 s2 q2 r
        obtain ⟨ha, hu, hT, a0, a1, b0, b1, s0, s1, s2, q2, r⟩ := G
        clear b
        refine hK.out _ _ (by exact ⟨a0, a1, b0, b1, s0, s1, s2⟩) (fun hHeldjc2 => ?_)
        clear hK K hHeldjc1
        try simp only [Act.put]
        refine tk 6 12 ?_
        simp only [Act.put, List.setIfInBounds_toArray, List.set_cons_zero, List.set_cons_succ]
        refine tk 7 13 ?_
        simp only [Act.put, List.setIfInBounds_toArray, List.set_cons_zero, List.set_cons_succ]
        refine tk 8 14 ?_
        simp only [Act.put, List.setIfInBounds_toArray, List.set_cons_zero, List.set_cons_succ]
        refine tk 9 15 ?_
        simp only [Act.put, List.setIfInBounds_toArray, List.set_cons_zero, List.set_cons_succ]
        refine tk 11 17 ?_
        simp only [Act.put, List.setIfInBounds_toArray, List.set_cons_zero, List.set_cons_succ]
        refine tk 12 18 ?_
        simp only [Act.put, List.setIfInBounds_toArray, List.set_cons_zero, List.set_cons_succ]
        refine tk 13 19 ?_
        simp only [Act.put, List.setIfInBounds_toArray, List.set_cons_zero, List.set_cons_succ]
        refine tk 14 20 ?_
        simp only [Act.put, List.setIfInBounds_toArray, List.set_cons_zero, List.set_cons_succ]
        refine wpAnyH_ready (rs := [10]) (by kernel_rfl) (by simp) ?_
        refine AllReadyH.cons (o := _) rfl (fun K hK => ?_) AllReadyH.nil
        go_simp
        refine (tlast_any ha HL.out.1).mono ?_
        rintro en w4 ⟨A3, n3, c3, rfl, q3, b⟩
        replace BB := below_next BB BB.size b (by rfl) (by rfl) (by rfl) (by rfl)
        have G := mv b (by rfl) <| And.intro ha <| And.intro hu <| And.intro hT <| And.intro a0 <| And.intro a1 <| And.intro b0 <| And.intro b1 <| And.intro s0 <| And.intro s1 <| And.intro s2 <| And.intro q2 <| r
        clear ha hu hT a0 a1 b0 b1 s0 s1 s2 q2 r
        obtain ⟨ha, hu, hT, a0, a1, b0, b1, s0, s1, s2, q2, r⟩ := G
        clear b
        refine hK.out _ _ (by exact ⟨a0, a1, b0, b1, s0, s1, s2⟩) (fun hHeldjc3 => ?_)
        clear hK K hHeldjc2
        try simp only [Act.put]
        refine wpAnyH_ready (rs := [15]) (by kernel_rfl) (by simp) ?_
        refine AllReadyH.cons (o := _) rfl (fun K hK => ?_) AllReadyH.nil
        go_simp
        refine (dsame_raw (s := (a.T a.n).s) (t := tb.s) (e := (a.T a.n).e) (f := tb.e) q3 q2).mono ?_
        rintro en w6 ⟨rfl, b⟩
        have e9 : sameB (a.T a.n).s tb.s (a.T a.n).l tb.l (a.T a.n).e tb.e = false := HP3.out.symm
        rw [e9]
        clear e9
        replace BB := below_next BB BB.size b (by rfl) (by rfl) (by rfl) (by rfl)
        have G := mv b (by rfl) <| And.intro ha <| And.intro hu <| And.intro hT <| And.intro a0 <| And.intro a1 <| And.intro b0 <| And.intro b1 <| And.intro s0 <| And.intro s1 <| And.intro s2 <| r
        clear ha hu hT a0 a1 b0 b1 s0 s1 s2 r
        obtain ⟨ha, hu, hT, a0, a1, b0, b1, s0, s1, s2, r⟩ := G
        clear b q3 q2
        refine hK.out _ _ (by exact ⟨a0, a1, b0, b1, s0, s1, s2⟩) (fun hHeldjc4 => ?_)
        clear hK K hHeldjc3
        try simp only [Act.put]
        refine tk 16 22 ?_
        simp only [Act.put, List.setIfInBounds_toArray, List.set_cons_zero, List.set_cons_succ]
        refine tk 17 23 ?_
        simp only [Act.put, List.setIfInBounds_toArray, List.set_cons_zero, List.set_cons_succ]
        refine tk 18 24 ?_
        simp only [Act.put, List.setIfInBounds_toArray, List.set_cons_zero, List.set_cons_succ]
        refine wpAnyH_take (i := 19) (v := undef) rfl (by kernel_rfl) (by kernel_rfl) (by kernel_rfl) (fun _ _ _ h => panic_put (P := Tryd.prog) (fn := Tryd.f17) (R := (TellT 1 Tb.zero w)) h) (Or.inr ⟨by rfl, rfl⟩) (by assumption) ?_
        change wpAnyH _ _ _ _ _ _ _ (Act.put _ (some 25) _) _
        simp only [Act.put, List.setIfInBounds_toArray, List.set_cons_zero, List.set_cons_succ]
        refine wpAnyH_take (i := 20) (v := undef) rfl (by kernel_rfl) (by kernel_rfl) (by kernel_rfl) (fun _ _ _ h => panic_put (P := Tryd.prog) (fn := Tryd.f17) (R := (TellT 1 Tb.zero w)) h) (Or.inr ⟨by rfl, rfl⟩) (by assumption) ?_
        change wpAnyH _ _ _ _ _ _ _ (Act.put _ (some 26) _) _
        simp only [Act.put, List.setIfInBounds_toArray, List.set_cons_zero, List.set_cons_succ]
        refine wpAnyH_take (i := 21) (v := undef) rfl (by kernel_rfl) (by kernel_rfl) (by kernel_rfl) (fun _ _ _ h => panic_put (P := Tryd.prog) (fn := Tryd.f17) (R := (TellT 1 Tb.zero w)) h) (Or.inr ⟨by rfl, rfl⟩) (by assumption) ?_
        change wpAnyH _ _ _ _ _ _ _ (Act.put _ (some 27) _) _
        simp only [Act.put, List.setIfInBounds_toArray, List.set_cons_zero, List.set_cons_succ]
        refine wpAnyH_take (i := 22) (v := undef) rfl (by kernel_rfl) (by kernel_rfl) (by kernel_rfl) (fun _ _ _ h => panic_put (P := Tryd.prog) (fn := Tryd.f17) (R := (TellT 1 Tb.zero w)) h) (Or.inr ⟨by rfl, rfl⟩) (by assumption) ?_
        change wpAnyH _ _ _ _ _ _ _ (Act.put _ (some 28) _) _
        simp only [Act.put, List.setIfInBounds_toArray, List.set_cons_zero, List.set_cons_succ]
        refine wpAnyH_take (i := 23) (v := undef) rfl (by kernel_rfl) (by kernel_rfl) (by kernel_rfl) (fun _ _ _ h => panic_put (P := Tryd.prog) (fn := Tryd.f17) (R := (TellT 1 Tb.zero w)) h) (Or.inr ⟨by rfl, rfl⟩) (by assumption) ?_
        change wpAnyH _ _ _ _ _ _ _ (Act.put _ (some 29) _) _
        simp only [Act.put, List.setIfInBounds_toArray, List.set_cons_zero, List.set_cons_succ]
        refine wpAnyH_take (i := 24) (v := undef) rfl (by kernel_rfl) (by kernel_rfl) (by kernel_rfl) (fun _ _ _ h => panic_put (P := Tryd.prog) (fn := Tryd.f17) (R := (TellT 1 Tb.zero w)) h) (Or.inr ⟨by rfl, rfl⟩) (by assumption) ?_
        change wpAnyH _ _ _ _ _ _ _ (Act.put _ (some 30) _) _
        simp only [Act.put, List.setIfInBounds_toArray, List.set_cons_zero, List.set_cons_succ]
        refine wpAnyH_take (i := 25) (v := undef) rfl (by kernel_rfl) (by kernel_rfl) (by kernel_rfl) (fun _ _ _ h => panic_put (P := Tryd.prog) (fn := Tryd.f17) (R := (TellT 1 Tb.zero w)) h) (Or.inr ⟨by rfl, rfl⟩) (by assumption) ?_
        change wpAnyH _ _ _ _ _ _ _ (Act.put _ (some 31) _) _
        simp only [Act.put, List.setIfInBounds_toArray, List.set_cons_zero, List.set_cons_succ]
        refine wpAnyH_take (i := 26) (v := undef) rfl (by kernel_rfl) (by kernel_rfl) (by kernel_rfl) (fun _ _ _ h => panic_put (P := Tryd.prog) (fn := Tryd.f17) (R := (TellT 1 Tb.zero w)) h) (Or.inr ⟨by rfl, rfl⟩) (by assumption) ?_
        change wpAnyH _ _ _ _ _ _ _ (Act.put _ (some 32) _) _
        simp only [Act.put, List.setIfInBounds_toArray, List.set_cons_zero, List.set_cons_succ]
        refine tk 27 33 ?_
        simp only [Act.put, List.setIfInBounds_toArray, List.set_cons_zero, List.set_cons_succ]
        refine wpAnyH_done (by kernel_rfl) ?_ _
        obtain ⟨f0, f1⟩ := (show _ ∧ _ from ⟨r.frozen 0, r.frozen 1⟩)
        have z0 : World.cell? _ ⟨w.heap.size + 2, 0, none⟩ = some (.slice none 0 0) := r.at 0
        have z1 : World.cell? _ ⟨w.heap.size + 2, 1, none⟩ = some (.slice none 0 0) := r.at 1
        go_wp2
        have qq := r.put2 (.slice none 0 0) (.slice none 0 0)
        have HB3 := below_put2 (g := w.heap.size + 2) BB (by omega) (.slice none 0 0) (.slice none 0 0)
        have y0 : World.cell? _ ⟨w.heap.size + 2, 0, none⟩ = some (.slice none 0 0) := qq.at 0
        have y1 : World.cell? _ ⟨w.heap.size + 2, 1, none⟩ = some (.slice none 0 0) := qq.at 1
        exact bodyPost_ret (v := .tuple #[.agg #[.slice none 0 0, .slice none 0 0], .int .i64 1]) (by simp [results, Tryd.results17, go_sem, y0, y1]) rfl ⟨_, _, _, _, rfl, rdtb_zero _, HB3⟩
      case true =>
        have hk0 := join_yes HP1.out.symm HP2.out.symm (by rw [← HTE.out]; exact HP3.out.symm) (show a.n + u.n ≤ 256 by omega)
        have e1 : kk = 0 := HKK.out.trans hk0
        have e2 : tt = joinT a u := HTT.out.trans (if_pos e1)
        subst e1
        have HJT := Lib.hid e2
        have HJM := Lib.hid (join_may HMA.out HMB.out (joinK_ok.1 hk0).2.2.1 (joinK_ok.1 hk0).2.2.2)
        clear e2 hk0
        have hm2 : 2 ≤ u.m := by have := HMB.out.len; have := HMB.out.pos; omega
        have hw9 : IntKind.i64.wrap ((a.n : Int) + (u.n : Int)) = (a.n : Int) + (u.n : Int) := IntWalk.i64_in _ (by omega)
        have hgt : ¬ ((256 : Int) < (a.n : Int) + (u.n : Int)) := by omega
        have hgt2 : ¬ ((a.n : Int) + (u.n : Int) > 256) := by omega
        replace BB := below_next BB BB.size b9 rfl rfl rfl rfl
        have G := mv b9 rfl (J12 ha hu hT a0 a1 b0 b1 s0 s1 s2 q2 r)
        clear ha hu hT a0 a1 b0 b1 s0 s1 s2 q2 r
        obtain ⟨ha, hu, hT, a0, a1, b0, b1, s0, s1, s2, q2, r⟩ := G
        clear b9
        go_wp2_with fail
        refine wp_region_held_drew (S := fun w' => w'.cell? ⟨w.heap.size, 0, none⟩ = some (.slice Ta a.m ca) ∧ w'.cell? ⟨w.heap.size, 1, none⟩ = some (.slice Va a.n da) ∧ w'.cell? ⟨w.heap.size + 1, 0, none⟩ = some (.slice (some ⟨g2, o2, none⟩) u.m cu) ∧ w'.cell? ⟨w.heap.size + 1, 1, none⟩ = some (.slice Vu u.n du) ∧ w'.cell? ⟨g2, o2, none⟩ = some (.bool tb.s) ∧ w'.cell? ⟨g2, o2 + 1, none⟩ = some (.slice A2 n2 c2) ∧ w'.cell? ⟨g2, o2 + 2, none⟩ = some (.int .i64 tb.e)) (by kernel_rfl) (by exact ⟨a0, a1, b0, b1, s0, s1, s2⟩) (fun hHeldjd0 => ?_)
        generalize World.drew W1 = wd at *
        refine tk 0 6 ?_
        simp only [Act.put, List.setIfInBounds_toArray, List.set_cons_zero, List.set_cons_succ]
        refine wpAnyH_ready (rs := [1]) (by kernel_rfl) (by simp) ?_
        refine AllReadyH.cons (o := _) rfl (fun K hK => ?_) AllReadyH.nil
        go_simp
        refine (tmayt_any HK0.out hT ha).mono ?_
        rintro en w1 ⟨rfl, b⟩
        rw [← HP1.out]
        replace BB := below_next BB BB.size b (by rfl) (by rfl) (by rfl) (by rfl)
        have G := mv b (by rfl) <| And.intro ha <| And.intro hu <| And.intro hT <| And.intro a0 <| And.intro a1 <| And.intro b0 <| And.intro b1 <| And.intro s0 <| And.intro s1 <| And.intro s2 <| And.intro q2 <| r
        clear ha hu hT a0 a1 b0 b1 s0 s1 s2 q2 r
        obtain ⟨ha, hu, hT, a0, a1, b0, b1, s0, s1, s2, q2, r⟩ := G
        clear b
        refine hK.out _ _ (by exact ⟨a0, a1, b0, b1, s0, s1, s2⟩) (fun hHeldjd1 => ?_)
        clear hK K hHeldjd0
        try simp only [Act.put]
        refine tk 2 8 ?_
        simp only [Act.put, List.setIfInBounds_toArray, List.set_cons_zero, List.set_cons_succ]
        refine tk 3 9 ?_
        simp only [Act.put, List.setIfInBounds_toArray, List.set_cons_zero, List.set_cons_succ]
        refine tk 4 10 ?_
        simp only [Act.put, List.setIfInBounds_toArray, List.set_cons_zero, List.set_cons_succ]
        refine wpAnyH_ready (rs := [5]) (by kernel_rfl) (by simp) ?_
        refine AllReadyH.cons (o := _) rfl (fun K hK => ?_) AllReadyH.nil
        go_simp
        refine (tmayt_any HK0.out hT hu).mono ?_
        rintro en w2 ⟨rfl, b⟩
        rw [← HP2.out]
        replace BB := below_next BB BB.size b (by rfl) (by rfl) (by rfl) (by rfl)
        have G := mv b (by rfl) <| And.intro ha <| And.intro hu <| And.intro hT <| And.intro a0 <| And.intro a1 <| And.intro b0 <| And.intro b1 <| And.intro s0 <| And.intro s1 <| And.intro s2 <| And.intro q2 <| r
        clear ha hu hT a0 a1 b0 b1 s0 s1 s2 q2 r
        obtain ⟨ha, hu, hT, a0, a1, b0, b1, s0, s1, s2, q2, r⟩ := G
        clear b
        refine hK.out _ _ (by exact ⟨a0, a1, b0, b1, s0, s1, s2⟩) (fun hHeldjd2 => ?_)
        clear hK K hHeldjd1
        try simp only [Act.put]
        refine tk 6 12 ?_
        simp only [Act.put, List.setIfInBounds_toArray, List.set_cons_zero, List.set_cons_succ]
        refine tk 7 13 ?_
        simp only [Act.put, List.setIfInBounds_toArray, List.set_cons_zero, List.set_cons_succ]
        refine tk 8 14 ?_
        simp only [Act.put, List.setIfInBounds_toArray, List.set_cons_zero, List.set_cons_succ]
        refine tk 9 15 ?_
        simp only [Act.put, List.setIfInBounds_toArray, List.set_cons_zero, List.set_cons_succ]
        refine tk 11 17 ?_
        simp only [Act.put, List.setIfInBounds_toArray, List.set_cons_zero, List.set_cons_succ]
        refine tk 12 18 ?_
        simp only [Act.put, List.setIfInBounds_toArray, List.set_cons_zero, List.set_cons_succ]
        refine tk 13 19 ?_
        simp only [Act.put, List.setIfInBounds_toArray, List.set_cons_zero, List.set_cons_succ]
        refine tk 14 20 ?_
        simp only [Act.put, List.setIfInBounds_toArray, List.set_cons_zero, List.set_cons_succ]
        refine wpAnyH_ready (rs := [10]) (by kernel_rfl) (by simp) ?_
        refine AllReadyH.cons (o := _) rfl (fun K hK => ?_) AllReadyH.nil
        go_simp
        refine (tlast_any ha HL.out.1).mono ?_
        rintro en w4 ⟨A3, n3, c3, rfl, q3, b⟩
        replace BB := below_next BB BB.size b (by rfl) (by rfl) (by rfl) (by rfl)
        have G := mv b (by rfl) <| And.intro ha <| And.intro hu <| And.intro hT <| And.intro a0 <| And.intro a1 <| And.intro b0 <| And.intro b1 <| And.intro s0 <| And.intro s1 <| And.intro s2 <| And.intro q2 <| r
        clear ha hu hT a0 a1 b0 b1 s0 s1 s2 q2 r
        obtain ⟨ha, hu, hT, a0, a1, b0, b1, s0, s1, s2, q2, r⟩ := G
        clear b
        refine hK.out _ _ (by exact ⟨a0, a1, b0, b1, s0, s1, s2⟩) (fun hHeldjd3 => ?_)
        clear hK K hHeldjd2
        try simp only [Act.put]
        refine wpAnyH_ready (rs := [15]) (by kernel_rfl) (by simp) ?_
        refine AllReadyH.cons (o := _) rfl (fun K hK => ?_) AllReadyH.nil
        go_simp
        refine (dsame_raw (s := (a.T a.n).s) (t := tb.s) (e := (a.T a.n).e) (f := tb.e) q3 q2).mono ?_
        rintro en w6 ⟨rfl, b⟩
        have e9 : sameB (a.T a.n).s tb.s (a.T a.n).l tb.l (a.T a.n).e tb.e = true := HP3.out.symm
        rw [e9]
        clear e9
        replace BB := below_next BB BB.size b (by rfl) (by rfl) (by rfl) (by rfl)
        have G := mv b (by rfl) <| And.intro ha <| And.intro hu <| And.intro hT <| And.intro a0 <| And.intro a1 <| And.intro b0 <| And.intro b1 <| And.intro s0 <| And.intro s1 <| And.intro s2 <| r
        clear ha hu hT a0 a1 b0 b1 s0 s1 s2 r
        obtain ⟨ha, hu, hT, a0, a1, b0, b1, s0, s1, s2, r⟩ := G
        clear b q3 q2
        refine hK.out _ _ (by exact ⟨a0, a1, b0, b1, s0, s1, s2⟩) (fun hHeldjd4 => ?_)
        clear hK K hHeldjd3
        try simp only [Act.put]
        refine tk 16 22 ?_
        simp only [Act.put, List.setIfInBounds_toArray, List.set_cons_zero, List.set_cons_succ]
        refine tk 17 23 ?_
        simp only [Act.put, List.setIfInBounds_toArray, List.set_cons_zero, List.set_cons_succ]
        refine tk 18 24 ?_
        simp only [Act.put, List.setIfInBounds_toArray, List.set_cons_zero, List.set_cons_succ]
        refine tk 19 25 ?_
        simp only [Act.put, List.setIfInBounds_toArray, List.set_cons_zero, List.set_cons_succ]
        refine tk 20 26 ?_
        simp only [Act.put, List.setIfInBounds_toArray, List.set_cons_zero, List.set_cons_succ]
        refine tk 21 27 ?_
        simp only [Act.put, List.setIfInBounds_toArray, List.set_cons_zero, List.set_cons_succ]
        refine tk 22 28 ?_
        simp only [Act.put, List.setIfInBounds_toArray, List.set_cons_zero, List.set_cons_succ]
        refine tk 23 29 ?_
        simp only [Act.put, List.setIfInBounds_toArray, List.set_cons_zero, List.set_cons_succ]
        refine tk 24 30 ?_
        simp only [Act.put, List.setIfInBounds_toArray, List.set_cons_zero, List.set_cons_succ]
        refine tk 25 31 ?_
        simp only [Act.put, List.setIfInBounds_toArray, List.set_cons_zero, List.set_cons_succ]
        refine tk 26 32 ?_
        simp only [Act.put, List.setIfInBounds_toArray, List.set_cons_zero, List.set_cons_succ]
        refine tk 27 33 ?_
        simp only [Act.put, List.setIfInBounds_toArray, List.set_cons_zero, List.set_cons_succ]
        refine wpAnyH_done (by kernel_rfl) ?_ _
        clear s0 s1 s2
        go_upto_region 3 with fail
        have b9 : Below w6.heap.size w6 (World.drew w6) := below_drewN (Below.refl _ _) 1
        replace BB := below_next BB BB.size b9 rfl rfl rfl rfl
        have G := mv b9 rfl (J8 ha hu hT a0 a1 b0 b1 r)
        clear ha hu hT a0 a1 b0 b1 r
        obtain ⟨ha, hu, hT, a0, a1, b0, b1, r⟩ := G
        clear b9
        go_wp2_with fail
        refine wp_region_upto (S := fun w' => w'.cell? ⟨w.heap.size, 0, none⟩ = some (.slice Ta a.m ca) ∧ w'.cell? ⟨w.heap.size, 1, none⟩ = some (.slice Va a.n da) ∧ w'.cell? ⟨w.heap.size + 1, 0, none⟩ = some (.slice (some ⟨g2, o2, none⟩) u.m cu) ∧ w'.cell? ⟨w.heap.size + 1, 1, none⟩ = some (.slice Vu u.n du)) 15 (by kernel_rfl) (by exact ⟨a0, a1, b0, b1⟩) (fun hHeldk0 => ?_)
        generalize World.drew w6 = wd3 at *
        have BD := Below.refl wd3.heap.size wd3
        refine wpAnyT_take (i := 0) (v := ?k1v0) rfl (by kernel_rfl) (by kernel_rfl) (by kernel_rfl) (by kernel_rfl) (by kernel_rfl) (by kernel_rfl) (fun _ _ _ h => panic_put (P := Tryd.prog) (fn := Tryd.f17) (R := (TellT 0 tt w)) h) (Or.inl ⟨by rfl, ?k1y0⟩) (by assumption) ?_
        case k1y0 => (intro w hSw; (try dsimp only at hSw); go_simp); try with_reducible rfl
        change wpAnyT _ _ _ _ _ _ _ _ (Act.put _ (some 35) _) _
        simp only [Act.put, List.setIfInBounds_toArray, List.set_cons_zero, List.set_cons_succ]
        refine wpAnyT_take (i := 1) (v := ?k2v1) rfl (by kernel_rfl) (by kernel_rfl) (by kernel_rfl) (by kernel_rfl) (by kernel_rfl) (by kernel_rfl) (fun _ _ _ h => panic_put (P := Tryd.prog) (fn := Tryd.f17) (R := (TellT 0 tt w)) h) (Or.inl ⟨by rfl, ?k2y1⟩) (by assumption) ?_
        case k2y1 => (intro w hSw; (try dsimp only at hSw); go_simp); try with_reducible rfl
        change wpAnyT _ _ _ _ _ _ _ _ (Act.put _ (some 36) _) _
        simp only [Act.put, List.setIfInBounds_toArray, List.set_cons_zero, List.set_cons_succ]
        refine wpAnyT_take (i := 2) (v := ?k3v2) rfl (by kernel_rfl) (by kernel_rfl) (by kernel_rfl) (by kernel_rfl) (by kernel_rfl) (by kernel_rfl) (fun _ _ _ h => panic_put (P := Tryd.prog) (fn := Tryd.f17) (R := (TellT 0 tt w)) h) (Or.inl ⟨by rfl, ?k3y2⟩) (by assumption) ?_
        case k3y2 => (intro w hSw; (try dsimp only at hSw); go_simp); try with_reducible rfl
        change wpAnyT _ _ _ _ _ _ _ _ (Act.put _ (some 37) _) _
        simp only [Act.put, List.setIfInBounds_toArray, List.set_cons_zero, List.set_cons_succ]
        refine wpAnyT_take (i := 3) (v := ?k4v3) rfl (by kernel_rfl) (by kernel_rfl) (by kernel_rfl) (by kernel_rfl) (by kernel_rfl) (by kernel_rfl) (fun _ _ _ h => panic_put (P := Tryd.prog) (fn := Tryd.f17) (R := (TellT 0 tt w)) h) (Or.inl ⟨by rfl, ?k4y3⟩) (by assumption) ?_
        case k4y3 => (intro w hSw; (try dsimp only at hSw); go_simp); try with_reducible rfl
        change wpAnyT _ _ _ _ _ _ _ _ (Act.put _ (some 38) _) _
        simp only [Act.put, List.setIfInBounds_toArray, List.set_cons_zero, List.set_cons_succ]
        refine wpAnyT_take (i := 4) (v := ?k5v4) rfl (by kernel_rfl) (by kernel_rfl) (by kernel_rfl) (by kernel_rfl) (by kernel_rfl) (by kernel_rfl) (fun _ _ _ h => panic_put (P := Tryd.prog) (fn := Tryd.f17) (R := (TellT 0 tt w)) h) (Or.inl ⟨by rfl, ?k5y4⟩) (by assumption) ?_
        case k5y4 => (intro w hSw; (try dsimp only at hSw); go_simp; rw [if_pos (by omega), if_neg (by omega)])
        change wpAnyT _ _ _ _ _ _ _ _ (Act.put _ (some 39) _) _
        simp only [Act.put, List.setIfInBounds_toArray, List.set_cons_zero, List.set_cons_succ]
        refine wpAnyT_take (i := 7) (v := ?k6v7) rfl (by kernel_rfl) (by kernel_rfl) (by kernel_rfl) (by kernel_rfl) (by kernel_rfl) (by kernel_rfl) (fun _ _ _ h => panic_put (P := Tryd.prog) (fn := Tryd.f17) (R := (TellT 0 tt w)) h) (Or.inl ⟨by rfl, ?k6y7⟩) (by assumption) ?_
        case k6y7 => (intro w hSw; (try dsimp only at hSw); go_simp); try with_reducible rfl
        change wpAnyT _ _ _ _ _ _ _ _ (Act.put _ (some 42) _) _
        simp only [Act.put, List.setIfInBounds_toArray, List.set_cons_zero, List.set_cons_succ]
        refine wpAnyT_take (i := 8) (v := ?k7v8) rfl (by kernel_rfl) (by kernel_rfl) (by kernel_rfl) (by kernel_rfl) (by kernel_rfl) (by kernel_rfl) (fun _ _ _ h => panic_put (P := Tryd.prog) (fn := Tryd.f17) (R := (TellT 0 tt w)) h) (Or.inl ⟨by rfl, ?k7y8⟩) (by assumption) ?_
        case k7y8 => (intro w hSw; (try dsimp only at hSw); go_simp); try with_reducible rfl
        change wpAnyT _ _ _ _ _ _ _ _ (Act.put _ (some 43) _) _
        simp only [Act.put, List.setIfInBounds_toArray, List.set_cons_zero, List.set_cons_succ]
        refine wpAnyT_take (i := 9) (v := ?k8v9) rfl (by kernel_rfl) (by kernel_rfl) (by kernel_rfl) (by kernel_rfl) (by kernel_rfl) (by kernel_rfl) (fun _ _ _ h => panic_put (P := Tryd.prog) (fn := Tryd.f17) (R := (TellT 0 tt w)) h) (Or.inl ⟨by rfl, ?k8y9⟩) (by assumption) ?_
        case k8y9 => (intro w hSw; (try dsimp only at hSw); go_simp); try with_reducible rfl
        change wpAnyT _ _ _ _ _ _ _ _ (Act.put _ (some 44) _) _
        simp only [Act.put, List.setIfInBounds_toArray, List.set_cons_zero, List.set_cons_succ]
        refine wpAnyT_take (i := 10) (v := ?k9v10) rfl (by kernel_rfl) (by kernel_rfl) (by kernel_rfl) (by kernel_rfl) (by kernel_rfl) (by kernel_rfl) (fun _ _ _ h => panic_put (P := Tryd.prog) (fn := Tryd.f17) (R := (TellT 0 tt w)) h) (Or.inl ⟨by rfl, ?k9y10⟩) (by assumption) ?_
        case k9y10 => (intro w hSw; (try dsimp only at hSw); go_simp); try with_reducible rfl
        change wpAnyT _ _ _ _ _ _ _ _ (Act.put _ (some 45) _) _
        simp only [Act.put, List.setIfInBounds_toArray, List.set_cons_zero, List.set_cons_succ]
        refine wpAnyT_ready (rs := [5, 11]) (by kernel_rfl) (by simp) ?_
        refine AllReadyT.cons (o := _) rfl (fun K hK => ?_) (AllReadyT.cons (o := _) rfl (fun K hK => ?_) (AllReadyT.nil))
        go_simp
        have b := below_alloc wd3 (.cells #[.slice Ta a.m ca, .slice (some ⟨g2, o2 + 3, none⟩) (u.m - 1) (cu - 1)] 22)
        have xT := Blk.new wd3 #[.slice Ta a.m ca, .slice (some ⟨g2, o2 + 3, none⟩) (u.m - 1) (cu - 1)] 22
        replace BD := below_next BD BD.size b rfl rfl rfl rfl
        clear b
        generalize wd3.alloc (.cells #[.slice Ta a.m ca, .slice (some ⟨g2, o2 + 3, none⟩) (u.m - 1) (cu - 1)] 22) = ub at *
        generalize wd3.heap.size = gT0 at xT ⊢
        refine hK.out _ _ (by exact ⟨mv BD rfl a0, mv BD rfl a1, mv BD rfl b0, mv BD rfl b1⟩) (fun hHeldk1 => ?_)
        clear hK K hHeldk0
        try simp only [Act.put]
        refine wpAnyT_ready (rs := [6, 11]) (by kernel_rfl) (by simp) ?_
        refine AllReadyT.cons (o := _) rfl (fun K hK => ?_) (AllReadyT.cons (o := _) rfl (fun K hK => ?_) (AllReadyT.nil))
        go_simp
        have HS : ∀ i, i < 2 → ub.cell? ⟨gT0, 0 + i, none⟩ = some (.slice (if i = 0 then Ta else some ⟨g2, o2 + 3, none⟩) (if i = 0 then a.m else u.m - 1) (if i = 0 then ca else cu - 1)) ∧ RdD ub (if i = 0 then Ta else some ⟨g2, o2 + 3, none⟩) (if i = 0 then a.m else u.m - 1) (if i = 0 then ca else cu - 1) (if i = 0 then a.T else fun i => u.T (i + 1)) := fun i hi => by
          match i, hi with
          | 0, _ => exact ⟨xT.at 0, mv BD rfl ha.at_⟩
          | 1, _ => exact ⟨xT.at 1, (mv BD rfl hu.at_).tail (by omega)⟩
        refine (dconcat_ok (A := fun i => if i = 0 then Ta else some ⟨g2, o2 + 3, none⟩) (n := fun i => if i = 0 then a.m else u.m - 1) (c := fun i => if i = 0 then ca else cu - 1) (X := fun i => if i = 0 then a.T else fun i => u.T (i + 1)) HS (by omega) (show 0 + a.m + (u.m - 1) ≤ 100 by have := HMA.out.len; have := HMB.out.len; omega) (show 0 < 0 + a.m + (u.m - 1) by omega)).mono ?_
        rintro en uc ⟨vT, rfl, hH, b⟩
        clear HS xT
        obtain ⟨AH, cH, hv, hHr, _⟩ := hH.form
        rw [catD_len] at hv hHr
        have e9 : tot (fun i => if i = 0 then a.m else u.m - 1) 2 = a.n + u.n + 1 := (show 0 + a.m + (u.m - 1) = a.n + u.n + 1 by have := HMA.out.len; have := HMB.out.len; omega)
        rw [e9] at hv hHr
        subst hv
        have hT9 : RdD uc AH (a.n + u.n + 1) cH (joinT a u).T := hHr.congr fun i hi => join_T HMA.out.len HMB.out.len hi
        clear hH hHr e9
        replace BD := below_next BD BD.size b (by rfl) (by rfl) (by rfl) (by rfl)
        clear b
        refine hK.out _ _ (by exact ⟨mv BD rfl a0, mv BD rfl a1, mv BD rfl b0, mv BD rfl b1⟩) (fun hHeldk2 => ?_)
        clear hK K hHeldk1
        try simp only [Act.put]
        refine wpAnyT_ready (rs := [11]) (by kernel_rfl) (by simp) ?_
        refine AllReadyT.cons (o := _) rfl (fun K hK => ?_) (AllReadyT.nil)
        go_simp
        have b := below_alloc uc (.cells #[.slice Va a.n da, .slice Vu u.n du] 23)
        have xV := Blk.new uc #[.slice Va a.n da, .slice Vu u.n du] 23
        replace BD := below_next BD BD.size b rfl rfl rfl rfl
        replace hT9 := mv b (by rfl) hT9
        clear b
        generalize uc.alloc (.cells #[.slice Va a.n da, .slice Vu u.n du] 23) = ud at *
        generalize uc.heap.size = gV0 at xV ⊢
        refine hK.out _ _ (by exact ⟨mv BD rfl a0, mv BD rfl a1, mv BD rfl b0, mv BD rfl b1⟩) (fun hHeldk3 => ?_)
        clear hK K hHeldk2
        try simp only [Act.put]
        refine wpAnyT_ready (rs := [12]) (by kernel_rfl) (by simp) ?_
        refine AllReadyT.cons (o := _) rfl (fun K hK => ?_) (AllReadyT.nil)
        go_simp
        have HS : ∀ i, i < 2 → ud.cell? ⟨gV0, 0 + i, none⟩ = some (.slice (if i = 0 then Va else Vu) (if i = 0 then a.n else u.n) (if i = 0 then da else du)) ∧ RdS ud (if i = 0 then Va else Vu) (if i = 0 then a.n else u.n) (if i = 0 then da else du) (if i = 0 then a.V else u.V) := fun i hi => by
          match i, hi with
          | 0, _ => exact ⟨xV.at 0, mv BD rfl ha.v⟩
          | 1, _ => exact ⟨xV.at 1, mv BD rfl hu.v⟩
        refine (jconcat_ok (A := fun i => if i = 0 then Va else Vu) (n := fun i => if i = 0 then a.n else u.n) (c := fun i => if i = 0 then da else du) (X := fun i => if i = 0 then a.V else u.V) HS (by omega) (show 0 + a.n + u.n ≤ 100 by omega) (show 0 < 0 + a.n + u.n by have := HMA.out.pos; omega)).mono ?_
        rintro en ue ⟨vV, rfl, hI, b⟩
        clear HS xV
        obtain ⟨AI, cI, hv, hIr, _⟩ := hI.form
        rw [catX_len] at hv hIr
        have e9 : tot (fun i => if i = 0 then a.n else u.n) 2 = a.n + u.n := (show 0 + a.n + u.n = a.n + u.n by omega)
        rw [e9] at hv hIr
        subst hv
        have hV9 : RdS ue AI (a.n + u.n) cI (joinT a u).V := hIr.congr fun i hi => join_V hi
        clear hI hIr e9
        replace BD := below_next BD BD.size b (by rfl) (by rfl) (by rfl) (by rfl)
        replace hT9 := mv b (by rfl) hT9
        clear b
        refine hK.out _ _ (by exact ⟨mv BD rfl a0, mv BD rfl a1, mv BD rfl b0, mv BD rfl b1⟩) (fun hHeldk4 => ?_)
        clear hK K hHeldk3
        try simp only [Act.put]
        refine wpAnyT_take (i := 13) (v := ?k10v13) rfl (by kernel_rfl) (by kernel_rfl) (by kernel_rfl) (by kernel_rfl) (by kernel_rfl) (by kernel_rfl) (fun _ _ _ h => panic_put (P := Tryd.prog) (fn := Tryd.f17) (R := (TellT 0 tt w)) h) (Or.inl ⟨by rfl, ?k10y13⟩) (by assumption) ?_
        case k10y13 => (intro w hSw; (try dsimp only at hSw); go_simp); try with_reducible rfl
        change wpAnyT _ _ _ _ _ _ _ _ (Act.put _ (some 48) _) _
        simp only [Act.put, List.setIfInBounds_toArray, List.set_cons_zero, List.set_cons_succ]
        refine wpAnyT_ready (rs := [14]) (by kernel_rfl) (by simp) ?_
        refine AllReadyT.cons (o := _) rfl (fun K hK => ?_) (AllReadyT.nil)
        go_simp
        have hz : RdTb ue AH cH AI cI (joinT a u) := ⟨hT9, hV9⟩
        clear hT9 hV9
        refine (show Calls _ _ #[.agg #[.slice AH (a.n + u.n + 1) cH, .slice AI (a.n + u.n) cI]] _ (OwnEnd (joinT a u) _) from town2_any hz (show a.n + u.n + 1 ≤ 1000 by omega) (show a.n + u.n ≤ 1000 by omega) (mayT_ends HJM.out).1 (mayT_ends HJM.out).2).mono ?_
        rw [← HJT.out]
        rintro en uf ⟨gT, gV, rfl, hH, hI, b⟩
        clear hz
        replace BD := below_next BD BD.size b (by rfl) (by rfl) (by rfl) (by rfl)
        clear b
        refine hK.out _ _ (by exact ⟨mv BD rfl a0, mv BD rfl a1, mv BD rfl b0, mv BD rfl b1⟩) (fun hHeldk5 => ?_)
        clear hK K hHeldk4
        try simp only [Act.put]
        rotate_left
        go_simp
        have b := below_alloc ub (.cells #[.slice Va a.n da, .slice Vu u.n du] 23)
        have xV := Blk.new ub #[.slice Va a.n da, .slice Vu u.n du] 23
        replace BD := below_next BD BD.size b rfl rfl rfl rfl
        replace xT := mv b (by rfl) xT
        clear b
        generalize ub.alloc (.cells #[.slice Va a.n da, .slice Vu u.n du] 23) = uc at *
        generalize ub.heap.size = gV0 at xV ⊢
        refine hK.out _ _ (by exact ⟨mv BD rfl a0, mv BD rfl a1, mv BD rfl b0, mv BD rfl b1⟩) (fun hHeldk2 => ?_)
        clear hK K hHeldk1
        try simp only [Act.put]
        refine wpAnyT_ready (rs := [6]) (by kernel_rfl) (by simp) ?_
        refine AllReadyT.cons (o := _) rfl (fun K hK => ?_) (AllReadyT.nil)
        go_simp
        have HS : ∀ i, i < 2 → uc.cell? ⟨gT0, 0 + i, none⟩ = some (.slice (if i = 0 then Ta else some ⟨g2, o2 + 3, none⟩) (if i = 0 then a.m else u.m - 1) (if i = 0 then ca else cu - 1)) ∧ RdD uc (if i = 0 then Ta else some ⟨g2, o2 + 3, none⟩) (if i = 0 then a.m else u.m - 1) (if i = 0 then ca else cu - 1) (if i = 0 then a.T else fun i => u.T (i + 1)) := fun i hi => by
          match i, hi with
          | 0, _ => exact ⟨xT.at 0, mv BD rfl ha.at_⟩
          | 1, _ => exact ⟨xT.at 1, (mv BD rfl hu.at_).tail (by omega)⟩
        refine (dconcat_ok (A := fun i => if i = 0 then Ta else some ⟨g2, o2 + 3, none⟩) (n := fun i => if i = 0 then a.m else u.m - 1) (c := fun i => if i = 0 then ca else cu - 1) (X := fun i => if i = 0 then a.T else fun i => u.T (i + 1)) HS (by omega) (show 0 + a.m + (u.m - 1) ≤ 100 by have := HMA.out.len; have := HMB.out.len; omega) (show 0 < 0 + a.m + (u.m - 1) by omega)).mono ?_
        rintro en ud ⟨vT, rfl, hH, b⟩
        clear HS xT
        obtain ⟨AH, cH, hv, hHr, _⟩ := hH.form
        rw [catD_len] at hv hHr
        have e9 : tot (fun i => if i = 0 then a.m else u.m - 1) 2 = a.n + u.n + 1 := (show 0 + a.m + (u.m - 1) = a.n + u.n + 1 by have := HMA.out.len; have := HMB.out.len; omega)
        rw [e9] at hv hHr
        subst hv
        have hT9 : RdD ud AH (a.n + u.n + 1) cH (joinT a u).T := hHr.congr fun i hi => join_T HMA.out.len HMB.out.len hi
        clear hH hHr e9
        replace BD := below_next BD BD.size b (by rfl) (by rfl) (by rfl) (by rfl)
        replace xV := mv b (by rfl) xV
        clear b
        refine hK.out _ _ (by exact ⟨mv BD rfl a0, mv BD rfl a1, mv BD rfl b0, mv BD rfl b1⟩) (fun hHeldk3 => ?_)
        clear hK K hHeldk2
        try simp only [Act.put]
        refine wpAnyT_ready (rs := [12]) (by kernel_rfl) (by simp) ?_
        refine AllReadyT.cons (o := _) rfl (fun K hK => ?_) (AllReadyT.nil)
        go_simp
        have HS : ∀ i, i < 2 → ud.cell? ⟨gV0, 0 + i, none⟩ = some (.slice (if i = 0 then Va else Vu) (if i = 0 then a.n else u.n) (if i = 0 then da else du)) ∧ RdS ud (if i = 0 then Va else Vu) (if i = 0 then a.n else u.n) (if i = 0 then da else du) (if i = 0 then a.V else u.V) := fun i hi => by
          match i, hi with
          | 0, _ => exact ⟨xV.at 0, mv BD rfl ha.v⟩
          | 1, _ => exact ⟨xV.at 1, mv BD rfl hu.v⟩
        refine (jconcat_ok (A := fun i => if i = 0 then Va else Vu) (n := fun i => if i = 0 then a.n else u.n) (c := fun i => if i = 0 then da else du) (X := fun i => if i = 0 then a.V else u.V) HS (by omega) (show 0 + a.n + u.n ≤ 100 by omega) (show 0 < 0 + a.n + u.n by have := HMA.out.pos; omega)).mono ?_
        rintro en ue ⟨vV, rfl, hI, b⟩
        clear HS xV
        obtain ⟨AI, cI, hv, hIr, _⟩ := hI.form
        rw [catX_len] at hv hIr
        have e9 : tot (fun i => if i = 0 then a.n else u.n) 2 = a.n + u.n := (show 0 + a.n + u.n = a.n + u.n by omega)
        rw [e9] at hv hIr
        subst hv
        have hV9 : RdS ue AI (a.n + u.n) cI (joinT a u).V := hIr.congr fun i hi => join_V hi
        clear hI hIr e9
        replace BD := below_next BD BD.size b (by rfl) (by rfl) (by rfl) (by rfl)
        replace hT9 := mv b (by rfl) hT9
        clear b
        refine hK.out _ _ (by exact ⟨mv BD rfl a0, mv BD rfl a1, mv BD rfl b0, mv BD rfl b1⟩) (fun hHeldk4 => ?_)
        clear hK K hHeldk3
        try simp only [Act.put]
        refine wpAnyT_take (i := 13) (v := ?k11v13) rfl (by kernel_rfl) (by kernel_rfl) (by kernel_rfl) (by kernel_rfl) (by kernel_rfl) (by kernel_rfl) (fun _ _ _ h => panic_put (P := Tryd.prog) (fn := Tryd.f17) (R := (TellT 0 tt w)) h) (Or.inl ⟨by rfl, ?k11y13⟩) (by assumption) ?_
        case k11y13 => (intro w hSw; (try dsimp only at hSw); go_simp); try with_reducible rfl
        change wpAnyT _ _ _ _ _ _ _ _ (Act.put _ (some 48) _) _
        simp only [Act.put, List.setIfInBounds_toArray, List.set_cons_zero, List.set_cons_succ]
        refine wpAnyT_ready (rs := [14]) (by kernel_rfl) (by simp) ?_
        refine AllReadyT.cons (o := _) rfl (fun K hK => ?_) (AllReadyT.nil)
        go_simp
        have hz : RdTb ue AH cH AI cI (joinT a u) := ⟨hT9, hV9⟩
        clear hT9 hV9
        refine (show Calls _ _ #[.agg #[.slice AH (a.n + u.n + 1) cH, .slice AI (a.n + u.n) cI]] _ (OwnEnd (joinT a u) _) from town2_any hz (show a.n + u.n + 1 ≤ 1000 by omega) (show a.n + u.n ≤ 1000 by omega) (mayT_ends HJM.out).1 (mayT_ends HJM.out).2).mono ?_
        rw [← HJT.out]
        rintro en uf ⟨gT, gV, rfl, hH, hI, b⟩
        clear hz
        replace BD := below_next BD BD.size b (by rfl) (by rfl) (by rfl) (by rfl)
        clear b
        refine hK.out _ _ (by exact ⟨mv BD rfl a0, mv BD rfl a1, mv BD rfl b0, mv BD rfl b1⟩) (fun hHeldk5 => ?_)
        clear hK K hHeldk4
        try simp only [Act.put]
        rotate_left
        go_simp
        have b := below_alloc wd3 (.cells #[.slice Va a.n da, .slice Vu u.n du] 23)
        have xV := Blk.new wd3 #[.slice Va a.n da, .slice Vu u.n du] 23
        replace BD := below_next BD BD.size b rfl rfl rfl rfl
        clear b
        generalize wd3.alloc (.cells #[.slice Va a.n da, .slice Vu u.n du] 23) = ub at *
        generalize wd3.heap.size = gV0 at xV ⊢
        refine hK.out _ _ (by exact ⟨mv BD rfl a0, mv BD rfl a1, mv BD rfl b0, mv BD rfl b1⟩) (fun hHeldk1 => ?_)
        clear hK K hHeldk0
        try simp only [Act.put]
        refine wpAnyT_ready (rs := [5]) (by kernel_rfl) (by simp) ?_
        refine AllReadyT.cons (o := _) rfl (fun K hK => ?_) (AllReadyT.nil)
        go_simp
        have b := below_alloc ub (.cells #[.slice Ta a.m ca, .slice (some ⟨g2, o2 + 3, none⟩) (u.m - 1) (cu - 1)] 22)
        have xT := Blk.new ub #[.slice Ta a.m ca, .slice (some ⟨g2, o2 + 3, none⟩) (u.m - 1) (cu - 1)] 22
        replace BD := below_next BD BD.size b rfl rfl rfl rfl
        replace xV := mv b (by rfl) xV
        clear b
        generalize ub.alloc (.cells #[.slice Ta a.m ca, .slice (some ⟨g2, o2 + 3, none⟩) (u.m - 1) (cu - 1)] 22) = uc at *
        generalize ub.heap.size = gT0 at xT ⊢
        refine hK.out _ _ (by exact ⟨mv BD rfl a0, mv BD rfl a1, mv BD rfl b0, mv BD rfl b1⟩) (fun hHeldk2 => ?_)
        clear hK K hHeldk1
        try simp only [Act.put]
        refine wpAnyT_ready (rs := [6]) (by kernel_rfl) (by simp) ?_
        refine AllReadyT.cons (o := _) rfl (fun K hK => ?_) (AllReadyT.nil)
        go_simp
        have HS : ∀ i, i < 2 → uc.cell? ⟨gT0, 0 + i, none⟩ = some (.slice (if i = 0 then Ta else some ⟨g2, o2 + 3, none⟩) (if i = 0 then a.m else u.m - 1) (if i = 0 then ca else cu - 1)) ∧ RdD uc (if i = 0 then Ta else some ⟨g2, o2 + 3, none⟩) (if i = 0 then a.m else u.m - 1) (if i = 0 then ca else cu - 1) (if i = 0 then a.T else fun i => u.T (i + 1)) := fun i hi => by
          match i, hi with
          | 0, _ => exact ⟨xT.at 0, mv BD rfl ha.at_⟩
          | 1, _ => exact ⟨xT.at 1, (mv BD rfl hu.at_).tail (by omega)⟩
        refine (dconcat_ok (A := fun i => if i = 0 then Ta else some ⟨g2, o2 + 3, none⟩) (n := fun i => if i = 0 then a.m else u.m - 1) (c := fun i => if i = 0 then ca else cu - 1) (X := fun i => if i = 0 then a.T else fun i => u.T (i + 1)) HS (by omega) (show 0 + a.m + (u.m - 1) ≤ 100 by have := HMA.out.len; have := HMB.out.len; omega) (show 0 < 0 + a.m + (u.m - 1) by omega)).mono ?_
        rintro en ud ⟨vT, rfl, hH, b⟩
        clear HS xT
        obtain ⟨AH, cH, hv, hHr, _⟩ := hH.form
        rw [catD_len] at hv hHr
        have e9 : tot (fun i => if i = 0 then a.m else u.m - 1) 2 = a.n + u.n + 1 := (show 0 + a.m + (u.m - 1) = a.n + u.n + 1 by have := HMA.out.len; have := HMB.out.len; omega)
        rw [e9] at hv hHr
        subst hv
        have hT9 : RdD ud AH (a.n + u.n + 1) cH (joinT a u).T := hHr.congr fun i hi => join_T HMA.out.len HMB.out.len hi
        clear hH hHr e9
        replace BD := below_next BD BD.size b (by rfl) (by rfl) (by rfl) (by rfl)
        replace xV := mv b (by rfl) xV
        clear b
        refine hK.out _ _ (by exact ⟨mv BD rfl a0, mv BD rfl a1, mv BD rfl b0, mv BD rfl b1⟩) (fun hHeldk3 => ?_)
        clear hK K hHeldk2
        try simp only [Act.put]
        refine wpAnyT_ready (rs := [12]) (by kernel_rfl) (by simp) ?_
        refine AllReadyT.cons (o := _) rfl (fun K hK => ?_) (AllReadyT.nil)
        go_simp
        have HS : ∀ i, i < 2 → ud.cell? ⟨gV0, 0 + i, none⟩ = some (.slice (if i = 0 then Va else Vu) (if i = 0 then a.n else u.n) (if i = 0 then da else du)) ∧ RdS ud (if i = 0 then Va else Vu) (if i = 0 then a.n else u.n) (if i = 0 then da else du) (if i = 0 then a.V else u.V) := fun i hi => by
          match i, hi with
          | 0, _ => exact ⟨xV.at 0, mv BD rfl ha.v⟩
          | 1, _ => exact ⟨xV.at 1, mv BD rfl hu.v⟩
        refine (jconcat_ok (A := fun i => if i = 0 then Va else Vu) (n := fun i => if i = 0 then a.n else u.n) (c := fun i => if i = 0 then da else du) (X := fun i => if i = 0 then a.V else u.V) HS (by omega) (show 0 + a.n + u.n ≤ 100 by omega) (show 0 < 0 + a.n + u.n by have := HMA.out.pos; omega)).mono ?_
        rintro en ue ⟨vV, rfl, hI, b⟩
        clear HS xV
        obtain ⟨AI, cI, hv, hIr, _⟩ := hI.form
        rw [catX_len] at hv hIr
        have e9 : tot (fun i => if i = 0 then a.n else u.n) 2 = a.n + u.n := (show 0 + a.n + u.n = a.n + u.n by omega)
        rw [e9] at hv hIr
        subst hv
        have hV9 : RdS ue AI (a.n + u.n) cI (joinT a u).V := hIr.congr fun i hi => join_V hi
        clear hI hIr e9
        replace BD := below_next BD BD.size b (by rfl) (by rfl) (by rfl) (by rfl)
        replace hT9 := mv b (by rfl) hT9
        clear b
        refine hK.out _ _ (by exact ⟨mv BD rfl a0, mv BD rfl a1, mv BD rfl b0, mv BD rfl b1⟩) (fun hHeldk4 => ?_)
        clear hK K hHeldk3
        try simp only [Act.put]
        refine wpAnyT_take (i := 13) (v := ?k12v13) rfl (by kernel_rfl) (by kernel_rfl) (by kernel_rfl) (by kernel_rfl) (by kernel_rfl) (by kernel_rfl) (fun _ _ _ h => panic_put (P := Tryd.prog) (fn := Tryd.f17) (R := (TellT 0 tt w)) h) (Or.inl ⟨by rfl, ?k12y13⟩) (by assumption) ?_
        case k12y13 => (intro w hSw; (try dsimp only at hSw); go_simp); try with_reducible rfl
        change wpAnyT _ _ _ _ _ _ _ _ (Act.put _ (some 48) _) _
        simp only [Act.put, List.setIfInBounds_toArray, List.set_cons_zero, List.set_cons_succ]
        refine wpAnyT_ready (rs := [14]) (by kernel_rfl) (by simp) ?_
        refine AllReadyT.cons (o := _) rfl (fun K hK => ?_) (AllReadyT.nil)
        go_simp
        have hz : RdTb ue AH cH AI cI (joinT a u) := ⟨hT9, hV9⟩
        clear hT9 hV9
        refine (show Calls _ _ #[.agg #[.slice AH (a.n + u.n + 1) cH, .slice AI (a.n + u.n) cI]] _ (OwnEnd (joinT a u) _) from town2_any hz (show a.n + u.n + 1 ≤ 1000 by omega) (show a.n + u.n ≤ 1000 by omega) (mayT_ends HJM.out).1 (mayT_ends HJM.out).2).mono ?_
        rw [← HJT.out]
        rintro en uf ⟨gT, gV, rfl, hH, hI, b⟩
        clear hz
        replace BD := below_next BD BD.size b (by rfl) (by rfl) (by rfl) (by rfl)
        clear b
        refine hK.out _ _ (by exact ⟨mv BD rfl a0, mv BD rfl a1, mv BD rfl b0, mv BD rfl b1⟩) (fun hHeldk5 => ?_)
        clear hK K hHeldk4
        try simp only [Act.put]
        rotate_left
        all_goals (
          clear hHeldk5
          refine wpAnyT_ready (rs := [15]) (by kernel_rfl) (by simp) ?_
          refine AllReadyT.consB (o := _) rfl (by kernel_rfl) (fun K hK => ?_) AllReadyT.nil
          have BB2 := below_next BB BB.size BD rfl rfl rfl rfl
          have r2 := mv BD rfl r
          obtain ⟨f0, f1⟩ := (show _ ∧ _ from ⟨r2.frozen 0, r2.frozen 1⟩)
          have z0 : World.cell? _ ⟨w.heap.size + 2, 0, none⟩ = some (.slice none 0 0) := r2.at 0
          have z1 : World.cell? _ ⟨w.heap.size + 2, 1, none⟩ = some (.slice none 0 0) := r2.at 1
          go_simp
          have qq := r2.put2 (.slice (some ⟨gT, 0, none⟩) tt.m tt.m) (.slice (some ⟨gV, 0, none⟩) tt.n tt.n)
          have HB3 := below_put2 (g := w.heap.size + 2) BB2 (by omega) (.slice (some ⟨gT, 0, none⟩) tt.m tt.m) (.slice (some ⟨gV, 0, none⟩) tt.n tt.n)
          obtain ⟨hH2, hI2⟩ := own_put2 r2 nol_slice nol_slice hH hI (.slice (some ⟨gT, 0, none⟩) tt.m tt.m) (.slice (some ⟨gV, 0, none⟩) tt.n tt.n)
          refine hK.out _ _ ?_
          clear hK K
          try simp only [Act.put]
          refine wpAnyT_ready (rs := [16]) (by kernel_rfl) (by simp) ?_
          refine AllReadyT.consB (o := _) rfl (by kernel_rfl) (fun K hK => ?_) AllReadyT.nil
          go_simp
          refine hK.out _ _ ?_
          clear hK K
          try simp only [Act.put]
          refine wpAnyT_done (by kernel_rfl) ?_ _
          go_wp2
          have y0 : World.cell? _ ⟨w.heap.size + 2, 0, none⟩ = some (.slice (some ⟨gT, 0, none⟩) tt.m tt.m) := qq.at 0
          have y1 : World.cell? _ ⟨w.heap.size + 2, 1, none⟩ = some (.slice (some ⟨gV, 0, none⟩) tt.n tt.n) := qq.at 1
          exact bodyPost_ret (v := .tuple #[.agg #[.slice (some ⟨gT, 0, none⟩) tt.m tt.m, .slice (some ⟨gV, 0, none⟩) tt.n tt.n], .int .i64 0]) (by simp [results, Tryd.results17, go_sem, y0, y1]) rfl ⟨_, _, _, _, rfl, own_rd hH2 hI2, HB3⟩)

end Go.Proofs.YtkpcmgfpmekkjaaDoor
