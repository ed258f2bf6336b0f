/-
  Contracts of tube's beside, Inside, Within, at this translation. Condition: the slices read as limbs, the table of math/bits reads as its text lays it.
-/
import Derived.StillTailTactics
import Derived.Deep.CutBlock
import Derived.Test.YtkpcmgfpmekkjaaDoorQUj
namespace Go.Proofs.YtkpcmgfpmekkjaaDoor
open Go.RowKit


/-- a function that tells yes or no of two intervals -/
structure StandI (f : FuncId) (q : Iv → Iv → Bool) : Prop where
  go : ∀ (u v : Value) (W2 : World), (callFunc f #[u, v]).run Tryd.prog W2 = .ok (.enter f #[u, v]) W2
  is : ∀ {W : World} {x y : Iv} {A1 : Option Addr} {n1 c1 : Nat} {A2 : Option Addr} {n2 c2 : Nat} {A3 : Option Addr} {n3 c3 : Nat} {A4 : Option Addr} {n4 c4 : Nat}, Tab W → Rd W .u64 Go.Proofs.YtkpcmgfpmekkjaaDoor.W A1 n1 c1 x.lo.l → Rd W .u64 Go.Proofs.YtkpcmgfpmekkjaaDoor.W A2 n2 c2 x.hi.l → Rd W .u64 Go.Proofs.YtkpcmgfpmekkjaaDoor.W A3 n3 c3 y.lo.l → Rd W .u64 Go.Proofs.YtkpcmgfpmekkjaaDoor.W A4 n4 c4 y.hi.l → Calls Tryd.prog f #[.agg #[.bool x.lo.s, .slice A1 n1 c1, .int .i64 x.lo.e, .bool x.hi.s, .slice A2 n2 c2, .int .i64 x.hi.e], .agg #[.bool y.lo.s, .slice A3 n3 c3, .int .i64 y.lo.e, .bool y.hi.s, .slice A4 n4 c4, .int .i64 y.hi.e]] W (Bools (q x y) W)
theorem stand_within {K : Nat} (hK : 4194304 ≤ K) : StandI 13 (withinI K) := ⟨fun _ _ _ => by kernel_rfl, fun hT h1 h2 h3 h4 => iwithin_any hK hT h1 h2 h3 h4⟩
theorem stand_inside {K : Nat} (hK : 4194304 ≤ K) : StandI 34 (insideI K) := ⟨fun _ _ _ => by kernel_rfl, fun hT h1 h2 h3 h4 => iinside_any hK hT h1 h2 h3 h4⟩
/-- what is known ahead of the cell i of a, beside the cell j of b -/
structure BesI (K : Nat) (q : Iv → Iv → Bool) (a b : Tb) (i j : Nat) : Prop where
  done : ∀ i', i' < i → ∀ k, k < b.n → Laps (a.t K) (b.t K) i' k → q (a.V i') (b.V k) = true
  at_ : i < a.n → j < b.n ∧ b.t K j ≤ a.t K i ∧ a.t K i < b.t K (j + 1)
structure BesJ (K : Nat) (q : Iv → Iv → Bool) (a b : Tb) (i j : Nat) : Prop where
  lt : j < b.n
  done : ∀ i', i' < i → ∀ k, k < b.n → Laps (a.t K) (b.t K) i' k → q (a.V i') (b.V k) = true
  past : ∀ k, k < j → Laps (a.t K) (b.t K) i k → q (a.V i) (b.V k) = true
  laps : Laps (a.t K) (b.t K) i j
section
variable {K : Nat} {q : Iv → Iv → Bool} {a b : Tb} {i j : Nat}
theorem bes_start (hb : MayT K b) (h0 : a.t K 0 = b.t K 0) : BesI K q a b 0 0 :=
  ⟨fun i' hi' => absurd hi' (Nat.not_lt_zero _), fun _ => ⟨hb.pos, by omega, by have := hb.rise 0 hb.pos; omega⟩⟩
theorem bes_in (ha : MayT K a) (hb : MayT K b) (h : BesI K q a b i j) (hi : i < a.n) : BesJ K q a b i j := by
  obtain ⟨h1, h2, h3⟩ := h.at_ hi
  have h4 := ha.rise i hi
  refine ⟨h1, h.done, fun k hk hl => ?_, h3, by omega⟩
  have h5 := hb.rise.le (show k + 1 ≤ j by omega) (by omega)
  have h6 := hl.1
  omega
theorem bes_done (h : BesJ K q a b i j) (hq : q (a.V i) (b.V j) = true) (hn : ∀ k, j < k → k < b.n → ¬ Laps (a.t K) (b.t K) i k) : ∀ i', i' < i + 1 → ∀ k, k < b.n → Laps (a.t K) (b.t K) i' k → q (a.V i') (b.V k) = true := fun i' hi' k hk hl => by
  rcases (show i' < i ∨ i' = i by omega) with h1 | rfl
  · exact h.done i' h1 k hk hl
  · rcases Nat.lt_trichotomy k j with h2 | rfl | h2
    · exact h.past k h2 hl
    · exact hq
    · exact absurd hl (hn k h2 hk)
theorem bes_lt (hb : MayT K b) (h : BesJ K q a b i j) (hq : q (a.V i) (b.V j) = true) (hc : a.t K (i + 1) < b.t K (j + 1)) : BesI K q a b (i + 1) j :=
  ⟨bes_done h hq fun k hk hkn hl => by
    have h5 := hb.rise.le (show j + 1 ≤ k by omega) (by omega)
    have h6 := hl.2
    omega, fun _ => ⟨h.lt, by have := h.laps.2; omega, hc⟩⟩
theorem bes_eq (ha : MayT K a) (hb : MayT K b) (hn : a.t K a.n = b.t K b.n) (h : BesJ K q a b i j) (hq : q (a.V i) (b.V j) = true) (hc : a.t K (i + 1) = b.t K (j + 1)) : BesI K q a b (i + 1) (j + 1) :=
  ⟨bes_done h hq fun k hk hkn hl => by
    have h5 := hb.rise.le (show j + 1 ≤ k by omega) (by omega)
    have h6 := hl.2
    omega, fun hi2 => by
    have h7 := ha.rise.lt (show i + 1 < a.n from hi2) (Nat.le_refl _)
    have h8 : j + 1 < b.n := by
      have h9 := h.lt
      rcases Nat.lt_or_ge (j + 1) b.n with h10 | h10
      · exact h10
      · have h11 : j + 1 = b.n := by omega
        rw [h11] at hc
        omega
    have h9 := hb.rise (j + 1) h8
    exact ⟨h8, by omega, by omega⟩⟩
theorem bes_gt (ha : MayT K a) (hb : MayT K b) (hn : a.t K a.n = b.t K b.n) (h : BesJ K q a b i j) (hi : i < a.n) (hq : q (a.V i) (b.V j) = true) (hc : b.t K (j + 1) < a.t K (i + 1)) : BesJ K q a b i (j + 1) := by
  have h7 := ha.rise.le (show i + 1 ≤ a.n by omega) (Nat.le_refl _)
  have h8 : j + 1 < b.n := by
    have h9 := h.lt
    rcases Nat.lt_or_ge (j + 1) b.n with h10 | h10
    · exact h10
    · have h11 : j + 1 = b.n := by omega
      rw [h11] at hc
      omega
  have h9 := hb.rise (j + 1) h8
  refine ⟨h8, h.done, fun k hk hl => ?_, ?_, hc⟩
  · rcases (show k < j ∨ k = j by omega) with h1 | rfl
    · exact h.past k h1 hl
    · exact hq
  · have := h.laps.1
    omega
theorem bes_no (h : BesJ K q a b i j) (hi : i < a.n) (hq : q (a.V i) (b.V j) = false) : cellsB K a b q = false := Bool.eq_false_iff.2 fun h2 => by
  have h3 : q (a.V i) (b.V j) = true := (cellsB_iff.1 h2).2.2.2.2 i hi j h.lt h.laps
  rw [h3] at hq
  cases hq
theorem bes_all (ha : MayT K a) (hb : MayT K b) (h0 : a.t K 0 = b.t K 0) (hn : a.t K a.n = b.t K b.n) (h : BesI K q a b a.n j) : cellsB K a b q = true := cellsB_iff.2 ⟨ha, hb, h0, hn, h.done⟩
theorem cells_no1 (h : mayTb K a = false) : cellsB K a b q = false := by unfold cellsB; rw [h]; rfl
theorem cells_no2 (h : mayTb K b = false) : cellsB K a b q = false := by unfold cellsB; rw [h]; simp
theorem cells_no3 (hK : 4194304 ≤ K) (ha : MayT K a) (hb : MayT K b) (h : sameQ (a.T 0) (b.T 0) = false) : cellsB K a b q = false := Bool.eq_false_iff.2 fun h2 => by
  have h3 := (cellsB_iff.1 h2).2.2.1
  rw [sameQ_iff.2 (one_of_v hK (ha.T 0 (by omega)) (hb.T 0 (by omega)) h3)] at h
  cases h
theorem cells_no4 (hK : 4194304 ≤ K) (ha : MayT K a) (hb : MayT K b) (h : sameQ (a.T a.n) (b.T b.n) = false) : cellsB K a b q = false := Bool.eq_false_iff.2 fun h2 => by
  have h3 := (cellsB_iff.1 h2).2.2.2.1
  rw [sameQ_iff.2 (one_of_v hK (ha.T a.n (by omega)) (hb.T b.n (by omega)) h3)] at h
  cases h
end

set_option maxRecDepth 100000 in
set_option maxHeartbeats 8000000 in
theorem tbeside_any {w : World} {KS : Nat} {f : FuncId} {q : Iv → Iv → Bool} {a : Tb} {Ta Va : Option Addr} {ca da : Nat} {u : Tb} {Tu Vu : Option Addr} {cu du : Nat} (hKS : 4194304 ≤ KS) (hS : StandI f q) (hT : Tab w) (ha : RdTb w Ta ca Va da a) (hu : RdTb w Tu cu Vu du u) :
    Calls Tryd.prog 22 #[.agg #[.slice Ta a.m ca, .slice Va a.n da], .agg #[.slice Tu u.m cu, .slice Vu u.n du], .func (Fn.func f) #[] #[]] w (Bools (cellsB KS a u q) w) := by
  have HK0 := Lib.hid hKS
  have hfg := hS.go
  have hcp := ha.v.cap
  have hcm := ha.v.max
  have hcq := hu.v.cap
  have hcr := hu.v.max
  obtain ⟨pp, hpp⟩ : ∃ z, z = cellsB KS a u q := ⟨_, rfl⟩
  rw [← hpp]
  have HPP := Lib.hid hpp
  clear hpp
  obtain ⟨p1, hp1⟩ : ∃ p, p = mayTb KS a := ⟨_, rfl⟩
  have HP1 := Lib.hid hp1
  clear hp1
  obtain ⟨p2, hp2⟩ : ∃ p, p = mayTb KS u := ⟨_, rfl⟩
  have HP2 := Lib.hid hp2
  clear hp2
  obtain ⟨p3, hp3⟩ : ∃ p, p = sameQ (a.T 0) (u.T 0) := ⟨_, rfl⟩
  have HP3 := Lib.hid hp3
  clear hp3
  obtain ⟨p4, hp4⟩ : ∃ p, p = sameQ (a.T a.n) (u.T u.n) := ⟨_, rfl⟩
  have HP4 := Lib.hid hp4
  clear hp4
  have BB := Below.refl w.heap.size w
  have b := below_alloc w (.cells #[.slice Ta a.m ca, .slice Va a.n da] 25)
  have xa := Blk.new w #[.slice Ta a.m ca, .slice Va a.n da] 25
  replace BB := bnx BB b rfl rfl rfl rfl
  have G := mv b rfl (J3 ha hu hT)
  clear ha hu hT
  obtain ⟨ha, hu, hT⟩ := G
  clear b
  have b := below_alloc (w.alloc (.cells #[.slice Ta a.m ca, .slice Va a.n da] 25)) (.cells #[.slice Tu u.m cu, .slice Vu u.n du] 25)
  have xb := Blk.new (w.alloc (.cells #[.slice Ta a.m ca, .slice Va a.n da] 25)) #[.slice Tu u.m cu, .slice Vu u.n du] 25
  rw [show (w.alloc (.cells #[.slice Ta a.m ca, .slice Va a.n da] 25)).heap.size = w.heap.size + 1 by simp] at xb
  replace BB := bnx BB b rfl rfl rfl rfl
  have G := mv b rfl (J4 ha hu hT xa)
  clear ha hu hT xa
  obtain ⟨ha, hu, hT, xa⟩ := G
  clear b
  have a0 : World.cell? _ ⟨_, 0, none⟩ = some (.slice Ta a.m ca) := xa.at 0
  have a1 : World.cell? _ ⟨_, 1, none⟩ = some (.slice Va a.n da) := xa.at 1
  have b0 : World.cell? _ ⟨_, 0, none⟩ = some (.slice Tu u.m cu) := xb.at 0
  have b1 : World.cell? _ ⟨_, 1, none⟩ = some (.slice Vu u.n du) := xb.at 1
  clear xa xb
  go_enter Tryd.func22, Tryd.ntmps22
  go_wp2
  go_step3
  generalize ((w.alloc (.cells #[.slice Ta a.m ca, .slice Va a.n da] 25)).alloc (.cells #[.slice Tu u.m cu, .slice Vu u.n du] 25)) = W1 at *
  have HS := Lib.hid hS
  clear hS
  have b9 : Below W1.heap.size W1 (World.drew W1) := below_drewN (Below.refl _ _) 1
  cases p1
  case false =>
    have e : pp = false := HPP.out.trans (cells_no1 HP1.out.symm)
    subst e
    replace BB := below_next BB BB.size b9 rfl rfl rfl rfl
    have G := mv b9 rfl (J7 ha hu hT a0 a1 b0 b1)
    clear ha hu hT a0 a1 b0 b1
    obtain ⟨ha, hu, hT, a0, a1, b0, b1⟩ := G
    clear b9
    go_wp2_with fail
    refine wp_region_held_drew (S := fun w' => w'.cell? ⟨w.heap.size, 0, none⟩ = some (.slice Ta a.m ca) ∧ w'.cell? ⟨w.heap.size, 1, none⟩ = some (.slice Va a.n da) ∧ w'.cell? ⟨w.heap.size + 1, 0, none⟩ = some (.slice Tu u.m cu) ∧ w'.cell? ⟨w.heap.size + 1, 1, none⟩ = some (.slice Vu u.n du)) (by kernel_rfl) (by exact ⟨a0, a1, b0, b1⟩) (fun hHeldca0 => ?_)
    generalize World.drew W1 = wd at *
    refine tk 0 10 ?_
    simp only [Act.put, List.setIfInBounds_toArray, List.set_cons_zero, List.set_cons_succ]
    refine wpAnyH_ready (rs := [1]) (by kernel_rfl) (by simp) ?_
    refine AllReadyH.cons (o := _) rfl (fun K hK => ?_) AllReadyH.nil
    go_simp
    refine (tmayt_any HK0.out hT ha).mono ?_
    rintro en w1 ⟨rfl, b⟩
    rw [← HP1.out]
    replace BB := below_next BB BB.size b (by rfl) (by rfl) (by rfl) (by rfl)
    have G := mv b (by rfl) <| And.intro ha <| And.intro hu <| And.intro hT <| And.intro a0 <| And.intro a1 <| And.intro b0 <| b1
    clear ha hu hT a0 a1 b0 b1
    obtain ⟨ha, hu, hT, a0, a1, b0, b1⟩ := G
    clear b
    refine hK.out _ _ (by exact ⟨a0, a1, b0, b1⟩) (fun hHeldca1 => ?_)
    clear hK K hHeldca0
    try simp only [Act.put]
    refine tk 2 12 ?_
    simp only [Act.put, List.setIfInBounds_toArray, List.set_cons_zero, List.set_cons_succ]
    refine tk 3 13 ?_
    simp only [Act.put, List.setIfInBounds_toArray, List.set_cons_zero, List.set_cons_succ]
    refine wpAnyH_take (i := 4) (v := undef) rfl (by kernel_rfl) (by kernel_rfl) (by kernel_rfl) (fun _ _ _ h => panic_put (P := Tryd.prog) (fn := Tryd.f22) (R := (Bools false w)) h) (Or.inr ⟨by rfl, rfl⟩) (by assumption) ?_
    change wpAnyH _ _ _ _ _ _ _ (Act.put _ (some 14) _) _
    simp only [Act.put, List.setIfInBounds_toArray, List.set_cons_zero, List.set_cons_succ]
    refine wpAnyH_take (i := 5) (v := undef) rfl (by kernel_rfl) (by kernel_rfl) (by kernel_rfl) (fun _ _ _ h => panic_put (P := Tryd.prog) (fn := Tryd.f22) (R := (Bools false w)) h) (Or.inr ⟨by rfl, rfl⟩) (by assumption) ?_
    change wpAnyH _ _ _ _ _ _ _ (Act.put _ (some 15) _) _
    simp only [Act.put, List.setIfInBounds_toArray, List.set_cons_zero, List.set_cons_succ]
    refine wpAnyH_take (i := 6) (v := undef) rfl (by kernel_rfl) (by kernel_rfl) (by kernel_rfl) (fun _ _ _ h => panic_put (P := Tryd.prog) (fn := Tryd.f22) (R := (Bools false w)) h) (Or.inr ⟨by rfl, rfl⟩) (by assumption) ?_
    change wpAnyH _ _ _ _ _ _ _ (Act.put _ (some 16) _) _
    simp only [Act.put, List.setIfInBounds_toArray, List.set_cons_zero, List.set_cons_succ]
    refine tk 7 17 ?_
    simp only [Act.put, List.setIfInBounds_toArray, List.set_cons_zero, List.set_cons_succ]
    refine tk 8 18 ?_
    simp only [Act.put, List.setIfInBounds_toArray, List.set_cons_zero, List.set_cons_succ]
    refine wpAnyH_take (i := 9) (v := undef) rfl (by kernel_rfl) (by kernel_rfl) (by kernel_rfl) (fun _ _ _ h => panic_put (P := Tryd.prog) (fn := Tryd.f22) (R := (Bools false w)) h) (Or.inr ⟨by rfl, rfl⟩) (by assumption) ?_
    change wpAnyH _ _ _ _ _ _ _ (Act.put _ (some 19) _) _
    simp only [Act.put, List.setIfInBounds_toArray, List.set_cons_zero, List.set_cons_succ]
    refine wpAnyH_take (i := 10) (v := undef) rfl (by kernel_rfl) (by kernel_rfl) (by kernel_rfl) (fun _ _ _ h => panic_put (P := Tryd.prog) (fn := Tryd.f22) (R := (Bools false w)) h) (Or.inr ⟨by rfl, rfl⟩) (by assumption) ?_
    change wpAnyH _ _ _ _ _ _ _ (Act.put _ (some 20) _) _
    simp only [Act.put, List.setIfInBounds_toArray, List.set_cons_zero, List.set_cons_succ]
    refine wpAnyH_take (i := 11) (v := undef) rfl (by kernel_rfl) (by kernel_rfl) (by kernel_rfl) (fun _ _ _ h => panic_put (P := Tryd.prog) (fn := Tryd.f22) (R := (Bools false w)) h) (Or.inr ⟨by rfl, rfl⟩) (by assumption) ?_
    change wpAnyH _ _ _ _ _ _ _ (Act.put _ (some 21) _) _
    simp only [Act.put, List.setIfInBounds_toArray, List.set_cons_zero, List.set_cons_succ]
    refine wpAnyH_take (i := 12) (v := undef) rfl (by kernel_rfl) (by kernel_rfl) (by kernel_rfl) (fun _ _ _ h => panic_put (P := Tryd.prog) (fn := Tryd.f22) (R := (Bools false w)) h) (Or.inr ⟨by rfl, rfl⟩) (by assumption) ?_
    change wpAnyH _ _ _ _ _ _ _ (Act.put _ (some 22) _) _
    simp only [Act.put, List.setIfInBounds_toArray, List.set_cons_zero, List.set_cons_succ]
    refine wpAnyH_take (i := 13) (v := undef) rfl (by kernel_rfl) (by kernel_rfl) (by kernel_rfl) (fun _ _ _ h => panic_put (P := Tryd.prog) (fn := Tryd.f22) (R := (Bools false w)) h) (Or.inr ⟨by rfl, rfl⟩) (by assumption) ?_
    change wpAnyH _ _ _ _ _ _ _ (Act.put _ (some 23) _) _
    simp only [Act.put, List.setIfInBounds_toArray, List.set_cons_zero, List.set_cons_succ]
    refine wpAnyH_take (i := 14) (v := undef) rfl (by kernel_rfl) (by kernel_rfl) (by kernel_rfl) (fun _ _ _ h => panic_put (P := Tryd.prog) (fn := Tryd.f22) (R := (Bools false w)) h) (Or.inr ⟨by rfl, rfl⟩) (by assumption) ?_
    change wpAnyH _ _ _ _ _ _ _ (Act.put _ (some 24) _) _
    simp only [Act.put, List.setIfInBounds_toArray, List.set_cons_zero, List.set_cons_succ]
    refine wpAnyH_take (i := 15) (v := undef) rfl (by kernel_rfl) (by kernel_rfl) (by kernel_rfl) (fun _ _ _ h => panic_put (P := Tryd.prog) (fn := Tryd.f22) (R := (Bools false w)) h) (Or.inr ⟨by rfl, rfl⟩) (by assumption) ?_
    change wpAnyH _ _ _ _ _ _ _ (Act.put _ (some 25) _) _
    simp only [Act.put, List.setIfInBounds_toArray, List.set_cons_zero, List.set_cons_succ]
    refine wpAnyH_take (i := 16) (v := undef) rfl (by kernel_rfl) (by kernel_rfl) (by kernel_rfl) (fun _ _ _ h => panic_put (P := Tryd.prog) (fn := Tryd.f22) (R := (Bools false w)) h) (Or.inr ⟨by rfl, rfl⟩) (by assumption) ?_
    change wpAnyH _ _ _ _ _ _ _ (Act.put _ (some 26) _) _
    simp only [Act.put, List.setIfInBounds_toArray, List.set_cons_zero, List.set_cons_succ]
    refine wpAnyH_take (i := 17) (v := undef) rfl (by kernel_rfl) (by kernel_rfl) (by kernel_rfl) (fun _ _ _ h => panic_put (P := Tryd.prog) (fn := Tryd.f22) (R := (Bools false w)) h) (Or.inr ⟨by rfl, rfl⟩) (by assumption) ?_
    change wpAnyH _ _ _ _ _ _ _ (Act.put _ (some 27) _) _
    simp only [Act.put, List.setIfInBounds_toArray, List.set_cons_zero, List.set_cons_succ]
    refine wpAnyH_take (i := 18) (v := undef) rfl (by kernel_rfl) (by kernel_rfl) (by kernel_rfl) (fun _ _ _ h => panic_put (P := Tryd.prog) (fn := Tryd.f22) (R := (Bools false w)) h) (Or.inr ⟨by rfl, rfl⟩) (by assumption) ?_
    change wpAnyH _ _ _ _ _ _ _ (Act.put _ (some 28) _) _
    simp only [Act.put, List.setIfInBounds_toArray, List.set_cons_zero, List.set_cons_succ]
    refine tk 19 29 ?_
    simp only [Act.put, List.setIfInBounds_toArray, List.set_cons_zero, List.set_cons_succ]
    refine tk 20 30 ?_
    simp only [Act.put, List.setIfInBounds_toArray, List.set_cons_zero, List.set_cons_succ]
    refine wpAnyH_take (i := 21) (v := undef) rfl (by kernel_rfl) (by kernel_rfl) (by kernel_rfl) (fun _ _ _ h => panic_put (P := Tryd.prog) (fn := Tryd.f22) (R := (Bools false w)) h) (Or.inr ⟨by rfl, rfl⟩) (by assumption) ?_
    change wpAnyH _ _ _ _ _ _ _ (Act.put _ (some 31) _) _
    simp only [Act.put, List.setIfInBounds_toArray, List.set_cons_zero, List.set_cons_succ]
    refine wpAnyH_take (i := 22) (v := undef) rfl (by kernel_rfl) (by kernel_rfl) (by kernel_rfl) (fun _ _ _ h => panic_put (P := Tryd.prog) (fn := Tryd.f22) (R := (Bools false w)) h) (Or.inr ⟨by rfl, rfl⟩) (by assumption) ?_
    change wpAnyH _ _ _ _ _ _ _ (Act.put _ (some 32) _) _
    simp only [Act.put, List.setIfInBounds_toArray, List.set_cons_zero, List.set_cons_succ]
    refine wpAnyH_take (i := 23) (v := undef) rfl (by kernel_rfl) (by kernel_rfl) (by kernel_rfl) (fun _ _ _ h => panic_put (P := Tryd.prog) (fn := Tryd.f22) (R := (Bools false w)) h) (Or.inr ⟨by rfl, rfl⟩) (by assumption) ?_
    change wpAnyH _ _ _ _ _ _ _ (Act.put _ (some 33) _) _
    simp only [Act.put, List.setIfInBounds_toArray, List.set_cons_zero, List.set_cons_succ]
    refine wpAnyH_take (i := 24) (v := undef) rfl (by kernel_rfl) (by kernel_rfl) (by kernel_rfl) (fun _ _ _ h => panic_put (P := Tryd.prog) (fn := Tryd.f22) (R := (Bools false w)) h) (Or.inr ⟨by rfl, rfl⟩) (by assumption) ?_
    change wpAnyH _ _ _ _ _ _ _ (Act.put _ (some 34) _) _
    simp only [Act.put, List.setIfInBounds_toArray, List.set_cons_zero, List.set_cons_succ]
    refine wpAnyH_take (i := 25) (v := undef) rfl (by kernel_rfl) (by kernel_rfl) (by kernel_rfl) (fun _ _ _ h => panic_put (P := Tryd.prog) (fn := Tryd.f22) (R := (Bools false w)) h) (Or.inr ⟨by rfl, rfl⟩) (by assumption) ?_
    change wpAnyH _ _ _ _ _ _ _ (Act.put _ (some 35) _) _
    simp only [Act.put, List.setIfInBounds_toArray, List.set_cons_zero, List.set_cons_succ]
    refine wpAnyH_take (i := 26) (v := undef) rfl (by kernel_rfl) (by kernel_rfl) (by kernel_rfl) (fun _ _ _ h => panic_put (P := Tryd.prog) (fn := Tryd.f22) (R := (Bools false w)) h) (Or.inr ⟨by rfl, rfl⟩) (by assumption) ?_
    change wpAnyH _ _ _ _ _ _ _ (Act.put _ (some 36) _) _
    simp only [Act.put, List.setIfInBounds_toArray, List.set_cons_zero, List.set_cons_succ]
    refine tk 27 37 ?_
    simp only [Act.put, List.setIfInBounds_toArray, List.set_cons_zero, List.set_cons_succ]
    refine wpAnyH_done (by kernel_rfl) ?_ _
    go_wp2
    go_ret
    exact ⟨by first | rfl | simp, BB⟩
  case true =>
    have HMA := Lib.hid (mayTb_iff.1 HP1.out.symm)
    cases p2
    case false =>
      have e : pp = false := HPP.out.trans (cells_no2 HP2.out.symm)
      subst e
      replace BB := below_next BB BB.size b9 rfl rfl rfl rfl
      have G := mv b9 rfl (J7 ha hu hT a0 a1 b0 b1)
      clear ha hu hT a0 a1 b0 b1
      obtain ⟨ha, hu, hT, a0, a1, b0, b1⟩ := G
      clear b9
      go_wp2_with fail
      refine wp_region_held_drew (S := fun w' => w'.cell? ⟨w.heap.size, 0, none⟩ = some (.slice Ta a.m ca) ∧ w'.cell? ⟨w.heap.size, 1, none⟩ = some (.slice Va a.n da) ∧ w'.cell? ⟨w.heap.size + 1, 0, none⟩ = some (.slice Tu u.m cu) ∧ w'.cell? ⟨w.heap.size + 1, 1, none⟩ = some (.slice Vu u.n du)) (by kernel_rfl) (by exact ⟨a0, a1, b0, b1⟩) (fun hHeldcb0 => ?_)
      generalize World.drew W1 = wd at *
      refine tk 0 10 ?_
      simp only [Act.put, List.setIfInBounds_toArray, List.set_cons_zero, List.set_cons_succ]
      refine wpAnyH_ready (rs := [1]) (by kernel_rfl) (by simp) ?_
      refine AllReadyH.cons (o := _) rfl (fun K hK => ?_) AllReadyH.nil
      go_simp
      refine (tmayt_any HK0.out hT ha).mono ?_
      rintro en w1 ⟨rfl, b⟩
      rw [← HP1.out]
      replace BB := below_next BB BB.size b (by rfl) (by rfl) (by rfl) (by rfl)
      have G := mv b (by rfl) <| And.intro ha <| And.intro hu <| And.intro hT <| And.intro a0 <| And.intro a1 <| And.intro b0 <| b1
      clear ha hu hT a0 a1 b0 b1
      obtain ⟨ha, hu, hT, a0, a1, b0, b1⟩ := G
      clear b
      refine hK.out _ _ (by exact ⟨a0, a1, b0, b1⟩) (fun hHeldcb1 => ?_)
      clear hK K hHeldcb0
      try simp only [Act.put]
      refine tk 2 12 ?_
      simp only [Act.put, List.setIfInBounds_toArray, List.set_cons_zero, List.set_cons_succ]
      refine tk 3 13 ?_
      simp only [Act.put, List.setIfInBounds_toArray, List.set_cons_zero, List.set_cons_succ]
      refine tk 4 14 ?_
      simp only [Act.put, List.setIfInBounds_toArray, List.set_cons_zero, List.set_cons_succ]
      refine wpAnyH_ready (rs := [5]) (by kernel_rfl) (by simp) ?_
      refine AllReadyH.cons (o := _) rfl (fun K hK => ?_) AllReadyH.nil
      go_simp
      refine (tmayt_any HK0.out hT hu).mono ?_
      rintro en w2 ⟨rfl, b⟩
      rw [← HP2.out]
      replace BB := below_next BB BB.size b (by rfl) (by rfl) (by rfl) (by rfl)
      have G := mv b (by rfl) <| And.intro ha <| And.intro hu <| And.intro hT <| And.intro a0 <| And.intro a1 <| And.intro b0 <| b1
      clear ha hu hT a0 a1 b0 b1
      obtain ⟨ha, hu, hT, a0, a1, b0, b1⟩ := G
      clear b
      refine hK.out _ _ (by exact ⟨a0, a1, b0, b1⟩) (fun hHeldcb2 => ?_)
      clear hK K hHeldcb1
      try simp only [Act.put]
      refine tk 6 16 ?_
      simp only [Act.put, List.setIfInBounds_toArray, List.set_cons_zero, List.set_cons_succ]
      refine tk 7 17 ?_
      simp only [Act.put, List.setIfInBounds_toArray, List.set_cons_zero, List.set_cons_succ]
      refine tk 8 18 ?_
      simp only [Act.put, List.setIfInBounds_toArray, List.set_cons_zero, List.set_cons_succ]
      refine wpAnyH_take (i := 9) (v := undef) rfl (by kernel_rfl) (by kernel_rfl) (by kernel_rfl) (fun _ _ _ h => panic_put (P := Tryd.prog) (fn := Tryd.f22) (R := (Bools false w)) h) (Or.inr ⟨by rfl, rfl⟩) (by assumption) ?_
      change wpAnyH _ _ _ _ _ _ _ (Act.put _ (some 19) _) _
      simp only [Act.put, List.setIfInBounds_toArray, List.set_cons_zero, List.set_cons_succ]
      refine wpAnyH_take (i := 10) (v := undef) rfl (by kernel_rfl) (by kernel_rfl) (by kernel_rfl) (fun _ _ _ h => panic_put (P := Tryd.prog) (fn := Tryd.f22) (R := (Bools false w)) h) (Or.inr ⟨by rfl, rfl⟩) (by assumption) ?_
      change wpAnyH _ _ _ _ _ _ _ (Act.put _ (some 20) _) _
      simp only [Act.put, List.setIfInBounds_toArray, List.set_cons_zero, List.set_cons_succ]
      refine wpAnyH_take (i := 11) (v := undef) rfl (by kernel_rfl) (by kernel_rfl) (by kernel_rfl) (fun _ _ _ h => panic_put (P := Tryd.prog) (fn := Tryd.f22) (R := (Bools false w)) h) (Or.inr ⟨by rfl, rfl⟩) (by assumption) ?_
      change wpAnyH _ _ _ _ _ _ _ (Act.put _ (some 21) _) _
      simp only [Act.put, List.setIfInBounds_toArray, List.set_cons_zero, List.set_cons_succ]
      refine wpAnyH_take (i := 12) (v := undef) rfl (by kernel_rfl) (by kernel_rfl) (by kernel_rfl) (fun _ _ _ h => panic_put (P := Tryd.prog) (fn := Tryd.f22) (R := (Bools false w)) h) (Or.inr ⟨by rfl, rfl⟩) (by assumption) ?_
      change wpAnyH _ _ _ _ _ _ _ (Act.put _ (some 22) _) _
      simp only [Act.put, List.setIfInBounds_toArray, List.set_cons_zero, List.set_cons_succ]
      refine wpAnyH_take (i := 13) (v := undef) rfl (by kernel_rfl) (by kernel_rfl) (by kernel_rfl) (fun _ _ _ h => panic_put (P := Tryd.prog) (fn := Tryd.f22) (R := (Bools false w)) h) (Or.inr ⟨by rfl, rfl⟩) (by assumption) ?_
      change wpAnyH _ _ _ _ _ _ _ (Act.put _ (some 23) _) _
      simp only [Act.put, List.setIfInBounds_toArray, List.set_cons_zero, List.set_cons_succ]
      refine wpAnyH_take (i := 14) (v := undef) rfl (by kernel_rfl) (by kernel_rfl) (by kernel_rfl) (fun _ _ _ h => panic_put (P := Tryd.prog) (fn := Tryd.f22) (R := (Bools false w)) h) (Or.inr ⟨by rfl, rfl⟩) (by assumption) ?_
      change wpAnyH _ _ _ _ _ _ _ (Act.put _ (some 24) _) _
      simp only [Act.put, List.setIfInBounds_toArray, List.set_cons_zero, List.set_cons_succ]
      refine wpAnyH_take (i := 15) (v := undef) rfl (by kernel_rfl) (by kernel_rfl) (by kernel_rfl) (fun _ _ _ h => panic_put (P := Tryd.prog) (fn := Tryd.f22) (R := (Bools false w)) h) (Or.inr ⟨by rfl, rfl⟩) (by assumption) ?_
      change wpAnyH _ _ _ _ _ _ _ (Act.put _ (some 25) _) _
      simp only [Act.put, List.setIfInBounds_toArray, List.set_cons_zero, List.set_cons_succ]
      refine wpAnyH_take (i := 16) (v := undef) rfl (by kernel_rfl) (by kernel_rfl) (by kernel_rfl) (fun _ _ _ h => panic_put (P := Tryd.prog) (fn := Tryd.f22) (R := (Bools false w)) h) (Or.inr ⟨by rfl, rfl⟩) (by assumption) ?_
      change wpAnyH _ _ _ _ _ _ _ (Act.put _ (some 26) _) _
      simp only [Act.put, List.setIfInBounds_toArray, List.set_cons_zero, List.set_cons_succ]
      refine wpAnyH_take (i := 17) (v := undef) rfl (by kernel_rfl) (by kernel_rfl) (by kernel_rfl) (fun _ _ _ h => panic_put (P := Tryd.prog) (fn := Tryd.f22) (R := (Bools false w)) h) (Or.inr ⟨by rfl, rfl⟩) (by assumption) ?_
      change wpAnyH _ _ _ _ _ _ _ (Act.put _ (some 27) _) _
      simp only [Act.put, List.setIfInBounds_toArray, List.set_cons_zero, List.set_cons_succ]
      refine wpAnyH_take (i := 18) (v := undef) rfl (by kernel_rfl) (by kernel_rfl) (by kernel_rfl) (fun _ _ _ h => panic_put (P := Tryd.prog) (fn := Tryd.f22) (R := (Bools false w)) h) (Or.inr ⟨by rfl, rfl⟩) (by assumption) ?_
      change wpAnyH _ _ _ _ _ _ _ (Act.put _ (some 28) _) _
      simp only [Act.put, List.setIfInBounds_toArray, List.set_cons_zero, List.set_cons_succ]
      refine tk 19 29 ?_
      simp only [Act.put, List.setIfInBounds_toArray, List.set_cons_zero, List.set_cons_succ]
      refine tk 20 30 ?_
      simp only [Act.put, List.setIfInBounds_toArray, List.set_cons_zero, List.set_cons_succ]
      refine wpAnyH_take (i := 21) (v := undef) rfl (by kernel_rfl) (by kernel_rfl) (by kernel_rfl) (fun _ _ _ h => panic_put (P := Tryd.prog) (fn := Tryd.f22) (R := (Bools false w)) h) (Or.inr ⟨by rfl, rfl⟩) (by assumption) ?_
      change wpAnyH _ _ _ _ _ _ _ (Act.put _ (some 31) _) _
      simp only [Act.put, List.setIfInBounds_toArray, List.set_cons_zero, List.set_cons_succ]
      refine wpAnyH_take (i := 22) (v := undef) rfl (by kernel_rfl) (by kernel_rfl) (by kernel_rfl) (fun _ _ _ h => panic_put (P := Tryd.prog) (fn := Tryd.f22) (R := (Bools false w)) h) (Or.inr ⟨by rfl, rfl⟩) (by assumption) ?_
      change wpAnyH _ _ _ _ _ _ _ (Act.put _ (some 32) _) _
      simp only [Act.put, List.setIfInBounds_toArray, List.set_cons_zero, List.set_cons_succ]
      refine wpAnyH_take (i := 23) (v := undef) rfl (by kernel_rfl) (by kernel_rfl) (by kernel_rfl) (fun _ _ _ h => panic_put (P := Tryd.prog) (fn := Tryd.f22) (R := (Bools false w)) h) (Or.inr ⟨by rfl, rfl⟩) (by assumption) ?_
      change wpAnyH _ _ _ _ _ _ _ (Act.put _ (some 33) _) _
      simp only [Act.put, List.setIfInBounds_toArray, List.set_cons_zero, List.set_cons_succ]
      refine wpAnyH_take (i := 24) (v := undef) rfl (by kernel_rfl) (by kernel_rfl) (by kernel_rfl) (fun _ _ _ h => panic_put (P := Tryd.prog) (fn := Tryd.f22) (R := (Bools false w)) h) (Or.inr ⟨by rfl, rfl⟩) (by assumption) ?_
      change wpAnyH _ _ _ _ _ _ _ (Act.put _ (some 34) _) _
      simp only [Act.put, List.setIfInBounds_toArray, List.set_cons_zero, List.set_cons_succ]
      refine wpAnyH_take (i := 25) (v := undef) rfl (by kernel_rfl) (by kernel_rfl) (by kernel_rfl) (fun _ _ _ h => panic_put (P := Tryd.prog) (fn := Tryd.f22) (R := (Bools false w)) h) (Or.inr ⟨by rfl, rfl⟩) (by assumption) ?_
      change wpAnyH _ _ _ _ _ _ _ (Act.put _ (some 35) _) _
      simp only [Act.put, List.setIfInBounds_toArray, List.set_cons_zero, List.set_cons_succ]
      refine wpAnyH_take (i := 26) (v := undef) rfl (by kernel_rfl) (by kernel_rfl) (by kernel_rfl) (fun _ _ _ h => panic_put (P := Tryd.prog) (fn := Tryd.f22) (R := (Bools false w)) h) (Or.inr ⟨by rfl, rfl⟩) (by assumption) ?_
      change wpAnyH _ _ _ _ _ _ _ (Act.put _ (some 36) _) _
      simp only [Act.put, List.setIfInBounds_toArray, List.set_cons_zero, List.set_cons_succ]
      refine tk 27 37 ?_
      simp only [Act.put, List.setIfInBounds_toArray, List.set_cons_zero, List.set_cons_succ]
      refine wpAnyH_done (by kernel_rfl) ?_ _
      go_wp2
      go_ret
      exact ⟨by first | rfl | simp, BB⟩
    case true =>
      have HMB := Lib.hid (mayTb_iff.1 HP2.out.symm)
      have HL : Hid (a.n < a.m ∧ u.n < u.m) := Lib.hid ⟨by have := HMA.out.len; omega, by have := HMB.out.len; omega⟩
      have hp2 : (0 : Int) < a.m := by have := HL.out; omega
      have hp2n : 0 < a.m := by have := HL.out; omega
      have hp3 : (0 : Int) < u.m := by have := HL.out; omega
      have hp3n : 0 < u.m := by have := HL.out; omega
      obtain ⟨g1, o1, hTa, hc⟩ := ha.at_.at_ (by omega)
      obtain ⟨A1, n1, c1, ⟨r0, r1, r2⟩, q1⟩ := hc 0 (by omega)
      obtain ⟨g2, o2, hTu, hd⟩ := hu.at_.at_ (by omega)
      obtain ⟨A2, n2, c2, ⟨s0, s1, s2⟩, q2⟩ := hd 0 (by omega)
      simp only [Nat.zero_mul, Nat.add_zero] at r0 r1 r2 s0 s1 s2
      clear hc hd
      subst hTa hTu
      obtain ⟨ta, hta⟩ : ∃ z, z = a.T 0 := ⟨_, rfl⟩
      obtain ⟨tb, htb⟩ : ∃ z, z = u.T 0 := ⟨_, rfl⟩
      rw [← hta] at r0 r2 q1
      rw [← htb] at s0 s2 q2
      have HTE := Lib.hid (And.intro hta htb)
      have HP3b := HP3.out
      rw [← hta, ← htb] at HP3b
      replace HP3 := Lib.hid HP3b
      clear HP3b hta htb
      cases p3
      case false =>
        have e : pp = false := HPP.out.trans (cells_no3 HK0.out HMA.out HMB.out (by rw [← HTE.out.1, ← HTE.out.2]; exact HP3.out.symm))
        subst e
        replace BB := below_next BB BB.size b9 rfl rfl rfl rfl
        have G := mv b9 rfl (J15 ha hu hT a0 a1 b0 b1 r0 r1 r2 s0 s1 s2 q1 q2)
        clear ha hu hT a0 a1 b0 b1 r0 r1 r2 s0 s1 s2 q1 q2
        obtain ⟨ha, hu, hT, a0, a1, b0, b1, r0, r1, r2, s0, s1, s2, q1, q2⟩ := G
        clear b9
        go_wp2_with fail
        refine wp_region_held_drew (S := fun w' => w'.cell? ⟨w.heap.size, 0, none⟩ = some (.slice (some ⟨g1, o1, none⟩) a.m ca) ∧ w'.cell? ⟨w.heap.size, 1, none⟩ = some (.slice Va a.n da) ∧ w'.cell? ⟨w.heap.size + 1, 0, none⟩ = some (.slice (some ⟨g2, o2, none⟩) u.m cu) ∧ w'.cell? ⟨w.heap.size + 1, 1, none⟩ = some (.slice Vu u.n du) ∧ w'.cell? ⟨g1, o1, none⟩ = some (.bool ta.s) ∧ w'.cell? ⟨g1, o1 + 1, none⟩ = some (.slice A1 n1 c1) ∧ w'.cell? ⟨g1, o1 + 2, none⟩ = some (.int .i64 ta.e) ∧ w'.cell? ⟨g2, o2, none⟩ = some (.bool tb.s) ∧ w'.cell? ⟨g2, o2 + 1, none⟩ = some (.slice A2 n2 c2) ∧ w'.cell? ⟨g2, o2 + 2, none⟩ = some (.int .i64 tb.e)) (by kernel_rfl) (by exact ⟨a0, a1, b0, b1, r0, r1, r2, s0, s1, s2⟩) (fun hHeldcc0 => ?_)
        generalize World.drew W1 = wd at *
        refine tk 0 10 ?_
        simp only [Act.put, List.setIfInBounds_toArray, List.set_cons_zero, List.set_cons_succ]
        refine wpAnyH_ready (rs := [1]) (by kernel_rfl) (by simp) ?_
        refine AllReadyH.cons (o := _) rfl (fun K hK => ?_) AllReadyH.nil
        go_simp
        refine (tmayt_any HK0.out hT ha).mono ?_
        rintro en w1 ⟨rfl, b⟩
        rw [← HP1.out]
        replace BB := below_next BB BB.size b (by rfl) (by rfl) (by rfl) (by rfl)
        have G := mv b (by rfl) <| And.intro ha <| And.intro hu <| And.intro hT <| And.intro a0 <| And.intro a1 <| And.intro b0 <| And.intro b1 <| And.intro r0 <| And.intro r1 <| And.intro r2 <| And.intro s0 <| And.intro s1 <| And.intro s2 <| And.intro q1 <| q2
        clear ha hu hT a0 a1 b0 b1 r0 r1 r2 s0 s1 s2 q1 q2
        obtain ⟨ha, hu, hT, a0, a1, b0, b1, r0, r1, r2, s0, s1, s2, q1, q2⟩ := G
        clear b
        refine hK.out _ _ (by exact ⟨a0, a1, b0, b1, r0, r1, r2, s0, s1, s2⟩) (fun hHeldcc1 => ?_)
        clear hK K hHeldcc0
        try simp only [Act.put]
        refine tk 2 12 ?_
        simp only [Act.put, List.setIfInBounds_toArray, List.set_cons_zero, List.set_cons_succ]
        refine tk 3 13 ?_
        simp only [Act.put, List.setIfInBounds_toArray, List.set_cons_zero, List.set_cons_succ]
        refine tk 4 14 ?_
        simp only [Act.put, List.setIfInBounds_toArray, List.set_cons_zero, List.set_cons_succ]
        refine wpAnyH_ready (rs := [5]) (by kernel_rfl) (by simp) ?_
        refine AllReadyH.cons (o := _) rfl (fun K hK => ?_) AllReadyH.nil
        go_simp
        refine (tmayt_any HK0.out hT hu).mono ?_
        rintro en w2 ⟨rfl, b⟩
        rw [← HP2.out]
        replace BB := below_next BB BB.size b (by rfl) (by rfl) (by rfl) (by rfl)
        have G := mv b (by rfl) <| And.intro ha <| And.intro hu <| And.intro hT <| And.intro a0 <| And.intro a1 <| And.intro b0 <| And.intro b1 <| And.intro r0 <| And.intro r1 <| And.intro r2 <| And.intro s0 <| And.intro s1 <| And.intro s2 <| And.intro q1 <| q2
        clear ha hu hT a0 a1 b0 b1 r0 r1 r2 s0 s1 s2 q1 q2
        obtain ⟨ha, hu, hT, a0, a1, b0, b1, r0, r1, r2, s0, s1, s2, q1, q2⟩ := G
        clear b
        refine hK.out _ _ (by exact ⟨a0, a1, b0, b1, r0, r1, r2, s0, s1, s2⟩) (fun hHeldcc2 => ?_)
        clear hK K hHeldcc1
        try simp only [Act.put]
        refine tk 6 16 ?_
        simp only [Act.put, List.setIfInBounds_toArray, List.set_cons_zero, List.set_cons_succ]
        refine tk 7 17 ?_
        simp only [Act.put, List.setIfInBounds_toArray, List.set_cons_zero, List.set_cons_succ]
        refine tk 8 18 ?_
        simp only [Act.put, List.setIfInBounds_toArray, List.set_cons_zero, List.set_cons_succ]
        refine tk 9 19 ?_
        simp only [Act.put, List.setIfInBounds_toArray, List.set_cons_zero, List.set_cons_succ]
        refine tk 10 20 ?_
        simp only [Act.put, List.setIfInBounds_toArray, List.set_cons_zero, List.set_cons_succ]
        refine tk 11 21 ?_
        simp only [Act.put, List.setIfInBounds_toArray, List.set_cons_zero, List.set_cons_succ]
        refine tk 12 22 ?_
        simp only [Act.put, List.setIfInBounds_toArray, List.set_cons_zero, List.set_cons_succ]
        refine tk 13 23 ?_
        simp only [Act.put, List.setIfInBounds_toArray, List.set_cons_zero, List.set_cons_succ]
        refine tk 14 24 ?_
        simp only [Act.put, List.setIfInBounds_toArray, List.set_cons_zero, List.set_cons_succ]
        refine tk 15 25 ?_
        simp only [Act.put, List.setIfInBounds_toArray, List.set_cons_zero, List.set_cons_succ]
        refine tk 16 26 ?_
        simp only [Act.put, List.setIfInBounds_toArray, List.set_cons_zero, List.set_cons_succ]
        refine wpAnyH_ready (rs := [17]) (by kernel_rfl) (by simp) ?_
        refine AllReadyH.cons (o := _) rfl (fun K hK => ?_) AllReadyH.nil
        go_simp
        refine (dsame_raw (s := ta.s) (t := tb.s) (e := ta.e) (f := tb.e) q1 q2).mono ?_
        rintro en w3 ⟨rfl, b⟩
        have e9 : sameB ta.s tb.s ta.l tb.l ta.e tb.e = false := HP3.out.symm
        rw [e9]
        clear e9
        replace BB := below_next BB BB.size b (by rfl) (by rfl) (by rfl) (by rfl)
        have G := mv b (by rfl) <| And.intro ha <| And.intro hu <| And.intro hT <| And.intro a0 <| And.intro a1 <| And.intro b0 <| And.intro b1 <| And.intro r0 <| And.intro r1 <| And.intro r2 <| And.intro s0 <| And.intro s1 <| And.intro s2 <| And.intro q1 <| q2
        clear ha hu hT a0 a1 b0 b1 r0 r1 r2 s0 s1 s2 q1 q2
        obtain ⟨ha, hu, hT, a0, a1, b0, b1, r0, r1, r2, s0, s1, s2, q1, q2⟩ := G
        clear b
        refine hK.out _ _ (by exact ⟨a0, a1, b0, b1, r0, r1, r2, s0, s1, s2⟩) (fun hHeldcc3 => ?_)
        clear hK K hHeldcc2
        try simp only [Act.put]
        refine tk 18 28 ?_
        simp only [Act.put, List.setIfInBounds_toArray, List.set_cons_zero, List.set_cons_succ]
        refine tk 19 29 ?_
        simp only [Act.put, List.setIfInBounds_toArray, List.set_cons_zero, List.set_cons_succ]
        refine tk 20 30 ?_
        simp only [Act.put, List.setIfInBounds_toArray, List.set_cons_zero, List.set_cons_succ]
        refine wpAnyH_take (i := 21) (v := undef) rfl (by kernel_rfl) (by kernel_rfl) (by kernel_rfl) (fun _ _ _ h => panic_put (P := Tryd.prog) (fn := Tryd.f22) (R := (Bools false w)) h) (Or.inr ⟨by rfl, rfl⟩) (by assumption) ?_
        change wpAnyH _ _ _ _ _ _ _ (Act.put _ (some 31) _) _
        simp only [Act.put, List.setIfInBounds_toArray, List.set_cons_zero, List.set_cons_succ]
        refine wpAnyH_take (i := 22) (v := undef) rfl (by kernel_rfl) (by kernel_rfl) (by kernel_rfl) (fun _ _ _ h => panic_put (P := Tryd.prog) (fn := Tryd.f22) (R := (Bools false w)) h) (Or.inr ⟨by rfl, rfl⟩) (by assumption) ?_
        change wpAnyH _ _ _ _ _ _ _ (Act.put _ (some 32) _) _
        simp only [Act.put, List.setIfInBounds_toArray, List.set_cons_zero, List.set_cons_succ]
        refine wpAnyH_take (i := 23) (v := undef) rfl (by kernel_rfl) (by kernel_rfl) (by kernel_rfl) (fun _ _ _ h => panic_put (P := Tryd.prog) (fn := Tryd.f22) (R := (Bools false w)) h) (Or.inr ⟨by rfl, rfl⟩) (by assumption) ?_
        change wpAnyH _ _ _ _ _ _ _ (Act.put _ (some 33) _) _
        simp only [Act.put, List.setIfInBounds_toArray, List.set_cons_zero, List.set_cons_succ]
        refine wpAnyH_take (i := 24) (v := undef) rfl (by kernel_rfl) (by kernel_rfl) (by kernel_rfl) (fun _ _ _ h => panic_put (P := Tryd.prog) (fn := Tryd.f22) (R := (Bools false w)) h) (Or.inr ⟨by rfl, rfl⟩) (by assumption) ?_
        change wpAnyH _ _ _ _ _ _ _ (Act.put _ (some 34) _) _
        simp only [Act.put, List.setIfInBounds_toArray, List.set_cons_zero, List.set_cons_succ]
        refine wpAnyH_take (i := 25) (v := undef) rfl (by kernel_rfl) (by kernel_rfl) (by kernel_rfl) (fun _ _ _ h => panic_put (P := Tryd.prog) (fn := Tryd.f22) (R := (Bools false w)) h) (Or.inr ⟨by rfl, rfl⟩) (by assumption) ?_
        change wpAnyH _ _ _ _ _ _ _ (Act.put _ (some 35) _) _
        simp only [Act.put, List.setIfInBounds_toArray, List.set_cons_zero, List.set_cons_succ]
        refine wpAnyH_take (i := 26) (v := undef) rfl (by kernel_rfl) (by kernel_rfl) (by kernel_rfl) (fun _ _ _ h => panic_put (P := Tryd.prog) (fn := Tryd.f22) (R := (Bools false w)) h) (Or.inr ⟨by rfl, rfl⟩) (by assumption) ?_
        change wpAnyH _ _ _ _ _ _ _ (Act.put _ (some 36) _) _
        simp only [Act.put, List.setIfInBounds_toArray, List.set_cons_zero, List.set_cons_succ]
        refine tk 27 37 ?_
        simp only [Act.put, List.setIfInBounds_toArray, List.set_cons_zero, List.set_cons_succ]
        refine wpAnyH_done (by kernel_rfl) ?_ _
        go_wp2
        go_ret
        exact ⟨by first | rfl | simp, BB⟩
      case true =>
        cases p4
        case false =>
          have e : pp = false := HPP.out.trans (cells_no4 HK0.out HMA.out HMB.out HP4.out.symm)
          subst e
          replace BB := below_next BB BB.size b9 rfl rfl rfl rfl
          have G := mv b9 rfl (J15 ha hu hT a0 a1 b0 b1 r0 r1 r2 s0 s1 s2 q1 q2)
          clear ha hu hT a0 a1 b0 b1 r0 r1 r2 s0 s1 s2 q1 q2
          obtain ⟨ha, hu, hT, a0, a1, b0, b1, r0, r1, r2, s0, s1, s2, q1, q2⟩ := G
          clear b9
          go_wp2_with fail
          refine wp_region_held_drew (S := fun w' => w'.cell? ⟨w.heap.size, 0, none⟩ = some (.slice (some ⟨g1, o1, none⟩) a.m ca) ∧ w'.cell? ⟨w.heap.size, 1, none⟩ = some (.slice Va a.n da) ∧ w'.cell? ⟨w.heap.size + 1, 0, none⟩ = some (.slice (some ⟨g2, o2, none⟩) u.m cu) ∧ w'.cell? ⟨w.heap.size + 1, 1, none⟩ = some (.slice Vu u.n du) ∧ w'.cell? ⟨g1, o1, none⟩ = some (.bool ta.s) ∧ w'.cell? ⟨g1, o1 + 1, none⟩ = some (.slice A1 n1 c1) ∧ w'.cell? ⟨g1, o1 + 2, none⟩ = some (.int .i64 ta.e) ∧ w'.cell? ⟨g2, o2, none⟩ = some (.bool tb.s) ∧ w'.cell? ⟨g2, o2 + 1, none⟩ = some (.slice A2 n2 c2) ∧ w'.cell? ⟨g2, o2 + 2, none⟩ = some (.int .i64 tb.e)) (by kernel_rfl) (by exact ⟨a0, a1, b0, b1, r0, r1, r2, s0, s1, s2⟩) (fun hHeldcd0 => ?_)
          generalize World.drew W1 = wd at *
          refine tk 0 10 ?_
          simp only [Act.put, List.setIfInBounds_toArray, List.set_cons_zero, List.set_cons_succ]
          refine wpAnyH_ready (rs := [1]) (by kernel_rfl) (by simp) ?_
          refine AllReadyH.cons (o := _) rfl (fun K hK => ?_) AllReadyH.nil
          go_simp
          refine (tmayt_any HK0.out hT ha).mono ?_
          rintro en w1 ⟨rfl, b⟩
          rw [← HP1.out]
          replace BB := below_next BB BB.size b (by rfl) (by rfl) (by rfl) (by rfl)
          have G := mv b (by rfl) <| And.intro ha <| And.intro hu <| And.intro hT <| And.intro a0 <| And.intro a1 <| And.intro b0 <| And.intro b1 <| And.intro r0 <| And.intro r1 <| And.intro r2 <| And.intro s0 <| And.intro s1 <| And.intro s2 <| And.intro q1 <| q2
          clear ha hu hT a0 a1 b0 b1 r0 r1 r2 s0 s1 s2 q1 q2
          obtain ⟨ha, hu, hT, a0, a1, b0, b1, r0, r1, r2, s0, s1, s2, q1, q2⟩ := G
          clear b
          refine hK.out _ _ (by exact ⟨a0, a1, b0, b1, r0, r1, r2, s0, s1, s2⟩) (fun hHeldcd1 => ?_)
          clear hK K hHeldcd0
          try simp only [Act.put]
          refine tk 2 12 ?_
          simp only [Act.put, List.setIfInBounds_toArray, List.set_cons_zero, List.set_cons_succ]
          refine tk 3 13 ?_
          simp only [Act.put, List.setIfInBounds_toArray, List.set_cons_zero, List.set_cons_succ]
          refine tk 4 14 ?_
          simp only [Act.put, List.setIfInBounds_toArray, List.set_cons_zero, List.set_cons_succ]
          refine wpAnyH_ready (rs := [5]) (by kernel_rfl) (by simp) ?_
          refine AllReadyH.cons (o := _) rfl (fun K hK => ?_) AllReadyH.nil
          go_simp
          refine (tmayt_any HK0.out hT hu).mono ?_
          rintro en w2 ⟨rfl, b⟩
          rw [← HP2.out]
          replace BB := below_next BB BB.size b (by rfl) (by rfl) (by rfl) (by rfl)
          have G := mv b (by rfl) <| And.intro ha <| And.intro hu <| And.intro hT <| And.intro a0 <| And.intro a1 <| And.intro b0 <| And.intro b1 <| And.intro r0 <| And.intro r1 <| And.intro r2 <| And.intro s0 <| And.intro s1 <| And.intro s2 <| And.intro q1 <| q2
          clear ha hu hT a0 a1 b0 b1 r0 r1 r2 s0 s1 s2 q1 q2
          obtain ⟨ha, hu, hT, a0, a1, b0, b1, r0, r1, r2, s0, s1, s2, q1, q2⟩ := G
          clear b
          refine hK.out _ _ (by exact ⟨a0, a1, b0, b1, r0, r1, r2, s0, s1, s2⟩) (fun hHeldcd2 => ?_)
          clear hK K hHeldcd1
          try simp only [Act.put]
          refine tk 6 16 ?_
          simp only [Act.put, List.setIfInBounds_toArray, List.set_cons_zero, List.set_cons_succ]
          refine tk 7 17 ?_
          simp only [Act.put, List.setIfInBounds_toArray, List.set_cons_zero, List.set_cons_succ]
          refine tk 8 18 ?_
          simp only [Act.put, List.setIfInBounds_toArray, List.set_cons_zero, List.set_cons_succ]
          refine tk 9 19 ?_
          simp only [Act.put, List.setIfInBounds_toArray, List.set_cons_zero, List.set_cons_succ]
          refine tk 10 20 ?_
          simp only [Act.put, List.setIfInBounds_toArray, List.set_cons_zero, List.set_cons_succ]
          refine tk 11 21 ?_
          simp only [Act.put, List.setIfInBounds_toArray, List.set_cons_zero, List.set_cons_succ]
          refine tk 12 22 ?_
          simp only [Act.put, List.setIfInBounds_toArray, List.set_cons_zero, List.set_cons_succ]
          refine tk 13 23 ?_
          simp only [Act.put, List.setIfInBounds_toArray, List.set_cons_zero, List.set_cons_succ]
          refine tk 14 24 ?_
          simp only [Act.put, List.setIfInBounds_toArray, List.set_cons_zero, List.set_cons_succ]
          refine tk 15 25 ?_
          simp only [Act.put, List.setIfInBounds_toArray, List.set_cons_zero, List.set_cons_succ]
          refine tk 16 26 ?_
          simp only [Act.put, List.setIfInBounds_toArray, List.set_cons_zero, List.set_cons_succ]
          refine wpAnyH_ready (rs := [17]) (by kernel_rfl) (by simp) ?_
          refine AllReadyH.cons (o := _) rfl (fun K hK => ?_) AllReadyH.nil
          go_simp
          refine (dsame_raw (s := ta.s) (t := tb.s) (e := ta.e) (f := tb.e) q1 q2).mono ?_
          rintro en w3 ⟨rfl, b⟩
          have e9 : sameB ta.s tb.s ta.l tb.l ta.e tb.e = true := HP3.out.symm
          rw [e9]
          clear e9
          replace BB := below_next BB BB.size b (by rfl) (by rfl) (by rfl) (by rfl)
          have G := mv b (by rfl) <| And.intro ha <| And.intro hu <| And.intro hT <| And.intro a0 <| And.intro a1 <| And.intro b0 <| And.intro b1 <| And.intro r0 <| And.intro r1 <| And.intro r2 <| And.intro s0 <| And.intro s1 <| And.intro s2 <| And.intro q1 <| q2
          clear ha hu hT a0 a1 b0 b1 r0 r1 r2 s0 s1 s2 q1 q2
          obtain ⟨ha, hu, hT, a0, a1, b0, b1, r0, r1, r2, s0, s1, s2, q1, q2⟩ := G
          clear b
          refine hK.out _ _ (by exact ⟨a0, a1, b0, b1, r0, r1, r2, s0, s1, s2⟩) (fun hHeldcd3 => ?_)
          clear hK K hHeldcd2
          try simp only [Act.put]
          refine tk 18 28 ?_
          simp only [Act.put, List.setIfInBounds_toArray, List.set_cons_zero, List.set_cons_succ]
          refine tk 19 29 ?_
          simp only [Act.put, List.setIfInBounds_toArray, List.set_cons_zero, List.set_cons_succ]
          refine tk 20 30 ?_
          simp only [Act.put, List.setIfInBounds_toArray, List.set_cons_zero, List.set_cons_succ]
          refine tk 21 31 ?_
          simp only [Act.put, List.setIfInBounds_toArray, List.set_cons_zero, List.set_cons_succ]
          refine tk 23 33 ?_
          simp only [Act.put, List.setIfInBounds_toArray, List.set_cons_zero, List.set_cons_succ]
          refine wpAnyH_ready (rs := [22]) (by kernel_rfl) (by simp) ?_
          refine AllReadyH.cons (o := _) rfl (fun K hK => ?_) AllReadyH.nil
          go_simp
          refine (tlast_any ha HL.out.1).mono ?_
          rintro en w4 ⟨A3, n3, c3, rfl, q3, b⟩
          replace BB := below_next BB BB.size b (by rfl) (by rfl) (by rfl) (by rfl)
          have G := mv b (by rfl) <| And.intro ha <| And.intro hu <| And.intro hT <| And.intro a0 <| And.intro a1 <| And.intro b0 <| And.intro b1 <| And.intro r0 <| And.intro r1 <| And.intro r2 <| And.intro s0 <| And.intro s1 <| And.intro s2 <| And.intro q1 <| q2
          clear ha hu hT a0 a1 b0 b1 r0 r1 r2 s0 s1 s2 q1 q2
          obtain ⟨ha, hu, hT, a0, a1, b0, b1, r0, r1, r2, s0, s1, s2, q1, q2⟩ := G
          clear b
          refine hK.out _ _ (by exact ⟨a0, a1, b0, b1, r0, r1, r2, s0, s1, s2⟩) (fun hHeldcd4 => ?_)
          clear hK K hHeldcd3
          try simp only [Act.put]
          refine wpAnyH_ready (rs := [24]) (by kernel_rfl) (by simp) ?_
          refine AllReadyH.cons (o := _) rfl (fun K hK => ?_) AllReadyH.nil
          go_simp
          refine (tlast_any hu HL.out.2).mono ?_
          rintro en w5 ⟨A4, n4, c4, rfl, q4, b⟩
          replace BB := below_next BB BB.size b (by rfl) (by rfl) (by rfl) (by rfl)
          have G := mv b (by rfl) <| And.intro ha <| And.intro hu <| And.intro hT <| And.intro a0 <| And.intro a1 <| And.intro b0 <| And.intro b1 <| And.intro r0 <| And.intro r1 <| And.intro r2 <| And.intro s0 <| And.intro s1 <| And.intro s2 <| And.intro q1 <| And.intro q2 <| q3
          clear ha hu hT a0 a1 b0 b1 r0 r1 r2 s0 s1 s2 q1 q2 q3
          obtain ⟨ha, hu, hT, a0, a1, b0, b1, r0, r1, r2, s0, s1, s2, q1, q2, q3⟩ := G
          clear b
          refine hK.out _ _ (by exact ⟨a0, a1, b0, b1, r0, r1, r2, s0, s1, s2⟩) (fun hHeldcd5 => ?_)
          clear hK K hHeldcd4
          try simp only [Act.put]
          refine wpAnyH_ready (rs := [25]) (by kernel_rfl) (by simp) ?_
          refine AllReadyH.cons (o := _) rfl (fun K hK => ?_) AllReadyH.nil
          go_simp
          refine (dsame_raw (s := (a.T a.n).s) (t := (u.T u.n).s) (e := (a.T a.n).e) (f := (u.T u.n).e) q3 q4).mono ?_
          rintro en w6 ⟨rfl, b⟩
          have e9 : sameB (a.T a.n).s (u.T u.n).s (a.T a.n).l (u.T u.n).l (a.T a.n).e (u.T u.n).e = false := HP4.out.symm
          rw [e9]
          clear e9
          replace BB := below_next BB BB.size b (by rfl) (by rfl) (by rfl) (by rfl)
          have G := mv b (by rfl) <| And.intro a0 <| And.intro a1 <| And.intro b0 <| And.intro b1 <| And.intro r0 <| And.intro r1 <| And.intro r2 <| And.intro s0 <| And.intro s1 <| And.intro s2 <| And.intro hT <| And.intro ha <| hu
          clear a0 a1 b0 b1 r0 r1 r2 s0 s1 s2 hT ha hu
          obtain ⟨a0, a1, b0, b1, r0, r1, r2, s0, s1, s2, hT, ha, hu⟩ := G
          clear b q3 q4
          refine hK.out _ _ (by exact ⟨a0, a1, b0, b1, r0, r1, r2, s0, s1, s2⟩) (fun hHeldcd6 => ?_)
          clear hK K hHeldcd5
          try simp only [Act.put]
          refine tk 26 36 ?_
          simp only [Act.put, List.setIfInBounds_toArray, List.set_cons_zero, List.set_cons_succ]
          refine tk 27 37 ?_
          simp only [Act.put, List.setIfInBounds_toArray, List.set_cons_zero, List.set_cons_succ]
          refine wpAnyH_done (by kernel_rfl) ?_ _
          go_wp2
          go_ret
          exact ⟨by first | rfl | simp, BB⟩
        case true =>
          replace BB := below_next BB BB.size b9 rfl rfl rfl rfl
          have G := mv b9 rfl (J15 ha hu hT a0 a1 b0 b1 r0 r1 r2 s0 s1 s2 q1 q2)
          clear ha hu hT a0 a1 b0 b1 r0 r1 r2 s0 s1 s2 q1 q2
          obtain ⟨ha, hu, hT, a0, a1, b0, b1, r0, r1, r2, s0, s1, s2, q1, q2⟩ := G
          clear b9
          go_wp2_with fail
          refine wp_region_held_drew (S := fun w' => w'.cell? ⟨w.heap.size, 0, none⟩ = some (.slice (some ⟨g1, o1, none⟩) a.m ca) ∧ w'.cell? ⟨w.heap.size, 1, none⟩ = some (.slice Va a.n da) ∧ w'.cell? ⟨w.heap.size + 1, 0, none⟩ = some (.slice (some ⟨g2, o2, none⟩) u.m cu) ∧ w'.cell? ⟨w.heap.size + 1, 1, none⟩ = some (.slice Vu u.n du) ∧ w'.cell? ⟨g1, o1, none⟩ = some (.bool ta.s) ∧ w'.cell? ⟨g1, o1 + 1, none⟩ = some (.slice A1 n1 c1) ∧ w'.cell? ⟨g1, o1 + 2, none⟩ = some (.int .i64 ta.e) ∧ w'.cell? ⟨g2, o2, none⟩ = some (.bool tb.s) ∧ w'.cell? ⟨g2, o2 + 1, none⟩ = some (.slice A2 n2 c2) ∧ w'.cell? ⟨g2, o2 + 2, none⟩ = some (.int .i64 tb.e)) (by kernel_rfl) (by exact ⟨a0, a1, b0, b1, r0, r1, r2, s0, s1, s2⟩) (fun hHeldce0 => ?_)
          generalize World.drew W1 = wd at *
          refine tk 0 10 ?_
          simp only [Act.put, List.setIfInBounds_toArray, List.set_cons_zero, List.set_cons_succ]
          refine wpAnyH_ready (rs := [1]) (by kernel_rfl) (by simp) ?_
          refine AllReadyH.cons (o := _) rfl (fun K hK => ?_) AllReadyH.nil
          go_simp
          refine (tmayt_any HK0.out hT ha).mono ?_
          rintro en w1 ⟨rfl, b⟩
          rw [← HP1.out]
          replace BB := below_next BB BB.size b (by rfl) (by rfl) (by rfl) (by rfl)
          have G := mv b (by rfl) <| And.intro ha <| And.intro hu <| And.intro hT <| And.intro a0 <| And.intro a1 <| And.intro b0 <| And.intro b1 <| And.intro r0 <| And.intro r1 <| And.intro r2 <| And.intro s0 <| And.intro s1 <| And.intro s2 <| And.intro q1 <| q2
          clear ha hu hT a0 a1 b0 b1 r0 r1 r2 s0 s1 s2 q1 q2
          obtain ⟨ha, hu, hT, a0, a1, b0, b1, r0, r1, r2, s0, s1, s2, q1, q2⟩ := G
          clear b
          refine hK.out _ _ (by exact ⟨a0, a1, b0, b1, r0, r1, r2, s0, s1, s2⟩) (fun hHeldce1 => ?_)
          clear hK K hHeldce0
          try simp only [Act.put]
          refine tk 2 12 ?_
          simp only [Act.put, List.setIfInBounds_toArray, List.set_cons_zero, List.set_cons_succ]
          refine tk 3 13 ?_
          simp only [Act.put, List.setIfInBounds_toArray, List.set_cons_zero, List.set_cons_succ]
          refine tk 4 14 ?_
          simp only [Act.put, List.setIfInBounds_toArray, List.set_cons_zero, List.set_cons_succ]
          refine wpAnyH_ready (rs := [5]) (by kernel_rfl) (by simp) ?_
          refine AllReadyH.cons (o := _) rfl (fun K hK => ?_) AllReadyH.nil
          go_simp
          refine (tmayt_any HK0.out hT hu).mono ?_
          rintro en w2 ⟨rfl, b⟩
          rw [← HP2.out]
          replace BB := below_next BB BB.size b (by rfl) (by rfl) (by rfl) (by rfl)
          have G := mv b (by rfl) <| And.intro ha <| And.intro hu <| And.intro hT <| And.intro a0 <| And.intro a1 <| And.intro b0 <| And.intro b1 <| And.intro r0 <| And.intro r1 <| And.intro r2 <| And.intro s0 <| And.intro s1 <| And.intro s2 <| And.intro q1 <| q2
          clear ha hu hT a0 a1 b0 b1 r0 r1 r2 s0 s1 s2 q1 q2
          obtain ⟨ha, hu, hT, a0, a1, b0, b1, r0, r1, r2, s0, s1, s2, q1, q2⟩ := G
          clear b
          refine hK.out _ _ (by exact ⟨a0, a1, b0, b1, r0, r1, r2, s0, s1, s2⟩) (fun hHeldce2 => ?_)
          clear hK K hHeldce1
          try simp only [Act.put]
          refine tk 6 16 ?_
          simp only [Act.put, List.setIfInBounds_toArray, List.set_cons_zero, List.set_cons_succ]
          refine tk 7 17 ?_
          simp only [Act.put, List.setIfInBounds_toArray, List.set_cons_zero, List.set_cons_succ]
          refine tk 8 18 ?_
          simp only [Act.put, List.setIfInBounds_toArray, List.set_cons_zero, List.set_cons_succ]
          refine tk 9 19 ?_
          simp only [Act.put, List.setIfInBounds_toArray, List.set_cons_zero, List.set_cons_succ]
          refine tk 10 20 ?_
          simp only [Act.put, List.setIfInBounds_toArray, List.set_cons_zero, List.set_cons_succ]
          refine tk 11 21 ?_
          simp only [Act.put, List.setIfInBounds_toArray, List.set_cons_zero, List.set_cons_succ]
          refine tk 12 22 ?_
          simp only [Act.put, List.setIfInBounds_toArray, List.set_cons_zero, List.set_cons_succ]
          refine tk 13 23 ?_
          simp only [Act.put, List.setIfInBounds_toArray, List.set_cons_zero, List.set_cons_succ]
          refine tk 14 24 ?_
          simp only [Act.put, List.setIfInBounds_toArray, List.set_cons_zero, List.set_cons_succ]
          refine tk 15 25 ?_
          simp only [Act.put, List.setIfInBounds_toArray, List.set_cons_zero, List.set_cons_succ]
          refine tk 16 26 ?_
          simp only [Act.put, List.setIfInBounds_toArray, List.set_cons_zero, List.set_cons_succ]
          refine wpAnyH_ready (rs := [17]) (by kernel_rfl) (by simp) ?_
          refine AllReadyH.cons (o := _) rfl (fun K hK => ?_) AllReadyH.nil
          go_simp
          refine (dsame_raw (s := ta.s) (t := tb.s) (e := ta.e) (f := tb.e) q1 q2).mono ?_
          rintro en w3 ⟨rfl, b⟩
          have e9 : sameB ta.s tb.s ta.l tb.l ta.e tb.e = true := HP3.out.symm
          rw [e9]
          clear e9
          replace BB := below_next BB BB.size b (by rfl) (by rfl) (by rfl) (by rfl)
          have G := mv b (by rfl) <| And.intro ha <| And.intro hu <| And.intro hT <| And.intro a0 <| And.intro a1 <| And.intro b0 <| And.intro b1 <| And.intro r0 <| And.intro r1 <| And.intro r2 <| And.intro s0 <| And.intro s1 <| And.intro s2 <| And.intro q1 <| q2
          clear ha hu hT a0 a1 b0 b1 r0 r1 r2 s0 s1 s2 q1 q2
          obtain ⟨ha, hu, hT, a0, a1, b0, b1, r0, r1, r2, s0, s1, s2, q1, q2⟩ := G
          clear b
          refine hK.out _ _ (by exact ⟨a0, a1, b0, b1, r0, r1, r2, s0, s1, s2⟩) (fun hHeldce3 => ?_)
          clear hK K hHeldce2
          try simp only [Act.put]
          refine tk 18 28 ?_
          simp only [Act.put, List.setIfInBounds_toArray, List.set_cons_zero, List.set_cons_succ]
          refine tk 19 29 ?_
          simp only [Act.put, List.setIfInBounds_toArray, List.set_cons_zero, List.set_cons_succ]
          refine tk 20 30 ?_
          simp only [Act.put, List.setIfInBounds_toArray, List.set_cons_zero, List.set_cons_succ]
          refine tk 21 31 ?_
          simp only [Act.put, List.setIfInBounds_toArray, List.set_cons_zero, List.set_cons_succ]
          refine tk 23 33 ?_
          simp only [Act.put, List.setIfInBounds_toArray, List.set_cons_zero, List.set_cons_succ]
          refine wpAnyH_ready (rs := [22]) (by kernel_rfl) (by simp) ?_
          refine AllReadyH.cons (o := _) rfl (fun K hK => ?_) AllReadyH.nil
          go_simp
          refine (tlast_any ha HL.out.1).mono ?_
          rintro en w4 ⟨A3, n3, c3, rfl, q3, b⟩
          replace BB := below_next BB BB.size b (by rfl) (by rfl) (by rfl) (by rfl)
          have G := mv b (by rfl) <| And.intro ha <| And.intro hu <| And.intro hT <| And.intro a0 <| And.intro a1 <| And.intro b0 <| And.intro b1 <| And.intro r0 <| And.intro r1 <| And.intro r2 <| And.intro s0 <| And.intro s1 <| And.intro s2 <| And.intro q1 <| q2
          clear ha hu hT a0 a1 b0 b1 r0 r1 r2 s0 s1 s2 q1 q2
          obtain ⟨ha, hu, hT, a0, a1, b0, b1, r0, r1, r2, s0, s1, s2, q1, q2⟩ := G
          clear b
          refine hK.out _ _ (by exact ⟨a0, a1, b0, b1, r0, r1, r2, s0, s1, s2⟩) (fun hHeldce4 => ?_)
          clear hK K hHeldce3
          try simp only [Act.put]
          refine wpAnyH_ready (rs := [24]) (by kernel_rfl) (by simp) ?_
          refine AllReadyH.cons (o := _) rfl (fun K hK => ?_) AllReadyH.nil
          go_simp
          refine (tlast_any hu HL.out.2).mono ?_
          rintro en w5 ⟨A4, n4, c4, rfl, q4, b⟩
          replace BB := below_next BB BB.size b (by rfl) (by rfl) (by rfl) (by rfl)
          have G := mv b (by rfl) <| And.intro ha <| And.intro hu <| And.intro hT <| And.intro a0 <| And.intro a1 <| And.intro b0 <| And.intro b1 <| And.intro r0 <| And.intro r1 <| And.intro r2 <| And.intro s0 <| And.intro s1 <| And.intro s2 <| And.intro q1 <| And.intro q2 <| q3
          clear ha hu hT a0 a1 b0 b1 r0 r1 r2 s0 s1 s2 q1 q2 q3
          obtain ⟨ha, hu, hT, a0, a1, b0, b1, r0, r1, r2, s0, s1, s2, q1, q2, q3⟩ := G
          clear b
          refine hK.out _ _ (by exact ⟨a0, a1, b0, b1, r0, r1, r2, s0, s1, s2⟩) (fun hHeldce5 => ?_)
          clear hK K hHeldce4
          try simp only [Act.put]
          refine wpAnyH_ready (rs := [25]) (by kernel_rfl) (by simp) ?_
          refine AllReadyH.cons (o := _) rfl (fun K hK => ?_) AllReadyH.nil
          go_simp
          refine (dsame_raw (s := (a.T a.n).s) (t := (u.T u.n).s) (e := (a.T a.n).e) (f := (u.T u.n).e) q3 q4).mono ?_
          rintro en w6 ⟨rfl, b⟩
          have e9 : sameB (a.T a.n).s (u.T u.n).s (a.T a.n).l (u.T u.n).l (a.T a.n).e (u.T u.n).e = true := HP4.out.symm
          rw [e9]
          clear e9
          replace BB := below_next BB BB.size b (by rfl) (by rfl) (by rfl) (by rfl)
          have G := mv b (by rfl) <| And.intro a0 <| And.intro a1 <| And.intro b0 <| And.intro b1 <| And.intro r0 <| And.intro r1 <| And.intro r2 <| And.intro s0 <| And.intro s1 <| And.intro s2 <| And.intro hT <| And.intro ha <| hu
          clear a0 a1 b0 b1 r0 r1 r2 s0 s1 s2 hT ha hu
          obtain ⟨a0, a1, b0, b1, r0, r1, r2, s0, s1, s2, hT, ha, hu⟩ := G
          clear b q3 q4
          refine hK.out _ _ (by exact ⟨a0, a1, b0, b1, r0, r1, r2, s0, s1, s2⟩) (fun hHeldce6 => ?_)
          clear hK K hHeldce5
          try simp only [Act.put]
          refine tk 26 36 ?_
          simp only [Act.put, List.setIfInBounds_toArray, List.set_cons_zero, List.set_cons_succ]
          refine tk 27 37 ?_
          simp only [Act.put, List.setIfInBounds_toArray, List.set_cons_zero, List.set_cons_succ]
          refine wpAnyH_done (by kernel_rfl) ?_ _
          have HE0 : Hid (a.t KS 0 = u.t KS 0 ∧ a.t KS a.n = u.t KS u.n) := Lib.hid ⟨by have h := sameQ_iff.1 HP3.out.symm; unfold Tb.t; rw [← HTE.out.1, ← HTE.out.2, h], by have h := sameQ_iff.1 HP4.out.symm; unfold Tb.t; rw [h]⟩
          clear r0 r1 r2 s0 s1 s2
          go_wp2
          go_step3
          go_wp2
          go_loopg [7, 41] a.n (fun k v7 v41 wr => ∃ i j : Nat, i + k = a.n ∧ v41 = .int .i64 i ∧ v7 = .int .i64 j ∧ Hid (BesI KS q a u i j) ∧ Below w6.heap.size w6 wr)
          case atStart => exact ⟨0, 0, by omega, rfl, rfl, Lib.hid (bes_start HMB.out HE0.out.1), Below.refl _ _⟩
          case round =>
            obtain ⟨i, j, hg, rfl, rfl, HI, BD⟩ := hrel
            have HG := Lib.hid hg
            clear hg
            by_cases hi : i < a.n
            · have HJ := Lib.hid (bes_in HMA.out HMB.out HI.out hi)
              have hp4 : (i : Int) < a.n := by omega
              have hp5 : (0 : Int) ≤ i := by omega
              have hp6 : (i : Int) + 1 < a.m := by have := HL.out; omega
              have hp7 : (0 : Int) ≤ (i : Int) + 1 := by omega
              have hw1 : IntKind.i64.wrap ((i : Int) + 1) = (i : Int) + 1 := IntWalk.i64_in _ (by omega)
              obtain ⟨g5, o5, hVa, hd⟩ := (mv BD rfl ha).v.at_ (by omega)
              obtain ⟨A3, n3, c3, A4, n4, c4, ⟨y0, y1, y2, y3, y4, y5⟩, q3, q4⟩ := hd i (by omega)
              clear hd
              subst hVa
              obtain ⟨v, hv⟩ : ∃ z, z = a.V i := ⟨_, rfl⟩
              rw [← hv] at y0 y2 y3 y5 q3 q4
              have HV := Lib.hid hv
              clear hv
              have a0r := mv BD rfl a0
              have a1r := mv BD rfl a1
              have b0r := mv BD rfl b0
              have b1r := mv BD rfl b1
              have HI2 := HI
              clear HI
              go_wp2
              have b := below_alloc wr (.cells #[.bool v.lo.s, .slice A3 n3 c3, .int .i64 v.lo.e, .bool v.hi.s, .slice A4 n4 c4, .int .i64 v.hi.e] 35)
              have xv := Blk.new wr #[.bool v.lo.s, .slice A3 n3 c3, .int .i64 v.lo.e, .bool v.hi.s, .slice A4 n4 c4, .int .i64 v.hi.e] 35
              replace BD := below_next BD BD.size b rfl rfl rfl rfl
              have G := mv b rfl <| And.intro q3 <| q4
              clear q3 q4
              obtain ⟨q3, q4⟩ := G
              clear b y0 y1 y2 y3 y4 y5 a0r a1r b0r b1r
              generalize wr.alloc (.cells #[.bool v.lo.s, .slice A3 n3 c3, .int .i64 v.lo.e, .bool v.hi.s, .slice A4 n4 c4, .int .i64 v.hi.e] 35) = W3 at *
              generalize wr.heap.size = gz at xv ⊢
              generalize gk = gk1 at *
              have z0 : World.cell? _ ⟨_, 0, none⟩ = some (.bool v.lo.s) := xv.at 0
              have z1 : World.cell? _ ⟨_, 1, none⟩ = some (.slice A3 n3 c3) := xv.at 1
              have z2 : World.cell? _ ⟨_, 2, none⟩ = some (.int .i64 v.lo.e) := xv.at 2
              have z3 : World.cell? _ ⟨_, 3, none⟩ = some (.bool v.hi.s) := xv.at 3
              have z4 : World.cell? _ ⟨_, 4, none⟩ = some (.slice A4 n4 c4) := xv.at 4
              have z5 : World.cell? _ ⟨_, 5, none⟩ = some (.int .i64 v.hi.e) := xv.at 5
              clear xv
              go_loopg [7] (u.n - j) (fun k v7 wr => ∃ j : Nat, j + k = u.n ∧ v7 = .int .i64 j ∧ Hid (BesJ KS q a u i j) ∧ Below W3.heap.size W3 wr)
              case atStart => exact ⟨j, by have := HJ.out.lt; omega, rfl, HJ, Below.refl _ _⟩
              case round =>
                obtain ⟨j2, hg, rfl, HJ2, BE⟩ := hrel
                have HG2 := Lib.hid hg
                clear hg HJ
                have hjl := HJ2.out.lt
                have BF := below_next BD BD.size BE rfl rfl rfl rfl
                have hp8 : (j2 : Int) < u.n := by omega
                have hp9 : (0 : Int) ≤ j2 := by omega
                have hp10 : (j2 : Int) + 1 < u.m := by have := HL.out; have := HMB.out.len; omega
                have hp11 : (0 : Int) ≤ (j2 : Int) + 1 := by omega
                have hw2 : IntKind.i64.wrap ((j2 : Int) + 1) = (j2 : Int) + 1 := IntWalk.i64_in _ (by have := HMB.out.few; omega)
                have hT2 := mv BF rfl hT
                obtain ⟨g6, o6, hVb, hd⟩ := (mv BF rfl hu).v.at_ (by omega)
                obtain ⟨A5, n5, c5, A6, n6, c6, ⟨x0, x1, x2, x3, x4, x5⟩, q5, q6⟩ := hd j2 hjl
                clear hd
                subst hVb
                obtain ⟨x, hx⟩ : ∃ z, z = u.V j2 := ⟨_, rfl⟩
                rw [← hx] at x0 x2 x3 x5 q5 q6
                have HX := Lib.hid hx
                clear hx
                have a0r := mv BF rfl a0
                have b0r := mv BF rfl b0
                have b1r := mv BF rfl b1
                have zr0 := mv BE rfl z0
                have zr1 := mv BE rfl z1
                have zr2 := mv BE rfl z2
                have zr3 := mv BE rfl z3
                have zr4 := mv BE rfl z4
                have zr5 := mv BE rfl z5
                have q3r := mv BE rfl q3
                have q4r := mv BE rfl q4
                obtain ⟨p5, hp5b⟩ : ∃ p, p = q v x := ⟨_, rfl⟩
                have HP5 := Lib.hid hp5b
                clear hp5b
                go_upto_region 9 with fail
                have b9 : Below wr.heap.size wr (World.drew wr) := below_drewN (Below.refl _ _) 1
                replace BE := below_next BE BE.size b9 rfl rfl rfl rfl
                have G := mv b9 rfl (J20 zr0 zr1 zr2 zr3 zr4 zr5 b1r x0 x1 x2 x3 x4 x5 a0r b0r q3r q4r q5 q6 hT2)
                clear zr0 zr1 zr2 zr3 zr4 zr5 b1r x0 x1 x2 x3 x4 x5 a0r b0r q3r q4r q5 q6 hT2
                obtain ⟨zr0, zr1, zr2, zr3, zr4, zr5, b1r, x0, x1, x2, x3, x4, x5, a0r, b0r, q3r, q4r, q5, q6, hT2⟩ := G
                clear b9
                go_wp2_with fail
                cases p5
                case false =>
                  have e : pp = false := HPP.out.trans (bes_no HJ2.out hi (by rw [← HV.out, ← HX.out]; exact HP5.out.symm))
                  subst e
                  refine wp_region_held_drew (S := fun w' => w'.cell? ⟨gz, 0, none⟩ = some (.bool v.lo.s) ∧ w'.cell? ⟨gz, 1, none⟩ = some (.slice A3 n3 c3) ∧ w'.cell? ⟨gz, 2, none⟩ = some (.int .i64 v.lo.e) ∧ w'.cell? ⟨gz, 3, none⟩ = some (.bool v.hi.s) ∧ w'.cell? ⟨gz, 4, none⟩ = some (.slice A4 n4 c4) ∧ w'.cell? ⟨gz, 5, none⟩ = some (.int .i64 v.hi.e) ∧ w'.cell? ⟨w.heap.size + 1, 1, none⟩ = some (.slice (some ⟨g6, o6, none⟩) u.n du) ∧ w'.cell? ⟨g6, o6 + j2 * 6, none⟩ = some (.bool x.lo.s) ∧ w'.cell? ⟨g6, o6 + j2 * 6 + 1, none⟩ = some (.slice A5 n5 c5) ∧ w'.cell? ⟨g6, o6 + j2 * 6 + 2, none⟩ = some (.int .i64 x.lo.e) ∧ w'.cell? ⟨g6, o6 + j2 * 6 + 3, none⟩ = some (.bool x.hi.s) ∧ w'.cell? ⟨g6, o6 + j2 * 6 + 4, none⟩ = some (.slice A6 n6 c6) ∧ w'.cell? ⟨g6, o6 + j2 * 6 + 5, none⟩ = some (.int .i64 x.hi.e)) (by kernel_rfl) (by exact ⟨zr0, zr1, zr2, zr3, zr4, zr5, b1r, x0, x1, x2, x3, x4, x5⟩) (fun hHeldcf0 => ?_)
                  generalize World.drew wr = wd2 at *
                  refine tk 0 53 ?_
                  simp only [Act.put, List.setIfInBounds_toArray, List.set_cons_zero, List.set_cons_succ]
                  refine tk 1 54 ?_
                  simp only [Act.put, List.setIfInBounds_toArray, List.set_cons_zero, List.set_cons_succ]
                  refine tk 2 55 ?_
                  simp only [Act.put, List.setIfInBounds_toArray, List.set_cons_zero, List.set_cons_succ]
                  refine tk 3 56 ?_
                  simp only [Act.put, List.setIfInBounds_toArray, List.set_cons_zero, List.set_cons_succ]
                  refine tk 4 57 ?_
                  simp only [Act.put, List.setIfInBounds_toArray, List.set_cons_zero, List.set_cons_succ]
                  refine tk 5 58 ?_
                  simp only [Act.put, List.setIfInBounds_toArray, List.set_cons_zero, List.set_cons_succ]
                  refine tk 6 59 ?_
                  simp only [Act.put, List.setIfInBounds_toArray, List.set_cons_zero, List.set_cons_succ]
                  refine wpAnyH_ready (rs := [7]) (by kernel_rfl) (by simp) ?_
                  refine AllReadyH.cons (o := _) rfl (fun K hK => ?_) AllReadyH.nil
                  go_simp
                  refine (HS.out.is hT2 q3r q4r q5 q6).mono ?_
                  rintro en w7 ⟨rfl, b⟩
                  rw [← HP5.out]
                  replace BE := below_next BE BE.size b (by rfl) (by rfl) (by rfl) (by rfl)
                  have G := mv b (by rfl) <| And.intro zr0 <| And.intro zr1 <| And.intro zr2 <| And.intro zr3 <| And.intro zr4 <| And.intro zr5 <| And.intro b1r <| And.intro x0 <| And.intro x1 <| And.intro x2 <| And.intro x3 <| And.intro x4 <| And.intro x5 <| And.intro a0r <| And.intro b0r <| hT2
                  clear zr0 zr1 zr2 zr3 zr4 zr5 b1r x0 x1 x2 x3 x4 x5 a0r b0r hT2
                  obtain ⟨zr0, zr1, zr2, zr3, zr4, zr5, b1r, x0, x1, x2, x3, x4, x5, a0r, b0r, hT2⟩ := G
                  clear b q3r q4r q5 q6
                  refine hK.out _ _ (by exact ⟨zr0, zr1, zr2, zr3, zr4, zr5, b1r, x0, x1, x2, x3, x4, x5⟩) (fun hHeldcf1 => ?_)
                  clear hK K hHeldcf0
                  try simp only [Act.put]
                  refine tk 8 61 ?_
                  simp only [Act.put, List.setIfInBounds_toArray, List.set_cons_zero, List.set_cons_succ]
                  refine wpAnyH_done (by kernel_rfl) ?_ _
                  replace BB := below_next BB BB.size (below_next BD BD.size BE rfl rfl rfl rfl) rfl rfl rfl rfl
                  go_wp2
                  go_ret
                  exact ⟨by first | rfl | simp, BB⟩
                case true =>
                  have HQ := Lib.hid (show q (a.V i) (u.V j2) = true by rw [← HV.out, ← HX.out]; exact HP5.out.symm)
                  refine wp_region_held_drew (S := fun w' => w'.cell? ⟨gz, 0, none⟩ = some (.bool v.lo.s) ∧ w'.cell? ⟨gz, 1, none⟩ = some (.slice A3 n3 c3) ∧ w'.cell? ⟨gz, 2, none⟩ = some (.int .i64 v.lo.e) ∧ w'.cell? ⟨gz, 3, none⟩ = some (.bool v.hi.s) ∧ w'.cell? ⟨gz, 4, none⟩ = some (.slice A4 n4 c4) ∧ w'.cell? ⟨gz, 5, none⟩ = some (.int .i64 v.hi.e) ∧ w'.cell? ⟨w.heap.size + 1, 1, none⟩ = some (.slice (some ⟨g6, o6, none⟩) u.n du) ∧ w'.cell? ⟨g6, o6 + j2 * 6, none⟩ = some (.bool x.lo.s) ∧ w'.cell? ⟨g6, o6 + j2 * 6 + 1, none⟩ = some (.slice A5 n5 c5) ∧ w'.cell? ⟨g6, o6 + j2 * 6 + 2, none⟩ = some (.int .i64 x.lo.e) ∧ w'.cell? ⟨g6, o6 + j2 * 6 + 3, none⟩ = some (.bool x.hi.s) ∧ w'.cell? ⟨g6, o6 + j2 * 6 + 4, none⟩ = some (.slice A6 n6 c6) ∧ w'.cell? ⟨g6, o6 + j2 * 6 + 5, none⟩ = some (.int .i64 x.hi.e)) (by kernel_rfl) (by exact ⟨zr0, zr1, zr2, zr3, zr4, zr5, b1r, x0, x1, x2, x3, x4, x5⟩) (fun hHeldcg0 => ?_)
                  generalize World.drew wr = wd2 at *
                  refine tk 0 53 ?_
                  simp only [Act.put, List.setIfInBounds_toArray, List.set_cons_zero, List.set_cons_succ]
                  refine tk 1 54 ?_
                  simp only [Act.put, List.setIfInBounds_toArray, List.set_cons_zero, List.set_cons_succ]
                  refine tk 2 55 ?_
                  simp only [Act.put, List.setIfInBounds_toArray, List.set_cons_zero, List.set_cons_succ]
                  refine tk 3 56 ?_
                  simp only [Act.put, List.setIfInBounds_toArray, List.set_cons_zero, List.set_cons_succ]
                  refine tk 4 57 ?_
                  simp only [Act.put, List.setIfInBounds_toArray, List.set_cons_zero, List.set_cons_succ]
                  refine tk 5 58 ?_
                  simp only [Act.put, List.setIfInBounds_toArray, List.set_cons_zero, List.set_cons_succ]
                  refine tk 6 59 ?_
                  simp only [Act.put, List.setIfInBounds_toArray, List.set_cons_zero, List.set_cons_succ]
                  refine wpAnyH_ready (rs := [7]) (by kernel_rfl) (by simp) ?_
                  refine AllReadyH.cons (o := _) rfl (fun K hK => ?_) AllReadyH.nil
                  go_simp
                  refine (HS.out.is hT2 q3r q4r q5 q6).mono ?_
                  rintro en w7 ⟨rfl, b⟩
                  rw [← HP5.out]
                  replace BE := below_next BE BE.size b (by rfl) (by rfl) (by rfl) (by rfl)
                  have G := mv b (by rfl) <| And.intro zr0 <| And.intro zr1 <| And.intro zr2 <| And.intro zr3 <| And.intro zr4 <| And.intro zr5 <| And.intro b1r <| And.intro x0 <| And.intro x1 <| And.intro x2 <| And.intro x3 <| And.intro x4 <| And.intro x5 <| And.intro a0r <| And.intro b0r <| hT2
                  clear zr0 zr1 zr2 zr3 zr4 zr5 b1r x0 x1 x2 x3 x4 x5 a0r b0r hT2
                  obtain ⟨zr0, zr1, zr2, zr3, zr4, zr5, b1r, x0, x1, x2, x3, x4, x5, a0r, b0r, hT2⟩ := G
                  clear b q3r q4r q5 q6
                  refine hK.out _ _ (by exact ⟨zr0, zr1, zr2, zr3, zr4, zr5, b1r, x0, x1, x2, x3, x4, x5⟩) (fun hHeldcg1 => ?_)
                  clear hK K hHeldcg0
                  try simp only [Act.put]
                  refine tk 8 61 ?_
                  simp only [Act.put, List.setIfInBounds_toArray, List.set_cons_zero, List.set_cons_succ]
                  refine wpAnyH_done (by kernel_rfl) ?_ _
                  clear zr0 zr1 zr2 zr3 zr4 zr5 x0 x1 x2 x3 x4 x5
                  obtain ⟨g7, o7, hTa, hc⟩ := (mv (below_next BD BD.size BE rfl rfl rfl rfl) rfl ha).at_.at_ (by omega)
                  obtain ⟨A7, n7, c7, ⟨r0, r1, r2⟩, q7⟩ := hc (i + 1) (by omega)
                  obtain ⟨g8, o8, hTb, hd⟩ := (mv (below_next BD BD.size BE rfl rfl rfl rfl) rfl hu).at_.at_ (by omega)
                  obtain ⟨A8, n8, c8, ⟨s0, s1, s2⟩, q8⟩ := hd (j2 + 1) (by omega)
                  clear hc hd
                  injection hTa with hTa
                  injection hTa with e1 e2
                  subst e1 e2
                  injection hTb with hTb
                  injection hTb with e1 e2
                  subst e1 e2
                  obtain ⟨tx, htx⟩ : ∃ z, z = a.T (i + 1) := ⟨_, rfl⟩
                  obtain ⟨ty, hty⟩ : ∃ z, z = u.T (j2 + 1) := ⟨_, rfl⟩
                  rw [← htx] at r0 r2 q7
                  rw [← hty] at s0 s2 q8
                  have hm1 : tx.may = true := by rw [htx]; exact HMA.out.T _ (by omega)
                  have hm2 : ty.may = true := by rw [hty]; exact HMB.out.T _ (by omega)
                  have HCM : Hid (cmpQ KS tx ty = cmpV (a.t KS (i + 1)) (u.t KS (j2 + 1))) := Lib.hid (by rw [cmpQ_may hm1 hm2, htx, hty]; rfl)
                  clear htx hty hm1 hm2
                  obtain ⟨cv, hcv⟩ : ∃ z, z = cmpQ KS tx ty := ⟨_, rfl⟩
                  rw [← hcv] at HCM
                  have HCV := Lib.hid hcv
                  clear hcv
                  generalize w7 = W5 at *
                  go_upto_region 11 with fail
                  have b9 : Below W5.heap.size W5 (World.drew W5) := below_drewN (Below.refl _ _) 1
                  replace BE := below_next BE BE.size b9 rfl rfl rfl rfl
                  have G := mv b9 rfl (J11 a0r b0r r0 r1 r2 s0 s1 s2 q7 q8 hT2)
                  clear a0r b0r r0 r1 r2 s0 s1 s2 q7 q8 hT2
                  obtain ⟨a0r, b0r, r0, r1, r2, s0, s1, s2, q7, q8, hT2⟩ := G
                  clear b9
                  go_wp2_with fail
                  refine wp_region_held_drew (S := fun w' => w'.cell? ⟨w.heap.size, 0, none⟩ = some (.slice (some ⟨g1, o1, none⟩) a.m ca) ∧ w'.cell? ⟨w.heap.size + 1, 0, none⟩ = some (.slice (some ⟨g2, o2, none⟩) u.m cu) ∧ w'.cell? ⟨g1, o1 + (i + 1) * 3, none⟩ = some (.bool tx.s) ∧ w'.cell? ⟨g1, o1 + (i + 1) * 3 + 1, none⟩ = some (.slice A7 n7 c7) ∧ w'.cell? ⟨g1, o1 + (i + 1) * 3 + 2, none⟩ = some (.int .i64 tx.e) ∧ w'.cell? ⟨g2, o2 + (j2 + 1) * 3, none⟩ = some (.bool ty.s) ∧ w'.cell? ⟨g2, o2 + (j2 + 1) * 3 + 1, none⟩ = some (.slice A8 n8 c8) ∧ w'.cell? ⟨g2, o2 + (j2 + 1) * 3 + 2, none⟩ = some (.int .i64 ty.e)) (by kernel_rfl) (by exact ⟨a0r, b0r, r0, r1, r2, s0, s1, s2⟩) (fun hHeldch0 => ?_)
                  generalize World.drew W5 = wd3 at *
                  refine tk 0 62 ?_
                  simp only [Act.put, List.setIfInBounds_toArray, List.set_cons_zero, List.set_cons_succ]
                  refine tk 1 63 ?_
                  simp only [Act.put, List.setIfInBounds_toArray, List.set_cons_zero, List.set_cons_succ]
                  refine tk 2 64 ?_
                  simp only [Act.put, List.setIfInBounds_toArray, List.set_cons_zero, List.set_cons_succ]
                  refine tk 3 65 ?_
                  simp only [Act.put, List.setIfInBounds_toArray, List.set_cons_zero, List.set_cons_succ]
                  refine tk 4 66 ?_
                  simp only [Act.put, List.setIfInBounds_toArray, List.set_cons_zero, List.set_cons_succ]
                  refine tk 5 67 ?_
                  simp only [Act.put, List.setIfInBounds_toArray, List.set_cons_zero, List.set_cons_succ]
                  refine tk 6 68 ?_
                  simp only [Act.put, List.setIfInBounds_toArray, List.set_cons_zero, List.set_cons_succ]
                  refine tk 7 69 ?_
                  simp only [Act.put, List.setIfInBounds_toArray, List.set_cons_zero, List.set_cons_succ]
                  refine tk 8 70 ?_
                  simp only [Act.put, List.setIfInBounds_toArray, List.set_cons_zero, List.set_cons_succ]
                  refine tk 9 71 ?_
                  simp only [Act.put, List.setIfInBounds_toArray, List.set_cons_zero, List.set_cons_succ]
                  refine tk 10 72 ?_
                  simp only [Act.put, List.setIfInBounds_toArray, List.set_cons_zero, List.set_cons_succ]
                  refine tk 11 73 ?_
                  simp only [Act.put, List.setIfInBounds_toArray, List.set_cons_zero, List.set_cons_succ]
                  refine wpAnyH_ready (rs := [12]) (by kernel_rfl) (by simp) ?_
                  refine AllReadyH.cons (o := _) rfl (fun K hK => ?_) AllReadyH.nil
                  go_simp
                  refine (dcmp_raw (s1 := tx.s) (e1 := tx.e) (s2 := ty.s) (e2 := ty.e) HK0.out hT2 q7 q8).mono ?_
                  rintro en w8 ⟨rfl, b⟩
                  have e1 : cmpR KS tx.s tx.l tx.e ty.s ty.l ty.e = cv := HCV.out.symm
                  rw [e1]
                  clear e1
                  replace BE := below_next BE BE.size b (by rfl) (by rfl) (by rfl) (by rfl)
                  have G := mv b (by rfl) <| And.intro a0r <| And.intro b0r <| And.intro r0 <| And.intro r1 <| And.intro r2 <| And.intro s0 <| And.intro s1 <| s2
                  clear a0r b0r r0 r1 r2 s0 s1 s2
                  obtain ⟨a0r, b0r, r0, r1, r2, s0, s1, s2⟩ := G
                  clear b q7 q8 hT2
                  refine hK.out _ _ (by exact ⟨a0r, b0r, r0, r1, r2, s0, s1, s2⟩) (fun hHeldch1 => ?_)
                  clear hK K hHeldch0
                  try simp only [Act.put]
                  refine wpAnyH_done (by kernel_rfl) ?_ _
                  clear a0r b0r r0 r1 r2 s0 s1 s2
                  have BF := below_next BD BD.size BE rfl rfl rfl rfl
                  rcases cmpV_cases (a.t KS (i + 1)) (u.t KS (j2 + 1)) with ⟨h1, h2⟩ | ⟨h1, h2⟩ | ⟨h1, h2⟩
                  · have e1 : cv = -1 := HCM.out.trans h1
                    have HH := Lib.hid h2
                    clear h1 h2 HCM HCV
                    subst e1
                    go_wp2
                    go_roundg (gk1 - 1)
                    case measure => have := HG.out; omega
                    case rel => exact ⟨i + 1, j2, by have := HG.out; omega, by go_num, rfl, Lib.hid (bes_lt HMB.out HJ2.out HQ.out HH.out), BF⟩
                  · have e1 : cv = 0 := HCM.out.trans h1
                    have HH := Lib.hid h2
                    clear h1 h2 HCM HCV
                    subst e1
                    go_wp2
                    go_roundg (gk1 - 1)
                    case measure => have := HG.out; omega
                    case rel => exact ⟨i + 1, j2 + 1, by have := HG.out; omega, by go_num, by go_num, Lib.hid (bes_eq HMA.out HMB.out HE0.out.2 HJ2.out HQ.out HH.out), BF⟩
                  · have e1 : cv = 1 := HCM.out.trans h1
                    have HH := Lib.hid h2
                    clear h1 h2 HCM HCV
                    subst e1
                    go_wp2
                    go_roundg (gk - 1)
                    case measure => have := HG2.out; omega
                    case rel => exact ⟨j2 + 1, by have := HG2.out; omega, by go_num, Lib.hid (bes_gt HMA.out HMB.out HE0.out.2 HJ2.out hi HQ.out HH.out), BE⟩
            · have hin : i = a.n := by have := HG.out; omega
              have e : pp = true := HPP.out.trans (bes_all HMA.out HMB.out HE0.out.1 HE0.out.2 (by rw [← hin]; exact HI.out))
              subst e
              replace BB := below_next BB BB.size BD rfl rfl rfl rfl
              go_wp2
              go_ret
              exact ⟨by first | rfl | simp, BB⟩

set_option maxRecDepth 100000 in
set_option maxHeartbeats 8000000 in
theorem tinside_any {w : World} {K : Nat} {a : Tb} {Ta Va : Option Addr} {ca da : Nat} {u : Tb} {Tu Vu : Option Addr} {cu du : Nat} (hK : 4194304 ≤ K) (hT : Tab w) (ha : RdTb w Ta ca Va da a) (hu : RdTb w Tu cu Vu du u) :
    Calls Tryd.prog 14 #[.agg #[.slice Ta a.m ca, .slice Va a.n da], .agg #[.slice Tu u.m cu, .slice Vu u.n du]] w (Bools (cellsB K a u (insideI K)) w) := by
  have BB := Below.refl w.heap.size w
  have b := below_alloc w (.cells #[.slice Ta a.m ca, .slice Va a.n da] 25)
  have xa := Blk.new w #[.slice Ta a.m ca, .slice Va a.n da] 25
  replace BB := bnx BB b rfl rfl rfl rfl
  have G := mv b rfl (J3 ha hu hT)
  clear ha hu hT
  obtain ⟨ha, hu, hT⟩ := G
  clear b
  have b := below_alloc (w.alloc (.cells #[.slice Ta a.m ca, .slice Va a.n da] 25)) (.cells #[.slice Tu u.m cu, .slice Vu u.n du] 25)
  have xb := Blk.new (w.alloc (.cells #[.slice Ta a.m ca, .slice Va a.n da] 25)) #[.slice Tu u.m cu, .slice Vu u.n du] 25
  rw [show (w.alloc (.cells #[.slice Ta a.m ca, .slice Va a.n da] 25)).heap.size = w.heap.size + 1 by simp] at xb
  replace BB := bnx BB b rfl rfl rfl rfl
  have G := mv b rfl (J4 ha hu hT xa)
  clear ha hu hT xa
  obtain ⟨ha, hu, hT, xa⟩ := G
  clear b
  have a0 : World.cell? _ ⟨_, 0, none⟩ = some (.slice Ta a.m ca) := xa.at 0
  have a1 : World.cell? _ ⟨_, 1, none⟩ = some (.slice Va a.n da) := xa.at 1
  have b0 : World.cell? _ ⟨_, 0, none⟩ = some (.slice Tu u.m cu) := xb.at 0
  have b1 : World.cell? _ ⟨_, 1, none⟩ = some (.slice Vu u.n du) := xb.at 1
  clear xa xb
  go_enter Tryd.func14, Tryd.ntmps14
  go_upto_region 1 with fail
  generalize ((w.alloc (.cells #[.slice Ta a.m ca, .slice Va a.n da] 25)).alloc (.cells #[.slice Tu u.m cu, .slice Vu u.n du] 25)) = W1 at *
  go_wp2_with fail
  refine (tbeside_any hK (stand_inside hK) hT ha hu).mono ?_
  rintro en w2 ⟨rfl, b⟩
  replace BB := bnx BB b rfl rfl rfl rfl
  clear b
  go_wp2
  go_ret
  exact ⟨by first | rfl | simp, BB⟩

set_option maxRecDepth 100000 in
set_option maxHeartbeats 8000000 in
theorem twithin_any {w : World} {K : Nat} {a : Tb} {Ta Va : Option Addr} {ca da : Nat} {u : Tb} {Tu Vu : Option Addr} {cu du : Nat} (hK : 4194304 ≤ K) (hT : Tab w) (ha : RdTb w Ta ca Va da a) (hu : RdTb w Tu cu Vu du u) :
    Calls Tryd.prog 7 #[.agg #[.slice Ta a.m ca, .slice Va a.n da], .agg #[.slice Tu u.m cu, .slice Vu u.n du]] w (Bools (cellsB K a u (withinI K)) w) := by
  have BB := Below.refl w.heap.size w
  have b := below_alloc w (.cells #[.slice Ta a.m ca, .slice Va a.n da] 25)
  have xa := Blk.new w #[.slice Ta a.m ca, .slice Va a.n da] 25
  replace BB := bnx BB b rfl rfl rfl rfl
  have G := mv b rfl (J3 ha hu hT)
  clear ha hu hT
  obtain ⟨ha, hu, hT⟩ := G
  clear b
  have b := below_alloc (w.alloc (.cells #[.slice Ta a.m ca, .slice Va a.n da] 25)) (.cells #[.slice Tu u.m cu, .slice Vu u.n du] 25)
  have xb := Blk.new (w.alloc (.cells #[.slice Ta a.m ca, .slice Va a.n da] 25)) #[.slice Tu u.m cu, .slice Vu u.n du] 25
  rw [show (w.alloc (.cells #[.slice Ta a.m ca, .slice Va a.n da] 25)).heap.size = w.heap.size + 1 by simp] at xb
  replace BB := bnx BB b rfl rfl rfl rfl
  have G := mv b rfl (J4 ha hu hT xa)
  clear ha hu hT xa
  obtain ⟨ha, hu, hT, xa⟩ := G
  clear b
  have a0 : World.cell? _ ⟨_, 0, none⟩ = some (.slice Ta a.m ca) := xa.at 0
  have a1 : World.cell? _ ⟨_, 1, none⟩ = some (.slice Va a.n da) := xa.at 1
  have b0 : World.cell? _ ⟨_, 0, none⟩ = some (.slice Tu u.m cu) := xb.at 0
  have b1 : World.cell? _ ⟨_, 1, none⟩ = some (.slice Vu u.n du) := xb.at 1
  clear xa xb
  go_enter Tryd.func7, Tryd.ntmps7
  go_upto_region 1 with fail
  generalize ((w.alloc (.cells #[.slice Ta a.m ca, .slice Va a.n da] 25)).alloc (.cells #[.slice Tu u.m cu, .slice Vu u.n du] 25)) = W1 at *
  go_wp2_with fail
  refine (tbeside_any hK (stand_within hK) hT ha hu).mono ?_
  rintro en w2 ⟨rfl, b⟩
  replace BB := bnx BB b rfl rfl rfl rfl
  clear b
  go_wp2
  go_ret
  exact ⟨by first | rfl | simp, BB⟩

end Go.Proofs.YtkpcmgfpmekkjaaDoor
