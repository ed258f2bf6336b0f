/-
  Contract of the statements' own told of layer 13: it returns true, at this translation. Condition: the slices read as limbs, the table of math/bits reads as its text lays it.
-/
import Derived.Test.YtkpcmgfpmekkjaaDoorQUm
import Derived.Test.YtkpcmgfpmekkjaaDoorQUn
namespace Go.Proofs.YtkpcmgfpmekkjaaDoor
open Go.RowKit


def qTwo : Rw := Rw.of false 1 1
def qHalf : Rw := Rw.of false 1 (-1)
def qThreeH : Rw := Rw.of false 3 (-1)
def tubA : Tb := oneT Rw.zero q1 ⟨q1, q1⟩
def tubB : Tb := oneT q1 qTwo ⟨qTwo, qTwo⟩
def tubC : Tb := joinT tubA tubB
def midC (i : Nat) : Rw := if i = 0 then qHalf else qThreeH
def tubD : Tb := halfT tubC midC
theorem okd_two : OkD false 1 1 := okd_small rfl (by omega) (by decide) (by decide)
theorem okd_half : OkD false 1 (-1) := okd_small rfl (by omega) (by decide) (by decide)
theorem okd_threeh : OkD false 3 (-1) := okd_small rfl (by omega) (by decide) (by decide)
theorem qTwo_may : qTwo.may = true := Rw.of_may okd_two
theorem qHalf_may : qHalf.may = true := Rw.of_may okd_half
theorem qThreeH_may : qThreeH.may = true := Rw.of_may okd_threeh
theorem vz_shift (K m : Nat) (e : Int) (j : Nat) (hj : (e + (K : Int)).toNat = j) : vz K false m e = (m : Int) * ((2 ^ j : Nat) : Int) := by
  unfold vz sg
  rw [hj, if_neg Bool.false_ne_true, Int.one_mul, Int.natCast_mul]
/-- the numbers by a half -/
theorem half_vals {K : Nat} (hK : 4194304 ≤ K) : ∃ P : Int, 0 < P ∧ Rw.zero.v K = 0 ∧ qHalf.v K = P ∧ q1.v K = 2 * P ∧ qThreeH.v K = 3 * P ∧ qTwo.v K = 4 * P ∧ q3.v K = 6 * P := by
  obtain ⟨j, rfl⟩ : ∃ j, K = j + 1 := ⟨K - 1, by omega⟩
  have hp := pow_pos2 j
  refine ⟨((2 ^ j : Nat) : Int), by omega, vz_zero _ false 0, ?_, ?_, ?_, ?_, ?_⟩
  · unfold qHalf; rw [Rw.of_v, vz_shift (j + 1) 1 (-1) j (by omega)]; omega
  · unfold q1; rw [Rw.of_v, vz_shift (j + 1) 1 0 (j + 1) (by omega), Nat.pow_succ]; omega
  · unfold qThreeH; rw [Rw.of_v, vz_shift (j + 1) 3 (-1) j (by omega)]; omega
  · unfold qTwo; rw [Rw.of_v, vz_shift (j + 1) 1 1 (j + 2) (by omega), Nat.pow_succ, Nat.pow_succ]; omega
  · unfold q3; rw [Rw.of_v, vz_shift (j + 1) 3 0 (j + 1) (by omega), Nat.pow_succ]; omega
section
variable {K : Nat}
theorem tubA_may (hK : 4194304 ≤ K) : MayT K tubA := onet_may.2 ⟨Rw.zero_may, q1_may, by obtain ⟨P, h0, h1, h2, h3, h4, h5, h6⟩ := half_vals hK; omega, mayI_point q1_may⟩
theorem tubB_may (hK : 4194304 ≤ K) : MayT K tubB := onet_may.2 ⟨q1_may, qTwo_may, by obtain ⟨P, h0, h1, h2, h3, h4, h5, h6⟩ := half_vals hK; omega, mayI_point qTwo_may⟩
theorem tubC_may (hK : 4194304 ≤ K) : MayT K tubC := join_may (tubA_may hK) (tubB_may hK) rfl (by decide)
theorem lt2 {i : Nat} {P : Nat → Prop} (h0 : P 0) (h1 : P 1) (hi : i < 2) : P i := by
  rcases (show i = 0 ∨ i = 1 by omega) with rfl | rfl
  · exact h0
  · exact h1
theorem midC_ok (hK : 4194304 ≤ K) : ∀ i, i < tubC.n → (midC i).may = true ∧ tubC.t K i < (midC i).v K ∧ (midC i).v K < tubC.t K (i + 1) := fun i hi => by
  obtain ⟨P, h0, h1, h2, h3, h4, h5, h6⟩ := half_vals hK
  have hi : i < 2 := hi
  refine lt2 (P := fun i => (midC i).may = true ∧ tubC.t K i < (midC i).v K ∧ (midC i).v K < tubC.t K (i + 1)) ?_ ?_ hi
  · refine ⟨qHalf_may, ?_, ?_⟩
    · show Rw.zero.v K < qHalf.v K; omega
    · show qHalf.v K < q1.v K; omega
  · refine ⟨qThreeH_may, ?_, ?_⟩
    · show q1.v K < qThreeH.v K; omega
    · show qThreeH.v K < qTwo.v K; omega
theorem tubD_part (hK : 4194304 ≤ K) : Part K tubC tubD (tubC.t K 0) (tubC.t K tubC.n) := half_part (tubC_may hK) (by decide) (midC_ok hK)
theorem within_CD (hK : 4194304 ≤ K) : cellsB K tubC tubD (withinI K) = true := cellsB_iff.2 (part_all (tubC_may hK) (tubD_part hK)).2
theorem within_DC (hK : 4194304 ≤ K) : cellsB K tubD tubC (withinI K) = true := cellsB_iff.2 (part_all (tubC_may hK) (tubD_part hK)).1
theorem inside_CD (hK : 4194304 ≤ K) : cellsB K tubC tubD (insideI K) = false := Bool.eq_false_iff.2 fun h => by
  have hd := (tubD_part hK).may
  have hc := tubC_may hK
  have e0 : tubC.t K 0 = tubD.t K 0 := rfl
  have h3 : insideI K (tubC.V 0) (tubD.V 0) = true := (cellsB_iff.1 h).2.2.2.2 0 hc.pos 0 hd.pos ⟨by have := hd.rise 0 hd.pos; omega, by have := hc.rise 0 hc.pos; omega⟩
  have e : tubD.V 0 = tubC.V 0 := rfl
  rw [e, inside_self] at h3
  cases h3
theorem may_zero_t : mayTb K Tb.zero = false := may_no0 fun h => absurd h.1 (by decide)
theorem make_A (hK : 4194304 ≤ K) : makeTK K Rw.zero q1 ⟨q1, q1⟩ = 0 ∧ makeTT K Rw.zero q1 ⟨q1, q1⟩ = tubA := ⟨if_pos (mayTb_iff.2 (tubA_may hK)), if_pos (mayTb_iff.2 (tubA_may hK))⟩
theorem make_B (hK : 4194304 ≤ K) : makeTK K q1 qTwo ⟨qTwo, qTwo⟩ = 0 ∧ makeTT K q1 qTwo ⟨qTwo, qTwo⟩ = tubB := ⟨if_pos (mayTb_iff.2 (tubB_may hK)), if_pos (mayTb_iff.2 (tubB_may hK))⟩
theorem make_no : makeTK K q1 q1 ⟨q1, q1⟩ = 1 ∧ makeTT K q1 q1 ⟨q1, q1⟩ = Tb.zero := by
  have h : ¬ mayTb K (oneT q1 q1 ⟨q1, q1⟩) = true := fun h => by
    have := (onet_may.1 (mayTb_iff.1 h)).2.2.1
    omega
  exact ⟨if_neg h, if_neg h⟩
theorem join_C (hK : 4194304 ≤ K) : joinK K tubA tubB = 0 ∧ joinTT K tubA tubB = tubC := by
  have h : joinK K tubA tubB = 0 := joinK_ok.2 ⟨tubA_may hK, tubB_may hK, rfl, by decide⟩
  exact ⟨h, if_pos h⟩
theorem over_C1 (hK : 4194304 ≤ K) : overK K tubC q1 q1 = 0 ∧ overI K tubC q1 q1 = ⟨q1, qTwo⟩ := by
  obtain ⟨P, h0, h1, h2, h3, h4, h5, h6⟩ := half_vals hK
  have ho : OverOk K tubC q1 q1 := ⟨tubC_may hK, q1_may, q1_may, Int.le_refl _, by show Rw.zero.v K ≤ q1.v K; omega, by show q1.v K ≤ qTwo.v K; omega⟩
  refine ⟨overK_ok.2 ho, ?_⟩
  have hs := over_is ho
  have a0 := withinI_iff.1 (hs.all 0 (by decide) ⟨by show q1.v K ≤ q1.v K; omega, by show Rw.zero.v K ≤ q1.v K; omega⟩)
  have a1 := withinI_iff.1 (hs.all 1 (by decide) ⟨by show q1.v K ≤ qTwo.v K; omega, by show q1.v K ≤ q1.v K; omega⟩)
  obtain ⟨j, hj, _, e1⟩ := hs.lo
  obtain ⟨i, hi, _, e2⟩ := hs.hi
  have m := mayI_iff.1 hs.may
  generalize overI K tubC q1 q1 = q at *
  have b0 : (overI K tubC q1 q1).lo.v K ≤ (overI K tubC q1 q1).lo.v K := Int.le_refl _
  have c0 : q.lo.v K ≤ q1.v K := a0.2.2.1
  have c1 : qTwo.v K ≤ q.hi.v K := a1.2.2.2
  have d0 : q1.v K ≤ q.lo.v K := by
    rw [← e1]
    refine lt2 (P := fun j => q1.v K ≤ (tubC.V j).lo.v K) ?_ ?_ hj
    · show q1.v K ≤ q1.v K; omega
    · show q1.v K ≤ qTwo.v K; omega
  have d1 : q.hi.v K ≤ qTwo.v K := by
    rw [← e2]
    refine lt2 (P := fun j => (tubC.V j).hi.v K ≤ qTwo.v K) ?_ ?_ hi
    · show q1.v K ≤ qTwo.v K; omega
    · show qTwo.v K ≤ qTwo.v K; omega
  have f1 := one_of_v hK m.1 q1_may (by omega)
  have f2 := one_of_v hK m.2.1 qTwo_may (by omega)
  cases q
  cases f1; cases f2; rfl
theorem over_C3 (hK : 4194304 ≤ K) : overK K tubC q3 q3 = 5 := by
  obtain ⟨P, h0, h1, h2, h3, h4, h5, h6⟩ := half_vals hK
  refine over_5 hK ?_ ?_
  · rw [mayTb_iff.2 (tubC_may hK), (upB_iff hK).2 ⟨q3_may, q3_may, Int.le_refl _⟩]; rfl
  · refine Bool.eq_false_iff.2 fun h => ?_
    have h7 : q3.v K ≤ qTwo.v K := ((upB_iff hK).1 (Bool.and_eq_true_iff.1 h).2).2.2
    omega
theorem told_d {w : World} {en : Ending} {w' : World} {s : Bool} {m : Nat} {e : Int} (h : ToldIs s m e 0 w en w') : TellD 0 (Rw.of s m e) w en w' := by
  obtain ⟨A, n, c, rfl, h2, b⟩ := h
  exact ⟨A, n, c, rfl, h2.rd, b⟩
theorem mid_of (hK : 4194304 ≤ K) {x : Iv} (hm : mayI K x = true) {m : Nat} {e1 : Int} (hd : OkD false m e1) (hx : m ≠ 0) (hv : vz K false m e1 = x.lo.v K + x.hi.v K) (he : -1048576 ≤ -1 + e1) (he' : -1 + e1 ≤ 1048576) : MidT x 0 (Rw.of false m (-1 + e1)) :=
  ⟨fun hT h1 h2 => (imid_is hK hT h1 h2 hm (s0 := false) (m0 := m) (e0 := -1 + e1) (e1 := e1) (fun k s m' e h => by
    unfold addR at h
    rw [if_pos ⟨(mayI_iff.1 hm).1, (mayI_iff.1 hm).2.1⟩] at h
    exact nmv_hit hK h hd hv) hd hx rfl he he').mono fun _ _ h => told_d h⟩
theorem mid_C (hK : 4194304 ≤ K) : ∀ i, i < tubC.n → MidT ⟨tubC.T i, tubC.T (i + 1)⟩ 0 (midC i) := fun i hi => by
  obtain ⟨P, h0, h1, h2, h3, h4, h5, h6⟩ := half_vals hK
  have hi : i < 2 := hi
  have v1 : vz K false 1 0 = q1.v K := by unfold q1; rw [Rw.of_v]
  have v3 : vz K false 3 0 = q3.v K := by unfold q3; rw [Rw.of_v]
  refine lt2 (P := fun i => MidT ⟨tubC.T i, tubC.T (i + 1)⟩ 0 (midC i)) ?_ ?_ hi
  · exact mid_of hK (x := ⟨Rw.zero, q1⟩) (mayI_iff.2 ⟨Rw.zero_may, q1_may, by show Rw.zero.v K ≤ q1.v K; omega⟩) okd_1 (by decide) (by show _ = Rw.zero.v K + q1.v K; omega) (by decide) (by decide)
  · exact mid_of hK (x := ⟨q1, qTwo⟩) (mayI_iff.2 ⟨q1_may, qTwo_may, by show q1.v K ≤ qTwo.v K; omega⟩) okd_3 (by decide) (by show _ = q1.v K + qTwo.v K; omega) (by decide) (by decide)
end

theorem DyAt.off {w : World} {g b o : Nat} {x : Rw} {A : Option Addr} {n c : Nat} {B : Option Addr} {m d : Nat} {T : TypeId} (h : DyAt w b o x) (r : Blk w g #[.slice A n c, .slice B m d] T) : b ≠ g := by
  rintro rfl
  obtain ⟨_, _, _, ⟨h0, _, _⟩, _⟩ := h
  rw [cell_of_row w b o _ T (0, 0) r.blk] at h0
  match o, h0 with
  | 0, h0 => cases h0
  | 1, h0 => cases h0
  | o + 2, h0 => simp at h0
theorem IvAt.off {w : World} {g b o : Nat} {x : Iv} {A : Option Addr} {n c : Nat} {B : Option Addr} {m d : Nat} {T : TypeId} (h : IvAt w b o x) (r : Blk w g #[.slice A n c, .slice B m d] T) : b ≠ g := by
  rintro rfl
  obtain ⟨_, _, _, _, _, _, ⟨h0, _⟩, _⟩ := h
  rw [cell_of_row w b o _ T (0, 0) r.blk] at h0
  match o, h0 with
  | 0, h0 => cases h0
  | 1, h0 => cases h0
  | o + 2, h0 => simp at h0
/-- a tube behind a store into another one's box -/
theorem RdTb.put2 {w : World} {g : Nat} {A : Option Addr} {c : Nat} {B : Option Addr} {d : Nat} {a : Tb} {A' : Option Addr} {n' c' : Nat} {B' : Option Addr} {m' d' : Nat} {T : TypeId} (h : RdTb w A c B d a) (r : Blk w g #[.slice A' n' c', .slice B' m' d'] T) (u v : Value) : RdTb ((w.setCell ⟨g, 0, none⟩ u).setCell ⟨g, 1, none⟩ v) A c B d a := by
  have hno := r.nou nol_slice nol_slice
  have hr : ∀ A n c l, Rd w .u64 Go.Proofs.YtkpcmgfpmekkjaaDoor.W A n c l → Rd ((w.setCell ⟨g, 0, none⟩ u).setCell ⟨g, 1, none⟩ v) .u64 Go.Proofs.YtkpcmgfpmekkjaaDoor.W A n c l := fun A n c l hr => (hr.set1 (hr.off hno) _ _).set1 (hr.off hno) _ _
  refine ⟨⟨h.at_.cap, h.at_.max, fun hn => ?_⟩, ⟨h.v.cap, h.v.max, fun hn => ?_⟩⟩
  · obtain ⟨b, o, e, hc⟩ := h.at_.at_ hn
    refine ⟨b, o, e, fun i hi => ?_⟩
    have hne := (hc i hi).off r
    obtain ⟨A1, n1, c1, ⟨h0, h1, h2⟩, q⟩ := hc i hi
    exact ⟨A1, n1, c1, ⟨cell_oth (cell_oth h0 hne 0 u) hne 1 v, cell_oth (cell_oth h1 hne 0 u) hne 1 v, cell_oth (cell_oth h2 hne 0 u) hne 1 v⟩, hr _ _ _ _ q⟩
  · obtain ⟨b, o, e, hc⟩ := h.v.at_ hn
    refine ⟨b, o, e, fun i hi => ?_⟩
    have hne := (hc i hi).off r
    obtain ⟨A1, n1, c1, A2, n2, c2, ⟨h0, h1, h2, h3, h4, h5⟩, q, p⟩ := hc i hi
    exact ⟨A1, n1, c1, A2, n2, c2, ⟨cell_oth (cell_oth h0 hne 0 u) hne 1 v, cell_oth (cell_oth h1 hne 0 u) hne 1 v, cell_oth (cell_oth h2 hne 0 u) hne 1 v, cell_oth (cell_oth h3 hne 0 u) hne 1 v, cell_oth (cell_oth h4 hne 0 u) hne 1 v, cell_oth (cell_oth h5 hne 0 u) hne 1 v⟩, hr _ _ _ _ q, hr _ _ _ _ p⟩

set_option maxRecDepth 100000 in
set_option maxHeartbeats 8000000 in
theorem told13_any {w : World} (hT : Tab w) : Calls Tryd.prog 9 #[] w (Bools true w) := by
  obtain ⟨KS, hKS⟩ := scale_has
  have HK := Lib.hid hKS
  have BB := Below.refl w.heap.size w
  have b := below_alloc w (.cells #[.int .u64 1] 52)
  have l1 := Blk.new w #[.int .u64 1] 52
  replace BB := bnx BB b rfl rfl rfl rfl
  replace hT := mv b rfl hT
  clear b
  have b := below_alloc (w.alloc (.cells #[.int .u64 1] 52)) (.cells #[.int .u64 1] 52)
  have l2 := Blk.new (w.alloc (.cells #[.int .u64 1] 52)) #[.int .u64 1] 52
  rw [show (w.alloc (.cells #[.int .u64 1] 52)).heap.size = w.heap.size + 1 by simp] at l2
  replace BB := bnx BB b rfl rfl rfl rfl
  have G := mv b rfl <| And.intro hT <| l1
  clear hT l1
  obtain ⟨hT, l1⟩ := G
  clear b
  have b := below_alloc ((w.alloc (.cells #[.int .u64 1] 52)).alloc (.cells #[.int .u64 1] 52)) (.cells #[.bool false, .slice (some ⟨w.heap.size, 0, none⟩) 1 1, .int .i64 0] 28)
  have xo := Blk.new ((w.alloc (.cells #[.int .u64 1] 52)).alloc (.cells #[.int .u64 1] 52)) #[.bool false, .slice (some ⟨w.heap.size, 0, none⟩) 1 1, .int .i64 0] 28
  rw [show ((w.alloc (.cells #[.int .u64 1] 52)).alloc (.cells #[.int .u64 1] 52)).heap.size = w.heap.size + 2 by simp] at xo
  replace BB := bnx BB b rfl rfl rfl rfl
  have G := mv b rfl (J3 hT l1 l2)
  clear hT l1 l2
  obtain ⟨hT, l1, l2⟩ := G
  clear b
  have b := below_alloc (((w.alloc (.cells #[.int .u64 1] 52)).alloc (.cells #[.int .u64 1] 52)).alloc (.cells #[.bool false, .slice (some ⟨w.heap.size, 0, none⟩) 1 1, .int .i64 0] 28)) (.cells #[.bool false, .slice (some ⟨w.heap.size + 1, 0, none⟩) 1 1, .int .i64 1] 28)
  have xp := Blk.new (((w.alloc (.cells #[.int .u64 1] 52)).alloc (.cells #[.int .u64 1] 52)).alloc (.cells #[.bool false, .slice (some ⟨w.heap.size, 0, none⟩) 1 1, .int .i64 0] 28)) #[.bool false, .slice (some ⟨w.heap.size + 1, 0, none⟩) 1 1, .int .i64 1] 28
  rw [show (((w.alloc (.cells #[.int .u64 1] 52)).alloc (.cells #[.int .u64 1] 52)).alloc (.cells #[.bool false, .slice (some ⟨w.heap.size, 0, none⟩) 1 1, .int .i64 0] 28)).heap.size = w.heap.size + 3 by simp] at xp
  replace BB := bnx BB b rfl rfl rfl rfl
  have G := mv b rfl (J4 hT l1 l2 xo)
  clear hT l1 l2 xo
  obtain ⟨hT, l1, l2, xo⟩ := G
  clear b
  have o0 : World.cell? _ ⟨_, 0, none⟩ = some (.bool false) := xo.at 0
  have o1 : World.cell? _ ⟨_, 1, none⟩ = some (.slice (some ⟨w.heap.size, 0, none⟩) 1 1) := xo.at 1
  have o2 : World.cell? _ ⟨_, 2, none⟩ = some (.int .i64 0) := xo.at 2
  have p0 : World.cell? _ ⟨_, 0, none⟩ = some (.bool false) := xp.at 0
  have p1 : World.cell? _ ⟨_, 1, none⟩ = some (.slice (some ⟨w.heap.size + 1, 0, none⟩) 1 1) := xp.at 1
  have p2 : World.cell? _ ⟨_, 2, none⟩ = some (.int .i64 1) := xp.at 2
  clear l1 l2 xo xp
  have R1 : Rd ((((w.alloc (.cells #[.int .u64 1] 52)).alloc (.cells #[.int .u64 1] 52)).alloc (.cells #[.bool false, .slice (some ⟨w.heap.size, 0, none⟩) 1 1, .int .i64 0] 28)).alloc (.cells #[.bool false, .slice (some ⟨w.heap.size + 1, 0, none⟩) 1 1, .int .i64 1] 28)) .u64 Go.Proofs.YtkpcmgfpmekkjaaDoor.W (some ⟨w.heap.size, 0, none⟩) 1 1 q1.l := (mv (three_below (w.alloc (.cells #[.int .u64 1] 52)) (.cells #[.int .u64 1] 52) (.cells #[.bool false, .slice (some ⟨w.heap.size, 0, none⟩) 1 1, .int .i64 0] 28) (.cells #[.bool false, .slice (some ⟨w.heap.size + 1, 0, none⟩) 1 1, .int .i64 1] 28)) rfl (nt_one_at (w := w) (v := 1) rfl (by omega) (by omega))).rd
  have R2 : Rd ((((w.alloc (.cells #[.int .u64 1] 52)).alloc (.cells #[.int .u64 1] 52)).alloc (.cells #[.bool false, .slice (some ⟨w.heap.size, 0, none⟩) 1 1, .int .i64 0] 28)).alloc (.cells #[.bool false, .slice (some ⟨w.heap.size + 1, 0, none⟩) 1 1, .int .i64 1] 28)) .u64 Go.Proofs.YtkpcmgfpmekkjaaDoor.W (some ⟨w.heap.size + 1, 0, none⟩) 1 1 qTwo.l := (mv (two_below ((w.alloc (.cells #[.int .u64 1] 52)).alloc (.cells #[.int .u64 1] 52)) (.cells #[.bool false, .slice (some ⟨w.heap.size, 0, none⟩) 1 1, .int .i64 0] 28) (.cells #[.bool false, .slice (some ⟨w.heap.size + 1, 0, none⟩) 1 1, .int .i64 1] 28)) rfl (nt_one_at (w := (w.alloc (.cells #[.int .u64 1] 52))) (g := w.heap.size + 1) (v := 1) (by simp) (by omega) (by omega))).rd
  go_enter Tryd.func9, Tryd.ntmps9
  go_upto_region 2 with fail
  generalize ((((w.alloc (.cells #[.int .u64 1] 52)).alloc (.cells #[.int .u64 1] 52)).alloc (.cells #[.bool false, .slice (some ⟨w.heap.size, 0, none⟩) 1 1, .int .i64 0] 28)).alloc (.cells #[.bool false, .slice (some ⟨w.heap.size + 1, 0, none⟩) 1 1, .int .i64 1] 28)) = W1 at *
  go_cut [3, 4] (fun v3 v4 wc => ∃ (ga : Nat) (Aa : Option Addr) (ca : Nat) (Ba : Option Addr) (da : Nat), v3 = .pointer (some ⟨ga, 0, none⟩) ∧ v4 = .int .i64 0 ∧ Blk wc ga #[.slice Aa tubA.m ca, .slice Ba tubA.n da] 25 ∧ RdTb wc Aa ca Ba da tubA ∧ Below W1.heap.size W1 wc)
  case first =>
    have b9 : Below W1.heap.size W1 (World.drew W1) := below_drewN (Below.refl _ _) 1
    have G := mv b9 rfl (J9 hT R1 R2 o0 o1 o2 p0 p1 p2)
    clear hT R1 R2 o0 o1 o2 p0 p1 p2
    obtain ⟨hT, R1, R2, o0, o1, o2, p0, p1, p2⟩ := G
    refine wp_region_upto (S := fun w' => w'.cell? ⟨w.heap.size + 2, 0, none⟩ = some (.bool false) ∧ w'.cell? ⟨w.heap.size + 2, 1, none⟩ = some (.slice (some ⟨w.heap.size, 0, none⟩) 1 1) ∧ w'.cell? ⟨w.heap.size + 2, 2, none⟩ = some (.int .i64 0)) 10 (by kernel_rfl) (by exact ⟨o0, o1, o2⟩) (fun hHeldta0 => ?_)
    generalize World.drew W1 = wd at *
    have BD := Below.refl wd.heap.size wd
    refine wpAnyT_take (i := 0) (v := ?ta1v0) rfl (by kernel_rfl) (by kernel_rfl) (by kernel_rfl) (by kernel_rfl) (by kernel_rfl) (by kernel_rfl) (fun _ _ _ h => panic_put (P := Tryd.prog) (fn := Tryd.f9) (R := (Bools true w)) h) (Or.inl ⟨by rfl, ?ta1y0⟩) (by assumption) ?_
    case ta1y0 => (intro w hSw; (try dsimp only at hSw); go_simp); try with_reducible rfl
    change wpAnyT _ _ _ _ _ _ _ _ (Act.put _ (some 22) _) _
    simp only [Act.put, List.setIfInBounds_toArray, List.set_cons_zero, List.set_cons_succ]
    refine wpAnyT_take (i := 1) (v := ?ta2v1) rfl (by kernel_rfl) (by kernel_rfl) (by kernel_rfl) (by kernel_rfl) (by kernel_rfl) (by kernel_rfl) (fun _ _ _ h => panic_put (P := Tryd.prog) (fn := Tryd.f9) (R := (Bools true w)) h) (Or.inl ⟨by rfl, ?ta2y1⟩) (by assumption) ?_
    case ta2y1 => (intro w hSw; (try dsimp only at hSw); go_simp); try with_reducible rfl
    change wpAnyT _ _ _ _ _ _ _ _ (Act.put _ (some 23) _) _
    simp only [Act.put, List.setIfInBounds_toArray, List.set_cons_zero, List.set_cons_succ]
    refine wpAnyT_take (i := 2) (v := ?ta3v2) rfl (by kernel_rfl) (by kernel_rfl) (by kernel_rfl) (by kernel_rfl) (by kernel_rfl) (by kernel_rfl) (fun _ _ _ h => panic_put (P := Tryd.prog) (fn := Tryd.f9) (R := (Bools true w)) h) (Or.inl ⟨by rfl, ?ta3y2⟩) (by assumption) ?_
    case ta3y2 => (intro w hSw; (try dsimp only at hSw); go_simp); try with_reducible rfl
    change wpAnyT _ _ _ _ _ _ _ _ (Act.put _ (some 24) _) _
    simp only [Act.put, List.setIfInBounds_toArray, List.set_cons_zero, List.set_cons_succ]
    refine wpAnyT_ready (rs := [3, 8]) (by kernel_rfl) (by simp) ?_
    refine AllReadyT.cons (o := _) rfl (fun K hK => ?_) (AllReadyT.cons (o := _) rfl (fun K hK => ?_) (AllReadyT.nil))
    go_simp
    refine (show Calls _ _ _ _ (GivI ⟨q1, q1⟩ _) from iof_any (a := q1) (mv BD rfl R1) (by omega)).mono ?_
    rintro en ub ⟨A5, n5, c5, A6, n6, c6, rfl, h5, h6, b⟩
    replace BD := below_next BD BD.size b (by rfl) (by rfl) (by rfl) (by rfl)
    clear b
    try dsimp only
    refine hK.out _ _ (by exact ⟨mv BD rfl o0, mv BD rfl o1, mv BD rfl o2⟩) (fun hHeldta1 => ?_)
    clear hK K hHeldta0
    try simp only [Act.put]
    refine wpAnyT_ready (rs := [4, 8]) (by kernel_rfl) (by simp) ?_
    refine AllReadyT.cons (o := _) rfl (fun K hK => ?_) (AllReadyT.cons (o := _) rfl (fun K hK => ?_) (AllReadyT.nil))
    go_simp
    refine (show Calls _ _ _ _ (TellT 0 tubA _) from by
      have h := tmake_any HK.out (mv BD rfl hT) (rd_nil0 _) (mv BD rfl R1) h5 h6
      rw [(make_A HK.out).1, (make_A HK.out).2] at h
      exact h).mono ?_
    rintro en uc ⟨Aa, ca, Ba, da, rfl, hz, b⟩
    replace BD := below_next BD BD.size b (by rfl) (by rfl) (by rfl) (by rfl)
    clear b h5 h6
    try dsimp only
    refine hK.out _ _ (by exact ⟨mv BD rfl o0, mv BD rfl o1, mv BD rfl o2⟩) (fun hHeldta2 => ?_)
    clear hK K hHeldta1
    try simp only [Act.put]
    refine wpAnyT_take (i := 5) (v := ?ta4v5) rfl (by kernel_rfl) (by kernel_rfl) (by kernel_rfl) (by kernel_rfl) (by kernel_rfl) (by kernel_rfl) (fun _ _ _ h => panic_put (P := Tryd.prog) (fn := Tryd.f9) (R := (Bools true w)) h) (Or.inl ⟨by rfl, ?ta4y5⟩) (by assumption) ?_
    case ta4y5 => (intro w hSw; (try dsimp only at hSw); go_simp); try with_reducible rfl
    change wpAnyT _ _ _ _ _ _ _ _ (Act.put _ (some 21) _) _
    simp only [Act.put, List.setIfInBounds_toArray, List.set_cons_zero, List.set_cons_succ]
    refine wpAnyT_take (i := 6) (v := ?ta5v6) rfl (by kernel_rfl) (by kernel_rfl) (by kernel_rfl) (by kernel_rfl) (by kernel_rfl) (by kernel_rfl) (fun _ _ _ h => panic_put (P := Tryd.prog) (fn := Tryd.f9) (R := (Bools true w)) h) (Or.inl ⟨by rfl, ?ta5y6⟩) (by assumption) ?_
    case ta5y6 => (intro w hSw; (try dsimp only at hSw); go_simp); try with_reducible rfl
    change wpAnyT _ _ _ _ _ _ _ _ (Act.put _ (some 27) _) _
    simp only [Act.put, List.setIfInBounds_toArray, List.set_cons_zero, List.set_cons_succ]
    refine wpAnyT_take (i := 7) (v := ?ta6v7) rfl (by kernel_rfl) (by kernel_rfl) (by kernel_rfl) (by kernel_rfl) (by kernel_rfl) (by kernel_rfl) (fun _ _ _ h => panic_put (P := Tryd.prog) (fn := Tryd.f9) (R := (Bools true w)) h) (Or.inl ⟨by rfl, ?ta6y7⟩) (by assumption) ?_
    case ta6y7 => (intro w hSw; (try dsimp only at hSw); go_simp); try with_reducible rfl
    change wpAnyT _ _ _ _ _ _ _ _ (Act.put _ (some 28) _) _
    simp only [Act.put, List.setIfInBounds_toArray, List.set_cons_zero, List.set_cons_succ]
    refine wpAnyT_ready (rs := [8]) (by kernel_rfl) (by simp) ?_
    refine AllReadyT.cons (o := _) rfl (fun K hK => ?_) (AllReadyT.nil)
    go_simp
    have hgs : wd.heap.size ≤ uc.heap.size := BD.size
    have b := below_alloc uc (.cells #[.slice none 0 0, .slice none 0 0] 25)
    have xz := Blk.new uc #[.slice none 0 0, .slice none 0 0] 25
    replace BD := below_next BD BD.size b rfl rfl rfl rfl
    replace hz := mv b (by rfl) hz
    clear b
    generalize uc.alloc (.cells #[.slice none 0 0, .slice none 0 0] 25) = ud at *
    generalize hgq : uc.heap.size = gz at xz ⊢
    have hgz : wd.heap.size ≤ gz := by omega
    clear hgq hgs
    refine hK.out _ _ (by exact ⟨mv BD rfl o0, mv BD rfl o1, mv BD rfl o2⟩) (fun hHeldta3 => ?_)
    clear hK K hHeldta2
    try simp only [Act.put]
    refine wpAnyT_ready (rs := [9]) (by kernel_rfl) (by simp) ?_
    refine AllReadyT.cons (o := _) rfl (fun K hK => ?_) (AllReadyT.nil)
    obtain ⟨f0, f1⟩ := (show _ ∧ _ from ⟨xz.frozen 0, xz.frozen 1⟩)
    have z0 : World.cell? _ ⟨gz, 0, none⟩ = some (.slice none 0 0) := xz.at 0
    have z1 : World.cell? _ ⟨gz, 1, none⟩ = some (.slice none 0 0) := xz.at 1
    go_simp
    replace BD := below_put2 (g := gz) BD hgz (.slice Aa tubA.m ca) (.slice Ba tubA.n da)
    have xq := xz.put2 (.slice Aa tubA.m ca) (.slice Ba tubA.n da)
    replace hz := hz.put2 xz (.slice Aa tubA.m ca) (.slice Ba tubA.n da)
    clear xz f0 f1 z0 z1
    refine hK.out _ _ (by exact ⟨mv BD rfl o0, mv BD rfl o1, mv BD rfl o2⟩) (fun hHeldta4 => ?_)
    clear hK K hHeldta3
    try simp only [Act.put]
    rotate_left
    go_simp
    have hgs : wd.heap.size ≤ ub.heap.size := BD.size
    have b := below_alloc ub (.cells #[.slice none 0 0, .slice none 0 0] 25)
    have xz := Blk.new ub #[.slice none 0 0, .slice none 0 0] 25
    replace BD := below_next BD BD.size b rfl rfl rfl rfl
    have G := mv b (by rfl) <| And.intro h5 <| h6
    clear h5 h6
    obtain ⟨h5, h6⟩ := G
    clear b
    generalize ub.alloc (.cells #[.slice none 0 0, .slice none 0 0] 25) = uc at *
    generalize hgq : ub.heap.size = gz at xz ⊢
    have hgz : wd.heap.size ≤ gz := by omega
    clear hgq hgs
    refine hK.out _ _ (by exact ⟨mv BD rfl o0, mv BD rfl o1, mv BD rfl o2⟩) (fun hHeldta2 => ?_)
    clear hK K hHeldta1
    try simp only [Act.put]
    refine wpAnyT_ready (rs := [4]) (by kernel_rfl) (by simp) ?_
    refine AllReadyT.cons (o := _) rfl (fun K hK => ?_) (AllReadyT.nil)
    go_simp
    refine (show Calls _ _ _ _ (TellT 0 tubA _) from by
      have h := tmake_any HK.out (mv BD rfl hT) (rd_nil0 _) (mv BD rfl R1) h5 h6
      rw [(make_A HK.out).1, (make_A HK.out).2] at h
      exact h).mono ?_
    rintro en ud ⟨Aa, ca, Ba, da, rfl, hz, b⟩
    replace BD := below_next BD BD.size b (by rfl) (by rfl) (by rfl) (by rfl)
    replace xz := mv b (by rfl) xz
    clear b h5 h6
    try dsimp only
    refine hK.out _ _ (by exact ⟨mv BD rfl o0, mv BD rfl o1, mv BD rfl o2⟩) (fun hHeldta3 => ?_)
    clear hK K hHeldta2
    try simp only [Act.put]
    refine wpAnyT_take (i := 5) (v := ?ta7v5) rfl (by kernel_rfl) (by kernel_rfl) (by kernel_rfl) (by kernel_rfl) (by kernel_rfl) (by kernel_rfl) (fun _ _ _ h => panic_put (P := Tryd.prog) (fn := Tryd.f9) (R := (Bools true w)) h) (Or.inl ⟨by rfl, ?ta7y5⟩) (by assumption) ?_
    case ta7y5 => (intro w hSw; (try dsimp only at hSw); go_simp); try with_reducible rfl
    change wpAnyT _ _ _ _ _ _ _ _ (Act.put _ (some 21) _) _
    simp only [Act.put, List.setIfInBounds_toArray, List.set_cons_zero, List.set_cons_succ]
    refine wpAnyT_take (i := 6) (v := ?ta8v6) rfl (by kernel_rfl) (by kernel_rfl) (by kernel_rfl) (by kernel_rfl) (by kernel_rfl) (by kernel_rfl) (fun _ _ _ h => panic_put (P := Tryd.prog) (fn := Tryd.f9) (R := (Bools true w)) h) (Or.inl ⟨by rfl, ?ta8y6⟩) (by assumption) ?_
    case ta8y6 => (intro w hSw; (try dsimp only at hSw); go_simp); try with_reducible rfl
    change wpAnyT _ _ _ _ _ _ _ _ (Act.put _ (some 27) _) _
    simp only [Act.put, List.setIfInBounds_toArray, List.set_cons_zero, List.set_cons_succ]
    refine wpAnyT_take (i := 7) (v := ?ta9v7) rfl (by kernel_rfl) (by kernel_rfl) (by kernel_rfl) (by kernel_rfl) (by kernel_rfl) (by kernel_rfl) (fun _ _ _ h => panic_put (P := Tryd.prog) (fn := Tryd.f9) (R := (Bools true w)) h) (Or.inl ⟨by rfl, ?ta9y7⟩) (by assumption) ?_
    case ta9y7 => (intro w hSw; (try dsimp only at hSw); go_simp); try with_reducible rfl
    change wpAnyT _ _ _ _ _ _ _ _ (Act.put _ (some 28) _) _
    simp only [Act.put, List.setIfInBounds_toArray, List.set_cons_zero, List.set_cons_succ]
    refine wpAnyT_ready (rs := [9]) (by kernel_rfl) (by simp) ?_
    refine AllReadyT.cons (o := _) rfl (fun K hK => ?_) (AllReadyT.nil)
    obtain ⟨f0, f1⟩ := (show _ ∧ _ from ⟨xz.frozen 0, xz.frozen 1⟩)
    have z0 : World.cell? _ ⟨gz, 0, none⟩ = some (.slice none 0 0) := xz.at 0
    have z1 : World.cell? _ ⟨gz, 1, none⟩ = some (.slice none 0 0) := xz.at 1
    go_simp
    replace BD := below_put2 (g := gz) BD hgz (.slice Aa tubA.m ca) (.slice Ba tubA.n da)
    have xq := xz.put2 (.slice Aa tubA.m ca) (.slice Ba tubA.n da)
    replace hz := hz.put2 xz (.slice Aa tubA.m ca) (.slice Ba tubA.n da)
    clear xz f0 f1 z0 z1
    refine hK.out _ _ (by exact ⟨mv BD rfl o0, mv BD rfl o1, mv BD rfl o2⟩) (fun hHeldta4 => ?_)
    clear hK K hHeldta3
    try simp only [Act.put]
    rotate_left
    go_simp
    have hgs : wd.heap.size ≤ wd.heap.size := BD.size
    have b := below_alloc wd (.cells #[.slice none 0 0, .slice none 0 0] 25)
    have xz := Blk.new wd #[.slice none 0 0, .slice none 0 0] 25
    replace BD := below_next BD BD.size b rfl rfl rfl rfl
    clear b
    generalize wd.alloc (.cells #[.slice none 0 0, .slice none 0 0] 25) = ub at *
    generalize hgq : wd.heap.size = gz at xz ⊢
    have hgz : wd.heap.size ≤ gz := by omega
    clear hgq hgs
    refine hK.out _ _ (by exact ⟨mv BD rfl o0, mv BD rfl o1, mv BD rfl o2⟩) (fun hHeldta1 => ?_)
    clear hK K hHeldta0
    try simp only [Act.put]
    refine wpAnyT_ready (rs := [3]) (by kernel_rfl) (by simp) ?_
    refine AllReadyT.cons (o := _) rfl (fun K hK => ?_) (AllReadyT.nil)
    go_simp
    refine (show Calls _ _ _ _ (GivI ⟨q1, q1⟩ _) from iof_any (a := q1) (mv BD rfl R1) (by omega)).mono ?_
    rintro en uc ⟨A5, n5, c5, A6, n6, c6, rfl, h5, h6, b⟩
    replace BD := below_next BD BD.size b (by rfl) (by rfl) (by rfl) (by rfl)
    replace xz := mv b (by rfl) xz
    clear b
    try dsimp only
    refine hK.out _ _ (by exact ⟨mv BD rfl o0, mv BD rfl o1, mv BD rfl o2⟩) (fun hHeldta2 => ?_)
    clear hK K hHeldta1
    try simp only [Act.put]
    refine wpAnyT_ready (rs := [4]) (by kernel_rfl) (by simp) ?_
    refine AllReadyT.cons (o := _) rfl (fun K hK => ?_) (AllReadyT.nil)
    go_simp
    refine (show Calls _ _ _ _ (TellT 0 tubA _) from by
      have h := tmake_any HK.out (mv BD rfl hT) (rd_nil0 _) (mv BD rfl R1) h5 h6
      rw [(make_A HK.out).1, (make_A HK.out).2] at h
      exact h).mono ?_
    rintro en ud ⟨Aa, ca, Ba, da, rfl, hz, b⟩
    replace BD := below_next BD BD.size b (by rfl) (by rfl) (by rfl) (by rfl)
    replace xz := mv b (by rfl) xz
    clear b h5 h6
    try dsimp only
    refine hK.out _ _ (by exact ⟨mv BD rfl o0, mv BD rfl o1, mv BD rfl o2⟩) (fun hHeldta3 => ?_)
    clear hK K hHeldta2
    try simp only [Act.put]
    refine wpAnyT_take (i := 5) (v := ?ta10v5) rfl (by kernel_rfl) (by kernel_rfl) (by kernel_rfl) (by kernel_rfl) (by kernel_rfl) (by kernel_rfl) (fun _ _ _ h => panic_put (P := Tryd.prog) (fn := Tryd.f9) (R := (Bools true w)) h) (Or.inl ⟨by rfl, ?ta10y5⟩) (by assumption) ?_
    case ta10y5 => (intro w hSw; (try dsimp only at hSw); go_simp); try with_reducible rfl
    change wpAnyT _ _ _ _ _ _ _ _ (Act.put _ (some 21) _) _
    simp only [Act.put, List.setIfInBounds_toArray, List.set_cons_zero, List.set_cons_succ]
    refine wpAnyT_take (i := 6) (v := ?ta11v6) rfl (by kernel_rfl) (by kernel_rfl) (by kernel_rfl) (by kernel_rfl) (by kernel_rfl) (by kernel_rfl) (fun _ _ _ h => panic_put (P := Tryd.prog) (fn := Tryd.f9) (R := (Bools true w)) h) (Or.inl ⟨by rfl, ?ta11y6⟩) (by assumption) ?_
    case ta11y6 => (intro w hSw; (try dsimp only at hSw); go_simp); try with_reducible rfl
    change wpAnyT _ _ _ _ _ _ _ _ (Act.put _ (some 27) _) _
    simp only [Act.put, List.setIfInBounds_toArray, List.set_cons_zero, List.set_cons_succ]
    refine wpAnyT_take (i := 7) (v := ?ta12v7) rfl (by kernel_rfl) (by kernel_rfl) (by kernel_rfl) (by kernel_rfl) (by kernel_rfl) (by kernel_rfl) (fun _ _ _ h => panic_put (P := Tryd.prog) (fn := Tryd.f9) (R := (Bools true w)) h) (Or.inl ⟨by rfl, ?ta12y7⟩) (by assumption) ?_
    case ta12y7 => (intro w hSw; (try dsimp only at hSw); go_simp); try with_reducible rfl
    change wpAnyT _ _ _ _ _ _ _ _ (Act.put _ (some 28) _) _
    simp only [Act.put, List.setIfInBounds_toArray, List.set_cons_zero, List.set_cons_succ]
    refine wpAnyT_ready (rs := [9]) (by kernel_rfl) (by simp) ?_
    refine AllReadyT.cons (o := _) rfl (fun K hK => ?_) (AllReadyT.nil)
    obtain ⟨f0, f1⟩ := (show _ ∧ _ from ⟨xz.frozen 0, xz.frozen 1⟩)
    have z0 : World.cell? _ ⟨gz, 0, none⟩ = some (.slice none 0 0) := xz.at 0
    have z1 : World.cell? _ ⟨gz, 1, none⟩ = some (.slice none 0 0) := xz.at 1
    go_simp
    replace BD := below_put2 (g := gz) BD hgz (.slice Aa tubA.m ca) (.slice Ba tubA.n da)
    have xq := xz.put2 (.slice Aa tubA.m ca) (.slice Ba tubA.n da)
    replace hz := hz.put2 xz (.slice Aa tubA.m ca) (.slice Ba tubA.n da)
    clear xz f0 f1 z0 z1
    refine hK.out _ _ (by exact ⟨mv BD rfl o0, mv BD rfl o1, mv BD rfl o2⟩) (fun hHeldta4 => ?_)
    clear hK K hHeldta3
    try simp only [Act.put]
    rotate_left
    all_goals (
      clear hHeldta4
      refine wpAnyT_ready (rs := [10]) (by kernel_rfl) (by simp) ?_
      refine AllReadyT.consB (o := _) rfl (by kernel_rfl) (fun K hK => ?_) AllReadyT.nil
      go_simp
      refine hK.out _ _ ?_
      clear hK K
      try simp only [Act.put]
      refine wpAnyT_done (by kernel_rfl) ?_ _
      go_wp2
      go_meet
      case rel => exact ⟨gz, _, _, _, _, rfl, rfl, xq, hz, below_next b9 b9.size BD rfl rfl rfl rfl⟩)
  case rest =>
  obtain ⟨ga, Aa, ca, Ba, da, rfl, rfl, xa, ha, b⟩ := hcut
  replace BB := bnx BB b rfl rfl rfl rfl
  have G := mv b rfl (J9 hT R1 R2 o0 o1 o2 p0 p1 p2)
  clear hT R1 R2 o0 o1 o2 p0 p1 p2
  obtain ⟨hT, R1, R2, o0, o1, o2, p0, p1, p2⟩ := G
  clear b
  generalize wc = W2 at *
  have ka0 : World.cell? _ ⟨_, 0, none⟩ = some (.slice Aa tubA.m ca) := xa.at 0
  have ka1 : World.cell? _ ⟨_, 1, none⟩ = some (.slice Ba tubA.n da) := xa.at 1
  clear xa
  go_upto_region 3 with fail
  go_cut [5, 6] (fun v5 v6 wc => ∃ (gb : Nat) (Ab : Option Addr) (cb : Nat) (Bb : Option Addr) (db : Nat), v5 = .pointer (some ⟨gb, 0, none⟩) ∧ v6 = .int .i64 0 ∧ Blk wc gb #[.slice Ab tubB.m cb, .slice Bb tubB.n db] 25 ∧ RdTb wc Ab cb Bb db tubB ∧ Below W2.heap.size W2 wc)
  case first =>
    have b9 : Below W2.heap.size W2 (World.drew W2) := below_drewN (Below.refl _ _) 1
    have G := mv b9 rfl (J12 hT R1 R2 o0 o1 o2 p0 p1 p2 ha ka0 ka1)
    clear hT R1 R2 o0 o1 o2 p0 p1 p2 ha ka0 ka1
    obtain ⟨hT, R1, R2, o0, o1, o2, p0, p1, p2, ha, ka0, ka1⟩ := G
    refine wp_region_upto (S := fun w' => w'.cell? ⟨w.heap.size + 2, 0, none⟩ = some (.bool false) ∧ w'.cell? ⟨w.heap.size + 2, 1, none⟩ = some (.slice (some ⟨w.heap.size, 0, none⟩) 1 1) ∧ w'.cell? ⟨w.heap.size + 2, 2, none⟩ = some (.int .i64 0) ∧ w'.cell? ⟨w.heap.size + 3, 0, none⟩ = some (.bool false) ∧ w'.cell? ⟨w.heap.size + 3, 1, none⟩ = some (.slice (some ⟨w.heap.size + 1, 0, none⟩) 1 1) ∧ w'.cell? ⟨w.heap.size + 3, 2, none⟩ = some (.int .i64 1)) 10 (by kernel_rfl) (by exact ⟨o0, o1, o2, p0, p1, p2⟩) (fun hHeldtb0 => ?_)
    generalize World.drew W2 = wd at *
    have BD := Below.refl wd.heap.size wd
    refine wpAnyT_take (i := 0) (v := ?tb13v0) rfl (by kernel_rfl) (by kernel_rfl) (by kernel_rfl) (by kernel_rfl) (by kernel_rfl) (by kernel_rfl) (fun _ _ _ h => panic_put (P := Tryd.prog) (fn := Tryd.f9) (R := (Bools true w)) h) (Or.inl ⟨by rfl, ?tb13y0⟩) (by assumption) ?_
    case tb13y0 => (intro w hSw; (try dsimp only at hSw); go_simp); try with_reducible rfl
    change wpAnyT _ _ _ _ _ _ _ _ (Act.put _ (some 30) _) _
    simp only [Act.put, List.setIfInBounds_toArray, List.set_cons_zero, List.set_cons_succ]
    refine wpAnyT_take (i := 1) (v := ?tb14v1) rfl (by kernel_rfl) (by kernel_rfl) (by kernel_rfl) (by kernel_rfl) (by kernel_rfl) (by kernel_rfl) (fun _ _ _ h => panic_put (P := Tryd.prog) (fn := Tryd.f9) (R := (Bools true w)) h) (Or.inl ⟨by rfl, ?tb14y1⟩) (by assumption) ?_
    case tb14y1 => (intro w hSw; (try dsimp only at hSw); go_simp); try with_reducible rfl
    change wpAnyT _ _ _ _ _ _ _ _ (Act.put _ (some 31) _) _
    simp only [Act.put, List.setIfInBounds_toArray, List.set_cons_zero, List.set_cons_succ]
    refine wpAnyT_take (i := 2) (v := ?tb15v2) rfl (by kernel_rfl) (by kernel_rfl) (by kernel_rfl) (by kernel_rfl) (by kernel_rfl) (by kernel_rfl) (fun _ _ _ h => panic_put (P := Tryd.prog) (fn := Tryd.f9) (R := (Bools true w)) h) (Or.inl ⟨by rfl, ?tb15y2⟩) (by assumption) ?_
    case tb15y2 => (intro w hSw; (try dsimp only at hSw); go_simp); try with_reducible rfl
    change wpAnyT _ _ _ _ _ _ _ _ (Act.put _ (some 32) _) _
    simp only [Act.put, List.setIfInBounds_toArray, List.set_cons_zero, List.set_cons_succ]
    refine wpAnyT_ready (rs := [3, 8]) (by kernel_rfl) (by simp) ?_
    refine AllReadyT.cons (o := _) rfl (fun K hK => ?_) (AllReadyT.cons (o := _) rfl (fun K hK => ?_) (AllReadyT.nil))
    go_simp
    refine (show Calls _ _ _ _ (GivI ⟨qTwo, qTwo⟩ _) from iof_any (a := qTwo) (mv BD rfl R2) (by omega)).mono ?_
    rintro en ub ⟨A5, n5, c5, A6, n6, c6, rfl, h5, h6, b⟩
    replace BD := below_next BD BD.size b (by rfl) (by rfl) (by rfl) (by rfl)
    clear b
    try dsimp only
    refine hK.out _ _ (by exact ⟨mv BD rfl o0, mv BD rfl o1, mv BD rfl o2, mv BD rfl p0, mv BD rfl p1, mv BD rfl p2⟩) (fun hHeldtb1 => ?_)
    clear hK K hHeldtb0
    try simp only [Act.put]
    refine wpAnyT_ready (rs := [4, 8]) (by kernel_rfl) (by simp) ?_
    refine AllReadyT.cons (o := _) rfl (fun K hK => ?_) (AllReadyT.cons (o := _) rfl (fun K hK => ?_) (AllReadyT.nil))
    go_simp
    refine (show Calls _ _ _ _ (TellT 0 tubB _) from by
      have h := tmake_any HK.out (mv BD rfl hT) (mv BD rfl R1) (mv BD rfl R2) h5 h6
      rw [(make_B HK.out).1, (make_B HK.out).2] at h
      exact h).mono ?_
    rintro en uc ⟨Ab, cb, Bb, db, rfl, hz, b⟩
    replace BD := below_next BD BD.size b (by rfl) (by rfl) (by rfl) (by rfl)
    clear b h5 h6
    try dsimp only
    refine hK.out _ _ (by exact ⟨mv BD rfl o0, mv BD rfl o1, mv BD rfl o2, mv BD rfl p0, mv BD rfl p1, mv BD rfl p2⟩) (fun hHeldtb2 => ?_)
    clear hK K hHeldtb1
    try simp only [Act.put]
    refine wpAnyT_take (i := 5) (v := ?tb16v5) rfl (by kernel_rfl) (by kernel_rfl) (by kernel_rfl) (by kernel_rfl) (by kernel_rfl) (by kernel_rfl) (fun _ _ _ h => panic_put (P := Tryd.prog) (fn := Tryd.f9) (R := (Bools true w)) h) (Or.inl ⟨by rfl, ?tb16y5⟩) (by assumption) ?_
    case tb16y5 => (intro w hSw; (try dsimp only at hSw); go_simp); try with_reducible rfl
    change wpAnyT _ _ _ _ _ _ _ _ (Act.put _ (some 29) _) _
    simp only [Act.put, List.setIfInBounds_toArray, List.set_cons_zero, List.set_cons_succ]
    refine wpAnyT_take (i := 6) (v := ?tb17v6) rfl (by kernel_rfl) (by kernel_rfl) (by kernel_rfl) (by kernel_rfl) (by kernel_rfl) (by kernel_rfl) (fun _ _ _ h => panic_put (P := Tryd.prog) (fn := Tryd.f9) (R := (Bools true w)) h) (Or.inl ⟨by rfl, ?tb17y6⟩) (by assumption) ?_
    case tb17y6 => (intro w hSw; (try dsimp only at hSw); go_simp); try with_reducible rfl
    change wpAnyT _ _ _ _ _ _ _ _ (Act.put _ (some 35) _) _
    simp only [Act.put, List.setIfInBounds_toArray, List.set_cons_zero, List.set_cons_succ]
    refine wpAnyT_take (i := 7) (v := ?tb18v7) rfl (by kernel_rfl) (by kernel_rfl) (by kernel_rfl) (by kernel_rfl) (by kernel_rfl) (by kernel_rfl) (fun _ _ _ h => panic_put (P := Tryd.prog) (fn := Tryd.f9) (R := (Bools true w)) h) (Or.inl ⟨by rfl, ?tb18y7⟩) (by assumption) ?_
    case tb18y7 => (intro w hSw; (try dsimp only at hSw); go_simp); try with_reducible rfl
    change wpAnyT _ _ _ _ _ _ _ _ (Act.put _ (some 36) _) _
    simp only [Act.put, List.setIfInBounds_toArray, List.set_cons_zero, List.set_cons_succ]
    refine wpAnyT_ready (rs := [8]) (by kernel_rfl) (by simp) ?_
    refine AllReadyT.cons (o := _) rfl (fun K hK => ?_) (AllReadyT.nil)
    go_simp
    have hgs : wd.heap.size ≤ uc.heap.size := BD.size
    have b := below_alloc uc (.cells #[.slice none 0 0, .slice none 0 0] 25)
    have xz := Blk.new uc #[.slice none 0 0, .slice none 0 0] 25
    replace BD := below_next BD BD.size b rfl rfl rfl rfl
    replace hz := mv b (by rfl) hz
    clear b
    generalize uc.alloc (.cells #[.slice none 0 0, .slice none 0 0] 25) = ud at *
    generalize hgq : uc.heap.size = gz at xz ⊢
    have hgz : wd.heap.size ≤ gz := by omega
    clear hgq hgs
    refine hK.out _ _ (by exact ⟨mv BD rfl o0, mv BD rfl o1, mv BD rfl o2, mv BD rfl p0, mv BD rfl p1, mv BD rfl p2⟩) (fun hHeldtb3 => ?_)
    clear hK K hHeldtb2
    try simp only [Act.put]
    refine wpAnyT_ready (rs := [9]) (by kernel_rfl) (by simp) ?_
    refine AllReadyT.cons (o := _) rfl (fun K hK => ?_) (AllReadyT.nil)
    obtain ⟨f0, f1⟩ := (show _ ∧ _ from ⟨xz.frozen 0, xz.frozen 1⟩)
    have z0 : World.cell? _ ⟨gz, 0, none⟩ = some (.slice none 0 0) := xz.at 0
    have z1 : World.cell? _ ⟨gz, 1, none⟩ = some (.slice none 0 0) := xz.at 1
    go_simp
    replace BD := below_put2 (g := gz) BD hgz (.slice Ab tubB.m cb) (.slice Bb tubB.n db)
    have xq := xz.put2 (.slice Ab tubB.m cb) (.slice Bb tubB.n db)
    replace hz := hz.put2 xz (.slice Ab tubB.m cb) (.slice Bb tubB.n db)
    clear xz f0 f1 z0 z1
    refine hK.out _ _ (by exact ⟨mv BD rfl o0, mv BD rfl o1, mv BD rfl o2, mv BD rfl p0, mv BD rfl p1, mv BD rfl p2⟩) (fun hHeldtb4 => ?_)
    clear hK K hHeldtb3
    try simp only [Act.put]
    rotate_left
    go_simp
    have hgs : wd.heap.size ≤ ub.heap.size := BD.size
    have b := below_alloc ub (.cells #[.slice none 0 0, .slice none 0 0] 25)
    have xz := Blk.new ub #[.slice none 0 0, .slice none 0 0] 25
    replace BD := below_next BD BD.size b rfl rfl rfl rfl
    have G := mv b (by rfl) <| And.intro h5 <| h6
    clear h5 h6
    obtain ⟨h5, h6⟩ := G
    clear b
    generalize ub.alloc (.cells #[.slice none 0 0, .slice none 0 0] 25) = uc at *
    generalize hgq : ub.heap.size = gz at xz ⊢
    have hgz : wd.heap.size ≤ gz := by omega
    clear hgq hgs
    refine hK.out _ _ (by exact ⟨mv BD rfl o0, mv BD rfl o1, mv BD rfl o2, mv BD rfl p0, mv BD rfl p1, mv BD rfl p2⟩) (fun hHeldtb2 => ?_)
    clear hK K hHeldtb1
    try simp only [Act.put]
    refine wpAnyT_ready (rs := [4]) (by kernel_rfl) (by simp) ?_
    refine AllReadyT.cons (o := _) rfl (fun K hK => ?_) (AllReadyT.nil)
    go_simp
    refine (show Calls _ _ _ _ (TellT 0 tubB _) from by
      have h := tmake_any HK.out (mv BD rfl hT) (mv BD rfl R1) (mv BD rfl R2) h5 h6
      rw [(make_B HK.out).1, (make_B HK.out).2] at h
      exact h).mono ?_
    rintro en ud ⟨Ab, cb, Bb, db, rfl, hz, b⟩
    replace BD := below_next BD BD.size b (by rfl) (by rfl) (by rfl) (by rfl)
    replace xz := mv b (by rfl) xz
    clear b h5 h6
    try dsimp only
    refine hK.out _ _ (by exact ⟨mv BD rfl o0, mv BD rfl o1, mv BD rfl o2, mv BD rfl p0, mv BD rfl p1, mv BD rfl p2⟩) (fun hHeldtb3 => ?_)
    clear hK K hHeldtb2
    try simp only [Act.put]
    refine wpAnyT_take (i := 5) (v := ?tb19v5) rfl (by kernel_rfl) (by kernel_rfl) (by kernel_rfl) (by kernel_rfl) (by kernel_rfl) (by kernel_rfl) (fun _ _ _ h => panic_put (P := Tryd.prog) (fn := Tryd.f9) (R := (Bools true w)) h) (Or.inl ⟨by rfl, ?tb19y5⟩) (by assumption) ?_
    case tb19y5 => (intro w hSw; (try dsimp only at hSw); go_simp); try with_reducible rfl
    change wpAnyT _ _ _ _ _ _ _ _ (Act.put _ (some 29) _) _
    simp only [Act.put, List.setIfInBounds_toArray, List.set_cons_zero, List.set_cons_succ]
    refine wpAnyT_take (i := 6) (v := ?tb20v6) rfl (by kernel_rfl) (by kernel_rfl) (by kernel_rfl) (by kernel_rfl) (by kernel_rfl) (by kernel_rfl) (fun _ _ _ h => panic_put (P := Tryd.prog) (fn := Tryd.f9) (R := (Bools true w)) h) (Or.inl ⟨by rfl, ?tb20y6⟩) (by assumption) ?_
    case tb20y6 => (intro w hSw; (try dsimp only at hSw); go_simp); try with_reducible rfl
    change wpAnyT _ _ _ _ _ _ _ _ (Act.put _ (some 35) _) _
    simp only [Act.put, List.setIfInBounds_toArray, List.set_cons_zero, List.set_cons_succ]
    refine wpAnyT_take (i := 7) (v := ?tb21v7) rfl (by kernel_rfl) (by kernel_rfl) (by kernel_rfl) (by kernel_rfl) (by kernel_rfl) (by kernel_rfl) (fun _ _ _ h => panic_put (P := Tryd.prog) (fn := Tryd.f9) (R := (Bools true w)) h) (Or.inl ⟨by rfl, ?tb21y7⟩) (by assumption) ?_
    case tb21y7 => (intro w hSw; (try dsimp only at hSw); go_simp); try with_reducible rfl
    change wpAnyT _ _ _ _ _ _ _ _ (Act.put _ (some 36) _) _
    simp only [Act.put, List.setIfInBounds_toArray, List.set_cons_zero, List.set_cons_succ]
    refine wpAnyT_ready (rs := [9]) (by kernel_rfl) (by simp) ?_
    refine AllReadyT.cons (o := _) rfl (fun K hK => ?_) (AllReadyT.nil)
    obtain ⟨f0, f1⟩ := (show _ ∧ _ from ⟨xz.frozen 0, xz.frozen 1⟩)
    have z0 : World.cell? _ ⟨gz, 0, none⟩ = some (.slice none 0 0) := xz.at 0
    have z1 : World.cell? _ ⟨gz, 1, none⟩ = some (.slice none 0 0) := xz.at 1
    go_simp
    replace BD := below_put2 (g := gz) BD hgz (.slice Ab tubB.m cb) (.slice Bb tubB.n db)
    have xq := xz.put2 (.slice Ab tubB.m cb) (.slice Bb tubB.n db)
    replace hz := hz.put2 xz (.slice Ab tubB.m cb) (.slice Bb tubB.n db)
    clear xz f0 f1 z0 z1
    refine hK.out _ _ (by exact ⟨mv BD rfl o0, mv BD rfl o1, mv BD rfl o2, mv BD rfl p0, mv BD rfl p1, mv BD rfl p2⟩) (fun hHeldtb4 => ?_)
    clear hK K hHeldtb3
    try simp only [Act.put]
    rotate_left
    go_simp
    have hgs : wd.heap.size ≤ wd.heap.size := BD.size
    have b := below_alloc wd (.cells #[.slice none 0 0, .slice none 0 0] 25)
    have xz := Blk.new wd #[.slice none 0 0, .slice none 0 0] 25
    replace BD := below_next BD BD.size b rfl rfl rfl rfl
    clear b
    generalize wd.alloc (.cells #[.slice none 0 0, .slice none 0 0] 25) = ub at *
    generalize hgq : wd.heap.size = gz at xz ⊢
    have hgz : wd.heap.size ≤ gz := by omega
    clear hgq hgs
    refine hK.out _ _ (by exact ⟨mv BD rfl o0, mv BD rfl o1, mv BD rfl o2, mv BD rfl p0, mv BD rfl p1, mv BD rfl p2⟩) (fun hHeldtb1 => ?_)
    clear hK K hHeldtb0
    try simp only [Act.put]
    refine wpAnyT_ready (rs := [3]) (by kernel_rfl) (by simp) ?_
    refine AllReadyT.cons (o := _) rfl (fun K hK => ?_) (AllReadyT.nil)
    go_simp
    refine (show Calls _ _ _ _ (GivI ⟨qTwo, qTwo⟩ _) from iof_any (a := qTwo) (mv BD rfl R2) (by omega)).mono ?_
    rintro en uc ⟨A5, n5, c5, A6, n6, c6, rfl, h5, h6, b⟩
    replace BD := below_next BD BD.size b (by rfl) (by rfl) (by rfl) (by rfl)
    replace xz := mv b (by rfl) xz
    clear b
    try dsimp only
    refine hK.out _ _ (by exact ⟨mv BD rfl o0, mv BD rfl o1, mv BD rfl o2, mv BD rfl p0, mv BD rfl p1, mv BD rfl p2⟩) (fun hHeldtb2 => ?_)
    clear hK K hHeldtb1
    try simp only [Act.put]
    refine wpAnyT_ready (rs := [4]) (by kernel_rfl) (by simp) ?_
    refine AllReadyT.cons (o := _) rfl (fun K hK => ?_) (AllReadyT.nil)
    go_simp
    refine (show Calls _ _ _ _ (TellT 0 tubB _) from by
      have h := tmake_any HK.out (mv BD rfl hT) (mv BD rfl R1) (mv BD rfl R2) h5 h6
      rw [(make_B HK.out).1, (make_B HK.out).2] at h
      exact h).mono ?_
    rintro en ud ⟨Ab, cb, Bb, db, rfl, hz, b⟩
    replace BD := below_next BD BD.size b (by rfl) (by rfl) (by rfl) (by rfl)
    replace xz := mv b (by rfl) xz
    clear b h5 h6
    try dsimp only
    refine hK.out _ _ (by exact ⟨mv BD rfl o0, mv BD rfl o1, mv BD rfl o2, mv BD rfl p0, mv BD rfl p1, mv BD rfl p2⟩) (fun hHeldtb3 => ?_)
    clear hK K hHeldtb2
    try simp only [Act.put]
    refine wpAnyT_take (i := 5) (v := ?tb22v5) rfl (by kernel_rfl) (by kernel_rfl) (by kernel_rfl) (by kernel_rfl) (by kernel_rfl) (by kernel_rfl) (fun _ _ _ h => panic_put (P := Tryd.prog) (fn := Tryd.f9) (R := (Bools true w)) h) (Or.inl ⟨by rfl, ?tb22y5⟩) (by assumption) ?_
    case tb22y5 => (intro w hSw; (try dsimp only at hSw); go_simp); try with_reducible rfl
    change wpAnyT _ _ _ _ _ _ _ _ (Act.put _ (some 29) _) _
    simp only [Act.put, List.setIfInBounds_toArray, List.set_cons_zero, List.set_cons_succ]
    refine wpAnyT_take (i := 6) (v := ?tb23v6) rfl (by kernel_rfl) (by kernel_rfl) (by kernel_rfl) (by kernel_rfl) (by kernel_rfl) (by kernel_rfl) (fun _ _ _ h => panic_put (P := Tryd.prog) (fn := Tryd.f9) (R := (Bools true w)) h) (Or.inl ⟨by rfl, ?tb23y6⟩) (by assumption) ?_
    case tb23y6 => (intro w hSw; (try dsimp only at hSw); go_simp); try with_reducible rfl
    change wpAnyT _ _ _ _ _ _ _ _ (Act.put _ (some 35) _) _
    simp only [Act.put, List.setIfInBounds_toArray, List.set_cons_zero, List.set_cons_succ]
    refine wpAnyT_take (i := 7) (v := ?tb24v7) rfl (by kernel_rfl) (by kernel_rfl) (by kernel_rfl) (by kernel_rfl) (by kernel_rfl) (by kernel_rfl) (fun _ _ _ h => panic_put (P := Tryd.prog) (fn := Tryd.f9) (R := (Bools true w)) h) (Or.inl ⟨by rfl, ?tb24y7⟩) (by assumption) ?_
    case tb24y7 => (intro w hSw; (try dsimp only at hSw); go_simp); try with_reducible rfl
    change wpAnyT _ _ _ _ _ _ _ _ (Act.put _ (some 36) _) _
    simp only [Act.put, List.setIfInBounds_toArray, List.set_cons_zero, List.set_cons_succ]
    refine wpAnyT_ready (rs := [9]) (by kernel_rfl) (by simp) ?_
    refine AllReadyT.cons (o := _) rfl (fun K hK => ?_) (AllReadyT.nil)
    obtain ⟨f0, f1⟩ := (show _ ∧ _ from ⟨xz.frozen 0, xz.frozen 1⟩)
    have z0 : World.cell? _ ⟨gz, 0, none⟩ = some (.slice none 0 0) := xz.at 0
    have z1 : World.cell? _ ⟨gz, 1, none⟩ = some (.slice none 0 0) := xz.at 1
    go_simp
    replace BD := below_put2 (g := gz) BD hgz (.slice Ab tubB.m cb) (.slice Bb tubB.n db)
    have xq := xz.put2 (.slice Ab tubB.m cb) (.slice Bb tubB.n db)
    replace hz := hz.put2 xz (.slice Ab tubB.m cb) (.slice Bb tubB.n db)
    clear xz f0 f1 z0 z1
    refine hK.out _ _ (by exact ⟨mv BD rfl o0, mv BD rfl o1, mv BD rfl o2, mv BD rfl p0, mv BD rfl p1, mv BD rfl p2⟩) (fun hHeldtb4 => ?_)
    clear hK K hHeldtb3
    try simp only [Act.put]
    rotate_left
    all_goals (
      clear hHeldtb4
      refine wpAnyT_ready (rs := [10]) (by kernel_rfl) (by simp) ?_
      refine AllReadyT.consB (o := _) rfl (by kernel_rfl) (fun K hK => ?_) AllReadyT.nil
      go_simp
      refine hK.out _ _ ?_
      clear hK K
      try simp only [Act.put]
      refine wpAnyT_done (by kernel_rfl) ?_ _
      go_wp2
      go_meet
      case rel => exact ⟨gz, _, _, _, _, rfl, rfl, xq, hz, below_next b9 b9.size BD rfl rfl rfl rfl⟩)
  case rest =>
  obtain ⟨gb, Ab, cb, Bb, db, rfl, rfl, xb, hb, b⟩ := hcut
  replace BB := bnx BB b rfl rfl rfl rfl
  have G := mv b rfl (J12 hT R1 R2 o0 o1 o2 p0 p1 p2 ha ka0 ka1)
  clear hT R1 R2 o0 o1 o2 p0 p1 p2 ha ka0 ka1
  obtain ⟨hT, R1, R2, o0, o1, o2, p0, p1, p2, ha, ka0, ka1⟩ := G
  clear b
  generalize wc = W3 at *
  have kb0 : World.cell? _ ⟨_, 0, none⟩ = some (.slice Ab tubB.m cb) := xb.at 0
  have kb1 : World.cell? _ ⟨_, 1, none⟩ = some (.slice Bb tubB.n db) := xb.at 1
  clear xb
  go_wp2_with fail
  refine (show Calls _ _ _ _ (TellT 0 tubC _) from by have h := tjoin_any HK.out hT ha hb (by decide) (by decide); rw [(join_C HK.out).1, (join_C HK.out).2] at h; exact h).mono ?_
  rintro en w4 ⟨Ac, cc, Bc, dc, rfl, hc, b⟩
  replace BB := bnx BB b rfl rfl rfl rfl
  have G := mv b rfl (J15 hT R1 R2 o0 o1 o2 p0 p1 p2 ha ka0 ka1 hb kb0 kb1)
  clear hT R1 R2 o0 o1 o2 p0 p1 p2 ha ka0 ka1 hb kb0 kb1
  obtain ⟨hT, R1, R2, o0, o1, o2, p0, p1, p2, ha, ka0, ka1, hb, kb0, kb1⟩ := G
  clear b
  have b := below_alloc w4 (.cells #[.slice Ac tubC.m cc, .slice Bc tubC.n dc] 25)
  have xc := Blk.new w4 #[.slice Ac tubC.m cc, .slice Bc tubC.n dc] 25
  replace BB := bnx BB b rfl rfl rfl rfl
  have G := mv b rfl (J16 hT R1 R2 o0 o1 o2 p0 p1 p2 ha ka0 ka1 hb kb0 kb1 hc)
  clear hT R1 R2 o0 o1 o2 p0 p1 p2 ha ka0 ka1 hb kb0 kb1 hc
  obtain ⟨hT, R1, R2, o0, o1, o2, p0, p1, p2, ha, ka0, ka1, hb, kb0, kb1, hc⟩ := G
  clear b
  go_upto_region 5 with fail
  generalize w4.alloc (.cells #[.slice Ac tubC.m cc, .slice Bc tubC.n dc] 25) = W4 at *
  generalize w4.heap.size = gc at *
  have kc0 : World.cell? _ ⟨_, 0, none⟩ = some (.slice Ac tubC.m cc) := xc.at 0
  have kc1 : World.cell? _ ⟨_, 1, none⟩ = some (.slice Bc tubC.n dc) := xc.at 1
  clear xc
  go_wp2_with fail
  refine (show Calls _ _ #[_, .agg #[.bool q1.s, .slice (some ⟨w.heap.size, 0, none⟩) 1 1, .int .i64 q1.e]] _ (TellI 0 ⟨q1, qTwo⟩ _) from by have h := tat_any HK.out hT hc R1; rw [(over_C1 HK.out).1, (over_C1 HK.out).2] at h; exact h).mono ?_
  rintro en w5 ⟨Ay, ny, cy, By, my, dy, rfl, ry, sy, b⟩
  replace BB := bnx BB b rfl rfl rfl rfl
  have G := mv b rfl (J18 hT R1 R2 o0 o1 o2 p0 p1 p2 ha ka0 ka1 hb kb0 kb1 hc kc0 kc1)
  clear hT R1 R2 o0 o1 o2 p0 p1 p2 ha ka0 ka1 hb kb0 kb1 hc kc0 kc1
  obtain ⟨hT, R1, R2, o0, o1, o2, p0, p1, p2, ha, ka0, ka1, hb, kb0, kb1, hc, kc0, kc1⟩ := G
  clear b
  have b := below_alloc w5 (.cells #[.bool (⟨q1, qTwo⟩ : Iv).lo.s, .slice Ay ny cy, .int .i64 (⟨q1, qTwo⟩ : Iv).lo.e, .bool (⟨q1, qTwo⟩ : Iv).hi.s, .slice By my dy, .int .i64 (⟨q1, qTwo⟩ : Iv).hi.e] 35)
  have xy := Blk.new w5 #[.bool (⟨q1, qTwo⟩ : Iv).lo.s, .slice Ay ny cy, .int .i64 (⟨q1, qTwo⟩ : Iv).lo.e, .bool (⟨q1, qTwo⟩ : Iv).hi.s, .slice By my dy, .int .i64 (⟨q1, qTwo⟩ : Iv).hi.e] 35
  replace BB := bnx BB b rfl rfl rfl rfl
  have G := mv b rfl (J20 hT R1 R2 o0 o1 o2 p0 p1 p2 ha ka0 ka1 hb kb0 kb1 hc kc0 kc1 ry sy)
  clear hT R1 R2 o0 o1 o2 p0 p1 p2 ha ka0 ka1 hb kb0 kb1 hc kc0 kc1 ry sy
  obtain ⟨hT, R1, R2, o0, o1, o2, p0, p1, p2, ha, ka0, ka1, hb, kb0, kb1, hc, kc0, kc1, ry, sy⟩ := G
  clear b
  go_upto_region 6 with fail
  generalize w5.alloc (.cells #[.bool (⟨q1, qTwo⟩ : Iv).lo.s, .slice Ay ny cy, .int .i64 (⟨q1, qTwo⟩ : Iv).lo.e, .bool (⟨q1, qTwo⟩ : Iv).hi.s, .slice By my dy, .int .i64 (⟨q1, qTwo⟩ : Iv).hi.e] 35) = W5 at *
  generalize w5.heap.size = gy at *
  have ky0 : World.cell? _ ⟨_, 0, none⟩ = some (.bool (⟨q1, qTwo⟩ : Iv).lo.s) := xy.at 0
  have ky1 : World.cell? _ ⟨_, 1, none⟩ = some (.slice Ay ny cy) := xy.at 1
  have ky2 : World.cell? _ ⟨_, 2, none⟩ = some (.int .i64 (⟨q1, qTwo⟩ : Iv).lo.e) := xy.at 2
  have ky3 : World.cell? _ ⟨_, 3, none⟩ = some (.bool (⟨q1, qTwo⟩ : Iv).hi.s) := xy.at 3
  have ky4 : World.cell? _ ⟨_, 4, none⟩ = some (.slice By my dy) := xy.at 4
  have ky5 : World.cell? _ ⟨_, 5, none⟩ = some (.int .i64 (⟨q1, qTwo⟩ : Iv).hi.e) := xy.at 5
  clear xy
  go_wp2_with fail
  have b := below_alloc W5 (.cells #[.int .u64 3] 52)
  have R3 : Rd (W5.alloc (.cells #[.int .u64 3] 52)) .u64 Go.Proofs.YtkpcmgfpmekkjaaDoor.W (some ⟨W5.heap.size, 0, none⟩) 1 1 q3.l := (nt_one_at (w := W5) (v := 3) rfl (by omega) (by omega)).rd
  replace BB := bnx BB b rfl rfl rfl rfl
  have G := mv b rfl (J26 hT R1 R2 o0 o1 o2 p0 p1 p2 ha ka0 ka1 hb kb0 kb1 hc kc0 kc1 ry sy ky0 ky1 ky2 ky3 ky4 ky5)
  clear hT R1 R2 o0 o1 o2 p0 p1 p2 ha ka0 ka1 hb kb0 kb1 hc kc0 kc1 ry sy ky0 ky1 ky2 ky3 ky4 ky5
  obtain ⟨hT, R1, R2, o0, o1, o2, p0, p1, p2, ha, ka0, ka1, hb, kb0, kb1, hc, kc0, kc1, ry, sy, ky0, ky1, ky2, ky3, ky4, ky5⟩ := G
  clear b
  refine (show Calls _ _ #[_, .agg #[.bool q3.s, .slice (some ⟨W5.heap.size, 0, none⟩) 1 1, .int .i64 q3.e]] _ (TellI 5 Iv.zero _) from by have h := tat_any HK.out hT hc R3; rw [overI_no (by rw [over_C3 HK.out]; decide), over_C3 HK.out] at h; exact h).mono ?_
  rintro en w6 ⟨Au, nu, cu, Bu, mu, du, rfl, ru, su, b⟩
  replace BB := bnx BB b rfl rfl rfl rfl
  have G := mv b rfl (J26 hT R1 R2 o0 o1 o2 p0 p1 p2 ha ka0 ka1 hb kb0 kb1 hc kc0 kc1 ry sy ky0 ky1 ky2 ky3 ky4 ky5)
  clear hT R1 R2 o0 o1 o2 p0 p1 p2 ha ka0 ka1 hb kb0 kb1 hc kc0 kc1 ry sy ky0 ky1 ky2 ky3 ky4 ky5
  obtain ⟨hT, R1, R2, o0, o1, o2, p0, p1, p2, ha, ka0, ka1, hb, kb0, kb1, hc, kc0, kc1, ry, sy, ky0, ky1, ky2, ky3, ky4, ky5⟩ := G
  clear b
  have b := below_alloc w6 (.cells #[.bool Iv.zero.lo.s, .slice Au nu cu, .int .i64 Iv.zero.lo.e, .bool Iv.zero.hi.s, .slice Bu mu du, .int .i64 Iv.zero.hi.e] 35)
  have xu := Blk.new w6 #[.bool Iv.zero.lo.s, .slice Au nu cu, .int .i64 Iv.zero.lo.e, .bool Iv.zero.hi.s, .slice Bu mu du, .int .i64 Iv.zero.hi.e] 35
  replace BB := bnx BB b rfl rfl rfl rfl
  have G := mv b rfl (J28 hT R1 R2 o0 o1 o2 p0 p1 p2 ha ka0 ka1 hb kb0 kb1 hc kc0 kc1 ry sy ky0 ky1 ky2 ky3 ky4 ky5 ru su)
  clear hT R1 R2 o0 o1 o2 p0 p1 p2 ha ka0 ka1 hb kb0 kb1 hc kc0 kc1 ry sy ky0 ky1 ky2 ky3 ky4 ky5 ru su
  obtain ⟨hT, R1, R2, o0, o1, o2, p0, p1, p2, ha, ka0, ka1, hb, kb0, kb1, hc, kc0, kc1, ry, sy, ky0, ky1, ky2, ky3, ky4, ky5, ru, su⟩ := G
  clear b
  go_upto_region 7 with fail
  generalize w6.alloc (.cells #[.bool Iv.zero.lo.s, .slice Au nu cu, .int .i64 Iv.zero.lo.e, .bool Iv.zero.hi.s, .slice Bu mu du, .int .i64 Iv.zero.hi.e] 35) = W6 at *
  generalize w6.heap.size = gu at *
  have ku0 : World.cell? _ ⟨_, 0, none⟩ = some (.bool Iv.zero.lo.s) := xu.at 0
  have ku1 : World.cell? _ ⟨_, 1, none⟩ = some (.slice Au nu cu) := xu.at 1
  have ku2 : World.cell? _ ⟨_, 2, none⟩ = some (.int .i64 Iv.zero.lo.e) := xu.at 2
  have ku3 : World.cell? _ ⟨_, 3, none⟩ = some (.bool Iv.zero.hi.s) := xu.at 3
  have ku4 : World.cell? _ ⟨_, 4, none⟩ = some (.slice Bu mu du) := xu.at 4
  have ku5 : World.cell? _ ⟨_, 5, none⟩ = some (.int .i64 Iv.zero.hi.e) := xu.at 5
  clear xu
  clear ru su ku0 ku1 ku2 ku3 ku4 ku5 R3
  go_wp2_with fail
  refine (show Calls _ _ _ _ (TellT 0 tubD _) from by have h := thalve_any (kf := fun _ => 0) (M := midC) HK.out hT hc (tubC_may HK.out) (by decide) (mid_C HK.out) (fun _ => mayT_ends (tubD_part HK.out).may); rw [firstE_zero.2 fun _ _ => rfl, if_pos rfl] at h; exact h).mono ?_
  rintro en w7 ⟨Ad, cd, Bd, dd, rfl, hd, b⟩
  replace BB := bnx BB b rfl rfl rfl rfl
  have G := mv b rfl (J26 hT R1 R2 o0 o1 o2 p0 p1 p2 ha ka0 ka1 hb kb0 kb1 hc kc0 kc1 ry sy ky0 ky1 ky2 ky3 ky4 ky5)
  clear hT R1 R2 o0 o1 o2 p0 p1 p2 ha ka0 ka1 hb kb0 kb1 hc kc0 kc1 ry sy ky0 ky1 ky2 ky3 ky4 ky5
  obtain ⟨hT, R1, R2, o0, o1, o2, p0, p1, p2, ha, ka0, ka1, hb, kb0, kb1, hc, kc0, kc1, ry, sy, ky0, ky1, ky2, ky3, ky4, ky5⟩ := G
  clear b
  have b := below_alloc w7 (.cells #[.slice Ad tubD.m cd, .slice Bd tubD.n dd] 25)
  have xd := Blk.new w7 #[.slice Ad tubD.m cd, .slice Bd tubD.n dd] 25
  replace BB := bnx BB b rfl rfl rfl rfl
  have G := mv b rfl (J27 hT R1 R2 o0 o1 o2 p0 p1 p2 ha ka0 ka1 hb kb0 kb1 hc kc0 kc1 ry sy ky0 ky1 ky2 ky3 ky4 ky5 hd)
  clear hT R1 R2 o0 o1 o2 p0 p1 p2 ha ka0 ka1 hb kb0 kb1 hc kc0 kc1 ry sy ky0 ky1 ky2 ky3 ky4 ky5 hd
  obtain ⟨hT, R1, R2, o0, o1, o2, p0, p1, p2, ha, ka0, ka1, hb, kb0, kb1, hc, kc0, kc1, ry, sy, ky0, ky1, ky2, ky3, ky4, ky5, hd⟩ := G
  clear b
  go_upto_region 8 with fail
  generalize w7.alloc (.cells #[.slice Ad tubD.m cd, .slice Bd tubD.n dd] 25) = W7 at *
  generalize w7.heap.size = gd at *
  have kd0 : World.cell? _ ⟨_, 0, none⟩ = some (.slice Ad tubD.m cd) := xd.at 0
  have kd1 : World.cell? _ ⟨_, 1, none⟩ = some (.slice Bd tubD.n dd) := xd.at 1
  clear xd
  go_cut [15, 16] (fun v15 v16 wc => ∃ (ge : Nat) (Ae : Option Addr) (ce : Nat) (Be : Option Addr) (de : Nat), v15 = .pointer (some ⟨ge, 0, none⟩) ∧ v16 = .int .i64 1 ∧ Blk wc ge #[.slice Ae Tb.zero.m ce, .slice Be Tb.zero.n de] 25 ∧ RdTb wc Ae ce Be de Tb.zero ∧ Below W7.heap.size W7 wc)
  case first =>
    have b9 : Below W7.heap.size W7 (World.drew W7) := below_drewN (Below.refl _ _) 1
    have G := mv b9 rfl (J29 hT R1 R2 o0 o1 o2 p0 p1 p2 ha ka0 ka1 hb kb0 kb1 hc kc0 kc1 ry sy ky0 ky1 ky2 ky3 ky4 ky5 hd kd0 kd1)
    clear hT R1 R2 o0 o1 o2 p0 p1 p2 ha ka0 ka1 hb kb0 kb1 hc kc0 kc1 ry sy ky0 ky1 ky2 ky3 ky4 ky5 hd kd0 kd1
    obtain ⟨hT, R1, R2, o0, o1, o2, p0, p1, p2, ha, ka0, ka1, hb, kb0, kb1, hc, kc0, kc1, ry, sy, ky0, ky1, ky2, ky3, ky4, ky5, hd, kd0, kd1⟩ := G
    refine wp_region_upto (S := fun w' => w'.cell? ⟨w.heap.size + 2, 0, none⟩ = some (.bool false) ∧ w'.cell? ⟨w.heap.size + 2, 1, none⟩ = some (.slice (some ⟨w.heap.size, 0, none⟩) 1 1) ∧ w'.cell? ⟨w.heap.size + 2, 2, none⟩ = some (.int .i64 0)) 10 (by kernel_rfl) (by exact ⟨o0, o1, o2⟩) (fun hHeldte0 => ?_)
    generalize World.drew W7 = wd at *
    have BD := Below.refl wd.heap.size wd
    refine wpAnyT_take (i := 0) (v := ?te25v0) rfl (by kernel_rfl) (by kernel_rfl) (by kernel_rfl) (by kernel_rfl) (by kernel_rfl) (by kernel_rfl) (fun _ _ _ h => panic_put (P := Tryd.prog) (fn := Tryd.f9) (R := (Bools true w)) h) (Or.inl ⟨by rfl, ?te25y0⟩) (by assumption) ?_
    case te25y0 => (intro w hSw; (try dsimp only at hSw); go_simp); try with_reducible rfl
    change wpAnyT _ _ _ _ _ _ _ _ (Act.put _ (some 62) _) _
    simp only [Act.put, List.setIfInBounds_toArray, List.set_cons_zero, List.set_cons_succ]
    refine wpAnyT_take (i := 1) (v := ?te26v1) rfl (by kernel_rfl) (by kernel_rfl) (by kernel_rfl) (by kernel_rfl) (by kernel_rfl) (by kernel_rfl) (fun _ _ _ h => panic_put (P := Tryd.prog) (fn := Tryd.f9) (R := (Bools true w)) h) (Or.inl ⟨by rfl, ?te26y1⟩) (by assumption) ?_
    case te26y1 => (intro w hSw; (try dsimp only at hSw); go_simp); try with_reducible rfl
    change wpAnyT _ _ _ _ _ _ _ _ (Act.put _ (some 63) _) _
    simp only [Act.put, List.setIfInBounds_toArray, List.set_cons_zero, List.set_cons_succ]
    refine wpAnyT_take (i := 2) (v := ?te27v2) rfl (by kernel_rfl) (by kernel_rfl) (by kernel_rfl) (by kernel_rfl) (by kernel_rfl) (by kernel_rfl) (fun _ _ _ h => panic_put (P := Tryd.prog) (fn := Tryd.f9) (R := (Bools true w)) h) (Or.inl ⟨by rfl, ?te27y2⟩) (by assumption) ?_
    case te27y2 => (intro w hSw; (try dsimp only at hSw); go_simp); try with_reducible rfl
    change wpAnyT _ _ _ _ _ _ _ _ (Act.put _ (some 64) _) _
    simp only [Act.put, List.setIfInBounds_toArray, List.set_cons_zero, List.set_cons_succ]
    refine wpAnyT_ready (rs := [3, 8]) (by kernel_rfl) (by simp) ?_
    refine AllReadyT.cons (o := _) rfl (fun K hK => ?_) (AllReadyT.cons (o := _) rfl (fun K hK => ?_) (AllReadyT.nil))
    go_simp
    refine (show Calls _ _ _ _ (GivI ⟨q1, q1⟩ _) from iof_any (a := q1) (mv BD rfl R1) (by omega)).mono ?_
    rintro en ub ⟨A5, n5, c5, A6, n6, c6, rfl, h5, h6, b⟩
    replace BD := below_next BD BD.size b (by rfl) (by rfl) (by rfl) (by rfl)
    clear b
    try dsimp only
    refine hK.out _ _ (by exact ⟨mv BD rfl o0, mv BD rfl o1, mv BD rfl o2⟩) (fun hHeldte1 => ?_)
    clear hK K hHeldte0
    try simp only [Act.put]
    refine wpAnyT_ready (rs := [4, 8]) (by kernel_rfl) (by simp) ?_
    refine AllReadyT.cons (o := _) rfl (fun K hK => ?_) (AllReadyT.cons (o := _) rfl (fun K hK => ?_) (AllReadyT.nil))
    go_simp
    refine (show Calls _ _ _ _ (TellT 1 Tb.zero _) from by
      have h := tmake_any HK.out (mv BD rfl hT) (mv BD rfl R1) (mv BD rfl R1) h5 h6
      rw [(make_no (K := KS)).1, (make_no (K := KS)).2] at h
      exact h).mono ?_
    rintro en uc ⟨Ae, ce, Be, de, rfl, hz, b⟩
    replace BD := below_next BD BD.size b (by rfl) (by rfl) (by rfl) (by rfl)
    clear b h5 h6
    try dsimp only
    refine hK.out _ _ (by exact ⟨mv BD rfl o0, mv BD rfl o1, mv BD rfl o2⟩) (fun hHeldte2 => ?_)
    clear hK K hHeldte1
    try simp only [Act.put]
    refine wpAnyT_take (i := 5) (v := ?te28v5) rfl (by kernel_rfl) (by kernel_rfl) (by kernel_rfl) (by kernel_rfl) (by kernel_rfl) (by kernel_rfl) (fun _ _ _ h => panic_put (P := Tryd.prog) (fn := Tryd.f9) (R := (Bools true w)) h) (Or.inl ⟨by rfl, ?te28y5⟩) (by assumption) ?_
    case te28y5 => (intro w hSw; (try dsimp only at hSw); go_simp); try with_reducible rfl
    change wpAnyT _ _ _ _ _ _ _ _ (Act.put _ (some 61) _) _
    simp only [Act.put, List.setIfInBounds_toArray, List.set_cons_zero, List.set_cons_succ]
    refine wpAnyT_take (i := 6) (v := ?te29v6) rfl (by kernel_rfl) (by kernel_rfl) (by kernel_rfl) (by kernel_rfl) (by kernel_rfl) (by kernel_rfl) (fun _ _ _ h => panic_put (P := Tryd.prog) (fn := Tryd.f9) (R := (Bools true w)) h) (Or.inl ⟨by rfl, ?te29y6⟩) (by assumption) ?_
    case te29y6 => (intro w hSw; (try dsimp only at hSw); go_simp); try with_reducible rfl
    change wpAnyT _ _ _ _ _ _ _ _ (Act.put _ (some 67) _) _
    simp only [Act.put, List.setIfInBounds_toArray, List.set_cons_zero, List.set_cons_succ]
    refine wpAnyT_take (i := 7) (v := ?te30v7) rfl (by kernel_rfl) (by kernel_rfl) (by kernel_rfl) (by kernel_rfl) (by kernel_rfl) (by kernel_rfl) (fun _ _ _ h => panic_put (P := Tryd.prog) (fn := Tryd.f9) (R := (Bools true w)) h) (Or.inl ⟨by rfl, ?te30y7⟩) (by assumption) ?_
    case te30y7 => (intro w hSw; (try dsimp only at hSw); go_simp); try with_reducible rfl
    change wpAnyT _ _ _ _ _ _ _ _ (Act.put _ (some 68) _) _
    simp only [Act.put, List.setIfInBounds_toArray, List.set_cons_zero, List.set_cons_succ]
    refine wpAnyT_ready (rs := [8]) (by kernel_rfl) (by simp) ?_
    refine AllReadyT.cons (o := _) rfl (fun K hK => ?_) (AllReadyT.nil)
    go_simp
    have hgs : wd.heap.size ≤ uc.heap.size := BD.size
    have b := below_alloc uc (.cells #[.slice none 0 0, .slice none 0 0] 25)
    have xz := Blk.new uc #[.slice none 0 0, .slice none 0 0] 25
    replace BD := below_next BD BD.size b rfl rfl rfl rfl
    replace hz := mv b (by rfl) hz
    clear b
    generalize uc.alloc (.cells #[.slice none 0 0, .slice none 0 0] 25) = ud at *
    generalize hgq : uc.heap.size = gz at xz ⊢
    have hgz : wd.heap.size ≤ gz := by omega
    clear hgq hgs
    refine hK.out _ _ (by exact ⟨mv BD rfl o0, mv BD rfl o1, mv BD rfl o2⟩) (fun hHeldte3 => ?_)
    clear hK K hHeldte2
    try simp only [Act.put]
    refine wpAnyT_ready (rs := [9]) (by kernel_rfl) (by simp) ?_
    refine AllReadyT.cons (o := _) rfl (fun K hK => ?_) (AllReadyT.nil)
    obtain ⟨f0, f1⟩ := (show _ ∧ _ from ⟨xz.frozen 0, xz.frozen 1⟩)
    have z0 : World.cell? _ ⟨gz, 0, none⟩ = some (.slice none 0 0) := xz.at 0
    have z1 : World.cell? _ ⟨gz, 1, none⟩ = some (.slice none 0 0) := xz.at 1
    go_simp
    replace BD := below_put2 (g := gz) BD hgz (.slice Ae Tb.zero.m ce) (.slice Be Tb.zero.n de)
    have xq := xz.put2 (.slice Ae Tb.zero.m ce) (.slice Be Tb.zero.n de)
    replace hz := hz.put2 xz (.slice Ae Tb.zero.m ce) (.slice Be Tb.zero.n de)
    clear xz f0 f1 z0 z1
    refine hK.out _ _ (by exact ⟨mv BD rfl o0, mv BD rfl o1, mv BD rfl o2⟩) (fun hHeldte4 => ?_)
    clear hK K hHeldte3
    try simp only [Act.put]
    rotate_left
    go_simp
    have hgs : wd.heap.size ≤ ub.heap.size := BD.size
    have b := below_alloc ub (.cells #[.slice none 0 0, .slice none 0 0] 25)
    have xz := Blk.new ub #[.slice none 0 0, .slice none 0 0] 25
    replace BD := below_next BD BD.size b rfl rfl rfl rfl
    have G := mv b (by rfl) <| And.intro h5 <| h6
    clear h5 h6
    obtain ⟨h5, h6⟩ := G
    clear b
    generalize ub.alloc (.cells #[.slice none 0 0, .slice none 0 0] 25) = uc at *
    generalize hgq : ub.heap.size = gz at xz ⊢
    have hgz : wd.heap.size ≤ gz := by omega
    clear hgq hgs
    refine hK.out _ _ (by exact ⟨mv BD rfl o0, mv BD rfl o1, mv BD rfl o2⟩) (fun hHeldte2 => ?_)
    clear hK K hHeldte1
    try simp only [Act.put]
    refine wpAnyT_ready (rs := [4]) (by kernel_rfl) (by simp) ?_
    refine AllReadyT.cons (o := _) rfl (fun K hK => ?_) (AllReadyT.nil)
    go_simp
    refine (show Calls _ _ _ _ (TellT 1 Tb.zero _) from by
      have h := tmake_any HK.out (mv BD rfl hT) (mv BD rfl R1) (mv BD rfl R1) h5 h6
      rw [(make_no (K := KS)).1, (make_no (K := KS)).2] at h
      exact h).mono ?_
    rintro en ud ⟨Ae, ce, Be, de, rfl, hz, b⟩
    replace BD := below_next BD BD.size b (by rfl) (by rfl) (by rfl) (by rfl)
    replace xz := mv b (by rfl) xz
    clear b h5 h6
    try dsimp only
    refine hK.out _ _ (by exact ⟨mv BD rfl o0, mv BD rfl o1, mv BD rfl o2⟩) (fun hHeldte3 => ?_)
    clear hK K hHeldte2
    try simp only [Act.put]
    refine wpAnyT_take (i := 5) (v := ?te31v5) rfl (by kernel_rfl) (by kernel_rfl) (by kernel_rfl) (by kernel_rfl) (by kernel_rfl) (by kernel_rfl) (fun _ _ _ h => panic_put (P := Tryd.prog) (fn := Tryd.f9) (R := (Bools true w)) h) (Or.inl ⟨by rfl, ?te31y5⟩) (by assumption) ?_
    case te31y5 => (intro w hSw; (try dsimp only at hSw); go_simp); try with_reducible rfl
    change wpAnyT _ _ _ _ _ _ _ _ (Act.put _ (some 61) _) _
    simp only [Act.put, List.setIfInBounds_toArray, List.set_cons_zero, List.set_cons_succ]
    refine wpAnyT_take (i := 6) (v := ?te32v6) rfl (by kernel_rfl) (by kernel_rfl) (by kernel_rfl) (by kernel_rfl) (by kernel_rfl) (by kernel_rfl) (fun _ _ _ h => panic_put (P := Tryd.prog) (fn := Tryd.f9) (R := (Bools true w)) h) (Or.inl ⟨by rfl, ?te32y6⟩) (by assumption) ?_
    case te32y6 => (intro w hSw; (try dsimp only at hSw); go_simp); try with_reducible rfl
    change wpAnyT _ _ _ _ _ _ _ _ (Act.put _ (some 67) _) _
    simp only [Act.put, List.setIfInBounds_toArray, List.set_cons_zero, List.set_cons_succ]
    refine wpAnyT_take (i := 7) (v := ?te33v7) rfl (by kernel_rfl) (by kernel_rfl) (by kernel_rfl) (by kernel_rfl) (by kernel_rfl) (by kernel_rfl) (fun _ _ _ h => panic_put (P := Tryd.prog) (fn := Tryd.f9) (R := (Bools true w)) h) (Or.inl ⟨by rfl, ?te33y7⟩) (by assumption) ?_
    case te33y7 => (intro w hSw; (try dsimp only at hSw); go_simp); try with_reducible rfl
    change wpAnyT _ _ _ _ _ _ _ _ (Act.put _ (some 68) _) _
    simp only [Act.put, List.setIfInBounds_toArray, List.set_cons_zero, List.set_cons_succ]
    refine wpAnyT_ready (rs := [9]) (by kernel_rfl) (by simp) ?_
    refine AllReadyT.cons (o := _) rfl (fun K hK => ?_) (AllReadyT.nil)
    obtain ⟨f0, f1⟩ := (show _ ∧ _ from ⟨xz.frozen 0, xz.frozen 1⟩)
    have z0 : World.cell? _ ⟨gz, 0, none⟩ = some (.slice none 0 0) := xz.at 0
    have z1 : World.cell? _ ⟨gz, 1, none⟩ = some (.slice none 0 0) := xz.at 1
    go_simp
    replace BD := below_put2 (g := gz) BD hgz (.slice Ae Tb.zero.m ce) (.slice Be Tb.zero.n de)
    have xq := xz.put2 (.slice Ae Tb.zero.m ce) (.slice Be Tb.zero.n de)
    replace hz := hz.put2 xz (.slice Ae Tb.zero.m ce) (.slice Be Tb.zero.n de)
    clear xz f0 f1 z0 z1
    refine hK.out _ _ (by exact ⟨mv BD rfl o0, mv BD rfl o1, mv BD rfl o2⟩) (fun hHeldte4 => ?_)
    clear hK K hHeldte3
    try simp only [Act.put]
    rotate_left
    go_simp
    have hgs : wd.heap.size ≤ wd.heap.size := BD.size
    have b := below_alloc wd (.cells #[.slice none 0 0, .slice none 0 0] 25)
    have xz := Blk.new wd #[.slice none 0 0, .slice none 0 0] 25
    replace BD := below_next BD BD.size b rfl rfl rfl rfl
    clear b
    generalize wd.alloc (.cells #[.slice none 0 0, .slice none 0 0] 25) = ub at *
    generalize hgq : wd.heap.size = gz at xz ⊢
    have hgz : wd.heap.size ≤ gz := by omega
    clear hgq hgs
    refine hK.out _ _ (by exact ⟨mv BD rfl o0, mv BD rfl o1, mv BD rfl o2⟩) (fun hHeldte1 => ?_)
    clear hK K hHeldte0
    try simp only [Act.put]
    refine wpAnyT_ready (rs := [3]) (by kernel_rfl) (by simp) ?_
    refine AllReadyT.cons (o := _) rfl (fun K hK => ?_) (AllReadyT.nil)
    go_simp
    refine (show Calls _ _ _ _ (GivI ⟨q1, q1⟩ _) from iof_any (a := q1) (mv BD rfl R1) (by omega)).mono ?_
    rintro en uc ⟨A5, n5, c5, A6, n6, c6, rfl, h5, h6, b⟩
    replace BD := below_next BD BD.size b (by rfl) (by rfl) (by rfl) (by rfl)
    replace xz := mv b (by rfl) xz
    clear b
    try dsimp only
    refine hK.out _ _ (by exact ⟨mv BD rfl o0, mv BD rfl o1, mv BD rfl o2⟩) (fun hHeldte2 => ?_)
    clear hK K hHeldte1
    try simp only [Act.put]
    refine wpAnyT_ready (rs := [4]) (by kernel_rfl) (by simp) ?_
    refine AllReadyT.cons (o := _) rfl (fun K hK => ?_) (AllReadyT.nil)
    go_simp
    refine (show Calls _ _ _ _ (TellT 1 Tb.zero _) from by
      have h := tmake_any HK.out (mv BD rfl hT) (mv BD rfl R1) (mv BD rfl R1) h5 h6
      rw [(make_no (K := KS)).1, (make_no (K := KS)).2] at h
      exact h).mono ?_
    rintro en ud ⟨Ae, ce, Be, de, rfl, hz, b⟩
    replace BD := below_next BD BD.size b (by rfl) (by rfl) (by rfl) (by rfl)
    replace xz := mv b (by rfl) xz
    clear b h5 h6
    try dsimp only
    refine hK.out _ _ (by exact ⟨mv BD rfl o0, mv BD rfl o1, mv BD rfl o2⟩) (fun hHeldte3 => ?_)
    clear hK K hHeldte2
    try simp only [Act.put]
    refine wpAnyT_take (i := 5) (v := ?te34v5) rfl (by kernel_rfl) (by kernel_rfl) (by kernel_rfl) (by kernel_rfl) (by kernel_rfl) (by kernel_rfl) (fun _ _ _ h => panic_put (P := Tryd.prog) (fn := Tryd.f9) (R := (Bools true w)) h) (Or.inl ⟨by rfl, ?te34y5⟩) (by assumption) ?_
    case te34y5 => (intro w hSw; (try dsimp only at hSw); go_simp); try with_reducible rfl
    change wpAnyT _ _ _ _ _ _ _ _ (Act.put _ (some 61) _) _
    simp only [Act.put, List.setIfInBounds_toArray, List.set_cons_zero, List.set_cons_succ]
    refine wpAnyT_take (i := 6) (v := ?te35v6) rfl (by kernel_rfl) (by kernel_rfl) (by kernel_rfl) (by kernel_rfl) (by kernel_rfl) (by kernel_rfl) (fun _ _ _ h => panic_put (P := Tryd.prog) (fn := Tryd.f9) (R := (Bools true w)) h) (Or.inl ⟨by rfl, ?te35y6⟩) (by assumption) ?_
    case te35y6 => (intro w hSw; (try dsimp only at hSw); go_simp); try with_reducible rfl
    change wpAnyT _ _ _ _ _ _ _ _ (Act.put _ (some 67) _) _
    simp only [Act.put, List.setIfInBounds_toArray, List.set_cons_zero, List.set_cons_succ]
    refine wpAnyT_take (i := 7) (v := ?te36v7) rfl (by kernel_rfl) (by kernel_rfl) (by kernel_rfl) (by kernel_rfl) (by kernel_rfl) (by kernel_rfl) (fun _ _ _ h => panic_put (P := Tryd.prog) (fn := Tryd.f9) (R := (Bools true w)) h) (Or.inl ⟨by rfl, ?te36y7⟩) (by assumption) ?_
    case te36y7 => (intro w hSw; (try dsimp only at hSw); go_simp); try with_reducible rfl
    change wpAnyT _ _ _ _ _ _ _ _ (Act.put _ (some 68) _) _
    simp only [Act.put, List.setIfInBounds_toArray, List.set_cons_zero, List.set_cons_succ]
    refine wpAnyT_ready (rs := [9]) (by kernel_rfl) (by simp) ?_
    refine AllReadyT.cons (o := _) rfl (fun K hK => ?_) (AllReadyT.nil)
    obtain ⟨f0, f1⟩ := (show _ ∧ _ from ⟨xz.frozen 0, xz.frozen 1⟩)
    have z0 : World.cell? _ ⟨gz, 0, none⟩ = some (.slice none 0 0) := xz.at 0
    have z1 : World.cell? _ ⟨gz, 1, none⟩ = some (.slice none 0 0) := xz.at 1
    go_simp
    replace BD := below_put2 (g := gz) BD hgz (.slice Ae Tb.zero.m ce) (.slice Be Tb.zero.n de)
    have xq := xz.put2 (.slice Ae Tb.zero.m ce) (.slice Be Tb.zero.n de)
    replace hz := hz.put2 xz (.slice Ae Tb.zero.m ce) (.slice Be Tb.zero.n de)
    clear xz f0 f1 z0 z1
    refine hK.out _ _ (by exact ⟨mv BD rfl o0, mv BD rfl o1, mv BD rfl o2⟩) (fun hHeldte4 => ?_)
    clear hK K hHeldte3
    try simp only [Act.put]
    rotate_left
    all_goals (
      clear hHeldte4
      refine wpAnyT_ready (rs := [10]) (by kernel_rfl) (by simp) ?_
      refine AllReadyT.consB (o := _) rfl (by kernel_rfl) (fun K hK => ?_) AllReadyT.nil
      go_simp
      refine hK.out _ _ ?_
      clear hK K
      try simp only [Act.put]
      refine wpAnyT_done (by kernel_rfl) ?_ _
      go_wp2
      go_meet
      case rel => exact ⟨gz, _, _, _, _, rfl, rfl, xq, hz, below_next b9 b9.size BD rfl rfl rfl rfl⟩)
  case rest =>
  obtain ⟨ge, Ae, ce, Be, de, rfl, rfl, xe, he, b⟩ := hcut
  replace BB := bnx BB b rfl rfl rfl rfl
  have G := mv b rfl (J29 hT R1 R2 o0 o1 o2 p0 p1 p2 ha ka0 ka1 hb kb0 kb1 hc kc0 kc1 ry sy ky0 ky1 ky2 ky3 ky4 ky5 hd kd0 kd1)
  clear hT R1 R2 o0 o1 o2 p0 p1 p2 ha ka0 ka1 hb kb0 kb1 hc kc0 kc1 ry sy ky0 ky1 ky2 ky3 ky4 ky5 hd kd0 kd1
  obtain ⟨hT, R1, R2, o0, o1, o2, p0, p1, p2, ha, ka0, ka1, hb, kb0, kb1, hc, kc0, kc1, ry, sy, ky0, ky1, ky2, ky3, ky4, ky5, hd, kd0, kd1⟩ := G
  clear b
  generalize wc = W8 at *
  have ke0 : World.cell? _ ⟨_, 0, none⟩ = some (.slice Ae Tb.zero.m ce) := xe.at 0
  have ke1 : World.cell? _ ⟨_, 1, none⟩ = some (.slice Be Tb.zero.n de) := xe.at 1
  clear xe
  have hd4 : (tubD.n : Int) = 4 := rfl
  have HV1 : sameB q1.s q1.s q1.l q1.l q1.e q1.e = true := sameQ_iff.2 (rfl : q1 = q1)
  have HV2 : sameB qTwo.s qTwo.s qTwo.l qTwo.l qTwo.e qTwo.e = true := sameQ_iff.2 (rfl : qTwo = qTwo)
  have HVV := Lib.hid (And.intro HV1 HV2)
  clear HV1 HV2
  go_wp2_with fail
  refine (dsame_raw (s := q1.s) (t := q1.s) (e := q1.e) (f := q1.e) ry R1).mono ?_
  rintro en w9 ⟨rfl, b⟩
  rw [HVV.out.1]
  replace BB := bnx BB b rfl rfl rfl rfl
  have G := mv b rfl (J32 hT R1 R2 o0 o1 o2 p0 p1 p2 ha ka0 ka1 hb kb0 kb1 hc kc0 kc1 ry sy ky0 ky1 ky2 ky3 ky4 ky5 hd kd0 kd1 he ke0 ke1)
  clear hT R1 R2 o0 o1 o2 p0 p1 p2 ha ka0 ka1 hb kb0 kb1 hc kc0 kc1 ry sy ky0 ky1 ky2 ky3 ky4 ky5 hd kd0 kd1 he ke0 ke1
  obtain ⟨hT, R1, R2, o0, o1, o2, p0, p1, p2, ha, ka0, ka1, hb, kb0, kb1, hc, kc0, kc1, ry, sy, ky0, ky1, ky2, ky3, ky4, ky5, hd, kd0, kd1, he, ke0, ke1⟩ := G
  clear b
  go_wp2_with fail
  refine (dsame_raw (s := qTwo.s) (t := qTwo.s) (e := qTwo.e) (f := qTwo.e) sy R2).mono ?_
  rintro en w10 ⟨rfl, b⟩
  rw [HVV.out.2]
  replace BB := bnx BB b rfl rfl rfl rfl
  have G := mv b rfl (J32 hT R1 R2 o0 o1 o2 p0 p1 p2 ha ka0 ka1 hb kb0 kb1 hc kc0 kc1 ry sy ky0 ky1 ky2 ky3 ky4 ky5 hd kd0 kd1 he ke0 ke1)
  clear hT R1 R2 o0 o1 o2 p0 p1 p2 ha ka0 ka1 hb kb0 kb1 hc kc0 kc1 ry sy ky0 ky1 ky2 ky3 ky4 ky5 hd kd0 kd1 he ke0 ke1
  obtain ⟨hT, R1, R2, o0, o1, o2, p0, p1, p2, ha, ka0, ka1, hb, kb0, kb1, hc, kc0, kc1, ry, sy, ky0, ky1, ky2, ky3, ky4, ky5, hd, kd0, kd1, he, ke0, ke1⟩ := G
  clear b
  go_wp2_with fail
  refine (twithin_any HK.out hT hc hd).mono ?_
  rintro en w11 ⟨rfl, b⟩
  rw [within_CD HK.out]
  replace BB := bnx BB b rfl rfl rfl rfl
  have G := mv b rfl (J32 hT R1 R2 o0 o1 o2 p0 p1 p2 ha ka0 ka1 hb kb0 kb1 hc kc0 kc1 ry sy ky0 ky1 ky2 ky3 ky4 ky5 hd kd0 kd1 he ke0 ke1)
  clear hT R1 R2 o0 o1 o2 p0 p1 p2 ha ka0 ka1 hb kb0 kb1 hc kc0 kc1 ry sy ky0 ky1 ky2 ky3 ky4 ky5 hd kd0 kd1 he ke0 ke1
  obtain ⟨hT, R1, R2, o0, o1, o2, p0, p1, p2, ha, ka0, ka1, hb, kb0, kb1, hc, kc0, kc1, ry, sy, ky0, ky1, ky2, ky3, ky4, ky5, hd, kd0, kd1, he, ke0, ke1⟩ := G
  clear b
  go_wp2_with fail
  refine (twithin_any HK.out hT hd hc).mono ?_
  rintro en w12 ⟨rfl, b⟩
  rw [within_DC HK.out]
  replace BB := bnx BB b rfl rfl rfl rfl
  have G := mv b rfl (J32 hT R1 R2 o0 o1 o2 p0 p1 p2 ha ka0 ka1 hb kb0 kb1 hc kc0 kc1 ry sy ky0 ky1 ky2 ky3 ky4 ky5 hd kd0 kd1 he ke0 ke1)
  clear hT R1 R2 o0 o1 o2 p0 p1 p2 ha ka0 ka1 hb kb0 kb1 hc kc0 kc1 ry sy ky0 ky1 ky2 ky3 ky4 ky5 hd kd0 kd1 he ke0 ke1
  obtain ⟨hT, R1, R2, o0, o1, o2, p0, p1, p2, ha, ka0, ka1, hb, kb0, kb1, hc, kc0, kc1, ry, sy, ky0, ky1, ky2, ky3, ky4, ky5, hd, kd0, kd1, he, ke0, ke1⟩ := G
  clear b
  go_wp2_with fail
  refine (tinside_any HK.out hT hc hd).mono ?_
  rintro en w13 ⟨rfl, b⟩
  rw [inside_CD HK.out]
  replace BB := bnx BB b rfl rfl rfl rfl
  have G := mv b rfl (J32 hT R1 R2 o0 o1 o2 p0 p1 p2 ha ka0 ka1 hb kb0 kb1 hc kc0 kc1 ry sy ky0 ky1 ky2 ky3 ky4 ky5 hd kd0 kd1 he ke0 ke1)
  clear hT R1 R2 o0 o1 o2 p0 p1 p2 ha ka0 ka1 hb kb0 kb1 hc kc0 kc1 ry sy ky0 ky1 ky2 ky3 ky4 ky5 hd kd0 kd1 he ke0 ke1
  obtain ⟨hT, R1, R2, o0, o1, o2, p0, p1, p2, ha, ka0, ka1, hb, kb0, kb1, hc, kc0, kc1, ry, sy, ky0, ky1, ky2, ky3, ky4, ky5, hd, kd0, kd1, he, ke0, ke1⟩ := G
  clear b
  go_wp2_with fail
  refine (tmayt_any HK.out hT hc).mono ?_
  rintro en w14 ⟨rfl, b⟩
  rw [mayTb_iff.2 (tubC_may HK.out)]
  replace BB := bnx BB b rfl rfl rfl rfl
  have G := mv b rfl (J32 hT R1 R2 o0 o1 o2 p0 p1 p2 ha ka0 ka1 hb kb0 kb1 hc kc0 kc1 ry sy ky0 ky1 ky2 ky3 ky4 ky5 hd kd0 kd1 he ke0 ke1)
  clear hT R1 R2 o0 o1 o2 p0 p1 p2 ha ka0 ka1 hb kb0 kb1 hc kc0 kc1 ry sy ky0 ky1 ky2 ky3 ky4 ky5 hd kd0 kd1 he ke0 ke1
  obtain ⟨hT, R1, R2, o0, o1, o2, p0, p1, p2, ha, ka0, ka1, hb, kb0, kb1, hc, kc0, kc1, ry, sy, ky0, ky1, ky2, ky3, ky4, ky5, hd, kd0, kd1, he, ke0, ke1⟩ := G
  clear b
  go_wp2_with fail
  refine (show Calls _ _ #[.agg #[.slice none 0 0, .slice none 0 0]] _ (Bools (mayTb KS Tb.zero) _) from tmayt_any HK.out hT (rdtb_zero _)).mono ?_
  rintro en w15 ⟨rfl, b⟩
  rw [may_zero_t]
  replace BB := bnx BB b rfl rfl rfl rfl
  have G := mv b rfl (J32 hT R1 R2 o0 o1 o2 p0 p1 p2 ha ka0 ka1 hb kb0 kb1 hc kc0 kc1 ry sy ky0 ky1 ky2 ky3 ky4 ky5 hd kd0 kd1 he ke0 ke1)
  clear hT R1 R2 o0 o1 o2 p0 p1 p2 ha ka0 ka1 hb kb0 kb1 hc kc0 kc1 ry sy ky0 ky1 ky2 ky3 ky4 ky5 hd kd0 kd1 he ke0 ke1
  obtain ⟨hT, R1, R2, o0, o1, o2, p0, p1, p2, ha, ka0, ka1, hb, kb0, kb1, hc, kc0, kc1, ry, sy, ky0, ky1, ky2, ky3, ky4, ky5, hd, kd0, kd1, he, ke0, ke1⟩ := G
  clear b
  go_wp2
  go_ret
  exact ⟨by first | rfl | simp, BB⟩

end Go.Proofs.YtkpcmgfpmekkjaaDoor
