/-
 Contract of the statement SlopeMean's function: it returns true, whatever its arguments, at this translation. Condition: the slice reads as numbers, the table of math/bits reads as its text lays it.
-/
import Derived.StillTailTactics
import Derived.Deep.CutBlock
import Derived.Test.YtlpjlmophlikeaaGreatDoorPGw
set_option maxHeartbeats 8000000
set_option maxRecDepth 100000
namespace Go.Proofs.YtlpjlmophlikeaaGreatDoor
open Go.RowKit

/-- a root, an end, as the statement reckons it from a number -/
theorem root_in (z : Int) : -8 ≤ wrap64 (wrap64 ((IntKind.u64.wrap z).tmod 17) - 8) ∧ wrap64 (wrap64 ((IntKind.u64.wrap z).tmod 17) - 8) ≤ 8 := by
 rw [IntKind.wrap_u64]
 unfold wrap64
 have : 0 ≤ z % 18446744073709551616 := Int.emod_nonneg _ (by decide)
 rw [Int.tmod_eq_emod_of_nonneg this]
 omega
theorem end_in (z : Int) : -16 ≤ wrap64 (wrap64 ((IntKind.u64.wrap z).tmod 33) - 16) ∧ wrap64 (wrap64 ((IntKind.u64.wrap z).tmod 33) - 16) ≤ 16 := by
 rw [IntKind.wrap_u64]
 unfold wrap64
 have : 0 ≤ z % 18446744073709551616 := Int.emod_nonneg _ (by decide)
 rw [Int.tmod_eq_emod_of_nonneg this]
 omega
/-- the two ends as they lie, the lesser one first -/
def EndsW (S : Sc) (w6 : World) (g7 g8 : Nat) (wc : World) : Prop := ∃ (za zb : Int) (qa qb : Rw) (A1 : Option Addr) (n1 c1 : Nat) (A2 : Option Addr) (n2 c2 : Nat), za ≤ zb ∧ za.natAbs ≤ 16 ∧ zb.natAbs ≤ 16 ∧ At S 3 za qa ∧ At S 3 zb qb ∧ Box wc g7 qa.s A1 n1 c1 qa.e ∧ Box wc g8 qb.s A2 n2 c2 qb.e ∧ Rd wc .u64 Go.Proofs.YtlpjlmophlikeaaGreatDoor.W A1 n1 c1 qa.l ∧ Rd wc .u64 Go.Proofs.YtlpjlmophlikeaaGreatDoor.W A2 n2 c2 qb.l ∧ Below w6.heap.size w6 wc
theorem ends_swap {S : Sc} {w6 w9 : World} {g7 g8 : Nat} {za zb : Int} {qa qb : Rw} {A1 : Option Addr} {n1 c1 : Nat} {A2 : Option Addr} {n2 c2 : Nat} (h : zb ≤ za) (ha : za.natAbs ≤ 16) (hb : zb.natAbs ≤ 16) (e1 : At S 3 za qa) (e2 : At S 3 zb qb) (xa : Box w9 g7 qa.s A1 n1 c1 qa.e) (xb : Box w9 g8 qb.s A2 n2 c2 qb.e) (r1 : Rd w9 .u64 Go.Proofs.YtlpjlmophlikeaaGreatDoor.W A1 n1 c1 qa.l) (r2 : Rd w9 .u64 Go.Proofs.YtlpjlmophlikeaaGreatDoor.W A2 n2 c2 qb.l) (BB : Below w6.heap.size w6 w9) (h7 : w6.heap.size ≤ g7) (h8 : g7 < g8) :
  EndsW S w6 g7 g8 ((((((w9.setCell ⟨g7, 0, none⟩ (.bool qb.s)).setCell ⟨g7, 1, none⟩ (.slice A2 n2 c2)).setCell ⟨g7, 2, none⟩ (.int .i64 qb.e)).setCell ⟨g8, 0, none⟩ (.bool qa.s)).setCell ⟨g8, 1, none⟩ (.slice A1 n1 c1)).setCell ⟨g8, 2, none⟩ (.int .i64 qa.e)) := by
 have ya := xa.put qb.s A2 n2 c2 qb.e
 have yb := xb.put3 (g := g7) (by omega) (.bool qb.s) (.slice A2 n2 c2) (.int .i64 qb.e)
 have s1 := r1.put3 xa (.bool qb.s) (.slice A2 n2 c2) (.int .i64 qb.e)
 have s2 := r2.put3 xa (.bool qb.s) (.slice A2 n2 c2) (.int .i64 qb.e)
 exact ⟨zb, za, qb, qa, A2, n2, c2, A1, n1, c1, h, hb, ha, e2, e1, ya.put3 (g := g8) (by omega) _ _ _, yb.put qa.s A1 n1 c1 qa.e, s2.put3 yb _ _ _, s1.put3 yb _ _ _, below_put3 (below_put3 BB h7 _ _ _) (by omega) _ _ _⟩
theorem MeaT.plain {k : Nat} {L : Nat → Ln} {d : Nat → Rw} (h : MeaT k L d) : ∀ i, i < 3 * k + 1 → (L i).op ≤ 8 := fun i hi => by
 rcases (show i = 0 ∨ ∃ q, q < k ∧ (i = 3 * q + 1 ∨ i = 3 * q + 2 ∨ i = 3 * q + 3) from by
  by_cases h0 : i = 0
  ·exact .inl h0
  ·exact .inr ⟨(i - 1) / 3, by omega, by omega⟩) with rfl | ⟨q, hq, rfl | rfl | rfl⟩
 ·rw [h.z]; exact (by decide : (3 : Int) ≤ 8)
 ·rw [h.c q hq]; exact (by decide : (1 : Int) ≤ 8)
 ·rw [h.s q hq]; exact (by decide : (7 : Int) ≤ 8)
 ·rw [h.m q hq]; exact (by decide : (8 : Int) ≤ 8)
theorem cmp_le0 {x y : Int} (h : x ≤ y) : cmpV x y ≤ 0 := by
 unfold cmpV
 by_cases c : x < y
 ·rw [if_pos c]; decide
 ·rw [if_neg c, if_pos (by omega)]; decide
theorem cmp_le {x y : Int} (h : x ≤ y) : ¬ 0 < cmpV x y := by
 unfold cmpV
 by_cases c : x < y
 ·rw [if_pos c]; decide
 ·rw [if_neg c, if_pos (by omega)]; decide

theorem slopemean_any {w : World} {Ar : Option Addr} {nr cr : Nat} {Z : Nat → Int} {av bv p : Int} (hT : Tab w) (hr : RdZ w Ar nr cr Z) :
  Calls Tryz.prog 3 #[.slice Ar nr cr, .int .i64 av, .int .i64 bv, .int .i64 p] w (Bools true w) := by
 obtain ⟨S⟩ := sc_has
 have h1 : (nr : Int) ≤ 9223372036854775807 := by have := hr.cap; have := hr.max; omega
 have MW := mean_start w
 go_enter Tryz.func3, Tryz.ntmps3
 by_cases hn5 : 5 < nr
 ·have hn5' : (5 : Int) < (nr : Int) := by omega
  go_wp2_with fail
  refine (told10_any hT).mono ?_
  rintro en w99 ⟨rfl, b⟩
  go_wp2
  go_ret
  exact ⟨by first | rfl | simp, b⟩
 ·have hn5' : ¬ (5 : Int) < (nr : Int) := by omega
  have hn6 : (nr : Int) ≤ 5 := by omega
  go_wp2
  go_loopg [11, 12] nr (fun gk v11 v12 wr => ∃ (i a3 : Nat) (AL : Option Addr) (nL cL : Nat) (D : List Rw) (Ls : List Ln), i + gk = nr ∧ v12 = .int .i64 i ∧ v11 = .int .i64 (a3 : Int) ∧ MeanW w wr (.slice AL nL cL) Ls ∧ Hid (D.length = i ∧ Ls.length = nL ∧ MeaP D Ls ∧ a3 = 3 * i ∧ nL = a3 + 1 ∧ ∀ a ∈ D, ∃ z : Int, At S 3 z a ∧ z.natAbs ≤ 8))
  case atStart => exact ⟨0, 0, _, _, _, [], _, by omega, rfl, rfl, MW, Lib.hid ⟨rfl, rfl, meap_nil, rfl, rfl, (fun a ha => by cases ha)⟩⟩
  case round =>
   clear MW
   obtain ⟨i, a3, AL, nL, cL, D, Ls, hg, rfl, rfl, MW, HP⟩ := hrel
   have HG := Lib.hid hg
   clear hg
   have hT0 := hT
   replace hT := mv MW.below rfl hT
   by_cases hi : i < nr
   ·have hi2 : (i : Int) < (nr : Int) := by omega
    have hi3 : (0 : Int) ≤ (i : Int) := by omega
    have HZ := root_in (Z i)
    obtain ⟨gl, ol, hal, hcl⟩ := (mv MW.below rfl hr).at_ (by omega)
    have cl0 := hcl i (by omega)
    clear hcl
    subst hal
    go_wp2_with fail
    refine (of_is S hT (by omega)).mono ?_
    rintro en w1 ⟨qd, A1, n1, c1, rfl, r1, e1, b⟩
    replace MW := MW.go b
    clear b cl0 hT
    have hkL : ∀ q, (Value.slice AL nL cL).ownBlock = some q → q < w1.heap.size := fun q e => (GRow.lt MW.L q e).2
    have hw1 := MW.big
    have b := below_alloc w1 (.cells #[.bool qd.s, .slice A1 n1 c1, .int .i64 qd.e] 27)
    obtain ⟨p0, p1, p2⟩ := (Box.new w1 qd.s A1 n1 c1 qd.e).held
    replace MW := MW.go b
    replace r1 := mv b rfl r1
    clear b
    have zz : n1 ≤ 10000000000000 := len_at r1 (may_small e1.1)
    skip
    have t0 : World.cell? _ ⟨_, 0, none⟩ = some (.slice AL nL cL) := MW.tape.at 0
    go_upto_region 13 with fail
    generalize w1.alloc (.cells #[.bool qd.s, .slice A1 n1 c1, .int .i64 qd.e] 27) = W1 at *
    generalize w1.heap.size = g1 at *
    have hnb : nL ≤ 40 := by have := HP.out.2.2.2.1; have := HP.out.2.2.2.2.1; omega
    have hw2 : IntKind.i64.wrap ((nL : Int) + 1) = (nL : Int) + 1 := IntWalk.i64_in _ (by omega)
    go_cut [70] from 47 to 85 (fun v70 wz => ∃ (A8 : Option Addr) (c8 : Nat), MeanW w wz (.slice A8 (nL + 3) c8) (Ls ++ [⟨1, 0, 0, ptI qd⟩, ⟨7, 0, (nL : Int), Iv.zero⟩, ⟨8, (a3 : Int), (nL : Int) + 1, Iv.zero⟩]))
    case first =>
     have b : Below W1.heap.size W1 (World.drew W1) := below_drewN (Below.refl _ _) 1
     replace MW := MW.go b
     have G := mv b (by rfl) <| And.intro p0 <| And.intro p1 <| And.intro p2 <| And.intro r1 <| t0
     clear p0 p1 p2 r1 t0
     obtain ⟨p0, p1, p2, r1, t0⟩ := G
     clear b
     refine wp_region_held_drew (S := fun w' => w'.cell? ⟨g1, 0, none⟩ = some (.bool qd.s) ∧ w'.cell? ⟨g1, 1, none⟩ = some (.slice A1 n1 c1) ∧ w'.cell? ⟨g1, 2, none⟩ = some (.int .i64 qd.e)) (by kernel_rfl) (by exact ⟨p0, p1, p2⟩) (fun hHeldx0 => ?_)
     generalize World.drew W1 = wd at *
     refine tl 0 ?_
     refine tl 2 ?_
     refine tl 5 ?_
     refine tl 6 ?_
     refine tl 7 ?_
     refine tl 8 ?_
     refine wpAnyH_take (i := 9) (v := ?x7v9) rfl (by kernel_rfl) (by kernel_rfl) (by kernel_rfl) (fun _ _ _ h => panic_put (P := Tryz.prog) (fn := Tryz.f3) (R := (Bools true w)) h) (Or.inl ⟨by rfl, ?x7y9⟩) (by assumption) ?_
     case x7y9 => (intro w hSw; (try dsimp only at hSw); go_simp; (try simp only [hw2])); try with_reducible rfl
     change wpAnyH _ _ _ _ _ _ _ (Act.put _ (some 79) _) _
     simp only [Act.put, List.setIfInBounds_toArray, List.set_cons_zero, List.set_cons_succ]
     refine tl 10 ?_
     refine wpAnyH_ready (rs := [1, 3]) (by kernel_rfl) (by simp) ?_
     refine AllReadyH.cons (o := _) rfl (fun K hK => ?_) (AllReadyH.cons (o := _) rfl (fun K hK => ?_) (AllReadyH.nil))
     go_simp
     refine hK.out _ _ (by exact ⟨p0, p1, p2⟩) (fun hHeldx1 => ?_)
     clear hK K hHeldx0
     try simp only [Act.put]
     refine rdy 3 fun K hK => ?_
     go_simp
     refine (iof_any r1 zz).mono ?_
     rintro en uc ⟨A5, n5, c5, A6, n6, c6, rfl, h5, h6, b⟩
     replace MW := MW.go b
     have G := mv b (by rfl) <| And.intro p0 <| And.intro p1 <| And.intro p2 <| t0
     clear p0 p1 p2 t0
     obtain ⟨p0, p1, p2, t0⟩ := G
     clear b r1
     refine hK.out _ _ (by exact ⟨p0, p1, p2⟩) (fun hHeldx2 => ?_)
     clear hK K hHeldx1
     try simp only
     refine tl 4 ?_
     refine rdy 11 fun K hK => ?_
     go_simp
     have b := below_alloc uc (.cells #[.int .i64 1, .int .i64 0, .int .i64 0, .bool qd.s, .slice A5 n5 c5, .int .i64 qd.e, .bool qd.s, .slice A6 n6 c6, .int .i64 qd.e, .int .i64 7, .int .i64 0, .int .i64 (nL : Int), .bool false, .slice none 0 0, .int .i64 0, .bool false, .slice none 0 0, .int .i64 0, .int .i64 8, .int .i64 (a3 : Int), .int .i64 ((nL : Int) + 1), .bool false, .slice none 0 0, .int .i64 0, .bool false, .slice none 0 0, .int .i64 0] 31)
     have xv := Blk.new uc #[.int .i64 1, .int .i64 0, .int .i64 0, .bool qd.s, .slice A5 n5 c5, .int .i64 qd.e, .bool qd.s, .slice A6 n6 c6, .int .i64 qd.e, .int .i64 7, .int .i64 0, .int .i64 (nL : Int), .bool false, .slice none 0 0, .int .i64 0, .bool false, .slice none 0 0, .int .i64 0, .int .i64 8, .int .i64 (a3 : Int), .int .i64 ((nL : Int) + 1), .bool false, .slice none 0 0, .int .i64 0, .bool false, .slice none 0 0, .int .i64 0] 31
     replace MW := MW.go b
     have G := mv b (by rfl) <| And.intro p0 <| And.intro p1 <| And.intro p2 <| And.intro t0 <| And.intro h5 <| h6
     clear p0 p1 p2 t0 h5 h6
     obtain ⟨p0, p1, p2, t0, h5, h6⟩ := G
     clear b
     generalize uc.alloc (.cells #[.int .i64 1, .int .i64 0, .int .i64 0, .bool qd.s, .slice A5 n5 c5, .int .i64 qd.e, .bool qd.s, .slice A6 n6 c6, .int .i64 qd.e, .int .i64 7, .int .i64 0, .int .i64 (nL : Int), .bool false, .slice none 0 0, .int .i64 0, .bool false, .slice none 0 0, .int .i64 0, .int .i64 8, .int .i64 (a3 : Int), .int .i64 ((nL : Int) + 1), .bool false, .slice none 0 0, .int .i64 0, .bool false, .slice none 0 0, .int .i64 0] 31) = ub at *
     generalize uc.heap.size = gv at *
     refine hK.out _ _ (by exact ⟨p0, p1, p2⟩) (fun hHeldx3 => ?_)
     clear hK K hHeldx2
     try simp only [Act.put]
     rotate_left
     go_simp
     refine (iof_any r1 zz).mono ?_
     rintro en uc ⟨A5, n5, c5, A6, n6, c6, rfl, h5, h6, b⟩
     replace MW := MW.go b
     have G := mv b (by rfl) <| And.intro p0 <| And.intro p1 <| And.intro p2 <| t0
     clear p0 p1 p2 t0
     obtain ⟨p0, p1, p2, t0⟩ := G
     clear b r1
     refine hK.out _ _ (by exact ⟨p0, p1, p2⟩) (fun hHeldx1 => ?_)
     clear hK K hHeldx0
     try simp only
     refine tl 4 ?_
     refine wpAnyH_ready (rs := [1, 11]) (by kernel_rfl) (by simp) ?_
     refine AllReadyH.cons (o := _) rfl (fun K hK => ?_) (AllReadyH.cons (o := _) rfl (fun K hK => ?_) (AllReadyH.nil))
     go_simp
     refine hK.out _ _ (by exact ⟨p0, p1, p2⟩) (fun hHeldx2 => ?_)
     clear hK K hHeldx1
     try simp only [Act.put]
     refine rdy 11 fun K hK => ?_
     go_simp
     have b := below_alloc uc (.cells #[.int .i64 1, .int .i64 0, .int .i64 0, .bool qd.s, .slice A5 n5 c5, .int .i64 qd.e, .bool qd.s, .slice A6 n6 c6, .int .i64 qd.e, .int .i64 7, .int .i64 0, .int .i64 (nL : Int), .bool false, .slice none 0 0, .int .i64 0, .bool false, .slice none 0 0, .int .i64 0, .int .i64 8, .int .i64 (a3 : Int), .int .i64 ((nL : Int) + 1), .bool false, .slice none 0 0, .int .i64 0, .bool false, .slice none 0 0, .int .i64 0] 31)
     have xv := Blk.new uc #[.int .i64 1, .int .i64 0, .int .i64 0, .bool qd.s, .slice A5 n5 c5, .int .i64 qd.e, .bool qd.s, .slice A6 n6 c6, .int .i64 qd.e, .int .i64 7, .int .i64 0, .int .i64 (nL : Int), .bool false, .slice none 0 0, .int .i64 0, .bool false, .slice none 0 0, .int .i64 0, .int .i64 8, .int .i64 (a3 : Int), .int .i64 ((nL : Int) + 1), .bool false, .slice none 0 0, .int .i64 0, .bool false, .slice none 0 0, .int .i64 0] 31
     replace MW := MW.go b
     have G := mv b (by rfl) <| And.intro p0 <| And.intro p1 <| And.intro p2 <| And.intro t0 <| And.intro h5 <| h6
     clear p0 p1 p2 t0 h5 h6
     obtain ⟨p0, p1, p2, t0, h5, h6⟩ := G
     clear b
     generalize uc.alloc (.cells #[.int .i64 1, .int .i64 0, .int .i64 0, .bool qd.s, .slice A5 n5 c5, .int .i64 qd.e, .bool qd.s, .slice A6 n6 c6, .int .i64 qd.e, .int .i64 7, .int .i64 0, .int .i64 (nL : Int), .bool false, .slice none 0 0, .int .i64 0, .bool false, .slice none 0 0, .int .i64 0, .int .i64 8, .int .i64 (a3 : Int), .int .i64 ((nL : Int) + 1), .bool false, .slice none 0 0, .int .i64 0, .bool false, .slice none 0 0, .int .i64 0] 31) = ub at *
     generalize uc.heap.size = gv at *
     refine hK.out _ _ (by exact ⟨p0, p1, p2⟩) (fun hHeldx3 => ?_)
     clear hK K hHeldx2
     try simp only [Act.put]
     rotate_left
     go_simp
     have b := below_alloc uc (.cells #[.int .i64 1, .int .i64 0, .int .i64 0, .bool qd.s, .slice A5 n5 c5, .int .i64 qd.e, .bool qd.s, .slice A6 n6 c6, .int .i64 qd.e, .int .i64 7, .int .i64 0, .int .i64 (nL : Int), .bool false, .slice none 0 0, .int .i64 0, .bool false, .slice none 0 0, .int .i64 0, .int .i64 8, .int .i64 (a3 : Int), .int .i64 ((nL : Int) + 1), .bool false, .slice none 0 0, .int .i64 0, .bool false, .slice none 0 0, .int .i64 0] 31)
     have xv := Blk.new uc #[.int .i64 1, .int .i64 0, .int .i64 0, .bool qd.s, .slice A5 n5 c5, .int .i64 qd.e, .bool qd.s, .slice A6 n6 c6, .int .i64 qd.e, .int .i64 7, .int .i64 0, .int .i64 (nL : Int), .bool false, .slice none 0 0, .int .i64 0, .bool false, .slice none 0 0, .int .i64 0, .int .i64 8, .int .i64 (a3 : Int), .int .i64 ((nL : Int) + 1), .bool false, .slice none 0 0, .int .i64 0, .bool false, .slice none 0 0, .int .i64 0] 31
     replace MW := MW.go b
     have G := mv b (by rfl) <| And.intro p0 <| And.intro p1 <| And.intro p2 <| And.intro t0 <| And.intro h5 <| h6
     clear p0 p1 p2 t0 h5 h6
     obtain ⟨p0, p1, p2, t0, h5, h6⟩ := G
     clear b
     generalize uc.alloc (.cells #[.int .i64 1, .int .i64 0, .int .i64 0, .bool qd.s, .slice A5 n5 c5, .int .i64 qd.e, .bool qd.s, .slice A6 n6 c6, .int .i64 qd.e, .int .i64 7, .int .i64 0, .int .i64 (nL : Int), .bool false, .slice none 0 0, .int .i64 0, .bool false, .slice none 0 0, .int .i64 0, .int .i64 8, .int .i64 (a3 : Int), .int .i64 ((nL : Int) + 1), .bool false, .slice none 0 0, .int .i64 0, .bool false, .slice none 0 0, .int .i64 0] 31) = ub at *
     generalize uc.heap.size = gv at *
     refine hK.out _ _ (by exact ⟨p0, p1, p2⟩) (fun hHeldx2 => ?_)
     clear hK K hHeldx1
     try simp only [Act.put]
     refine rdy 1 fun K hK => ?_
     go_simp
     refine hK.out _ _ (by exact ⟨p0, p1, p2⟩) (fun hHeldx3 => ?_)
     clear hK K hHeldx2
     try simp only [Act.put]
     rotate_left
     all_goals (
      refine rdy 12 fun K hK => ?_
      obtain ⟨v', ua, hr', G1, G2, G3⟩ := appm_run 32 (d := ptI qd) MW.L xv h5 h6 (by rw [HP.out.2.1]; omega) (by have := MW.big; omega)
      obtain ⟨A8, c8, e8, _⟩ := GRow.form G1
      rw [List.length_append, HP.out.2.1] at e8
      simp only [List.length_cons, List.length_nil, Nat.zero_add] at e8
      subst e8
      have MX := MW.lines G1 G2 G3
      have f9 := (MW.tapeAt G2).frozen 0
      have hne : ∀ g, g1 ≤ g → some g ≠ (Value.slice AL nL cL).ownBlock := fun g hg e => by have := hkL _ e.symm; omega
      replace p0 := G2.cell p0 (hne g1 (by omega))
      replace p1 := G2.cell p1 (hne g1 (by omega))
      replace p2 := G2.cell p2 (hne g1 (by omega))
      rw [if_pos (by rfl)]
      unfold Oper.wp execOp
      simp only [List.getElem_toArray, List.getElem_cons_succ, List.getElem_cons_zero, resolve, invoke, builtin, Sem.run_bind, Sem.run_pure, Result.andThen_ok, List.map_toArray, List.map_cons, List.map_nil]
      change Oper.upon _ _ _ _ _ ((Sem.run _ (Builtin.append_ _ _ #[.slice AL nL cL, .slice (some ⟨gv, 0, none⟩) 3 3]) _).andThen _)
      rw [hr']
      clear t0
      have t0 : World.cell? _ ⟨_, 0, none⟩ = some (.slice AL nL cL) := (MW.tapeAt G2).at 0
      go_simp
      clear hr' G1 G2 G3 hne MW h5 h6 xv
      refine hK.out _ _ (by exact ⟨p0, p1, p2⟩) (fun hHeldx4 => ?_)
      clear hK K hHeldx3
      try simp only [Act.put]
      refine tl 13 ?_
      refine rdy 14 fun K hK => ?_
      go_simp
      replace p0 := cell_oth p0 (show g1 ≠ w.heap.size + 1 by omega) 0 (.slice A8 (nL + 3) c8)
      replace p1 := cell_oth p1 (show g1 ≠ w.heap.size + 1 by omega) 0 (.slice A8 (nL + 3) c8)
      replace p2 := cell_oth p2 (show g1 ≠ w.heap.size + 1 by omega) 0 (.slice A8 (nL + 3) c8)
      clear t0 f9
      refine hK.out _ _ (by exact ⟨p0, p1, p2⟩) (fun hHeldx5 => ?_)
      clear hK K hHeldx4
      try simp only [Act.put]
      refine wpAnyH_done (by kernel_rfl) ?_ _
      go_wp2
      go_meet
      case rel => exact ⟨A8, c8, MX⟩)
    case rest =>
     clear p0 p1 p2 r1 t0 MW zz
     obtain ⟨A8, c8, MW⟩ := hcut
     go_wp2_with fail
     go_roundg (gk - 1)
     case measure => have := HG.out; omega
     case rel => exact ⟨i + 1, a3 + 3, A8, nL + 3, c8, D ++ [qd], _, by have := HG.out; omega, by go_num, by have := HP.out.2.2.2.2.1; go_num, MW, Lib.hid ⟨by rw [List.length_append, HP.out.1]; rfl, by rw [List.length_append, HP.out.2.1]; rfl, meap_new HP.out.2.2.1 HP.out.1 HP.out.2.2.2.1 HP.out.2.2.2.2.1, by have := HP.out.2.2.2.1; omega, by have := HP.out.2.2.2.2.1; omega, fun a ha => (List.mem_append.1 ha).elim (HP.out.2.2.2.2.2 a) fun h => by rw [List.mem_singleton.1 h]; exact ⟨_, e1, by omega⟩⟩⟩
   ·have hin : i = nr := by have := HG.out; omega
    subst hin
    have HPN := bits_in p
    have HA := end_in av
    have HB := end_in bv
    have hbg := MW.big
    have b := below_alloc wr (.cells #[.int .i64 (a3 : Int)] 3)
    have xo := Blk.new wr #[.int .i64 (a3 : Int)] 3
    replace MW := MW.go b
    have f9 := MW.tape.frozen 1
    have t1 : World.cell? _ ⟨_, 1, none⟩ = some (.slice none 0 0) := MW.tape.at 1
    have O6 := blk_oth (g2 := w.heap.size + 1) (i := 1) (v := .slice (some ⟨wr.heap.size, 0, none⟩) 1 1) xo (by omega)
    obtain ⟨B6, T6, L6⟩ := MW.outs (v := .slice (some ⟨wr.heap.size, 0, none⟩) 1 1)
    clear MW xo b hT
    obtain ⟨AL', cL', hvL, hRL⟩ := lrow_rd (d := dl) L6
    rw [HP.out.2.1] at hvL hRL
    injection hvL with y1 _ y2
    subst y1 y2
    have hO6 := rdz_one O6
    have t0 : World.cell? _ ⟨_, 0, none⟩ = some (.slice AL nL cL) := T6.at 0
    have t2 : World.cell? _ ⟨_, 1, none⟩ = some (.slice (some ⟨wr.heap.size, 0, none⟩) 1 1) := T6.at 1
    clear O6 T6 L6
    go_upto_region 16 with fail
    generalize (wr.alloc (.cells #[.int .i64 (a3 : Int)] 3)).setCell ⟨w.heap.size + 1, 1, none⟩ (.slice (some ⟨wr.heap.size, 0, none⟩) 1 1) = w6 at *
    generalize wr.heap.size = go at *
    have hT := mv B6 rfl hT0
    clear f9 t1
    go_wp2_with fail
    refine (of_is S hT (by omega)).mono ?_
    rintro en w7 ⟨qa, A1, n1, c1, rfl, r1, e1, BB⟩
    have h7 := BB.size
    have b := below_alloc w7 (.cells #[.bool qa.s, .slice A1 n1 c1, .int .i64 qa.e] 27)
    have xa := Box.new w7 qa.s A1 n1 c1 qa.e
    replace BB := bnx BB b
    replace r1 := mv b rfl r1
    clear b
    have hT7 := mv BB rfl hT
    go_upto_region 17 with fail
    have s7 : w7.heap.size < (w7.alloc (.cells #[.bool qa.s, .slice A1 n1 c1, .int .i64 qa.e] 27)).heap.size := by simp
    generalize w7.alloc (.cells #[.bool qa.s, .slice A1 n1 c1, .int .i64 qa.e] 27) = W7 at *
    generalize w7.heap.size = g7 at *
    go_wp2_with fail
    refine (of_is S hT7 (by omega)).mono ?_
    rintro en w8 ⟨qb, A2, n2, c2, rfl, r2, e2, b⟩
    have h8 := b.size
    replace BB := bnx BB b
    have G := mv b (by rfl) <| And.intro xa <| r1
    clear xa r1
    obtain ⟨xa, r1⟩ := G
    clear b
    have b := below_alloc w8 (.cells #[.bool qb.s, .slice A2 n2 c2, .int .i64 qb.e] 27)
    have xb := Box.new w8 qb.s A2 n2 c2 qb.e
    replace BB := bnx BB b
    have G := mv b (by rfl) <| And.intro xa <| And.intro r1 <| r2
    clear xa r1 r2
    obtain ⟨xa, r1, r2⟩ := G
    clear b hT7
    have hT8 := mv BB rfl hT
    go_upto_region 18 with fail
    have h78 : g7 < w8.heap.size := by omega
    generalize w8.alloc (.cells #[.bool qb.s, .slice A2 n2 c2, .int .i64 qb.e] 27) = W8 at *
    generalize w8.heap.size = g8 at *
    clear s7 h8
    obtain ⟨za, hza⟩ : ∃ z, z = wrap64 (wrap64 ((IntKind.u64.wrap av).tmod 33) - 16) := ⟨_, rfl⟩
    obtain ⟨zb, hzb⟩ : ∃ z, z = wrap64 (wrap64 ((IntKind.u64.wrap bv).tmod 33) - 16) := ⟨_, rfl⟩
    rw [← hza] at e1 HA
    rw [← hzb] at e2 HB
    clear hza hzb
    obtain ⟨k0, k1, k2⟩ := xa.held
    obtain ⟨k3, k4, k5⟩ := xb.held
    go_wp2_with fail
    refine (dcmp_at hT8 r1 r2 e1 e2).mono ?_
    rintro en w9 ⟨rfl, b⟩
    replace BB := bnx BB b
    have G := mv b (by rfl) <| And.intro xa <| And.intro xb <| And.intro r1 <| r2
    clear xa xb r1 r2
    obtain ⟨xa, xb, r1, r2⟩ := G
    clear b k0 k1 k2 k3 k4 k5 hT8
    go_upto_if 116 with fail
    go_cut [117] from 117 to 118 (fun v117 wc => EndsW S w6 g7 g8 wc)
    case first =>
     obtain ⟨k0, k1, k2⟩ := xa.held
     obtain ⟨k3, k4, k5⟩ := xb.held
     obtain ⟨f0, f1, f2⟩ := xa.open
     obtain ⟨f3, f4, f5⟩ := xb.open
     have hg1 : ¬ g7 = g8 := by omega
     have hg2 : ¬ g8 = g7 := by omega
     by_cases c : zb < za
     ·have hc1 : 0 < cmpV za zb := by rw [cmpV_gt c]; decide
      go_wp2
      all_goals (first | (exfalso; omega) | skip)
      go_meet
      case rel => exact ends_swap (by omega) (by omega) (by omega) e1 e2 xa xb r1 r2 BB h7 h78
     ·have hc1 : ¬ 0 < cmpV za zb := cmp_le (by omega)
      go_wp2
      all_goals (first | (exfalso; omega) | skip)
      go_meet
      case rel => exact ⟨za, zb, qa, qb, A1, n1, c1, A2, n2, c2, by omega, by omega, by omega, e1, e2, xa, xb, r1, r2, BB⟩
    case rest =>
     clear xa xb r1 r2 e1 e2 HA HB BB
     obtain ⟨za, zb, qa, qb, A1, n1, c1, A2, n2, c2, hab, HA, HB, e1, e2, xa, xb, r1, r2, BB⟩ := hcut
     obtain ⟨k0, k1, k2⟩ := xa.held
     obtain ⟨k3, k4, k5⟩ := xb.held
     obtain ⟨R, Dv, ca, cb, fa, fb, u, v, hMK⟩ := mean_known (nL := nL) HP.out.2.2.1 HP.out.1 (by omega) HP.out.2.2.2.1 HP.out.2.1 HP.out.2.2.2.2.2 hab HA HB e1 e2 HPN
     have HK := Lib.hid hMK
     have HPX := Lib.hid (show ∀ j, j < nL → (Ls.getD j dl).op ≤ 8 from fun j hj => HP.out.2.2.1.is.plain j (by have := HP.out.2.2.1.len; have := HP.out.2.1; omega))
     clear hMK
     have F := mv BB rfl <| And.intro hT <| And.intro hRL <| And.intro hO6 <| And.intro t0 t2
     obtain ⟨hT1, hRL1, hO1, k6, k7⟩ := F
     have b := below_alloc wc (.cells #[.bool qa.s, .slice A1 n1 c1, .int .i64 qa.e, .bool qb.s, .slice A2 n2 c2, .int .i64 qb.e] 29)
     have xe := Blk.new wc #[.bool qa.s, .slice A1 n1 c1, .int .i64 qa.e, .bool qb.s, .slice A2 n2 c2, .int .i64 qb.e] 29
     replace BB := bnx BB b
     have G := mv b (by rfl) <| And.intro hT1 <| And.intro hRL1 <| And.intro hO1 <| And.intro xa <| And.intro xb <| And.intro r1 <| r2
     clear hT1 hRL1 hO1 xa xb r1 r2
     obtain ⟨hT1, hRL1, hO1, xa, xb, r1, r2⟩ := G
     clear b
     have hE1 := rde_one (I := ⟨qa, qb⟩) xe r1 r2
     go_wp2_with fail
     refine (gradEnd_to HK.out.grad.symm (sgrad_any S hT1 hRL1 hO1 hE1 HPX.out (by show 1 ≤ 900; omega))).mono ?_
     intro en w10 hge
     obtain ⟨v1, Ag, cg, rfl, _, hd, b⟩ := grad_is hge
     replace BB := bnx BB b
     clear hge xe hE1 hT1 hRL1 hO1 k0 k1 k2 k3 k4 k5 k6 k7
     have G := mv b (by rfl) <| And.intro xa <| And.intro xb <| And.intro r1 <| r2
     clear xa xb r1 r2
     obtain ⟨xa, xb, r1, r2⟩ := G
     clear b
     obtain ⟨gd, od, had, hD⟩ := hd.at_ (by decide)
     subst had
     obtain ⟨Bd, cd, hB, hRd⟩ := hD 0 (by decide)
     replace hB : World.cell? w10 ⟨gd, od, none⟩ = some (.slice Bd 1 cd) := hB
     replace hRd : RdS w10 Bd 1 cd (fun k => ([Dv] : List Iv).getD k Iv.zero) := hRd
     clear hD hd
     obtain ⟨gr, og, hBd, hI⟩ := hRd.at_ (by decide)
     subst hBd
     obtain ⟨A3, n3, c3, A4, n4, c4, ⟨x0, x1, x2, x3, x4, x5⟩, r3, r4⟩ := hI 0 (by decide)
     replace x0 : World.cell? w10 ⟨gr, og, none⟩ = some (.bool Dv.lo.s) := x0
     replace x1 : World.cell? w10 ⟨gr, og + 1, none⟩ = some (.slice A3 n3 c3) := x1
     replace x2 : World.cell? w10 ⟨gr, og + 2, none⟩ = some (.int .i64 Dv.lo.e) := x2
     replace x3 : World.cell? w10 ⟨gr, og + 3, none⟩ = some (.bool Dv.hi.s) := x3
     replace x4 : World.cell? w10 ⟨gr, og + 4, none⟩ = some (.slice A4 n4 c4) := x4
     replace x5 : World.cell? w10 ⟨gr, og + 5, none⟩ = some (.int .i64 Dv.hi.e) := x5
     replace r3 : Rd w10 .u64 Go.Proofs.YtlpjlmophlikeaaGreatDoor.W A3 n3 c3 Dv.lo.l := r3
     replace r4 : Rd w10 .u64 Go.Proofs.YtlpjlmophlikeaaGreatDoor.W A4 n4 c4 Dv.hi.l := r4
     clear hI hRd
     go_upto_region 23 with fail
     obtain ⟨k0, k1, k2⟩ := xa.held
     have F := mv BB rfl <| And.intro t0 t2
     obtain ⟨k6, k7⟩ := F
     have zz : n1 ≤ 10000000000000 := len_at r1 (may_small e1.1)
     have b : Below w10.heap.size w10 (World.drew w10) := below_drewN (Below.refl _ _) 1
     replace BB := bnx BB b
     have G := mv b (by rfl) <| And.intro xa <| And.intro xb <| And.intro r1 <| And.intro r2 <| And.intro hB <| And.intro x0 <| And.intro x1 <| And.intro x2 <| And.intro x3 <| And.intro x4 <| And.intro x5 <| And.intro r3 <| And.intro r4 <| And.intro k0 <| And.intro k1 <| And.intro k2 <| And.intro k6 <| k7
     clear xa xb r1 r2 hB x0 x1 x2 x3 x4 x5 r3 r4 k0 k1 k2 k6 k7
     obtain ⟨xa, xb, r1, r2, hB, x0, x1, x2, x3, x4, x5, r3, r4, k0, k1, k2, k6, k7⟩ := G
     clear b
     refine wp_region_held_drew (S := fun w' => w'.cell? ⟨g7, 0, none⟩ = some (.bool qa.s) ∧ w'.cell? ⟨g7, 1, none⟩ = some (.slice A1 n1 c1) ∧ w'.cell? ⟨g7, 2, none⟩ = some (.int .i64 qa.e) ∧ w'.cell? ⟨w.heap.size + 1, 0, none⟩ = some (.slice AL nL cL) ∧ w'.cell? ⟨w.heap.size + 1, 1, none⟩ = some (.slice (some ⟨go, 0, none⟩) 1 1)) (by kernel_rfl) (by exact ⟨k0, k1, k2, k6, k7⟩) (fun hHeldeu0 => ?_)
     generalize World.drew w10 = wd at *
     refine tl 0 ?_
     refine tl 1 ?_
     refine rdy 2 fun K hK => ?_
     go_simp
     refine (iof_any r1 zz).mono ?_
     rintro en z1 ⟨A5, n5, c5, A6, n6, c6, rfl, h5, h6, b9⟩
     replace BB := below_next BB BB.size b9 (by rfl) (by rfl) (by rfl) (by rfl)
     have G := mv b9 (by rfl) <| And.intro xa <| And.intro xb <| And.intro r1 <| And.intro r2 <| And.intro hB <| And.intro x0 <| And.intro x1 <| And.intro x2 <| And.intro x3 <| And.intro x4 <| And.intro x5 <| And.intro r3 <| And.intro r4 <| And.intro k0 <| And.intro k1 <| And.intro k2 <| And.intro k6 <| k7
     clear xa xb r1 r2 hB x0 x1 x2 x3 x4 x5 r3 r4 k0 k1 k2 k6 k7
     obtain ⟨xa, xb, r1, r2, hB, x0, x1, x2, x3, x4, x5, r3, r4, k0, k1, k2, k6, k7⟩ := G
     clear b9
     refine hK.out _ _ (by exact ⟨k0, k1, k2, k6, k7⟩) (fun hHeldeu1 => ?_)
     clear hK K hHeldeu0
     try simp only
     refine rdy 3 fun K hK => ?_
     go_simp
     have b9 := below_alloc z1 (.cells #[.bool qa.s, .slice A5 n5 c5, .int .i64 qa.e, .bool qa.s, .slice A6 n6 c6, .int .i64 qa.e] 29)
     have xe := Blk.new z1 #[.bool qa.s, .slice A5 n5 c5, .int .i64 qa.e, .bool qa.s, .slice A6 n6 c6, .int .i64 qa.e] 29
     replace BB := below_next BB BB.size b9 (by rfl) (by rfl) (by rfl) (by rfl)
     have G := mv b9 (by rfl) <| And.intro xa <| And.intro xb <| And.intro r1 <| And.intro r2 <| And.intro hB <| And.intro x0 <| And.intro x1 <| And.intro x2 <| And.intro x3 <| And.intro x4 <| And.intro x5 <| And.intro r3 <| And.intro r4 <| And.intro k0 <| And.intro k1 <| And.intro k2 <| And.intro k6 <| And.intro k7 <| And.intro h5 <| h6
     clear xa xb r1 r2 hB x0 x1 x2 x3 x4 x5 r3 r4 k0 k1 k2 k6 k7 h5 h6
     obtain ⟨xa, xb, r1, r2, hB, x0, x1, x2, x3, x4, x5, r3, r4, k0, k1, k2, k6, k7, h5, h6⟩ := G
     clear b9
     generalize z1.alloc (.cells #[.bool qa.s, .slice A5 n5 c5, .int .i64 qa.e, .bool qa.s, .slice A6 n6 c6, .int .i64 qa.e] 29) = z2 at *
     generalize z1.heap.size = ge at *
     have hE1 := rde_one (I := ⟨qa, qa⟩) xe h5 h6
     have F := mv BB rfl <| And.intro hT <| And.intro hRL hO6
     obtain ⟨hT1, hRL1, hO1⟩ := F
     clear xe h5 h6
     refine hK.out _ _ (by exact ⟨k0, k1, k2, k6, k7⟩) (fun hHeldeu2 => ?_)
     clear hK K hHeldeu1
     try simp only [Act.put]
     refine tl 4 ?_
     refine rdy 5 fun K hK => ?_
     go_simp
     refine (tellr_to HK.out.ea.symm (teval_any S hT1 hRL1 hO1 hE1 HPX.out)).mono ?_
     rintro en z3 ⟨va, rfl, hrow, b9⟩
     replace BB := below_next BB BB.size b9 (by rfl) (by rfl) (by rfl) (by rfl)
     have G := mv b9 (by rfl) <| And.intro xa <| And.intro xb <| And.intro r1 <| And.intro r2 <| And.intro hB <| And.intro x0 <| And.intro x1 <| And.intro x2 <| And.intro x3 <| And.intro x4 <| And.intro x5 <| And.intro r3 <| And.intro r4 <| And.intro k0 <| And.intro k1 <| And.intro k2 <| And.intro k6 <| k7
     clear xa xb r1 r2 hB x0 x1 x2 x3 x4 x5 r3 r4 k0 k1 k2 k6 k7
     obtain ⟨xa, xb, r1, r2, hB, x0, x1, x2, x3, x4, x5, r3, r4, k0, k1, k2, k6, k7⟩ := G
     clear b9 hT1 hRL1 hO1 hE1
     simp only [okc]
     simp only [oli] at hrow
     obtain ⟨Au, cu, hv9, hRu, _⟩ := hrow.form
     clear hrow
     replace hv9 : va = .slice Au 1 cu := hv9
     replace hRu : RdS z3 Au 1 cu (fun i => ([⟨ca, ca⟩] : List Iv).getD i Iv.zero) := hRu
     subst hv9
     refine hK.out _ _ (by exact ⟨k0, k1, k2, k6, k7⟩) (fun hHeldeu3 => ?_)
     clear hK K hHeldeu2
     try simp only [Act.put]
     refine tl 6 ?_
     refine tl 7 ?_
     refine tl 8 ?_
     refine tl 9 ?_
     refine tl 10 ?_
     refine wpAnyH_done (by kernel_rfl) ?_ _
     clear k0 k1 k2 k6 k7
     generalize z3 = w11 at *
     go_upto_region 24 with fail
     obtain ⟨k0, k1, k2⟩ := xb.held
     have F := mv BB rfl <| And.intro t0 t2
     obtain ⟨k6, k7⟩ := F
     have zz : n2 ≤ 10000000000000 := len_at r2 (may_small e2.1)
     have b : Below w11.heap.size w11 (World.drew w11) := below_drewN (Below.refl _ _) 1
     replace BB := bnx BB b
     have G := mv b (by rfl) <| And.intro xa <| And.intro xb <| And.intro r1 <| And.intro r2 <| And.intro hB <| And.intro x0 <| And.intro x1 <| And.intro x2 <| And.intro x3 <| And.intro x4 <| And.intro x5 <| And.intro r3 <| And.intro r4 <| And.intro hRu <| And.intro k0 <| And.intro k1 <| And.intro k2 <| And.intro k6 <| k7
     clear xa xb r1 r2 hB x0 x1 x2 x3 x4 x5 r3 r4 hRu k0 k1 k2 k6 k7
     obtain ⟨xa, xb, r1, r2, hB, x0, x1, x2, x3, x4, x5, r3, r4, hRu, k0, k1, k2, k6, k7⟩ := G
     clear b
     refine wp_region_held_drew (S := fun w' => w'.cell? ⟨g8, 0, none⟩ = some (.bool qb.s) ∧ w'.cell? ⟨g8, 1, none⟩ = some (.slice A2 n2 c2) ∧ w'.cell? ⟨g8, 2, none⟩ = some (.int .i64 qb.e) ∧ w'.cell? ⟨w.heap.size + 1, 0, none⟩ = some (.slice AL nL cL) ∧ w'.cell? ⟨w.heap.size + 1, 1, none⟩ = some (.slice (some ⟨go, 0, none⟩) 1 1)) (by kernel_rfl) (by exact ⟨k0, k1, k2, k6, k7⟩) (fun hHeldev0 => ?_)
     generalize World.drew w11 = wd at *
     refine tl 0 ?_
     refine tl 1 ?_
     refine rdy 2 fun K hK => ?_
     go_simp
     refine (iof_any r2 zz).mono ?_
     rintro en z1 ⟨A5, n5, c5, A6, n6, c6, rfl, h5, h6, b9⟩
     replace BB := below_next BB BB.size b9 (by rfl) (by rfl) (by rfl) (by rfl)
     have G := mv b9 (by rfl) <| And.intro xa <| And.intro xb <| And.intro r1 <| And.intro r2 <| And.intro hB <| And.intro x0 <| And.intro x1 <| And.intro x2 <| And.intro x3 <| And.intro x4 <| And.intro x5 <| And.intro r3 <| And.intro r4 <| And.intro hRu <| And.intro k0 <| And.intro k1 <| And.intro k2 <| And.intro k6 <| k7
     clear xa xb r1 r2 hB x0 x1 x2 x3 x4 x5 r3 r4 hRu k0 k1 k2 k6 k7
     obtain ⟨xa, xb, r1, r2, hB, x0, x1, x2, x3, x4, x5, r3, r4, hRu, k0, k1, k2, k6, k7⟩ := G
     clear b9
     refine hK.out _ _ (by exact ⟨k0, k1, k2, k6, k7⟩) (fun hHeldev1 => ?_)
     clear hK K hHeldev0
     try simp only
     refine rdy 3 fun K hK => ?_
     go_simp
     have b9 := below_alloc z1 (.cells #[.bool qb.s, .slice A5 n5 c5, .int .i64 qb.e, .bool qb.s, .slice A6 n6 c6, .int .i64 qb.e] 29)
     have xe := Blk.new z1 #[.bool qb.s, .slice A5 n5 c5, .int .i64 qb.e, .bool qb.s, .slice A6 n6 c6, .int .i64 qb.e] 29
     replace BB := below_next BB BB.size b9 (by rfl) (by rfl) (by rfl) (by rfl)
     have G := mv b9 (by rfl) <| And.intro xa <| And.intro xb <| And.intro r1 <| And.intro r2 <| And.intro hB <| And.intro x0 <| And.intro x1 <| And.intro x2 <| And.intro x3 <| And.intro x4 <| And.intro x5 <| And.intro r3 <| And.intro r4 <| And.intro hRu <| And.intro k0 <| And.intro k1 <| And.intro k2 <| And.intro k6 <| And.intro k7 <| And.intro h5 <| h6
     clear xa xb r1 r2 hB x0 x1 x2 x3 x4 x5 r3 r4 hRu k0 k1 k2 k6 k7 h5 h6
     obtain ⟨xa, xb, r1, r2, hB, x0, x1, x2, x3, x4, x5, r3, r4, hRu, k0, k1, k2, k6, k7, h5, h6⟩ := G
     clear b9
     generalize z1.alloc (.cells #[.bool qb.s, .slice A5 n5 c5, .int .i64 qb.e, .bool qb.s, .slice A6 n6 c6, .int .i64 qb.e] 29) = z2 at *
     generalize z1.heap.size = ge at *
     have hE1 := rde_one (I := ⟨qb, qb⟩) xe h5 h6
     have F := mv BB rfl <| And.intro hT <| And.intro hRL hO6
     obtain ⟨hT1, hRL1, hO1⟩ := F
     clear xe h5 h6
     refine hK.out _ _ (by exact ⟨k0, k1, k2, k6, k7⟩) (fun hHeldev2 => ?_)
     clear hK K hHeldev1
     try simp only [Act.put]
     refine tl 4 ?_
     refine rdy 5 fun K hK => ?_
     go_simp
     refine (tellr_to HK.out.eb.symm (teval_any S hT1 hRL1 hO1 hE1 HPX.out)).mono ?_
     rintro en z3 ⟨va, rfl, hrow, b9⟩
     replace BB := below_next BB BB.size b9 (by rfl) (by rfl) (by rfl) (by rfl)
     have G := mv b9 (by rfl) <| And.intro xa <| And.intro xb <| And.intro r1 <| And.intro r2 <| And.intro hB <| And.intro x0 <| And.intro x1 <| And.intro x2 <| And.intro x3 <| And.intro x4 <| And.intro x5 <| And.intro r3 <| And.intro r4 <| And.intro hRu <| And.intro k0 <| And.intro k1 <| And.intro k2 <| And.intro k6 <| k7
     clear xa xb r1 r2 hB x0 x1 x2 x3 x4 x5 r3 r4 hRu k0 k1 k2 k6 k7
     obtain ⟨xa, xb, r1, r2, hB, x0, x1, x2, x3, x4, x5, r3, r4, hRu, k0, k1, k2, k6, k7⟩ := G
     clear b9 hT1 hRL1 hO1 hE1
     simp only [okc]
     simp only [oli] at hrow
     obtain ⟨Av, cv, hv9, hRv, _⟩ := hrow.form
     clear hrow
     replace hv9 : va = .slice Av 1 cv := hv9
     replace hRv : RdS z3 Av 1 cv (fun i => ([⟨cb, cb⟩] : List Iv).getD i Iv.zero) := hRv
     subst hv9
     refine hK.out _ _ (by exact ⟨k0, k1, k2, k6, k7⟩) (fun hHeldev3 => ?_)
     clear hK K hHeldev2
     try simp only [Act.put]
     refine tl 6 ?_
     refine tl 7 ?_
     refine tl 8 ?_
     refine tl 9 ?_
     refine tl 10 ?_
     refine wpAnyH_done (by kernel_rfl) ?_ _
     clear k0 k1 k2 k6 k7
     generalize z3 = w12 at *
     go_upto_region 25 with fail
     obtain ⟨gu, ou, hAu, hIu⟩ := hRu.at_ (by decide)
     subst hAu
     obtain ⟨gv, ov, hAv, hIv⟩ := hRv.at_ (by decide)
     subst hAv
     obtain ⟨A5, n5, c5, A6, n6, c6, ⟨y0, y1, y2, _, _, _⟩, r5, _⟩ := hIu 0 (by decide)
     replace y0 : World.cell? w12 ⟨gu, ou, none⟩ = some (.bool ca.s) := y0
     replace y1 : World.cell? w12 ⟨gu, ou + 1, none⟩ = some (.slice A5 n5 c5) := y1
     replace y2 : World.cell? w12 ⟨gu, ou + 2, none⟩ = some (.int .i64 ca.e) := y2
     replace r5 : Rd w12 .u64 Go.Proofs.YtlpjlmophlikeaaGreatDoor.W A5 n5 c5 ca.l := r5
     obtain ⟨A7, n7, c7, A8, n8, c8, ⟨y3, y4, y5, _, _, _⟩, r7, _⟩ := hIv 0 (by decide)
     replace y3 : World.cell? w12 ⟨gv, ov, none⟩ = some (.bool cb.s) := y3
     replace y4 : World.cell? w12 ⟨gv, ov + 1, none⟩ = some (.slice A7 n7 c7) := y4
     replace y5 : World.cell? w12 ⟨gv, ov + 2, none⟩ = some (.int .i64 cb.e) := y5
     replace r7 : Rd w12 .u64 Go.Proofs.YtlpjlmophlikeaaGreatDoor.W A7 n7 c7 cb.l := r7
     clear hRu hRv hIu hIv
     obtain ⟨k0, k1, k2⟩ := xa.held
     obtain ⟨k3, k4, k5⟩ := xb.held
     have hT1 := mv BB rfl hT
     go_upto_region 27 with fail
     go_wp2_with fail
     refine (dsub_at (m := 6) hT1 r2 r1 e2 e1 (by omega) (by omega) (by show (zb - za).natAbs ≤ 64; omega)).mono ?_
     rintro en w13 ⟨qw, A9, n9, c9, rfl, r9, e9, b⟩
     replace BB := bnx BB b
     clear k0 k1 k2 k3 k4 k5 hT1 xa xb r1 r2
     have G := mv b (by rfl) <| And.intro hB <| And.intro x0 <| And.intro x1 <| And.intro x2 <| And.intro x3 <| And.intro x4 <| And.intro x5 <| And.intro r3 <| And.intro r4 <| And.intro y0 <| And.intro y1 <| And.intro y2 <| And.intro y3 <| And.intro y4 <| And.intro y5 <| And.intro r5 <| r7
     clear hB x0 x1 x2 x3 x4 x5 r3 r4 y0 y1 y2 y3 y4 y5 r5 r7
     obtain ⟨hB, x0, x1, x2, x3, x4, x5, r3, r4, y0, y1, y2, y3, y4, y5, r5, r7⟩ := G
     clear b
     have b := below_alloc w13 (.cells #[.bool qw.s, .slice A9 n9 c9, .int .i64 qw.e] 27)
     have xw := Box.new w13 qw.s A9 n9 c9 qw.e
     replace BB := bnx BB b
     have G := mv b (by rfl) <| And.intro hB <| And.intro x0 <| And.intro x1 <| And.intro x2 <| And.intro x3 <| And.intro x4 <| And.intro x5 <| And.intro r3 <| And.intro r4 <| And.intro y0 <| And.intro y1 <| And.intro y2 <| And.intro y3 <| And.intro y4 <| And.intro y5 <| And.intro r5 <| And.intro r7 <| r9
     clear hB x0 x1 x2 x3 x4 x5 r3 r4 y0 y1 y2 y3 y4 y5 r5 r7 r9
     obtain ⟨hB, x0, x1, x2, x3, x4, x5, r3, r4, y0, y1, y2, y3, y4, y5, r5, r7, r9⟩ := G
     clear b
     go_upto_region 28 with fail
     generalize w13.alloc (.cells #[.bool qw.s, .slice A9 n9 c9, .int .i64 qw.e] 27) = W13 at *
     generalize w13.heap.size = g13 at *
     have kab := HK.out.ab
     have kaa := HK.out.aa
     have kau := HK.out.au
     have kav := HK.out.av
     have kz : (fb - fa).natAbs ≤ 2 ^ 31 := by have := HK.out.ba; have := HK.out.bb; omega
     have kzz : (zb - za).natAbs ≤ 32 := by omega
     have kzu : (u * (zb - za)).natAbs ≤ 2 ^ 35 := by rw [Int.natAbs_mul]; exact Nat.le_trans (Nat.mul_le_mul HK.out.bu kzz) (by decide)
     have kzv : (v * (zb - za)).natAbs ≤ 2 ^ 35 := by rw [Int.natAbs_mul]; exact Nat.le_trans (Nat.mul_le_mul HK.out.bv kzz) (by decide)
     have klo := HK.out.lo
     have khi := HK.out.hi
     clear kzz
     go_cut [29, 30] from 188 to 198 (fun v29 v30 wc => ∃ (g : Nat) (q : Rw) (A : Option Addr) (n c : Nat), v29 = .pointer (some ⟨g, 0, none⟩) ∧ v30 = .int .i64 0 ∧ Box wc g q.s A n c q.e ∧ Rd wc .u64 Go.Proofs.YtlpjlmophlikeaaGreatDoor.W A n c q.l ∧ At S (3 * (i + 1)) (fb - fa) q ∧ Below W13.heap.size W13 wc)
     case first =>
      rename_i j9 k9 ja kb
      try clear HP
      try clear HK
      try clear HG
      try clear HPN
      try clear hO6
      try clear hRL
      try clear t0
      try clear t2
      try clear hr
      try clear r3
      try clear r4
      try clear x0
      try clear x1
      try clear x2
      try clear x3
      try clear x4
      try clear x5
      try clear hB
      try clear xw
      try clear r9
      try clear HA
      try clear HB
      try clear hn5'
      try clear hn6
      try clear hab
      try clear kau
      try clear kav
      try clear kzu
      try clear kzv
      try clear klo
      try clear khi
      try clear h78
      try clear hg1
      try clear hg2
      rename_i z0
      try clear z0
      rename_i z1
      try clear z1
      rename_i z2
      try clear z2
      rename_i z3
      try clear z3
      rename_i z4
      try clear z4
      rename_i z5
      try clear z5
      rename_i z6
      try clear z6
      rename_i z7
      try clear z7
      rename_i z8
      try clear z8
      rename_i z9
      try clear z9
      rename_i z10
      try clear z10
      rename_i z11
      try clear z11
      rename_i z12
      try clear z12
      rename_i z13
      try clear z13
      rename_i z14
      try clear z14
      rename_i z15
      try clear z15
      rename_i z16
      try clear z16
      rename_i z17
      try clear z17
      rename_i z18
      try clear z18
      rename_i z19
      try clear z19
      rename_i z20
      try clear z20
      rename_i z21
      try clear z21
      rename_i z22
      try clear z22
      rename_i z23
      try clear z23
      have bd : Below W13.heap.size W13 (World.drew W13) := below_drewN (Below.refl _ _) 1
      replace BB := below_next BB BB.size bd rfl rfl rfl rfl
      have G := mv bd (by rfl) <| And.intro y0 <| And.intro y1 <| And.intro y2 <| And.intro y3 <| And.intro y4 <| And.intro y5 <| And.intro r5 <| r7
      clear y0 y1 y2 y3 y4 y5 r5 r7
      obtain ⟨y0, y1, y2, y3, y4, y5, r5, r7⟩ := G
      have hTd := mv BB rfl hT
      refine wp_region_held_drew (S := fun w' => w'.cell? ⟨gv, ov, none⟩ = some (.bool cb.s) ∧ w'.cell? ⟨gv, ov + 1, none⟩ = some (.slice A7 n7 c7) ∧ w'.cell? ⟨gv, ov + 2, none⟩ = some (.int .i64 cb.e) ∧ w'.cell? ⟨gu, ou, none⟩ = some (.bool ca.s) ∧ w'.cell? ⟨gu, ou + 1, none⟩ = some (.slice A5 n5 c5) ∧ w'.cell? ⟨gu, ou + 2, none⟩ = some (.int .i64 ca.e)) (by kernel_rfl) (by exact ⟨y3, y4, y5, y0, y1, y2⟩) (fun hHeldm0 => ?_)
      generalize World.drew W13 = wd at *
      have BD := Below.refl wd.heap.size wd
      refine tl 0 ?_
      refine tl 1 ?_
      refine tl 2 ?_
      refine tl 3 ?_
      refine tl 4 ?_
      refine tl 5 ?_
      refine tl 6 ?_
      refine tl 7 ?_
      refine wpAnyH_ready (rs := [8, 12]) (by kernel_rfl) (by simp) ?_
      refine AllReadyH.cons (o := _) rfl (fun K hK => ?_) (AllReadyH.cons (o := _) rfl (fun K hK => ?_) (AllReadyH.nil))
      go_simp
      have hT1 := mv BD rfl hTd
      refine (dsub_at (m := 31) hT1 (mv BD rfl r7) (mv BD rfl r5) kab kaa (by omega) (by omega) kz).mono ?_
      rintro en uy ⟨qz, A11, n11, c11, rfl, r11, e11, b⟩
      replace BD := below_next BD BD.size b rfl rfl rfl rfl
      clear b hT1
      refine hK.out _ _ (by exact ⟨mv BD rfl y3, mv BD rfl y4, mv BD rfl y5, mv BD rfl y0, mv BD rfl y1, mv BD rfl y2⟩) (fun hHeldm1 => ?_)
      clear hK K hHeldm0
      try simp only [Act.put]
      refine tl 9 ?_
      refine tl 10 ?_
      refine tl 11 ?_
      refine rdy 12 fun K hK => ?_
      go_simp
      have hgs : wd.heap.size ≤ uy.heap.size := BD.size
      have b := below_alloc uy (.cells #[.bool false, .slice none 0 0, .int .i64 0] 27)
      have xz := Box.new uy false none 0 0 0
      replace BD := below_next BD BD.size b rfl rfl rfl rfl
      replace r11 := mv b (by rfl) r11
      clear b
      generalize uy.alloc (.cells #[.bool false, .slice none 0 0, .int .i64 0] 27) = uz at *
      generalize hgzz : uy.heap.size = gz at xz ⊢
      have hgz : wd.heap.size ≤ gz := by omega
      clear hgzz hgs
      refine hK.out _ _ (by exact ⟨mv BD rfl y3, mv BD rfl y4, mv BD rfl y5, mv BD rfl y0, mv BD rfl y1, mv BD rfl y2⟩) (fun hHeldm2 => ?_)
      clear hK K hHeldm1
      try simp only [Act.put]
      rotate_left
      go_simp
      have hgs : wd.heap.size ≤ wd.heap.size := BD.size
      have b := below_alloc wd (.cells #[.bool false, .slice none 0 0, .int .i64 0] 27)
      have xz := Box.new wd false none 0 0 0
      replace BD := below_next BD BD.size b rfl rfl rfl rfl
      clear b
      generalize wd.alloc (.cells #[.bool false, .slice none 0 0, .int .i64 0] 27) = uy at *
      generalize hgzz : wd.heap.size = gz at xz ⊢
      have hgz : wd.heap.size ≤ gz := by omega
      clear hgzz hgs
      refine hK.out _ _ (by exact ⟨mv BD rfl y3, mv BD rfl y4, mv BD rfl y5, mv BD rfl y0, mv BD rfl y1, mv BD rfl y2⟩) (fun hHeldm1 => ?_)
      clear hK K hHeldm0
      try simp only [Act.put]
      refine rdy 8 fun K hK => ?_
      go_simp
      have hT1 := mv BD rfl hTd
      refine (dsub_at (m := 31) hT1 (mv BD rfl r7) (mv BD rfl r5) kab kaa (by omega) (by omega) kz).mono ?_
      rintro en uz ⟨qz, A11, n11, c11, rfl, r11, e11, b⟩
      replace BD := below_next BD BD.size b rfl rfl rfl rfl
      replace xz := mv b (by rfl) xz
      clear b hT1
      refine hK.out _ _ (by exact ⟨mv BD rfl y3, mv BD rfl y4, mv BD rfl y5, mv BD rfl y0, mv BD rfl y1, mv BD rfl y2⟩) (fun hHeldm2 => ?_)
      clear hK K hHeldm1
      try simp only [Act.put]
      refine tl 9 ?_
      refine tl 10 ?_
      refine tl 11 ?_
      rotate_left
      all_goals (
       refine rdy 13 fun K hK => ?_
       obtain ⟨f0, f1, f2⟩ := xz.open
       obtain ⟨z0, z1, z2⟩ := xz.held
       go_simp
       have xz2 := xz.put qz.s A11 n11 c11 qz.e
       have r12 := r11.put3 xz (.bool qz.s) (.slice A11 n11 c11) (.int .i64 qz.e)
       replace BD := below_put3 BD hgz (.bool qz.s) (.slice A11 n11 c11) (.int .i64 qz.e)
       refine hK.out _ _ (by exact ⟨mv BD rfl y3, mv BD rfl y4, mv BD rfl y5, mv BD rfl y0, mv BD rfl y1, mv BD rfl y2⟩) (fun hHeldm3 => ?_)
       clear hK K hHeldm2
       try simp only [Act.put]
       refine tl 14 ?_
       refine wpAnyH_done (by kernel_rfl) ?_ _
       go_wp2
       go_meet
       case rel => exact ⟨_, qz, A11, n11, c11, rfl, rfl, xz2, r12, e11, below_next bd bd.size BD rfl rfl rfl rfl⟩)
     case rest =>
      clear y0 y1 y2 y3 y4 y5 r5 r7
      obtain ⟨gzz, qzz, Azz, nzz, czz, rfl, rfl, bzz, rzz, ezz, B9⟩ := hcut
      replace BB := below_next BB BB.size B9 rfl rfl rfl rfl
      have G := mv B9 (by rfl) <| And.intro hB <| And.intro x0 <| And.intro x1 <| And.intro x2 <| And.intro x3 <| And.intro x4 <| And.intro x5 <| And.intro r3 <| And.intro r4 <| And.intro xw <| r9
      clear hB x0 x1 x2 x3 x4 x5 r3 r4 xw r9
      obtain ⟨hB, x0, x1, x2, x3, x4, x5, r3, r4, xw, r9⟩ := G
      clear B9
      generalize wc = w14 at *
      obtain ⟨k0, k1, k2⟩ := xw.held
      go_upto_region 29 with fail
      go_cut [31, 32] from 200 to 209 (fun v31 v32 wc => ∃ (g : Nat) (q : Rw) (A : Option Addr) (n c : Nat), v31 = .pointer (some ⟨g, 0, none⟩) ∧ v32 = .int .i64 0 ∧ Box wc g q.s A n c q.e ∧ Rd wc .u64 Go.Proofs.YtlpjlmophlikeaaGreatDoor.W A n c q.l ∧ At S (3 * i + 3) (u * (zb - za)) q ∧ Below w14.heap.size w14 wc)
      case first =>
       rename_i j9 k9 ja kb
       try clear HP
       try clear HK
       try clear HG
       try clear HPN
       try clear hO6
       try clear hRL
       try clear t0
       try clear t2
       try clear hr
       try clear r4
       try clear x3
       try clear x4
       try clear x5
       try clear HA
       try clear HB
       try clear hn5'
       try clear hn6
       try clear hab
       try clear klo
       try clear khi
       try clear h78
       try clear hg1
       try clear hg2
       try clear kab
       try clear kaa
       try clear kz
       try clear ezz
       try clear bzz
       try clear rzz
       try clear klo
       try clear khi
       try clear xw
       rename_i z0
       try clear z0
       rename_i z1
       try clear z1
       rename_i z2
       try clear z2
       rename_i z3
       try clear z3
       rename_i z4
       try clear z4
       rename_i z5
       try clear z5
       rename_i z6
       try clear z6
       rename_i z7
       try clear z7
       rename_i z8
       try clear z8
       rename_i z9
       try clear z9
       rename_i z10
       try clear z10
       rename_i z11
       try clear z11
       rename_i z12
       try clear z12
       rename_i z13
       try clear z13
       rename_i z14
       try clear z14
       rename_i z15
       try clear z15
       rename_i z16
       try clear z16
       rename_i z17
       try clear z17
       rename_i z18
       try clear z18
       rename_i z19
       try clear z19
       rename_i z20
       try clear z20
       rename_i z21
       try clear z21
       rename_i z22
       try clear z22
       rename_i z23
       try clear z23
       have bd : Below w14.heap.size w14 (World.drew w14) := below_drewN (Below.refl _ _) 1
       replace BB := below_next BB BB.size bd rfl rfl rfl rfl
       have G := mv bd (by rfl) <| And.intro hB <| And.intro x0 <| And.intro x1 <| And.intro x2 <| And.intro r3 <| And.intro r9 <| And.intro k0 <| And.intro k1 <| k2
       clear hB x0 x1 x2 r3 r9 k0 k1 k2
       obtain ⟨hB, x0, x1, x2, r3, r9, k0, k1, k2⟩ := G
       have hTd := mv BB rfl hT
       refine wp_region_held_drew (S := fun w' => w'.cell? ⟨gd, od, none⟩ = some (.slice (some ⟨gr, og, none⟩) 1 cd) ∧ w'.cell? ⟨gr, og, none⟩ = some (.bool Dv.lo.s) ∧ w'.cell? ⟨gr, og + 1, none⟩ = some (.slice A3 n3 c3) ∧ w'.cell? ⟨gr, og + 2, none⟩ = some (.int .i64 Dv.lo.e) ∧ w'.cell? ⟨g13, 0, none⟩ = some (.bool qw.s) ∧ w'.cell? ⟨g13, 1, none⟩ = some (.slice A9 n9 c9) ∧ w'.cell? ⟨g13, 2, none⟩ = some (.int .i64 qw.e)) (by kernel_rfl) (by exact ⟨hB, x0, x1, x2, k0, k1, k2⟩) (fun hHeldl0 => ?_)
       generalize World.drew w14 = wd at *
       have BD := Below.refl wd.heap.size wd
       refine tl 0 ?_
       refine tl 1 ?_
       refine tl 2 ?_
       refine tl 3 ?_
       refine tl 4 ?_
       refine tl 5 ?_
       refine tl 6 ?_
       refine wpAnyH_ready (rs := [7, 11]) (by kernel_rfl) (by simp) ?_
       refine AllReadyH.cons (o := _) rfl (fun K hK => ?_) (AllReadyH.cons (o := _) rfl (fun K hK => ?_) (AllReadyH.nil))
       go_simp
       have hT1 := mv BD rfl hTd
       refine (dmul_at (m := 35) hT1 (mv BD rfl r3) (mv BD rfl r9) kau e9 (by omega) (by omega) kzu).mono ?_
       rintro en uy ⟨qz, A11, n11, c11, rfl, r11, e11, b⟩
       replace BD := below_next BD BD.size b rfl rfl rfl rfl
       clear b hT1
       refine hK.out _ _ (by exact ⟨mv BD rfl hB, mv BD rfl x0, mv BD rfl x1, mv BD rfl x2, mv BD rfl k0, mv BD rfl k1, mv BD rfl k2⟩) (fun hHeldl1 => ?_)
       clear hK K hHeldl0
       try simp only [Act.put]
       refine tl 8 ?_
       refine tl 9 ?_
       refine tl 10 ?_
       refine rdy 11 fun K hK => ?_
       go_simp
       have hgs : wd.heap.size ≤ uy.heap.size := BD.size
       have b := below_alloc uy (.cells #[.bool false, .slice none 0 0, .int .i64 0] 27)
       have xz := Box.new uy false none 0 0 0
       replace BD := below_next BD BD.size b rfl rfl rfl rfl
       replace r11 := mv b (by rfl) r11
       clear b
       generalize uy.alloc (.cells #[.bool false, .slice none 0 0, .int .i64 0] 27) = uz at *
       generalize hgzz : uy.heap.size = gz at xz ⊢
       have hgz : wd.heap.size ≤ gz := by omega
       clear hgzz hgs
       refine hK.out _ _ (by exact ⟨mv BD rfl hB, mv BD rfl x0, mv BD rfl x1, mv BD rfl x2, mv BD rfl k0, mv BD rfl k1, mv BD rfl k2⟩) (fun hHeldl2 => ?_)
       clear hK K hHeldl1
       try simp only [Act.put]
       rotate_left
       go_simp
       have hgs : wd.heap.size ≤ wd.heap.size := BD.size
       have b := below_alloc wd (.cells #[.bool false, .slice none 0 0, .int .i64 0] 27)
       have xz := Box.new wd false none 0 0 0
       replace BD := below_next BD BD.size b rfl rfl rfl rfl
       clear b
       generalize wd.alloc (.cells #[.bool false, .slice none 0 0, .int .i64 0] 27) = uy at *
       generalize hgzz : wd.heap.size = gz at xz ⊢
       have hgz : wd.heap.size ≤ gz := by omega
       clear hgzz hgs
       refine hK.out _ _ (by exact ⟨mv BD rfl hB, mv BD rfl x0, mv BD rfl x1, mv BD rfl x2, mv BD rfl k0, mv BD rfl k1, mv BD rfl k2⟩) (fun hHeldl1 => ?_)
       clear hK K hHeldl0
       try simp only [Act.put]
       refine rdy 7 fun K hK => ?_
       go_simp
       have hT1 := mv BD rfl hTd
       refine (dmul_at (m := 35) hT1 (mv BD rfl r3) (mv BD rfl r9) kau e9 (by omega) (by omega) kzu).mono ?_
       rintro en uz ⟨qz, A11, n11, c11, rfl, r11, e11, b⟩
       replace BD := below_next BD BD.size b rfl rfl rfl rfl
       replace xz := mv b (by rfl) xz
       clear b hT1
       refine hK.out _ _ (by exact ⟨mv BD rfl hB, mv BD rfl x0, mv BD rfl x1, mv BD rfl x2, mv BD rfl k0, mv BD rfl k1, mv BD rfl k2⟩) (fun hHeldl2 => ?_)
       clear hK K hHeldl1
       try simp only [Act.put]
       refine tl 8 ?_
       refine tl 9 ?_
       refine tl 10 ?_
       rotate_left
       all_goals (
        refine rdy 12 fun K hK => ?_
        obtain ⟨f0, f1, f2⟩ := xz.open
        obtain ⟨z0, z1, z2⟩ := xz.held
        go_simp
        have xz2 := xz.put qz.s A11 n11 c11 qz.e
        have r12 := r11.put3 xz (.bool qz.s) (.slice A11 n11 c11) (.int .i64 qz.e)
        replace BD := below_put3 BD hgz (.bool qz.s) (.slice A11 n11 c11) (.int .i64 qz.e)
        refine hK.out _ _ (by exact ⟨mv BD rfl hB, mv BD rfl x0, mv BD rfl x1, mv BD rfl x2, mv BD rfl k0, mv BD rfl k1, mv BD rfl k2⟩) (fun hHeldl3 => ?_)
        clear hK K hHeldl2
        try simp only [Act.put]
        refine tl 13 ?_
        refine wpAnyH_done (by kernel_rfl) ?_ _
        go_wp2
        go_meet
        case rel => exact ⟨_, qz, A11, n11, c11, rfl, rfl, xz2, r12, e11, below_next bd bd.size BD rfl rfl rfl rfl⟩)
      case rest =>
       clear x0 x1 x2 r3 k0 k1 k2
       obtain ⟨gll, qll, All, nll, cll, rfl, rfl, bll, rll, ell, B9⟩ := hcut
       replace BB := below_next BB BB.size B9 rfl rfl rfl rfl
       have G := mv B9 (by rfl) <| And.intro hB <| And.intro x3 <| And.intro x4 <| And.intro x5 <| And.intro r4 <| And.intro xw <| And.intro r9 <| And.intro bzz <| rzz
       clear hB x3 x4 x5 r4 xw r9 bzz rzz
       obtain ⟨hB, x3, x4, x5, r4, xw, r9, bzz, rzz⟩ := G
       clear B9
       generalize wc = w15 at *
       obtain ⟨k0, k1, k2⟩ := xw.held
       go_upto_region 30 with fail
       go_cut [33, 34] from 211 to 220 (fun v33 v34 wc => ∃ (g : Nat) (q : Rw) (A : Option Addr) (n c : Nat), v33 = .pointer (some ⟨g, 0, none⟩) ∧ v34 = .int .i64 0 ∧ Box wc g q.s A n c q.e ∧ Rd wc .u64 Go.Proofs.YtlpjlmophlikeaaGreatDoor.W A n c q.l ∧ At S (3 * i + 3) (v * (zb - za)) q ∧ Below w15.heap.size w15 wc)
       case first =>
        rename_i j9 k9 ja kb
        try clear HP
        try clear HK
        try clear HG
        try clear HPN
        try clear hO6
        try clear hRL
        try clear t0
        try clear t2
        try clear hr
        try clear r3
        try clear x0
        try clear x1
        try clear x2
        try clear HA
        try clear HB
        try clear hn5'
        try clear hn6
        try clear hab
        try clear klo
        try clear khi
        try clear h78
        try clear hg1
        try clear hg2
        try clear kab
        try clear kaa
        try clear kz
        try clear ezz
        try clear bzz
        try clear rzz
        try clear klo
        try clear khi
        try clear xw
        try clear ell
        try clear bll
        try clear rll
        rename_i z0
        try clear z0
        rename_i z1
        try clear z1
        rename_i z2
        try clear z2
        rename_i z3
        try clear z3
        rename_i z4
        try clear z4
        rename_i z5
        try clear z5
        rename_i z6
        try clear z6
        rename_i z7
        try clear z7
        rename_i z8
        try clear z8
        rename_i z9
        try clear z9
        rename_i z10
        try clear z10
        rename_i z11
        try clear z11
        rename_i z12
        try clear z12
        rename_i z13
        try clear z13
        rename_i z14
        try clear z14
        rename_i z15
        try clear z15
        rename_i z16
        try clear z16
        rename_i z17
        try clear z17
        rename_i z18
        try clear z18
        rename_i z19
        try clear z19
        rename_i z20
        try clear z20
        rename_i z21
        try clear z21
        rename_i z22
        try clear z22
        rename_i z23
        try clear z23
        have bd : Below w15.heap.size w15 (World.drew w15) := below_drewN (Below.refl _ _) 1
        replace BB := below_next BB BB.size bd rfl rfl rfl rfl
        have G := mv bd (by rfl) <| And.intro hB <| And.intro x3 <| And.intro x4 <| And.intro x5 <| And.intro r4 <| And.intro r9 <| And.intro k0 <| And.intro k1 <| k2
        clear hB x3 x4 x5 r4 r9 k0 k1 k2
        obtain ⟨hB, x3, x4, x5, r4, r9, k0, k1, k2⟩ := G
        have hTd := mv BB rfl hT
        refine wp_region_held_drew (S := fun w' => w'.cell? ⟨gd, od, none⟩ = some (.slice (some ⟨gr, og, none⟩) 1 cd) ∧ w'.cell? ⟨gr, og + 3, none⟩ = some (.bool Dv.hi.s) ∧ w'.cell? ⟨gr, og + 4, none⟩ = some (.slice A4 n4 c4) ∧ w'.cell? ⟨gr, og + 5, none⟩ = some (.int .i64 Dv.hi.e) ∧ w'.cell? ⟨g13, 0, none⟩ = some (.bool qw.s) ∧ w'.cell? ⟨g13, 1, none⟩ = some (.slice A9 n9 c9) ∧ w'.cell? ⟨g13, 2, none⟩ = some (.int .i64 qw.e)) (by kernel_rfl) (by exact ⟨hB, x3, x4, x5, k0, k1, k2⟩) (fun hHeldh0 => ?_)
        generalize World.drew w15 = wd at *
        have BD := Below.refl wd.heap.size wd
        refine tl 0 ?_
        refine tl 1 ?_
        refine tl 2 ?_
        refine tl 3 ?_
        refine tl 4 ?_
        refine tl 5 ?_
        refine tl 6 ?_
        refine wpAnyH_ready (rs := [7, 11]) (by kernel_rfl) (by simp) ?_
        refine AllReadyH.cons (o := _) rfl (fun K hK => ?_) (AllReadyH.cons (o := _) rfl (fun K hK => ?_) (AllReadyH.nil))
        go_simp
        have hT1 := mv BD rfl hTd
        refine (dmul_at (m := 35) hT1 (mv BD rfl r4) (mv BD rfl r9) kav e9 (by omega) (by omega) kzv).mono ?_
        rintro en uy ⟨qz, A11, n11, c11, rfl, r11, e11, b⟩
        replace BD := below_next BD BD.size b rfl rfl rfl rfl
        clear b hT1
        refine hK.out _ _ (by exact ⟨mv BD rfl hB, mv BD rfl x3, mv BD rfl x4, mv BD rfl x5, mv BD rfl k0, mv BD rfl k1, mv BD rfl k2⟩) (fun hHeldh1 => ?_)
        clear hK K hHeldh0
        try simp only [Act.put]
        refine tl 8 ?_
        refine tl 9 ?_
        refine tl 10 ?_
        refine rdy 11 fun K hK => ?_
        go_simp
        have hgs : wd.heap.size ≤ uy.heap.size := BD.size
        have b := below_alloc uy (.cells #[.bool false, .slice none 0 0, .int .i64 0] 27)
        have xz := Box.new uy false none 0 0 0
        replace BD := below_next BD BD.size b rfl rfl rfl rfl
        replace r11 := mv b (by rfl) r11
        clear b
        generalize uy.alloc (.cells #[.bool false, .slice none 0 0, .int .i64 0] 27) = uz at *
        generalize hgzz : uy.heap.size = gz at xz ⊢
        have hgz : wd.heap.size ≤ gz := by omega
        clear hgzz hgs
        refine hK.out _ _ (by exact ⟨mv BD rfl hB, mv BD rfl x3, mv BD rfl x4, mv BD rfl x5, mv BD rfl k0, mv BD rfl k1, mv BD rfl k2⟩) (fun hHeldh2 => ?_)
        clear hK K hHeldh1
        try simp only [Act.put]
        rotate_left
        go_simp
        have hgs : wd.heap.size ≤ wd.heap.size := BD.size
        have b := below_alloc wd (.cells #[.bool false, .slice none 0 0, .int .i64 0] 27)
        have xz := Box.new wd false none 0 0 0
        replace BD := below_next BD BD.size b rfl rfl rfl rfl
        clear b
        generalize wd.alloc (.cells #[.bool false, .slice none 0 0, .int .i64 0] 27) = uy at *
        generalize hgzz : wd.heap.size = gz at xz ⊢
        have hgz : wd.heap.size ≤ gz := by omega
        clear hgzz hgs
        refine hK.out _ _ (by exact ⟨mv BD rfl hB, mv BD rfl x3, mv BD rfl x4, mv BD rfl x5, mv BD rfl k0, mv BD rfl k1, mv BD rfl k2⟩) (fun hHeldh1 => ?_)
        clear hK K hHeldh0
        try simp only [Act.put]
        refine rdy 7 fun K hK => ?_
        go_simp
        have hT1 := mv BD rfl hTd
        refine (dmul_at (m := 35) hT1 (mv BD rfl r4) (mv BD rfl r9) kav e9 (by omega) (by omega) kzv).mono ?_
        rintro en uz ⟨qz, A11, n11, c11, rfl, r11, e11, b⟩
        replace BD := below_next BD BD.size b rfl rfl rfl rfl
        replace xz := mv b (by rfl) xz
        clear b hT1
        refine hK.out _ _ (by exact ⟨mv BD rfl hB, mv BD rfl x3, mv BD rfl x4, mv BD rfl x5, mv BD rfl k0, mv BD rfl k1, mv BD rfl k2⟩) (fun hHeldh2 => ?_)
        clear hK K hHeldh1
        try simp only [Act.put]
        refine tl 8 ?_
        refine tl 9 ?_
        refine tl 10 ?_
        rotate_left
        all_goals (
         refine rdy 12 fun K hK => ?_
         obtain ⟨f0, f1, f2⟩ := xz.open
         obtain ⟨z0, z1, z2⟩ := xz.held
         go_simp
         have xz2 := xz.put qz.s A11 n11 c11 qz.e
         have r12 := r11.put3 xz (.bool qz.s) (.slice A11 n11 c11) (.int .i64 qz.e)
         replace BD := below_put3 BD hgz (.bool qz.s) (.slice A11 n11 c11) (.int .i64 qz.e)
         refine hK.out _ _ (by exact ⟨mv BD rfl hB, mv BD rfl x3, mv BD rfl x4, mv BD rfl x5, mv BD rfl k0, mv BD rfl k1, mv BD rfl k2⟩) (fun hHeldh3 => ?_)
         clear hK K hHeldh2
         try simp only [Act.put]
         refine tl 13 ?_
         refine wpAnyH_done (by kernel_rfl) ?_ _
         go_wp2
         go_meet
         case rel => exact ⟨_, qz, A11, n11, c11, rfl, rfl, xz2, r12, e11, below_next bd bd.size BD rfl rfl rfl rfl⟩)
       case rest =>
        clear hB x3 x4 x5 r4 xw r9 k0 k1 k2
        obtain ⟨ghh, qhh, Ahh, nhh, chh, rfl, rfl, bhh, rhh, ehh, B9⟩ := hcut
        replace BB := below_next BB BB.size B9 rfl rfl rfl rfl
        have G := mv B9 (by rfl) <| And.intro bzz <| And.intro rzz <| And.intro bll <| rll
        clear bzz rzz bll rll
        obtain ⟨bzz, rzz, bll, rll⟩ := G
        clear B9
        generalize wc = w16 at *
        obtain ⟨p0, p1, p2⟩ := bzz.held
        obtain ⟨p3, p4, p5⟩ := bll.held
        obtain ⟨p6, p7, p8⟩ := bhh.held
        have hT1 := mv BB rfl hT
        have ka : cmpV (u * (zb - za)) (fb - fa) ≤ 0 := cmp_le0 klo
        have kb : cmpV (fb - fa) (v * (zb - za)) ≤ 0 := cmp_le0 khi
        clear klo khi HP HK HG HPN hRL hO6 kab kaa kau kav kz kzu kzv hT
        go_wp2_with fail
        refine (told10_any hT1).mono ?_
        rintro en w17 ⟨rfl, b⟩
        replace BB := bnx BB b
        have G := mv b (by rfl) <| And.intro rll <| And.intro rzz <| And.intro rhh <| And.intro p0 <| And.intro p1 <| And.intro p2 <| And.intro p3 <| And.intro p4 <| And.intro p5 <| And.intro p6 <| And.intro p7 <| And.intro p8 <| hT1
        clear rll rzz rhh p0 p1 p2 p3 p4 p5 p6 p7 p8 hT1
        obtain ⟨rll, rzz, rhh, p0, p1, p2, p3, p4, p5, p6, p7, p8, hT1⟩ := G
        clear b
        go_wp2_with fail
        refine (dcmp_at (S := S) (f := 3 * (i + 1)) hT1 rll rzz ell ezz).mono ?_
        rintro en w18 ⟨rfl, b⟩
        replace BB := bnx BB b
        have G := mv b (by rfl) <| And.intro rll <| And.intro rzz <| And.intro rhh <| And.intro p0 <| And.intro p1 <| And.intro p2 <| And.intro p3 <| And.intro p4 <| And.intro p5 <| And.intro p6 <| And.intro p7 <| And.intro p8 <| hT1
        clear rll rzz rhh p0 p1 p2 p3 p4 p5 p6 p7 p8 hT1
        obtain ⟨rll, rzz, rhh, p0, p1, p2, p3, p4, p5, p6, p7, p8, hT1⟩ := G
        clear b
        go_wp2_with fail
        refine (dcmp_at (S := S) (f := 3 * (i + 1)) hT1 rzz rhh ezz ehh).mono ?_
        rintro en w19 ⟨rfl, b⟩
        replace BB := bnx BB b
        clear b rll rzz rhh p0 p1 p2 p3 p4 p5 p6 p7 p8 hT1
        go_wp2
        go_ret
        exact ⟨by first | rfl | simp, below_next B6 B6.size BB rfl rfl rfl rfl⟩
end Go.Proofs.YtlpjlmophlikeaaGreatDoor
