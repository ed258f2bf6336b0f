/-
  Contract of tape's May, at this translation.
-/
import Derived.Test.YtlpeheonbbaffaaGreatDoorQTc
import Derived.Sort.OwnSortedInts
import Derived.Test.YtlpeheonbbaffaaGreatDoorShelf
import Derived.Test.YtlpeheonbbaffaaGreatDoorQTu
import Derived.RangeFuncBox
import Derived.Test.YtlpeheonbbaffaaGreatDoorQTj
import Derived.Test.YtlpeheonbbaffaaGreatDoorQTn
import Derived.Test.YtlpeheonbbaffaaGreatDoorQIe
set_option maxHeartbeats 8000000
set_option maxRecDepth 100000
namespace Go.Proofs.YtlpeheonbbaffaaGreatDoor
open Go.RowKit
variable {K b0 g n : Nat} {p u x : Int} {v : Value} {w : World}
theorem mayT_no {T : Tp} (h : ¬ (T.n ≤ 200 ∧ T.m ≤ 200 ∧ (∀ i, i < T.n → mayLn K (T.L i) i x u p = true) ∧ ∀ j, j < T.m → belowB (T.O j) T.n = true)) : mayT K T x u p = false := by
 cases q : mayT K T x u p
 ·rfl
 exact absurd (mayT_iff.1 q) h
theorem up_next {P : Nat → Prop} {i : Nat} (h : ∀ j, j < i → P j) (h2 : P i) : ∀ j, j < i + 1 → P j := fun j hj => by
 rcases (show j < i ∨ j = i by omega) with h3 | rfl
 ·exact h j h3
 exact h2
theorem tmay_any {AL : Option Addr} {nL cL : Nat} {AO : Option Addr} {nO cO : Nat} {L : Nat → Ln} {O : Nat → Int} (hK : 4194304 ≤ K) (hT : Tab w) (hL : RdL w AL nL cL L) (hO : RdZ w AO nO cO O) :
  Calls Tryz.prog 35 #[.agg #[.slice AL nL cL, .slice AO nO cO], .int .i64 x, .int .i64 u, .int .i64 p] w (Bools (mayT K ⟨nL, L, nO, O⟩ x u p) w) := by
 have BB := below_alloc w (.cells #[.slice AL nL cL, .slice AO nO cO] 35)
 have xt := Blk.new w #[.slice AL nL cL, .slice AO nO cO] 35
 have G := mv BB rfl (J3 hT hL hO)
 clear hT hL hO
 obtain ⟨hT, hL, hO⟩ := G
 obtain ⟨q, hq⟩ : ∃ q, q = mayT K ⟨nL, L, nO, O⟩ x u p := ⟨_, rfl⟩
 rw [← hq]
 have HQ := Lib.hid hq
 clear hq
 have t0 : World.cell? _ ⟨_, 0, none⟩ = some (.slice AL nL cL) := xt.at 0
 have t1 : World.cell? _ ⟨_, 1, none⟩ = some (.slice AO nO cO) := xt.at 1
 have lw := xt.gl
 by_cases g1 : nL ≤ 200
 ·by_cases g2 : nO ≤ 200
  ·have g3 : ¬ (200 : Int) < (nL : Int) := by omega
   have g4 : ¬ (200 : Int) < (nO : Int) := by omega
   have HG12 := Lib.hid (And.intro g1 g2)
   clear g1 g2
   go_enter Tryz.func35, Tryz.ntmps35
   go_wp2
   go_loopg [26] nL (fun q v wr => ∃ i : Nat, i + q = nL ∧ v = .int .i64 i ∧ (∀ j, j < i → mayLn K (L j) j x u p = true) ∧ Below w.heap.size w wr ∧ Below (w.alloc (.cells #[.slice AL nL cL, .slice AO nO cO] 35)).heap.size (w.alloc (.cells #[.slice AL nL cL, .slice AO nO cO] 35)) wr)
   case atStart => exact ⟨0, by omega, rfl, fun j hj => absurd hj (by omega), BB, Below.refl _ _⟩
   case round =>
    obtain ⟨i, hg, rfl, hall, hb, hb0⟩ := hrel
    have HG := Lib.hid hg
    clear hg
    have HA := Lib.hid hall
    clear hall
    by_cases hi : i < nL
    ·obtain ⟨g, off, hal, hc⟩ := hL.at_ (by omega)
     obtain ⟨A1, n1, c1, A2, n2, c2, ⟨r0, r1, r2, r3, r4, r5, r6, r7, r8⟩, q1, q2⟩ := (hc i hi).next hb0 rfl
     subst hal
     have hT1 := mv hb0 rfl hT
     have t0' := mv hb0 rfl t0
     have t1' := mv hb0 rfl t1
     obtain ⟨l, hl⟩ : ∃ l, l = L i := ⟨_, rfl⟩
     rw [← hl] at r0 r1 r2 r3 r5 r6 r8 q1 q2
     have HL := Lib.hid hl
     clear hl hc
     have hp2 : (i : Int) < nL := by omega
     have hp3 : (0 : Int) ≤ i := by omega
     have b1 := below_alloc wr (.cells #[.int .i64 l.op, .int .i64 l.a, .int .i64 l.b, .bool l.k.lo.s, .slice A1 n1 c1, .int .i64 l.k.lo.e, .bool l.k.hi.s, .slice A2 n2 c2, .int .i64 l.k.hi.e] 31)
     have xl := Blk.new wr #[.int .i64 l.op, .int .i64 l.a, .int .i64 l.b, .bool l.k.lo.s, .slice A1 n1 c1, .int .i64 l.k.lo.e, .bool l.k.hi.s, .slice A2 n2 c2, .int .i64 l.k.hi.e] 31
     have m0 : World.cell? _ ⟨_, 0, none⟩ = some (.int .i64 l.op) := xl.at 0
     have m1 : World.cell? _ ⟨_, 1, none⟩ = some (.int .i64 l.a) := xl.at 1
     have m2 : World.cell? _ ⟨_, 2, none⟩ = some (.int .i64 l.b) := xl.at 2
     have m3 : World.cell? _ ⟨_, 3, none⟩ = some (.bool l.k.lo.s) := xl.at 3
     have m4 : World.cell? _ ⟨_, 4, none⟩ = some (.slice A1 n1 c1) := xl.at 4
     have m5 : World.cell? _ ⟨_, 5, none⟩ = some (.int .i64 l.k.lo.e) := xl.at 5
     have m6 : World.cell? _ ⟨_, 6, none⟩ = some (.bool l.k.hi.s) := xl.at 6
     have m7 : World.cell? _ ⟨_, 7, none⟩ = some (.slice A2 n2 c2) := xl.at 7
     have m8 : World.cell? _ ⟨_, 8, none⟩ = some (.int .i64 l.k.hi.e) := xl.at 8
     have G := mv b1 rfl (J3 hT1 q1 q2)
     clear hT1 q1 q2
     obtain ⟨hT1, q1, q2⟩ := G
     have hbn := below_next hb hb.size b1 rfl rfl rfl rfl
     have hbn0 := below_next hb0 hb0.size b1 rfl rfl rfl rfl
     clear b1 xl
     go_wp2_with fail
     refine (tmayline_any (l := l) (i := (i : Int)) (x := x) (u := u) (p := p) hK hT1 q1 q2).mono ?_
     rintro en w2 ⟨rfl, b⟩
     replace hbn := below_next hbn hbn.size b rfl rfl rfl rfl
     replace hbn0 := below_next hbn0 hbn0.size b rfl rfl rfl rfl
     clear b hT1 q1 q2 m0 m1 m2 m3 m4 m5 m6 m7 m8 r0 r1 r2 r3 r4 r5 r6 r7 r8 t0' t1'
     cases hml : mayLn K l (i : Int) x u p
     ·clear t0 t1
      go_wp2
      go_ret
      refine ⟨?_, hbn⟩
      have hqq : q = false := by
       rw [HQ.out]
       refine mayT_no fun h => ?_
       have h9 : mayLn K (L i) (i : Int) x u p = true := h.2.2.1 i hi
       rw [← HL.out, hml] at h9
       cases h9
      rw [hqq]; first | rfl | simp
     have HML := Lib.hid hml
     clear hml
     go_wp2
     go_roundg (gk - 1)
     case measure => have := HG.out; omega
     case rel => exact ⟨i + 1, by have := HG.out; omega, by go_num, up_next HA.out (by rw [← HL.out]; exact HML.out), hbn, hbn0⟩
    have hn : i = nL := by have := HG.out; omega
    subst hn
    have hT1 := mv hb0 rfl hT
    have t0' := mv hb0 rfl t0
    have t1' := mv hb0 rfl t1
    have hO1 := mv hb0 rfl hO
    clear hi
    generalize wr = W1 at *
    generalize gk = G1 at *
    go_wp2
    go_loopg [42] nO (fun q v wr => ∃ k : Nat, k + q = nO ∧ v = .int .i64 k ∧ (∀ j, j < k → belowB (O j) i = true) ∧ wr = W1)
    case atStart => exact ⟨0, by omega, rfl, fun j hj => absurd hj (by omega), rfl⟩
    case round =>
     obtain ⟨k, hg, rfl, hall, rfl⟩ := hrel
     have HG2 := Lib.hid hg
     clear hg
     have HA2 := Lib.hid hall
     clear hall
     by_cases hk : k < nO
     ·obtain ⟨g, off, hao, hc⟩ := hO1.at_ (by omega)
      have r0 := hc k hk
      subst hao
      obtain ⟨z, hz⟩ : ∃ z, z = O k := ⟨_, rfl⟩
      rw [← hz] at r0
      have HZ := Lib.hid hz
      clear hz hc
      have hp2 : (k : Int) < nO := by omega
      have hp3 : (0 : Int) ≤ k := by omega
      go_wp2_with fail
      refine (tbelow_at (k := z) (n := (i : Int))).mono ?_
      rintro en w2 ⟨rfl, rfl⟩
      cases hml : belowB z (i : Int)
      ·clear t0 t1 t0' t1' r0
       go_wp2
       go_ret
       refine ⟨?_, hb⟩
       have hqq : q = false := by
        rw [HQ.out]
        refine mayT_no fun h => ?_
        have h9 : belowB (O k) (i : Int) = true := h.2.2.2 k hk
        rw [← HZ.out, hml] at h9
        cases h9
       rw [hqq]; first | rfl | simp
      have HML := Lib.hid hml
      clear hml
      go_wp2
      go_roundg (gk - 1)
      case measure => have := HG2.out; omega
      case rel => exact ⟨k + 1, by have := HG2.out; omega, by go_num, up_next HA2.out (by rw [← HZ.out]; exact HML.out), rfl⟩
     have hn : k = nO := by have := HG2.out; omega
     subst hn
     go_wp2
     go_ret
     refine ⟨?_, hb⟩
     have hqq : q = true := by rw [HQ.out]; exact mayT_iff.2 ⟨HG12.out.1, HG12.out.2, HA.out, HA2.out⟩
     rw [hqq]; first | rfl | simp
  have g3 : ¬ (200 : Int) < (nL : Int) := by omega
  have g4 : (200 : Int) < (nO : Int) := by omega
  go_enter Tryz.func35, Tryz.ntmps35
  go_wp2
  go_ret
  refine ⟨?_, BB⟩
  have hqq : q = false := by rw [HQ.out]; exact mayT_no fun h => g2 h.2.1
  rw [hqq]; first | rfl | simp
 have g3 : (200 : Int) < (nL : Int) := by omega
 go_enter Tryz.func35, Tryz.ntmps35
 go_wp2
 go_ret
 refine ⟨?_, BB⟩
 have hqq : q = false := by rw [HQ.out]; exact mayT_no fun h => g1 h.1
 rw [hqq]; first | rfl | simp
def OwnZ (b0 : Nat) (w : World) (v : Value) (zs : List Int) : Prop := w.ownsRow b0 3 1 v zs.length (zs.map (Value.int .i64))
theorem ownz_nil (b0 : Nat) (w : World) : OwnZ b0 w (.slice none 0 0) [] := World.ownsRow_nil ..
theorem tsort_own {zs : List Int} (h : OwnZ b0 w v zs) (hl : zs.length ≤ 1000) :
  Calls Tryz.prog 74 #[v] w fun e w' => e = .returned (.tuple #[]) ∧ OwnZ b0 w' v (zs.mergeSort fun x y => decide (x ≤ y)) ∧ w.grownBy w' v.ownBlock := by
 have ht : (zs.mergeSort fun x y => decide (x ≤ y)).length = zs.length := List.length_mergeSort _
 rcases h.2 with ⟨rfl, h0⟩ | ⟨g, cap, cur, rfl, hb, hg, hnc, hcm, hcs, htake⟩
 ·obtain rfl : zs = [] := List.eq_nil_of_length_eq_zero h0
  refine (Tryz.slices_Sort_int_none none 0 w).mono ?_
  rintro e w' ⟨rfl, rfl⟩
  exact ⟨rfl, by simpa using ownz_nil b0 w', World.grownBy.refl _ _⟩
 rw [Nat.mul_one] at htake
 have hH := holds_of_blockI hg htake
 refine (Tryz.slices_Sort_int g 0 cap zs w hH (Array.getElem?_eq_some_iff.1 hg).1 (by omega)).mono ?_
 rintro e w' ⟨rfl, n, os, rfl⟩
 refine ⟨rfl, ?_, grownBy_sortedI _⟩
 unfold OwnZ
 rw [ht]
 exact ownsRow_sortedI ht hb hg hnc hcm hcs
theorem tcompact_own {zs : List Int} (h : OwnZ b0 w v zs) (hl : zs.length ≤ 1000) :
  Calls Tryz.prog 75 #[v] w fun e w' => ∃ A c, e = .returned (.slice A (Lib.compact zs).length c) ∧ RdZ w' A (Lib.compact zs).length c (fun i => (Lib.compact zs).getD i 0) ∧ w.grownBy w' v.ownBlock := by
 have hcl : (Lib.compact zs).length ≤ zs.length := by
  unfold Lib.compact Lib.compactUpTo
  rw [List.length_map]
  refine Nat.le_trans (List.length_filter_le _ _) ?_
  rw [List.length_range]
  exact Nat.le_refl _
 rcases h.2 with ⟨rfl, h0⟩ | ⟨g, cap, cur, rfl, hb, hg, hnc, hcm, hcs, htake⟩
 ·obtain rfl : zs = [] := List.eq_nil_of_length_eq_zero h0
  refine (Tryz.slices_Compact_int_empty none 0 w).mono ?_
  rintro e w' ⟨rfl, rfl⟩
  exact ⟨none, 0, rfl, ⟨by decide, by decide, fun h => absurd rfl h⟩, World.grownBy.refl _ _⟩
 rw [Nat.mul_one] at htake
 have hH := holds_of_blockI hg htake
 refine (Tryz.slices_Compact_int g 0 cap zs w hH (by omega) hnc).mono ?_
 rintro e w' ⟨rfl, n, rfl⟩
 refine ⟨_, _, rfl, ⟨by omega, by unfold maxLen at hcm; omega, fun _ => ⟨g, 0, rfl, fun i hi => ?_⟩⟩, ?_⟩
 ·have hsz : (Lib.compact zs ++ List.replicate (zs.length - (Lib.compact zs).length) 0).toArray.size = zs.toArray.size := by simp; omega
  have hH2 : Go.Sort.Holds (Value.int .i64) (Go.Sort.ahead w n) g 0 zs.toArray := hH
  rw [Go.Sort.cell?_putRow (Value.int .i64) (Go.Sort.ahead w n) g 0 zs.toArray _ hH2 hsz i (by rw [hsz]; simp; omega)]
  rw [List.getElem!_toArray, getElem!_pos _ i (by simp; omega), List.getElem_append_left hi]
  simp [List.getD_eq_getElem?_getD, List.getElem?_eq_getElem hi]
 have := grownBy_sortedI (w := w) (g := g) (n := n) (os := #[]) (Lib.compact zs ++ List.replicate (zs.length - (Lib.compact zs).length) 0).toArray
 show w.grownBy _ (some g)
 simpa using this
open Go
def leanS (L : Nat → Ln) (n out : Nat) : Nat → (Nat → Bool) × List Int
 | 0 => (fun j => decide (j = out), [])
 | k + 1 => if (leanS L n out k).1 (n - 1 - k) = true then (fun j => (leanS L n out k).1 j || decide ((j : Int) ∈ opsL (L (n - 1 - k))), if (L (n - 1 - k)).op = 4 then (leanS L n out k).2 ++ [(L (n - 1 - k)).a] else (leanS L n out k).2) else leanS L n out k
theorem leanS_no {L : Nat → Ln} {n out k : Nat} (h : (leanS L n out k).1 (n - 1 - k) = false) : leanS L n out (k + 1) = leanS L n out k := by
 rw [leanS, if_neg (by rw [h]; decide)]
theorem leanS_yes {L : Nat → Ln} {n out k : Nat} (h : (leanS L n out k).1 (n - 1 - k) = true) : leanS L n out (k + 1) = (fun j => (leanS L n out k).1 j || decide ((j : Int) ∈ opsL (L (n - 1 - k))), if (L (n - 1 - k)).op = 4 then (leanS L n out k).2 ++ [(L (n - 1 - k)).a] else (leanS L n out k).2) := by
 rw [leanS, if_pos h]
theorem leanS_len {L : Nat → Ln} {n out : Nat} : ∀ k, (leanS L n out k).2.length ≤ k
 | 0 => Nat.le_refl 0
 | k + 1 => by
  have ih := leanS_len (L := L) (n := n) (out := out) k
  cases h : (leanS L n out k).1 (n - 1 - k) with
  | false => rw [leanS_no h]; omega
  | true =>
   rw [leanS_yes h]
   dsimp only
   split
   ·rw [List.length_append]; simp; omega
   omega
def bls (n : Nat) (B : Nat → Bool) : Array Value := ((List.range n).map fun j => Value.bool (B j)).toArray
theorem bls_get {n j : Nat} {B : Nat → Bool} (h : j < n) : (bls n B)[j]? = some (.bool (B j)) := by
 unfold bls
 simp [h]
theorem bls_size {B : Nat → Bool} : (bls n B).size = n := by simp [bls]
theorem bls_set {B : Nat → Bool} (x : Nat) : (bls n B).setIfInBounds x (.bool true) = bls n (fun j => B j || decide (j = x)) := by
 apply Array.ext_getElem?
 intro i
 by_cases hi : i < n
 ·rw [bls_get hi, Array.getElem?_setIfInBounds]
  by_cases hx : x = i
  ·subst hx
   rw [if_pos rfl, if_pos (by rw [bls_size]; exact hi)]
   simp
  rw [if_neg hx, bls_get hi]
  have : decide (i = x) = false := decide_eq_false fun e => hx e.symm
  rw [this, Bool.or_false]
 have h1 : ∀ C : Nat → Bool, (bls n C)[i]? = none := fun C => Array.getElem?_eq_none (by rw [bls_size]; omega)
 rw [h1, Array.getElem?_eq_none (by rw [Array.size_setIfInBounds, bls_size]; omega)]
theorem bls_congr {B C : Nat → Bool} (h : ∀ j, j < n → B j = C j) : bls n B = bls n C := by
 apply Array.ext_getElem?
 intro i
 by_cases hi : i < n
 ·rw [bls_get hi, bls_get hi, h i hi]
 rw [Array.getElem?_eq_none (by rw [bls_size]; omega), Array.getElem?_eq_none (by rw [bls_size]; omega)]
theorem Blk.setb {W : World} {B : Nat → Bool} (h : Blk W g (bls n B) 4) (x : Nat) : Blk (W.setCell ⟨g, x, none⟩ (.bool true)) g (bls n (fun j => B j || decide (j = x))) 4 := ⟨by
 have := h.blk
 rw [← bls_set]
 simp [World.setCell, Array.getElem?_modify, this]⟩
theorem Blk.other {W : World} {g g' : Nat} {cs : Array Value} {T : TypeId} (h : Blk W g cs T) (hne : g ≠ g') (i : Nat) (u : Value) : Blk (W.setCell ⟨g', i, none⟩ u) g cs T := ⟨(Below.heap_setCell W _ u g hne).trans h.blk⟩
theorem Blk.kept {W W' : World} {cs : Array Value} {T : TypeId} {row : Option Nat} (h : Blk W g cs T) (hg : W.grownBy W' row) (hr : row ≠ some g) : Blk W' g cs T := ⟨(hg.block g h.gl (fun e => hr e.symm)).trans h.blk⟩
theorem Blk.calm {W W' : World} {cs : Array Value} {T : TypeId} {row : Option Nat} (h : Blk W g cs T) (hg : W.grownBy W' row) (hr : ∀ r, row = some r → ∃ o : Obj, W.heap[r]? = some o ∧ o.isCells = false) : Blk W' g cs T := h.kept hg fun e => by
 obtain ⟨o, ho, hc⟩ := hr g e
 rw [h.blk] at ho
 cases ho
 cases hc
theorem OwnZ.lt {b0 : Nat} {W : World} {v : Value} {zs : List Int} (h : OwnZ b0 W v zs) : ∀ k, v.ownBlock = some k → b0 ≤ k ∧ k < W.heap.size := World.ownsRow.lt h
theorem OwnZ.calm {W W' : World} {zs : List Int} {row : Option Nat} (h : OwnZ b0 W v zs) (hg : W.grownBy W' row) (hr : ∀ r, row = some r → ∃ o : Obj, W.heap[r]? = some o ∧ o.isCells = false) : OwnZ b0 W' v zs := by
 refine World.ownsRow.kept h hg ?_
 rcases h.2 with ⟨rfl, _⟩ | ⟨g, cap, cur, rfl, _, hgb, _⟩
 ·exact .inl rfl
 refine .inr fun e' => ?_
 obtain ⟨o, ho, hc⟩ := hr g (by simpa [Value.ownBlock] using e'.symm)
 rw [hgb] at ho; cases ho; cases hc
theorem OwnZ.other {W : World} {zs : List Int} (h : OwnZ b0 W v zs) (hg : g < b0) (i : Nat) (u : Value) : OwnZ b0 (W.setCell ⟨g, i, none⟩ u) v zs := by
 refine World.ownsRow.kept h (grownBy_set W g i u) ?_
 rcases h.2 with ⟨rfl, _⟩ | ⟨g', cap, cur, rfl, hb, _⟩
 ·exact .inl rfl
 refine .inr fun e' => ?_
 have : g' = g := by simpa [Value.ownBlock] using e'
 omega
theorem OwnZ.next {W X w2 : World} {zs : List Int} (h : OwnZ b0 W v zs) (b : Below X.heap.size X w2) (e : X.heap = W.heap) : OwnZ b0 w2 v zs := by
 obtain ⟨h1, h2⟩ := h
 refine ⟨h1, ?_⟩
 rcases h2 with h2 | ⟨g, cap, cur, hv, hb, hg, h3⟩
 ·exact .inl h2
 exact .inr ⟨g, cap, cur, hv, hb, by
  have h4 : X.heap[g]? = some (.cells cur 3 (0, 0)) := by rw [e]; exact hg
  exact (b.block g (Array.getElem?_eq_some_iff.1 h4).1).trans h4, h3⟩
instance {W w2 : World} {b0 : Nat} {v : Value} {zs : List Int} : Moves W w2 (OwnZ b0 W v zs) (OwnZ b0 w2 v zs) := ⟨fun _ b e h => h.next b e⟩
theorem OwnZ.ne_blk {W : World} {zs : List Int} {cs : Array Value} {T : TypeId} (h : OwnZ b0 W v zs) (x : Blk W g cs T) (hT : T ≠ 3) : v.ownBlock ≠ some g := by
 intro e
 rcases h.2 with ⟨rfl, _⟩ | ⟨g', cap, cur, rfl, _, hgb, _⟩
 ·cases e
 have : g' = g := by simpa [Value.ownBlock] using e
 subst this
 rw [x.blk] at hgb
 injection hgb with hgb
 injection hgb with _ h2
 exact hT h2
theorem Keeps2.grown {W W' : World} {row : Option Nat} (hg : W.grownBy W' row) (hs : b0 + 2 ≤ W.heap.size) (hr : ∀ k, row = some k → b0 + 2 ≤ k) : Keeps2 b0 W W' := fun q _ h2 => hg.block q (by omega) (fun e => by have := hr q e.symm; omega)
structure UsS (b0 : Nat) (w : World) (gT gI gB gL gS : Nat) (AL : Option Addr) (nL cL : Nat) (AO : Option Addr) (nO cO : Nat) (B : Nat → Bool) (zs : List Int) (W : World) : Prop where
 below : Below w.heap.size w W
 tp : Blk W gT #[.slice AL nL cL, .slice AO nO cO] 35
 ins : ∃ v, Blk W gI #[v] 33 ∧ OwnZ b0 W v zs
 bx : Blk W gB #[.slice (some ⟨gL, 0, none⟩) nL nL] 102
 bl : Blk W gL (bls nL B) 4
 sx : Blk W gS #[.slice AL nL cL] 32
theorem UsS.keeps {b0 b1 : Nat} {gT gI gB gL gS : Nat} {AL : Option Addr} {nL cL : Nat} {AO : Option Addr} {nO cO : Nat} {B : Nat → Nat → Bool} {zs : Nat → List Int} (hb : w.heap.size ≤ b1) : OwnFrom b1 (fun k W => UsS b0 w gT gI gB gL gS AL nL cL AO nO cO (B k) (zs k) W) := fun k X Y row h hg hr => by
 have hc := fun r e => (hr r e).2
 obtain ⟨v, h1, h2⟩ := h.ins
 exact ⟨h.below.grown hg h.below.size (fun r e => Nat.le_trans hb (hr r e).1), h.tp.calm hg hc, ⟨v, h1.calm hg hc, h2.calm hg hc⟩, h.bx.calm hg hc, h.bl.calm hg hc, h.sx.calm hg hc⟩
section
variable {b0 : Nat} {w : World} {gT gI gB gL gS : Nat} {AL : Option Addr} {nL cL : Nat} {AO : Option Addr} {nO cO : Nat} {B : Nat → Bool} {zs : List Int} {W W' : World}
theorem UsS.up (h : UsS b0 w gT gI gB gL gS AL nL cL AO nO cO B zs W) (b : Below W.heap.size W W') : UsS b0 w gT gI gB gL gS AL nL cL AO nO cO B zs W' := by
 obtain ⟨v, h1, h2⟩ := h.ins
 exact ⟨below_next h.below h.below.size b rfl rfl rfl rfl, h.tp.next b rfl, ⟨v, h1.next b rfl, h2.next b rfl⟩, h.bx.next b rfl, h.bl.next b rfl, h.sx.next b rfl⟩
theorem UsS.setb (h : UsS b0 w gT gI gB gL gS AL nL cL AO nO cO B zs W) (h1 : gT ≠ gL) (h2 : gI ≠ gL) (h3 : gB ≠ gL) (h4 : gS ≠ gL) (h5 : gL < b0) (h6 : w.heap.size ≤ gL) (x : Nat) : UsS b0 w gT gI gB gL gS AL nL cL AO nO cO (fun j => B j || decide (j = x)) zs (W.setCell ⟨gL, x, none⟩ (.bool true)) := by
 obtain ⟨v, i1, i2⟩ := h.ins
 exact ⟨h.below.setCell (p := ⟨gL, x, none⟩) h6 _, h.tp.other h1 x _, ⟨v, i1.other h2 x _, i2.other h5 x _⟩, h.bx.other h3 x _, h.bl.setb x, h.sx.other h4 x _⟩
theorem UsS.congr {C : Nat → Bool} (h : UsS b0 w gT gI gB gL gS AL nL cL AO nO cO B zs W) (he : ∀ j, j < nL → B j = C j) : UsS b0 w gT gI gB gL gS AL nL cL AO nO cO C zs W := ⟨h.below, h.tp, h.ins, h.bx, by rw [← bls_congr he]; exact h.bl, h.sx⟩
theorem Blk.set0 {T : TypeId} (h : Blk W g #[v] T) (u : Value) : Blk (W.setCell ⟨g, 0, none⟩ u) g #[u] T := ⟨by
 have := h.blk
 simp [World.setCell, Array.getElem?_modify, this]⟩
theorem UsS.grow {v v' : Value} {W2 : World} (h : UsS b0 w gT gI gB gL gS AL nL cL AO nO cO B zs W) (hi : Blk W gI #[v] 33) (ho : OwnZ b0 W v zs) (b : Below W.heap.size W W') (hg : W'.grownBy W2 v.ownBlock) (ho2 : OwnZ b0 W2 v' (zs ++ [x])) (h1 : gT ≠ gI) (h2 : gL ≠ gI) (h3 : gB ≠ gI) (h4 : gS ≠ gI) (l1 : gT < b0) (l2 : gL < b0) (l3 : gB < b0) (l4 : gS < b0) (l5 : gI < b0) (h5 : w.heap.size ≤ gI) :
  UsS b0 w gT gI gB gL gS AL nL cL AO nO cO B (zs ++ [x]) (W2.setCell ⟨gI, 0, none⟩ v') := by
 have far : ∀ q, q < b0 → v.ownBlock ≠ some q := fun q hq e => by have := (ho.lt q e).1; omega
 have hb := below_next h.below h.below.size b rfl rfl rfl rfl
 exact ⟨(hb.grown hg hb.size (fun k e => by have := (ho.lt k e).1; omega)).setCell (p := ⟨gI, 0, none⟩) h5 _, ((h.tp.next b rfl).kept hg (far _ l1)).other h1 0 _, ⟨v', ((hi.next b rfl).kept hg (far _ l5)).set0 v', ho2.other l5 0 _⟩, ((h.bx.next b rfl).kept hg (far _ l3)).other h3 0 _, ((h.bl.next b rfl).kept hg (far _ l2)).other h2 0 _, ((h.sx.next b rfl).kept hg (far _ l4)).other h4 0 _⟩
end
theorem RdZ.other {W : World} {A : Option Addr} {n c : Nat} {O : Nat → Int} (h : RdZ W A n c O) (hne : ∀ b o, A = some ⟨b, o, none⟩ → b ≠ g) (i : Nat) (u : Value) : RdZ (W.setCell ⟨g, i, none⟩ u) A n c O :=
 ⟨h.cap, h.max, fun hn => by
  obtain ⟨b, o, ha, hc⟩ := h.at_ hn
  exact ⟨b, o, ha, fun j hj => cell_oth (hc j hj) (hne b o ha) i u⟩⟩
theorem ops_below {l : Ln} {i x u p : Int} (h : mayLn K l i x u p = true) : ∀ y ∈ opsL l, belowB y i = true := by
 intro y hy
 unfold opsL at hy
 unfold mayLn at h
 split at hy
 ·rename_i ho
  rw [if_neg (by omega), if_neg (by omega), if_neg (by omega), if_neg (by omega), if_neg (by omega), if_pos ho] at h
  simp only [Bool.and_eq_true] at h
  simp only [List.mem_cons, List.not_mem_nil, or_false] at hy
  rcases hy with rfl | rfl
  ·exact h.1
  exact h.2.1
 split at hy
 ·rename_i ho2 ho
  rw [if_neg (by omega), if_neg (by omega), if_neg (by omega), if_neg (by omega), if_neg (by omega), if_neg ho2, if_pos ho] at h
  simp only [Bool.and_eq_true] at h
  simp only [List.mem_cons, List.not_mem_nil, or_false] at hy
  subst hy
  exact h.1
 cases hy
theorem ops_len {l : Ln} : (opsL l).length ≤ 2 := by
 unfold opsL
 split
 ·exact Nat.le_refl 2
 split
 ·exact Nat.le_succ 1
 exact Nat.zero_le 2
end Go.Proofs.YtlpeheonbbaffaaGreatDoor
