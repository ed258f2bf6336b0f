/-
  Contract of slope's told, at this translation.
-/
import Derived.Test.YtehfdfjpmmpndaaGreatDoorQGd
import Derived.Test.YtehfdfjpmmpndaaGreatDoorQGc
import Derived.Test.YtehfdfjpmmpndaaGreatDoorQGf
import Derived.Test.YtehfdfjpmmpndaaGreatDoorQGg
set_option maxHeartbeats 8000000
set_option maxRecDepth 100000
namespace Go.Proofs.YtehfdfjpmmpndaaGreatDoor
open Go.RowKit
variable {a b0 g i k m n : Nat} {p : Int} {v : Value} {w : World}
structure RdT (w : World) (A : Option Addr) (n c : Nat) (D : Nat → List Iv) : Prop where
 cap : n ≤ c
 max : c ≤ 9223372036854775807
 at_ : n ≠ 0 → ∃ b o, A = some ⟨b, o, none⟩ ∧ ∀ i, i < n → ∃ B d, w.cell? ⟨b, o + i, none⟩ = some (.slice B (D i).length d) ∧ RdS w B (D i).length d (fun k => (D i).getD k Iv.zero)
theorem RdT.next {w X w2 : World} {A : Option Addr} {n c : Nat} {D : Nat → List Iv} (h : RdT w A n c D) (b : Below X.heap.size X w2) (e : X.heap = w.heap) : RdT w2 A n c D :=
 ⟨h.cap, h.max, fun hn => by
  obtain ⟨g, o, ha, hc⟩ := h.at_ hn
  refine ⟨g, o, ha, fun i hi => ?_⟩
  obtain ⟨B, d, h1, h2⟩ := hc i hi
  exact ⟨B, d, cell_next b e h1, h2.next b e⟩⟩
instance {w w2 : World} {A : Option Addr} {n c : Nat} {D : Nat → List Iv} : Moves w w2 (RdT w A n c D) (RdT w2 A n c D) := ⟨fun _ b e h => h.next b e⟩
def nilV : Value := .slice none 0 0
structure Outs (w : World) (b0 : Nat) (va vr : Value) (R : List Iv) (us : List Value) (D : List (List Iv)) : Prop where
 r : IRow w b0 va R
 o : RowN w b0 31 1 vr us.length us
 len : us.length = D.length
 u : ∀ j, j < D.length → IRow w b0 (us.getD j nilV) (D.getD j [])
 far : ∀ j k, j < D.length → (us.getD j nilV).ownBlock = some k → va.ownBlock ≠ some k
theorem Outs.next {w X w2 : World} {b0 : Nat} {va vr : Value} {R : List Iv} {us : List Value} {D : List (List Iv)} (h : Outs w b0 va vr R us D) (b : Below X.heap.size X w2) (e : X.heap = w.heap) : Outs w2 b0 va vr R us D := ⟨h.r.next b e, h.o.next b e, h.len, fun j hj => (h.u j hj).next b e, h.far⟩
instance {w w2 : World} {b0 : Nat} {va vr : Value} {R : List Iv} {us : List Value} {D : List (List Iv)} : Moves w w2 (Outs w b0 va vr R us D) (Outs w2 b0 va vr R us D) := ⟨fun _ b e h => h.next b e⟩
theorem outs_nil (w : World) (b0 : Nat) : Outs w b0 nilV nilV [] [] [] := ⟨irow_nil _ _, rown_nil .., rfl, fun j hj => absurd hj (Nat.not_lt_zero j), fun j _ hj => absurd hj (Nat.not_lt_zero j)⟩
theorem RowN.kind {E : TypeId} {size : Nat} {xs : List Value} (h : RowN w b0 E size v m xs) : ∀ k, v.ownBlock = some k → ∃ cs, w.heap[k]? = some (.cells cs E (0, 0)) := by
 intro k hk
 rcases h.1.2 with ⟨rfl, _⟩ | ⟨g, cap, cur, rfl, _, hg, _⟩
 ·cases hk
 injection hk with hk
 subst hk
 exact ⟨cur, hg⟩
theorem kinds_far {v u : Value} {L : List Iv} {xs : List Value} (h : IRow w b0 v L) (h2 : RowN w b0 31 1 u m xs) : ∀ k, v.ownBlock = some k → u.ownBlock ≠ some k := by
 intro k hk hk2
 obtain ⟨c1, e1⟩ := h.kind k hk
 obtain ⟨c2, e2⟩ := h2.kind k hk2
 rw [e1] at e2
 injection e2 with e2
 injection e2 with _ e2
 exact absurd e2 (by decide)
section
variable {w w' : World} {b0 : Nat} {va vr : Value} {R : List Iv} {us : List Value} {D : List (List Iv)}
theorem Outs.value (h : Outs w b0 va vr R us D) {v' : Value} {R' : List Iv} (h1 : IRow w' b0 v' R') (hg : w.grownBy w' va.ownBlock) (ho : v'.ownBlock = va.ownBlock ∨ v'.ownBlock = some w.heap.size) : Outs w' b0 v' vr R' us D := by
 refine ⟨h1, h.o.same fun k hk => hg.block k (h.o.lt k hk).2 (fun e => kinds_far h.r h.o k e.symm hk), h.len, fun j hj => (h.u j hj).grown hg (fun k hk e => h.far j k hj hk e) h.r.no, fun j k hj hk e => ?_⟩
 rcases ho with ho | ho
 ·exact h.far j k hj hk (ho.symm.trans e)
 have := ((h.u j hj).lt k hk).2
 rw [ho] at e
 injection e with e
 omega
theorem Outs.row (h : Outs w b0 va vr R us D) {v' u : Value} {L : List Iv} (h1 : RowN w' b0 31 1 v' (us ++ [u]).length (us ++ [u])) (hg : w.grownBy w' vr.ownBlock) (hu : IRow w b0 u L) (hf : ∀ k, u.ownBlock = some k → va.ownBlock ≠ some k) : Outs w' b0 va v' R (us ++ [u]) (D ++ [L]) := by
 have mvI : ∀ {v : Value} {X : List Iv}, IRow w b0 v X → IRow w' b0 v X := fun hv => hv.grown hg (fun k hk e => kinds_far hv h.o k hk e) h.o.2
 have e1 : ∀ j, j < D.length → (us ++ [u]).getD j nilV = us.getD j nilV ∧ (D ++ [L]).getD j [] = D.getD j [] := fun j hj => by
  have hj2 : j < us.length := by rw [h.len]; exact hj
  simp [List.getD_eq_getElem?_getD, List.getElem?_append, hj, hj2]
 have e2 : (us ++ [u]).getD D.length nilV = u ∧ (D ++ [L]).getD D.length [] = L := by
  have hl := h.len
  simp [List.getD_eq_getElem?_getD, hl]
 refine ⟨mvI h.r, h1, by simp [h.len], fun j hj => ?_, fun j k hj hk => ?_⟩
 ·rw [List.length_append] at hj
  by_cases e : j < D.length
  ·rw [(e1 j e).1, (e1 j e).2]; exact mvI (h.u j e)
  obtain rfl : j = D.length := by simp at hj; omega
  rw [e2.1, e2.2]; exact mvI hu
 rw [List.length_append] at hj
 by_cases e : j < D.length
 ·rw [(e1 j e).1] at hk; exact h.far j k e hk
 obtain rfl : j = D.length := by simp at hj; omega
 rw [e2.1] at hk; exact hf k hk
theorem Outs.told (h : Outs w b0 va vr R us D) : ∃ A c, vr = .slice A D.length c ∧ RdT w A D.length c (fun i => D.getD i []) := by
 have hc := fun g hg => h.o.1.cells (g := g) hg
 have hlen := h.len
 rcases h.o.1.2 with ⟨hv, h3⟩ | ⟨g, cap, cur, hv, _, _, hcap, hm, _, _⟩
 ·rw [hlen] at h3
  exact ⟨none, 0, by rw [hv, h3], ⟨by omega, by omega, fun hn => absurd h3 hn⟩⟩
 rw [hlen] at hcap hv
 refine ⟨some ⟨g, 0, none⟩, cap, hv, ⟨hcap, by unfold maxLen at hm; omega, fun _ => ⟨g, 0, rfl, fun i hi => ?_⟩⟩⟩
 obtain ⟨B, d, hb, hr, _⟩ := (h.u i hi).form
 have hi2 : i < us.length := by omega
 have h2 := hc g (by rw [hv]; rfl) i (us.getD i nilV) (by simp [List.getD_eq_getElem?_getD, hi2])
 rw [show (⟨g, 0, none⟩ : Addr).add i = ⟨g, i, none⟩ by unfold Addr.add; split <;> simp_all, hb] at h2
 exact ⟨B, d, by rw [show (0 : Nat) + i = i by omega]; exact h2, hr⟩
end
theorem IRow.frozen {w : World} {base g : Nat} {v : Value} {L : List Iv} (h : IRow w base v L) (hv : v.ownBlock = some g) (i : Nat) : w.frozen? ⟨g, i, none⟩ = false := by
 obtain ⟨cs, hc⟩ := h.kind g hv
 simp [World.frozen?, hc]
theorem IRow.open6 {base g i : Nat} {L : List Iv} (h : IRow w base v L) (hv : v.ownBlock = some g) (hi : i < L.length) : (∃ u0 u1 u2 u3 u4 u5, w.cell? ⟨g, i * 6, none⟩ = some u0 ∧ w.cell? ⟨g, i * 6 + 1, none⟩ = some u1 ∧ w.cell? ⟨g, i * 6 + 2, none⟩ = some u2 ∧ w.cell? ⟨g, i * 6 + 3, none⟩ = some u3 ∧ w.cell? ⟨g, i * 6 + 4, none⟩ = some u4 ∧ w.cell? ⟨g, i * 6 + 5, none⟩ = some u5) ∧ w.frozen? ⟨g, i * 6, none⟩ = false ∧ w.frozen? ⟨g, i * 6 + 1, none⟩ = false ∧ w.frozen? ⟨g, i * 6 + 2, none⟩ = false ∧ w.frozen? ⟨g, i * 6 + 3, none⟩ = false ∧ w.frozen? ⟨g, i * 6 + 4, none⟩ = false ∧ w.frozen? ⟨g, i * 6 + 5, none⟩ = false := by
 refine ⟨?_, h.frozen hv _, h.frozen hv _, h.frozen hv _, h.frozen hv _, h.frozen hv _, h.frozen hv _⟩
 obtain ⟨A, c, _, _, hf⟩ := h.form
 obtain ⟨g', _, hg', _, hI⟩ := hf (fun e => by rw [e] at hi; exact absurd hi (Nat.not_lt_zero _))
 rw [hv] at hg'
 injection hg' with hg'
 subst hg'
 obtain ⟨_, _, _, _, _, _, ⟨c0, c1, c2, c3, c4, c5⟩, _, _⟩ := hI i hi
 rw [Nat.zero_add] at c0 c1 c2 c3 c4 c5
 exact ⟨_, _, _, _, _, _, c0, c1, c2, c3, c4, c5⟩
theorem below_at6 {w0 w : World} (h : Below b0 w0 w) (hg : b0 ≤ g) (u0 u1 u2 u3 u4 u5 : Value) : Below b0 w0 ((((((w.setCell ⟨g, i * 6, none⟩ u0).setCell ⟨g, i * 6 + 1, none⟩ u1).setCell ⟨g, i * 6 + 2, none⟩ u2).setCell ⟨g, i * 6 + 3, none⟩ u3).setCell ⟨g, i * 6 + 4, none⟩ u4).setCell ⟨g, i * 6 + 5, none⟩ u5) :=
 (((((h.setCell hg u0).setCell hg u1).setCell hg u2).setCell hg u3).setCell hg u4).setCell hg u5
def vO (V : Nat → Iv) (O : Nat → Int) (j : Nat) : List Iv := (List.range j).map fun i => V (O i).toNat
def rowD (L : List Iv) (K : Nat → Int) (n : Nat) : List Iv := (List.range n).map fun k => L.getD (K k).toNat Iv.zero
def rowK (L : List Iv) (K : Nat → Int) (n k : Nat) : List Iv := (List.range n).map fun j => if j < k then L.getD (K j).toNat Iv.zero else Iv.zero
def dO (Q : Nat → List Iv) (K : Nat → Int) (n : Nat) (O : Nat → Int) (j : Nat) : List (List Iv) := (List.range j).map fun i => rowD (Q (O i).toNat) K n
theorem vO_next {V : Nat → Iv} {O : Nat → Int} {j a : Nat} (h : O j = (a : Int)) : vO V O (j + 1) = vO V O j ++ [V a] := by
 unfold vO
 rw [List.range_succ, List.map_append]
 simp [h]
theorem dO_next {Q : Nat → List Iv} {K : Nat → Int} {O : Nat → Int} {j a : Nat} (h : O j = (a : Int)) : dO Q K n O (j + 1) = dO Q K n O j ++ [rowD (Q a) K n] := by
 unfold dO
 rw [List.range_succ, List.map_append]
 simp [h]
theorem rowK_zero {L : List Iv} {K : Nat → Int} : rowK L K n 0 = List.replicate n Iv.zero := by
 unfold rowK
 apply List.ext_getElem?
 intro i
 by_cases h : i < n
 ·simp [h]
 simp [h]
theorem rowK_all {L : List Iv} {K : Nat → Int} : rowK L K n n = rowD L K n := by
 unfold rowK rowD
 apply List.map_congr_left
 intro j hj
 rw [if_pos (List.mem_range.1 hj)]
theorem rowK_len {L : List Iv} {K : Nat → Int} : (rowK L K n k).length = n := by simp [rowK]
theorem rowK_next {L : List Iv} {K : Nat → Int} (h : K k = (a : Int)) : rowK L K n (k + 1) = (rowK L K n k).set k (L.getD a Iv.zero) := by
 apply List.ext_getElem?
 intro i
 rw [List.getElem?_set]
 unfold rowK
 simp only [List.getElem?_map, List.length_map, List.length_range]
 by_cases e : k = i
 ·subst e
  by_cases hk : k < n
  ·simp [hk, h]
  simp [hk]
 rw [if_neg e]
 by_cases hi : i < n
 ·have h2 : (i < k + 1) = (i < k) := by apply propext; omega
  simp [hi, h2]
 simp [hi]
theorem stold_any {b0 gs gr n m nk cO cK cV : Nat} {vs : Nat → Value} {Q : Nat → List Iv} {AV AO AK : Option Addr} {V : Nat → Iv} {O Kf : Nat → Int} (hs : Sheet w b0 gs gr n vs Q AV cV V p) (hO : RdZ w AO m cO O) (hOb : ∀ j, j < m → belowB (O j) (n : Int) = true) (hK : RdZ w AK nk cK Kf) (hKb : ∀ j, j < nk → ∀ i, i < n → belowB (Kf j) ((Q i).length : Int) = true) (hVs : ∀ i, i < n → Small (V i)) (hQs : ∀ i, i < n → ∀ x ∈ Q i, Small x) (hm : m ≤ 200) (hnk : nk ≤ 900) :
  Calls Tryz.prog 23 #[.pointer (some ⟨gs, 0, none⟩), .slice AO m cO, .slice AK nk cK] w (fun en w' => ∃ v1 A c, en = .returned (.tuple #[v1, .slice A m c]) ∧ IRow w' w.heap.size v1 (vO V O m) ∧ RdT w' A m c (fun i => (dO Q Kf nk O m).getD i []) ∧ Below w.heap.size w w') := by
 have HOB := Lib.hid hOb
 have HKB := Lib.hid hKb
 have HSM := Lib.hid (And.intro hVs hQs)
 clear hOb hKb hVs hQs
 go_enter Tryz.func23, Tryz.ntmps23
 go_wp2
 go_loopg [17, 8, 9] m (fun q vi va vr wr => ∃ (i : Nat) (us : List Value), i + q = m ∧ vi = .int .i64 i ∧ Outs wr w.heap.size va vr (vO V O i) us (dO Q Kf nk O i) ∧ Below w.heap.size w wr)
 case atStart => exact ⟨0, [], by omega, rfl, outs_nil _ _, Below.refl _ _⟩
 case round =>
  obtain ⟨i, us, hg, rfl, hout, hb⟩ := hrel
  have HG := Lib.hid hg
  clear hg
  by_cases hi : i < m
  ·obtain ⟨g, off, hal, hc⟩ := (mv hb rfl hO).at_ (by omega)
   have r0 := hc i hi
   obtain ⟨jo, hjo, hjn⟩ := nat_below (HOB.out i hi)
   rw [hjo] at r0
   subst hal
   have HJO := Lib.hid hjo
   clear hc hjo
   have hs1 := mv hb rfl hs
   have s0 := hs1.box.at 0
   obtain ⟨gx, ox, hax, hI⟩ := hs1.vals.at_ (by omega)
   subst hax
   obtain ⟨A3, n3, c3, A4, n4, c4, ⟨y0, y1, y2, y3, y4, y5⟩, q3, q4⟩ := hI jo hjn
   have z1 := len_at q3 (HSM.out.1 jo hjn).1
   have z2 := len_at q4 (HSM.out.1 jo hjn).2
   obtain ⟨xv, hxv⟩ : ∃ x, x = V jo := ⟨_, rfl⟩
   have HXV := Lib.hid hxv
   rw [← hxv] at y0 y2 y3 y5 q3 q4
   clear hxv hI
   have hp2 : (i : Int) < m := by omega
   have hp3 : (0 : Int) ≤ i := by omega
   have hp4 : (jo : Int) < n := by omega
   have hp5 : (0 : Int) ≤ jo := by omega
   go_wp2_with fail
   refine (sown_any q3 q4 z1 z2).mono ?_
   rintro en w2 ⟨A5, n5, c5, A6, n6, c6, rfl, h5, h6, b⟩
   have hb2 := below_next hb hb.size b rfl rfl rfl rfl
   have hout2 := mv b rfl hout
   clear b q3 q4 z1 z2 y0 y1 y2 y3 y4 y5 s0 hs1 hout hb r0
   have b := below_alloc w2 (.cells #[.bool xv.lo.s, .slice A5 n5 c5, .int .i64 xv.lo.e, .bool xv.hi.s, .slice A6 n6 c6, .int .i64 xv.hi.e] 30)
   have xx := Ibx.new w2 xv.lo.s A5 n5 c5 xv.lo.e xv.hi.s A6 n6 c6 xv.hi.e
   have hb3 := below_next hb2 hb2.size b rfl rfl rfl rfl
   have G := mv b rfl (J3 hout2 h5 h6)
   clear b hout2 h5 h6 hb2
   obtain ⟨hout2, h5, h6⟩ := G
   have hlen : (vO V O i).length ≤ 1000 := by simp [vO]; omega
   go_wp2_with (at_builtin; refine wp_appi rfl _ _ rfl rfl rfl hout2.r xx h5 h6 hlen hb3.size ?_)
   intro va' w8 hrow8 hgrow hlimb hat
   have hb8 := grown_below hgrow hb3 (fun k hk => (hlimb k hk).1) hb3.size
   have hout8 := hout2.value hrow8 hgrow (by first | exact hat | simpa using hat)
   clear hgrow hlimb hat hrow8 xx h5 h6 hb3 hlen hout2
   go_wp2_with (at_make; refine law_makeI rfl (.tmp 33) rfl _ nk rfl (by omega) (by omega) ?_; intro w9 hR9 hg9)
   have hb9 := (Below.refl w8.heap.size w8).grown hg9 (Nat.le_refl _) (fun _ e => by cases e)
   have hsz8 : w.heap.size ≤ w8.heap.size := hb8.size
   rw [← rowK_zero (L := Q jo) (K := Kf)] at hR9
   clear hg9
   generalize wr = W1 at *
   generalize gk = gk1 at *
   go_wp2
   go_loopg [37] nk (fun q vk wr => ∃ k : Nat, k + q = nk ∧ vk = .int .i64 k ∧ IRow wr w8.heap.size (.slice (some ⟨w8.heap.size, 0, none⟩) nk nk) (rowK (Q jo) Kf nk k) ∧ Below w8.heap.size w8 wr)
   case atStart => exact ⟨0, by omega, rfl, hR9, hb9⟩
   case round =>
    obtain ⟨k, hg, rfl, hR, hbk⟩ := hrel
    have HG2 := Lib.hid hg
    clear hg hR9 hb9
    by_cases hk : k < nk
    ·have hbw := hb8.trans (hbk.mono hsz8)
     obtain ⟨g2, off2, hal, hc⟩ := (mv hbw rfl hK).at_ (by omega)
     have r0 := hc k hk
     obtain ⟨jk, hjk, hjl⟩ := nat_below (HKB.out k hk jo hjn)
     rw [hjk] at r0
     subst hal
     have HJK := Lib.hid hjk
     clear hc hjk
     have hs1 := mv hbw rfl hs
     have s1 := hs1.box.at 1
     obtain ⟨Ar, cr, _, rr, hrd⟩ := hs1.rows.at hjn
     obtain ⟨gx, ox, hax, hI⟩ := hrd.at_ (by omega)
     subst hax
     have hmem : (Q jo).getD jk Iv.zero ∈ Q jo := by simp [List.getD_eq_getElem?_getD, hjl]
     obtain ⟨A3, n3, c3, A4, n4, c4, ⟨y0, y1, y2, y3, y4, y5⟩, q3, q4⟩ := hI jk hjl
     have z1 := len_at q3 (HSM.out.2 jo hjn _ hmem).1
     have z2 := len_at q4 (HSM.out.2 jo hjn _ hmem).2
     have HRK := Lib.hid (rowK_next (L := Q jo) (n := nk) HJK.out)
     obtain ⟨lq, hlq⟩ : ∃ l, l = (Q jo).length := ⟨_, rfl⟩
     obtain ⟨xv, hxv⟩ : ∃ x, x = (Q jo).getD jk Iv.zero := ⟨_, rfl⟩
     have HXV := Lib.hid hxv
     dsimp only at y0 y1 y2 y3 y4 y5 q3 q4
     rw [← hxv] at y0 y2 y3 y5 q3 q4
     rw [← hlq] at rr hjl
     clear hxv hI hrd hmem hlq
     have hp2 : (k : Int) < nk := by omega
     have hp3 : (0 : Int) ≤ k := by omega
     have hp6 : (jk : Int) < lq := by omega
     have hp7 : (0 : Int) ≤ jk := by omega
     go_wp2_with fail
     refine (sown_any q3 q4 z1 z2).mono ?_
     rintro en w2 ⟨A5, n5, c5, A6, n6, c6, rfl, h5, h6, b⟩
     have hbk2 := below_next hbk hbk.size b rfl rfl rfl rfl
     have hR2 := mv b rfl hR
     clear b q3 q4 z1 z2 y0 y1 y2 y3 y4 y5 s1 hs1 hR hbk r0 rr hbw
     obtain ⟨⟨k0, k1, k2, k3, k4, k5, e0, e1, e2, e3, e4, e5⟩, f0, f1, f2, f3, f4, f5⟩ := hR2.open6 (g := w8.heap.size) rfl (by rw [rowK_len]; exact hk)
     have hR3 := hR2.setAt (g := w8.heap.size) rfl (by rw [rowK_len]; exact hk) h5 h6
     have hbk3 := below_at6 (i := k) hbk2 (Nat.le_refl _) (.bool xv.lo.s) (.slice A5 n5 c5) (.int .i64 xv.lo.e) (.bool xv.hi.s) (.slice A6 n6 c6) (.int .i64 xv.hi.e)
     clear hR2 hbk2 h5 h6
     go_wp2
     go_roundg (gk - 1)
     case measure => have := HG2.out; omega
     case rel => exact ⟨k + 1, by have := HG2.out; omega, by go_num, by rw [HRK.out, ← HXV.out]; exact hR3, hbk3⟩
    have hk2 : k = nk := by have := HG2.out; omega
    subst hk2
    rw [rowK_all] at hR
    have hout9 := mv hbk rfl hout8
    have hb9 := hb8.trans (hbk.mono hsz8)
    have b := below_alloc wr (.cells #[.slice (some ⟨w8.heap.size, 0, none⟩) k k] 31)
    have xc : World.cell? _ ⟨_, 0, none⟩ = some (.slice (some ⟨w8.heap.size, 0, none⟩) k k) := (Blk.new wr #[.slice (some ⟨w8.heap.size, 0, none⟩) k k] 31).at 0
    have hb10 := below_next hb9 hb9.size b rfl rfl rfl rfl
    have G := mv b rfl <| And.intro hout9 <| hR
    clear b hout9 hR hb9 hbk
    obtain ⟨hout9, hR⟩ := G
    have hul : us.length ≤ 1000 := by have h1 := hout9.len; have h2 : (dO Q Kf k O i).length = i := (by simp [dO]); rw [h2] at h1; omega
    have hfar : ∀ q, (Value.slice (some ⟨w8.heap.size, 0, none⟩) k k).ownBlock = some q → va'.ownBlock ≠ some q := fun q hq e => by
     have := (hout8.r.lt q e).2
     injection hq with hq
     have hq : w8.heap.size = q := hq
     omega
    go_wp2_with (at_builtin; refine wp_app1 Tryz.underlying38 infoR rfl (fun u hu => by simp [Value.cells] at hu; rw [hu]; exact nol_slice) (by decide) rfl _ _ rfl rfl rfl hout9.o xc rfl nol_slice hul hb10.size ?_)
    intro vr' w11 hrow11 hg11 hat11
    have hout11 := hout9.row (by rw [List.length_append]; exact hrow11) hg11 (hR.lower hsz8) hfar
    have hb11 := grown_below hg11 hb10 (fun q hq => (hout9.o.lt q hq).1) hb10.size
    clear hrow11 hg11 hat11 hout9 hR hb10 xc hul hfar hout8
    go_wp2
    go_roundg (gk1 - 1)
    case measure => have := HG.out; omega
    case rel => exact ⟨i + 1, us ++ [.slice (some ⟨w8.heap.size, 0, none⟩) k k], by have := HG.out; omega, by go_num, by rw [vO_next HJO.out, dO_next HJO.out, ← HXV.out]; exact hout11, hb11⟩
  have hi2 : i = m := by have := HG.out; omega
  subst hi2
  obtain ⟨A, c, hvr, ht⟩ := hout.told
  have hdl : (dO Q Kf nk O i).length = i := by simp [dO]
  rw [hdl] at hvr ht
  subst hvr
  go_wp2
  exact bodyPost_ret (v := .tuple #[u8, .slice A i c]) (by simp [results, Tryz.results23, go_sem]) rfl ⟨_, _, _, rfl, hout.r, ht, hb⟩
set_option maxHeartbeats 8000000
set_option maxRecDepth 100000
open Go.RowKit
def GradEnd (o : Except Int (List Iv × List (List Iv))) (m : Nat) (w : World) (en : Ending) (w' : World) : Prop :=
 (∃ R D v1 A c, o = .ok (R, D) ∧ R.length = m ∧ D.length = m ∧ en = .returned (.tuple #[v1, .slice A m c, .int .i64 0]) ∧ IRow w' w.heap.size v1 R ∧ RdT w' A m c (fun i => D.getD i []) ∧ Below w.heap.size w w') ∨ (∃ k, o = .error k ∧ k ≠ 0 ∧ en = .returned (.tuple #[.slice none 0 0, .slice none 0 0, .int .i64 k]) ∧ Below w.heap.size w w')
theorem rowD_map {L : List Iv} {l : List Int} : rowD L (fun k => l.getD k 0) l.length = l.map fun k => L.getD k.toNat Iv.zero := by
 unfold rowD
 apply List.ext_getElem?
 intro i
 by_cases h : i < l.length
 ·simp [h, List.getD_eq_getElem?_getD]
 simp [h]
theorem upd_self {α : Type} {f : Nat → α} {v : α} (h : f i = v) : upd f i v = f := by
 funext j
 unfold upd
 split
 ·next e => rw [e, h]
 rfl
theorem upd_twice {α : Type} {f : Nat → α} {u v : α} : upd (upd f i u) i v = upd f i v := by
 funext j
 unfold upd
 split <;> rfl
theorem app_upd {Q : List (List Iv)} {R : List Iv} : upd (fun j => Q.getD j []) Q.length R = fun j => (Q ++ [R]).getD j [] := by
 funext j
 unfold upd
 by_cases h : j = Q.length
 ·rw [if_pos h, h]
  simp [List.getD_eq_getElem?_getD]
 rw [if_neg h]
 by_cases h2 : j < Q.length
 ·simp [List.getD_eq_getElem?_getD, List.getElem?_append, h2]
 have h3 : Q.length + 1 ≤ j := by omega
 have e1 : Q[j]? = none := List.getElem?_eq_none (by omega)
 have e2 : (Q ++ [R])[j]? = none := List.getElem?_eq_none (by rw [List.length_append]; exact h3)
 show Q.getD j [] = (Q ++ [R]).getD j []
 rw [List.getD_eq_getElem?_getD, List.getD_eq_getElem?_getD, e1, e2]
theorem upd_get {f : Nat → List Iv} {R : List Iv} (h : R.length = k) (h2 : f i = []) : (fun j => (upd f i R j).getD k Iv.zero) = fun j => (f j).getD k Iv.zero := by
 funext j
 unfold upd
 split
 ·next e =>
  have e1 : R[k]? = none := List.getElem?_eq_none (by omega)
  rw [e, h2, List.getD_eq_getElem?_getD, e1]
  rfl
 rfl
theorem grad_lin {S : Sc} {T : Tp} {E : En} {p k : Int} (h : linesO S T E p = .error k) : gradO S T E p = .error k := by
 unfold gradO
 rw [h]
 rfl
theorem grad_tab {S : Sc} {T : Tp} {E : En} {p k : Int} {V : List Iv} (h : linesO S T E p = .ok V) (h2 : tabO S T.L (fun i => V.getD i Iv.zero) (fun k => (askS (namB T.L T.n) E.nx).1.getD k 0) (askS (namB T.L T.n) E.nx).1.length p T.n = .error k) : gradO S T E p = .error k := by
 unfold gradO
 rw [h]
 simp only [thn, h2]
theorem grad_ok {S : Sc} {T : Tp} {E : En} {V : List Iv} {Q : List (List Iv)} (h : linesO S T E p = .ok V) (h2 : tabO S T.L (fun i => V.getD i Iv.zero) (fun k => (askS (namB T.L T.n) E.nx).1.getD k 0) (askS (namB T.L T.n) E.nx).1.length p T.n = .ok Q) :
  gradO S T E p = .ok (vO (fun i => V.getD i Iv.zero) T.O T.m, dO (fun j => Q.getD j []) (fun k => (askS (namB T.L T.n) E.nx).2.1.getD k 0) (askS (namB T.L T.n) E.nx).2.1.length T.O T.m) := by
 unfold gradO
 rw [h]
 simp only [thn, h2]
 unfold dO
 simp only [rowD_map]
 rfl
theorem tab_fail {S : Sc} {L : Nat → Ln} {V : Nat → Iv} {Q : List (List Iv)} {st : Nat → Int} {e : Int} {R : List Iv} (h : tabO S L V st m p i = .ok Q) (h2 : rowO S (L i) V (fun j => Q.getD j []) (V i) st p k = .ok R) (h3 : nextO S (L i) V (fun j => (Q.getD j []).getD k Iv.zero) (V i) (st k) p = .error e) (hk : k < m) (hi : i < n) : tabO S L V st m p n = .error e := by
 have h4 := row_err (d := m - (k + 1)) (row_bad h2 h3)
 rw [show k + 1 + (m - (k + 1)) = m by omega] at h4
 have h5 := tab_err (d := n - (i + 1)) (tab_bad h h4)
 rwa [show i + 1 + (n - (i + 1)) = n by omega] at h5
theorem sgrad_any (S : Sc) {E : En} {AL : Option Addr} {nL cL : Nat} {AO : Option Addr} {nO cO : Nat} {L : Nat → Ln} {O : Nat → Int} {A3 : Option Addr} {n3 c3 : Nat} {A4 : Option Addr} {n4 c4 : Nat} {AX : Option Addr} {cX : Nat} {AU : Option Addr} {cU : Nat} {AP : Option Addr} {cP : Nat} (hT : Tab w) (hL : RdL w AL nL cL L) (hO : RdZ w AO nO cO O) (hE : RdE w E A3 n3 c3 A4 n4 c4 AX cX AU cU AP cP) (hx : E.nx ≤ 900) :
  Calls Tryz.prog 9 #[.agg #[.slice AL nL cL, .slice AO nO cO], .agg #[.bool E.t.lo.s, .slice A3 n3 c3, .int .i64 E.t.lo.e, .bool E.t.hi.s, .slice A4 n4 c4, .int .i64 E.t.hi.e, .slice AX E.nx cX, .slice AU E.nu cU, .slice AP E.np cP], .int .i64 p] w (GradEnd (gradO S ⟨nL, L, nO, O⟩ E p) nO w) := by
 have BB := two_below w (.cells #[.slice AL nL cL, .slice AO nO cO] 25) (.cells #[.bool E.t.lo.s, .slice A3 n3 c3, .int .i64 E.t.lo.e, .bool E.t.hi.s, .slice A4 n4 c4, .int .i64 E.t.hi.e, .slice AX E.nx cX, .slice AU E.nu cU, .slice AP E.np cP] 33)
 have xt := mv (below_alloc (w.alloc (.cells #[.slice AL nL cL, .slice AO nO cO] 25)) (.cells #[.bool E.t.lo.s, .slice A3 n3 c3, .int .i64 E.t.lo.e, .bool E.t.hi.s, .slice A4 n4 c4, .int .i64 E.t.hi.e, .slice AX E.nx cX, .slice AU E.nu cU, .slice AP E.np cP] 33)) rfl (Blk.new w #[.slice AL nL cL, .slice AO nO cO] 25)
 have xe : Blk ((w.alloc (.cells #[.slice AL nL cL, .slice AO nO cO] 25)).alloc (.cells #[.bool E.t.lo.s, .slice A3 n3 c3, .int .i64 E.t.lo.e, .bool E.t.hi.s, .slice A4 n4 c4, .int .i64 E.t.hi.e, .slice AX E.nx cX, .slice AU E.nu cU, .slice AP E.np cP] 33)) (w.heap.size + 1) #[.bool E.t.lo.s, .slice A3 n3 c3, .int .i64 E.t.lo.e, .bool E.t.hi.s, .slice A4 n4 c4, .int .i64 E.t.hi.e, .slice AX E.nx cX, .slice AU E.nu cU, .slice AP E.np cP] 33 := by have := Blk.new (w.alloc (.cells #[.slice AL nL cL, .slice AO nO cO] 25)) #[.bool E.t.lo.s, .slice A3 n3 c3, .int .i64 E.t.lo.e, .bool E.t.hi.s, .slice A4 n4 c4, .int .i64 E.t.hi.e, .slice AX E.nx cX, .slice AU E.nu cU, .slice AP E.np cP] 33; simpa using this
 have G := mv BB rfl (J4 hT hL hO hE)
 clear hT hL hO hE
 obtain ⟨hT, hL, hO, hE⟩ := G
 have t0 : World.cell? _ ⟨_, 0, none⟩ = some (.slice AL nL cL) := xt.at 0
 have t1 : World.cell? _ ⟨_, 1, none⟩ = some (.slice AO nO cO) := xt.at 1
 have e0 : World.cell? _ ⟨_, 0, none⟩ = some (.bool E.t.lo.s) := xe.at 0
 have e1 : World.cell? _ ⟨_, 1, none⟩ = some (.slice A3 n3 c3) := xe.at 1
 have e2 : World.cell? _ ⟨_, 2, none⟩ = some (.int .i64 E.t.lo.e) := xe.at 2
 have e3 : World.cell? _ ⟨_, 3, none⟩ = some (.bool E.t.hi.s) := xe.at 3
 have e4 : World.cell? _ ⟨_, 4, none⟩ = some (.slice A4 n4 c4) := xe.at 4
 have e5 : World.cell? _ ⟨_, 5, none⟩ = some (.int .i64 E.t.hi.e) := xe.at 5
 have e6 : World.cell? _ ⟨_, 6, none⟩ = some (.slice AX E.nx cX) := xe.at 6
 have e7 : World.cell? _ ⟨_, 7, none⟩ = some (.slice AU E.nu cU) := xe.at 7
 have e8 : World.cell? _ ⟨_, 8, none⟩ = some (.slice AP E.np cP) := xe.at 8
 clear xt xe
 obtain ⟨q, hq⟩ : ∃ q, q = gradO S ⟨nL, L, nO, O⟩ E p := ⟨_, rfl⟩
 rw [← hq]
 have HQ := Lib.hid hq
 clear hq
 go_enter Tryz.func9, Tryz.ntmps9
 go_wp2
 go_step3
 go_wp2_with fail
 obtain ⟨o, ho⟩ : ∃ o, o = linesO S ⟨nL, L, nO, O⟩ E p := ⟨_, rfl⟩
 have HO := Lib.hid ho
 clear ho
 refine (tellr_to HO.out (tlines_any S hT hL hO hE)).mono ?_
 rintro en w2 ⟨va, rfl, hrow, b⟩
 replace BB := bnx BB b
 have G := mv b rfl (J15 hT hL hO hE t0 t1 e0 e1 e2 e3 e4 e5 e6 e7 e8)
 clear b hT hL hO hE t0 t1 e0 e1 e2 e3 e4 e5 e6 e7 e8
 obtain ⟨hT, hL, hO, hE, t0, t1, e0, e1, e2, e3, e4, e5, e6, e7, e8⟩ := G
 cases hoo : o with
 | error k =>
  have HQQ := Lib.hid (And.intro (HQ.out.trans (grad_lin (HO.out.symm.trans hoo))) (linesO_cod k (HO.out.symm.trans hoo)))
  have hkb : (k != 0) = true := by simp [HQQ.out.2]
  clear hoo
  simp only [okc]
  go_wp2
  exact bodyPost_ret (v := .tuple #[.slice none 0 0, .slice none 0 0, .int .i64 k]) (by simp [results, Tryz.results9, go_sem]) rfl (.inr ⟨k, HQQ.out.1, HQQ.out.2, rfl, BB⟩)
 | ok V =>
  rw [hoo] at hrow
  have HLN := Lib.hid (HO.out.symm.trans hoo)
  clear hoo
  simp only [okc, oli] at hrow ⊢
  have HL2 := Lib.hid (lines_ok HLN.out)
  have hvl : V.length = nL := lin_len HL2.out.2
  have h200 : nL ≤ 200 := (mayT_iff.1 HL2.out.1.2.2.1).1
  have h200o : nO ≤ 200 := (mayT_iff.1 HL2.out.1.2.2.1).2.1
  have HML := Lib.hid (show ∀ i, i < nL → mayLn S.K (L i) (i : Int) E.nx E.nu E.np = true from (mayT_iff.1 HL2.out.1.2.2.1).2.2.1)
  have HMO := Lib.hid (show ∀ j, j < nO → belowB (O j) (nL : Int) = true from (mayT_iff.1 HL2.out.1.2.2.1).2.2.2)
  obtain ⟨AV, cV, hva, hV, _⟩ := hrow.form
  rw [hvl] at hva hV
  subst hva
  clear hrow
  have HVS := Lib.hid (show ∀ i, i < nL → Small (V.getD i Iv.zero) from fun i hi => ends_small (lin_ends HL2.out.2 hi))
  obtain ⟨Vf, hVf⟩ : ∃ f, f = fun i => V.getD i Iv.zero := ⟨_, rfl⟩
  rw [← hVf] at hV
  have HVF := Lib.hid hVf
  clear hVf hvl
  go_wp2_with fail
  refine (sasked_any hL h200 hx fun i hi h3 => by have h := HML.out i hi; unfold mayLn at h; rw [if_neg (by omega), if_neg (by omega), if_pos h3] at h; simp only [Bool.and_eq_true] at h; exact h.1).mono ?_
  rintro en w3 ⟨vs, vk, rfl, hst, hlk, b⟩
  replace BB := bnx BB b
  have G := mv b rfl (J16 hT hL hO hE t0 t1 e0 e1 e2 e3 e4 e5 e6 e7 e8 hV)
  clear b hT hL hO hE t0 t1 e0 e1 e2 e3 e4 e5 e6 e7 e8 hV
  obtain ⟨hT, hL, hO, hE, t0, t1, e0, e1, e2, e3, e4, e5, e6, e7, e8, hV⟩ := G
  obtain ⟨st, hsn⟩ : ∃ l, l = (askS (namB L nL) E.nx).1 := ⟨_, rfl⟩
  obtain ⟨lk, hln⟩ : ∃ l, l = (askS (namB L nL) E.nx).2.1 := ⟨_, rfl⟩
  have HAL := Lib.hid (ask_len (namB L nL) E.nx)
  rw [← hsn] at hst
  rw [← hln] at hlk
  have HST := Lib.hid hsn
  have HLK := Lib.hid hln
  have hlkn : lk.length = E.nx := by rw [hln]; exact HAL.out.1
  have hstn : st.length ≤ E.nx := by rw [hsn]; exact HAL.out.2.1
  clear hsn hln
  obtain ⟨AS, cS, hvs, hSz⟩ := hst.form
  subst hvs
  obtain ⟨AK, cK, hvk, hKz⟩ := hlk.form
  rw [hlkn] at hvk hKz
  subst hvk
  obtain ⟨ns, hns⟩ : ∃ n, n = st.length := ⟨_, rfl⟩
  rw [← hns] at hSz hstn ⊢
  clear hst hlk
  have HNS := Lib.hid hns
  clear hns
  go_wp2_with (at_make; refine law_makeR rfl (.tmp 41) rfl _ nL rfl (by omega) (by omega) ?_; intro w4 hR4 hg4)
  have b := (Below.refl w3.heap.size w3).grown hg4 (Nat.le_refl _) (fun _ e => by cases e)
  have hb4 := b
  clear hg4
  have hsh4 := mv b rfl hV
  have b5 := below_alloc w4 (.cells #[.slice AV nL cV, .slice (some ⟨w3.heap.size, 0, none⟩) nL nL, .int .i64 p] 62)
  have hsh : Sheet (w4.alloc (.cells #[.slice AV nL cV, .slice (some ⟨w3.heap.size, 0, none⟩) nL nL, .int .i64 p] 62)) w3.heap.size w4.heap.size w3.heap.size nL (fun _ => .slice none 0 0) (fun _ => []) AV cV Vf p := ⟨Blk.new w4 #[.slice AV nL cV, .slice (some ⟨w3.heap.size, 0, none⟩) nL nL, .int .i64 p] 62, mv b5 rfl hR4, Nat.le_refl _, mv b5 rfl hsh4⟩
  have hb5 : Below w3.heap.size w3 (w4.alloc (.cells #[.slice AV nL cV, .slice (some ⟨w3.heap.size, 0, none⟩) nL nL, .int .i64 p] 62)) := below_next hb4 hb4.size b5 rfl rfl rfl rfl
  have hgs4 : w4.heap.size < (w4.alloc (.cells #[.slice AV nL cV, .slice (some ⟨w3.heap.size, 0, none⟩) nL nL, .int .i64 p] 62)).heap.size := by simp
  clear b b5 hR4 hsh4 hb4
  have hnm : (nL : Int) ≤ 9223372036854775807 := by omega
  have hnm2 : (ns : Int) ≤ 9223372036854775807 := by omega
  have hsz3 : w.heap.size ≤ w3.heap.size := BB.size
  generalize hgs : w4.heap.size = gs at *
  have t0x := mv hb5 rfl t0
  go_wp2
  go_step3
  go_wp2
  go_loopg [48, 10] nL (fun q vi vc wr => ∃ (i : Nat) (Q : List (List Iv)) (us : Nat → Value), i + q = nL ∧ vi = .int .i64 i ∧ vc = .int .i64 0 ∧ tabO S L Vf (fun k => st.getD k 0) ns p i = .ok Q ∧ Sheet wr w3.heap.size gs w3.heap.size nL us (fun j => Q.getD j []) AV cV Vf p ∧ gs < wr.heap.size ∧ Below w3.heap.size w3 wr)
  case atStart => exact ⟨0, [], fun _ => .slice none 0 0, by omega, rfl, rfl, rfl, hsh, hgs4, hb5⟩
  case round =>
   obtain ⟨i, Q, us, hg, rfl, rfl, htab, hsh, hgs4, hb⟩ := hrel
   have HG := Lib.hid hg
   have HTAB := Lib.hid htab
   have HTL := Lib.hid (tab_len htab)
   have hqi := (tab_len htab).1
   have HQI := Lib.hid hqi
   clear hg htab hqi hb5 t0x
   by_cases hi : i < nL
   ·obtain ⟨g, off, hal, hc⟩ := (mv hb rfl hL).at_ (by omega)
    obtain ⟨A1, n1, c1, A2, n2, c2, ⟨r0, r1, r2, r3, r4, r5, r6, r7, r8⟩, _, _⟩ := hc i hi
    subst hal
    have HMLI := Lib.hid (HML.out i hi)
    obtain ⟨l, hl⟩ : ∃ l, l = L i := ⟨_, rfl⟩
    rw [← hl] at r0 r1 r2 r3 r5 r6 r8
    have HLL := Lib.hid hl
    clear hl hc
    have hp2 : (i : Int) < nL := by omega
    have hp3 : (0 : Int) ≤ i := by omega
    have b1 := below_alloc wr (.cells #[.int .i64 l.op, .int .i64 l.a, .int .i64 l.b, .bool l.k.lo.s, .slice A1 n1 c1, .int .i64 l.k.lo.e, .bool l.k.hi.s, .slice A2 n2 c2, .int .i64 l.k.hi.e] 46)
    have xl := Blk.new wr #[.int .i64 l.op, .int .i64 l.a, .int .i64 l.b, .bool l.k.lo.s, .slice A1 n1 c1, .int .i64 l.k.lo.e, .bool l.k.hi.s, .slice A2 n2 c2, .int .i64 l.k.hi.e] 46
    have hb1 := below_next hb hb.size b1 rfl rfl rfl rfl
    have hsh1 := mv b1 rfl hsh
    have hgs5 : gs < (wr.alloc (.cells #[.int .i64 l.op, .int .i64 l.a, .int .i64 l.b, .bool l.k.lo.s, .slice A1 n1 c1, .int .i64 l.k.lo.e, .bool l.k.hi.s, .slice A2 n2 c2, .int .i64 l.k.hi.e] 46)).heap.size := by have := b1.size; omega
    have hgl3 : w3.heap.size ≤ wr.heap.size := hb.size
    have hgl4 := hsh.rows.blk.gl
    clear b1 hsh hb
    generalize hgl : wr.heap.size = gl at *
    generalize gk = gk1 at *
    go_wp2
    go_step3
    go_wp2
    go_step3
    go_wp2
    go_loopg [55, 10] ns (fun q vk vc wr => ∃ (k : Nat) (R : List Iv) (us : Nat → Value), k + q = ns ∧ vk = .int .i64 k ∧ vc = .int .i64 0 ∧ rowO S (L i) Vf (fun j => Q.getD j []) (Vf i) (fun k => st.getD k 0) p k = .ok R ∧ Sheet wr w3.heap.size gs w3.heap.size nL us (upd (fun j => Q.getD j []) i R) AV cV Vf p ∧ gs < wr.heap.size ∧ Blk wr gl #[.int .i64 l.op, .int .i64 l.a, .int .i64 l.b, .bool l.k.lo.s, .slice A1 n1 c1, .int .i64 l.k.lo.e, .bool l.k.hi.s, .slice A2 n2 c2, .int .i64 l.k.hi.e] 46 ∧ Below w3.heap.size w3 wr)
    case atStart => exact ⟨0, [], us, by omega, rfl, rfl, rfl, by rw [upd_self (by simp [List.getD_eq_getElem?_getD, List.getElem?_eq_none (Nat.le_of_eq HQI.out)])]; exact hsh1, hgs5, xl, hb1⟩
    case round =>
     obtain ⟨k, R, us2, hg, rfl, rfl, hrow, hs2, hgs6, xl2, hb2⟩ := hrel
     have HG2 := Lib.hid hg
     have HROW := Lib.hid hrow
     have hrl := row_len hrow
     clear hg hrow hsh1 hgs5 xl hb1 r0 r1 r2 r3 r4 r5 r6 r7 r8
     by_cases hk : k < ns
     ·obtain ⟨gS, oS, hal, hc⟩ := (mv hb2 rfl hSz).at_ (by omega)
      have r0 := hc k hk
      subst hal
      have hT2 := mv hb2 rfl hT
      obtain ⟨sk, hsk⟩ : ∃ s, s = st.getD k 0 := ⟨_, rfl⟩
      rw [← hsk] at r0
      have HSK := Lib.hid hsk
      clear hc hsk
      have m0 : World.cell? _ ⟨_, 0, none⟩ = some (.int .i64 l.op) := xl2.at 0
      have m1 : World.cell? _ ⟨_, 1, none⟩ = some (.int .i64 l.a) := xl2.at 1
      have m2 : World.cell? _ ⟨_, 2, none⟩ = some (.int .i64 l.b) := xl2.at 2
      have m3 : World.cell? _ ⟨_, 3, none⟩ = some (.bool l.k.lo.s) := xl2.at 3
      have m4 : World.cell? _ ⟨_, 4, none⟩ = some (.slice A1 n1 c1) := xl2.at 4
      have m5 : World.cell? _ ⟨_, 5, none⟩ = some (.int .i64 l.k.lo.e) := xl2.at 5
      have m6 : World.cell? _ ⟨_, 6, none⟩ = some (.bool l.k.hi.s) := xl2.at 6
      have m7 : World.cell? _ ⟨_, 7, none⟩ = some (.slice A2 n2 c2) := xl2.at 7
      have m8 : World.cell? _ ⟨_, 8, none⟩ = some (.int .i64 l.k.hi.e) := xl2.at 8
      have hp4 : (k : Int) < ns := by omega
      have hp5 : (0 : Int) ≤ k := by omega
      have hne : (fun j => Q.getD j []) i = [] := by simp [List.getD_eq_getElem?_getD, List.getElem?_eq_none (Nat.le_of_eq HQI.out)]
      have HUG := Lib.hid (upd_get (f := fun j => Q.getD j []) (i := i) hrl hne)
      go_wp2_with fail
      refine (sreckon_any S (w0 := w3) (st := sk) (k := k) hT2 hb2 hV hs2 hgs6 hi (by rw [HLL.out]; exact HMLI.out) (by rw [upd_at]; exact hrl) (fun j hj => by
       rw [upd_far (by omega)]
       have hm : Q.getD j [] ∈ Q := by
        have : j < Q.length := by rw [HQI.out]; exact hj
        simp [List.getD_eq_getElem?_getD, this]
       rw [(HTL.out.2 _ hm).1]
       exact hk) (by omega)).mono ?_
      rintro en w5 (⟨d, v', hd, rfl, hs5, hkeep, hb5⟩ | ⟨kk, hd, hk0, rfl, hb5⟩)
      ·have HD := Lib.hid hd
       clear hd
       have xl5 : Blk w5 gl #[.int .i64 l.op, .int .i64 l.a, .int .i64 l.b, .bool l.k.lo.s, .slice A1 n1 c1, .int .i64 l.k.lo.e, .bool l.k.hi.s, .slice A2 n2 c2, .int .i64 l.k.hi.e] 46 := ⟨(hkeep gl xl2.gl (by omega) (fun e => by
        obtain ⟨cs, hcs⟩ := (hs2.rows.row i hi).kind gl e
        rw [xl2.blk] at hcs
        injection hcs with hcs
        injection hcs with _ hcs
        exact absurd hcs (by decide))).trans xl2.blk⟩
       have hgs7 := hs5.box.gl
       clear hkeep xl2 hs2 hb2 hT2 r0 m0 m1 m2 m3 m4 m5 m6 m7 m8
       go_wp2
       go_roundg (gk - 1)
       case measure => have := HG2.out; omega
       case rel => exact ⟨k + 1, R ++ [d], upd us2 i v', by have := HG2.out; omega, by go_num, rfl, row_ok HROW.out (by rw [← HUG.out, ← HSK.out, ← HLL.out]; exact HD.out), by rw [upd_at, upd_twice] at hs5; exact hs5, hgs7, xl5, hb5⟩
      have HQQ := Lib.hid (And.intro (HQ.out.trans (grad_tab (T := ⟨nL, L, nO, O⟩) HLN.out (by rw [← HST.out, ← HVF.out, ← HNS.out]; exact tab_fail (L := L) HTAB.out HROW.out (by rw [← HUG.out, ← HSK.out, ← HLL.out]; exact hd) hk hi))) hk0)
      have hkb : (kk != 0) = true := by simp [hk0]
      have hkc : (kk == 0) = false := beq_eq_false_iff_ne.2 hk0
      have BB5 := BB.trans (hb5.mono hsz3)
      clear hd hk0 r0 m0 m1 m2 m3 m4 m5 m6 m7 m8 xl2 hs2
      go_wp2
      rw [Exit.noGoto_exit]
      go_wp2
      exact bodyPost_ret (v := .tuple #[.slice none 0 0, .slice none 0 0, .int .i64 kk]) (by simp [results, Tryz.results9, go_sem]) rfl (.inr ⟨kk, HQQ.out.1, HQQ.out.2, rfl, BB5⟩)
     have hk2 : k = ns := by have := HG2.out; omega
     subst hk2
     have HT2 := Lib.hid (tab_ok HTAB.out HROW.out)
     have hq2 : upd (fun j => Q.getD j []) i R = fun j => (Q ++ [R]).getD j [] := by
      have := app_upd (Q := Q) (R := R)
      rwa [HQI.out] at this
     rw [hq2] at hs2
     clear hq2
     go_wp2
     rw [Exit.noGoto_normal]
     go_wp2
     go_roundg (gk1 - 1)
     case measure => have := HG.out; omega
     case rel => exact ⟨i + 1, Q ++ [R], us2, by have := HG.out; omega, by go_num, rfl, HT2.out, hs2, hgs6, hb2⟩
   have hi2 : i = nL := by have := HG.out; omega
   subst hi2
   have G := mv hb rfl (J3 hO t1 hKz)
   obtain ⟨hO2, t1', hKz2⟩ := G
   have BBr := BB.trans (hb.mono hsz3)
   have hql : ∀ j, j < i → Q.getD j [] ∈ Q := fun j hj => by
    have : j < Q.length := by rw [HQI.out]; exact hj
    simp [List.getD_eq_getElem?_getD, this]
   have HQL := Lib.hid hql
   clear hql
   go_wp2_with fail
   refine (stold_any hsh hO2 HMO.out hKz2 (fun j hj a ha => by
    rw [(HTL.out.2 _ (HQL.out a ha)).1]
    have hm : lk.getD j 0 ∈ lk := by
     have : j < lk.length := by rw [hlkn]; exact hj
     simp [List.getD_eq_getElem?_getD, this]
    have := HAL.out.2.2.2 (lk.getD j 0) (by rw [← HLK.out]; exact hm)
    rw [← HST.out, ← HNS.out] at this
    exact belowB_iff.2 this) (fun a ha => by rw [HVF.out]; exact HVS.out a ha) (fun a ha => (HTL.out.2 _ (HQL.out a ha)).2) h200o hx).mono ?_
   rintro en w9 ⟨v1, A, c, rfl, hr, ht, b⟩
   have HQQ := Lib.hid (HQ.out.trans (grad_ok (T := ⟨i, L, nO, O⟩) HLN.out (by rw [← HST.out, ← HVF.out, ← HNS.out]; exact HTAB.out)))
   have hszr : w.heap.size ≤ wr.heap.size := BBr.size
   have BB9 := BBr.trans (b.mono hszr)
   have hl9 : (vO Vf O nO).length = nO := by simp [vO]
   have hd9 : (dO (fun j => Q.getD j []) (fun k => lk.getD k 0) E.nx O nO).length = nO := by simp [dO]
   go_wp2
   exact bodyPost_ret (v := .tuple #[v1, .slice A nO c, .int .i64 0]) (by simp [results, Tryz.results9, go_sem]) rfl (.inl ⟨_, _, v1, A, c, by rw [HQQ.out, ← HVF.out, ← HLK.out, hlkn], hl9, hd9, rfl, hr.lower hszr, ht, BB9⟩)
end Go.Proofs.YtehfdfjpmmpndaaGreatDoor
