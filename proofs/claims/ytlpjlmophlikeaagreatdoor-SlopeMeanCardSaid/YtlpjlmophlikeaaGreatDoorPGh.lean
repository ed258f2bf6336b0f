/-
 Contract of slope's told, at this translation. Condition: the slices read as limbs, the table of math/bits reads as its text lays it.
-/
import Derived.Test.YtlpjlmophlikeaaGreatDoorPGd
import Derived.Test.YtlpjlmophlikeaaGreatDoorPGc
set_option maxHeartbeats 8000000
set_option maxRecDepth 100000
namespace Go.Proofs.YtlpjlmophlikeaaGreatDoor
open Go.RowKit

/-- a row of rows as it is told: each reads as intervals -/
structure RdT (w : World) (A : Option Addr) (n c : Nat) (D : Nat → List Iv) : Prop where
 cap : n ≤ c
 max : c ≤ 9223372036854775807
 at_ : n ≠ 0 → ∃ b o, A = some ⟨b, o, none⟩ ∧ ∀ i, i < n → ∃ B d, w.cell? ⟨b, o + i, none⟩ = some (.slice B (D i).length d) ∧ RdS w B (D i).length d (fun k => (D i).getD k Iv.zero)
theorem RdT.next {w X w2 : World} {A : Option Addr} {n c : Nat} {D : Nat → List Iv} (h : RdT w A n c D) (b : Below X.heap.size X w2) (e : X.heap = w.heap) : RdT w2 A n c D :=
 ⟨h.cap, h.max, fun hn => by
  obtain ⟨g, o, ha, hc⟩ := h.at_ hn
  refine ⟨g, o, ha, fun i hi => ?_⟩
  obtain ⟨B, d, h1, h2⟩ := hc i hi
  exact ⟨B, d, cell_next b e h1, h2.next b e⟩⟩
instance {w w2 : World} {A : Option Addr} {n c : Nat} {D : Nat → List Iv} : Moves w w2 (RdT w A n c D) (RdT w2 A n c D) := ⟨fun _ b e h => h.next b e⟩
def nilV : Value := .slice none 0 0
/-- what is told so far: values, and rows of derivatives, each in a block of its own -/
structure Outs (w : World) (b0 : Nat) (va vr : Value) (R : List Iv) (us : List Value) (D : List (List Iv)) : Prop where
 r : IRow w b0 va R
 o : RowN w b0 39 1 vr us.length us
 len : us.length = D.length
 u : ∀ j, j < D.length → IRow w b0 (us.getD j nilV) (D.getD j [])
 far : ∀ j k, j < D.length → (us.getD j nilV).ownBlock = some k → va.ownBlock ≠ some k
theorem Outs.next {w X w2 : World} {b0 : Nat} {va vr : Value} {R : List Iv} {us : List Value} {D : List (List Iv)} (h : Outs w b0 va vr R us D) (b : Below X.heap.size X w2) (e : X.heap = w.heap) : Outs w2 b0 va vr R us D := ⟨h.r.next b e, h.o.next b e, h.len, fun j hj => (h.u j hj).next b e, h.far⟩
instance {w w2 : World} {b0 : Nat} {va vr : Value} {R : List Iv} {us : List Value} {D : List (List Iv)} : Moves w w2 (Outs w b0 va vr R us D) (Outs w2 b0 va vr R us D) := ⟨fun _ b e h => h.next b e⟩
theorem outs_nil (w : World) (b0 : Nat) : Outs w b0 nilV nilV [] [] [] := ⟨irow_nil _ _, rown_nil .., rfl, fun j hj => absurd hj (Nat.not_lt_zero j), fun j _ hj => absurd hj (Nat.not_lt_zero j)⟩
theorem RowN.kind {w : World} {b0 : Nat} {E : TypeId} {size : Nat} {v : Value} {m : Nat} {xs : List Value} (h : RowN w b0 E size v m xs) : ∀ k, v.ownBlock = some k → ∃ cs, w.heap[k]? = some (.cells cs E (0, 0)) := by
 intro k hk
 rcases h.1.2 with ⟨rfl, _⟩ | ⟨g, cap, cur, rfl, _, hg, _⟩
 ·cases hk
 ·injection hk with hk
  subst hk
  exact ⟨cur, hg⟩
theorem kinds_far {w : World} {b0 : Nat} {v u : Value} {L : List Iv} {m : Nat} {xs : List Value} (h : IRow w b0 v L) (h2 : RowN w b0 39 1 u m xs) : ∀ k, v.ownBlock = some k → u.ownBlock ≠ some k := by
 intro k hk hk2
 obtain ⟨c1, e1⟩ := h.kind k hk
 obtain ⟨c2, e2⟩ := h2.kind k hk2
 rw [e1] at e2
 injection e2 with e2
 injection e2 with _ e2
 exact absurd e2 (by decide)
section
variable {w w' : World} {b0 : Nat} {va vr : Value} {R : List Iv} {us : List Value} {D : List (List Iv)}
theorem Outs.value (h : Outs w b0 va vr R us D) {v' : Value} {R' : List Iv} (h1 : IRow w' b0 v' R') (hg : w.grownBy w' va.ownBlock) (ho : v'.ownBlock = va.ownBlock ∨ v'.ownBlock = some w.heap.size) : Outs w' b0 v' vr R' us D := by
 refine ⟨h1, h.o.same fun k hk => hg.block k (h.o.lt k hk).2 (fun e => kinds_far h.r h.o k e.symm hk), h.len, fun j hj => (h.u j hj).grown hg (fun k hk e => h.far j k hj hk e) h.r.no, fun j k hj hk e => ?_⟩
 rcases ho with ho | ho
 ·exact h.far j k hj hk (ho.symm.trans e)
 ·have := ((h.u j hj).lt k hk).2
  rw [ho] at e
  injection e with e
  omega
theorem Outs.row (h : Outs w b0 va vr R us D) {v' u : Value} {L : List Iv} (h1 : RowN w' b0 39 1 v' (us ++ [u]).length (us ++ [u])) (hg : w.grownBy w' vr.ownBlock) (hu : IRow w b0 u L) (hf : ∀ k, u.ownBlock = some k → va.ownBlock ≠ some k) : Outs w' b0 va v' R (us ++ [u]) (D ++ [L]) := by
 have mvI : ∀ {v : Value} {X : List Iv}, IRow w b0 v X → IRow w' b0 v X := fun hv => hv.grown hg (fun k hk e => kinds_far hv h.o k hk e) h.o.2
 have e1 : ∀ j, j < D.length → (us ++ [u]).getD j nilV = us.getD j nilV ∧ (D ++ [L]).getD j [] = D.getD j [] := fun j hj => by
  have hj2 : j < us.length := by rw [h.len]; exact hj
  simp [List.getD_eq_getElem?_getD, List.getElem?_append, hj, hj2]
 have e2 : (us ++ [u]).getD D.length nilV = u ∧ (D ++ [L]).getD D.length [] = L := by
  have hl := h.len
  simp [List.getD_eq_getElem?_getD, hl]
 refine ⟨mvI h.r, h1, by simp [h.len], fun j hj => ?_, fun j k hj hk => ?_⟩
 ·rw [List.length_append] at hj
  by_cases e : j < D.length
  ·rw [(e1 j e).1, (e1 j e).2]; exact mvI (h.u j e)
  ·obtain rfl : j = D.length := by simp at hj; omega
   rw [e2.1, e2.2]; exact mvI hu
 ·rw [List.length_append] at hj
  by_cases e : j < D.length
  ·rw [(e1 j e).1] at hk; exact h.far j k e hk
  ·obtain rfl : j = D.length := by simp at hj; omega
   rw [e2.1] at hk; exact hf k hk
theorem Outs.told (h : Outs w b0 va vr R us D) : ∃ A c, vr = .slice A D.length c ∧ RdT w A D.length c (fun i => D.getD i []) := by
 have hc := fun g hg => h.o.1.cells (g := g) hg
 have hlen := h.len
 rcases h.o.1.2 with ⟨hv, h3⟩ | ⟨g, cap, cur, hv, _, _, hcap, hm, _, _⟩
 ·rw [hlen] at h3
  exact ⟨none, 0, by rw [hv, h3], ⟨by omega, by omega, fun hn => absurd h3 hn⟩⟩
 ·rw [hlen] at hcap hv
  refine ⟨some ⟨g, 0, none⟩, cap, hv, ⟨hcap, by unfold maxLen at hm; omega, fun _ => ⟨g, 0, rfl, fun i hi => ?_⟩⟩⟩
  obtain ⟨B, d, hb, hr, _⟩ := (h.u i hi).form
  have hi2 : i < us.length := by omega
  have h2 := hc g (by rw [hv]; rfl) i (us.getD i nilV) (by simp [List.getD_eq_getElem?_getD, hi2])
  rw [show (⟨g, 0, none⟩ : Addr).add i = ⟨g, i, none⟩ by unfold Addr.add; split <;> simp_all, hb] at h2
  exact ⟨B, d, by rw [show (0 : Nat) + i = i by omega]; exact h2, hr⟩
end

def vO (V : Nat → Iv) (O : Nat → Int) (j : Nat) : List Iv := (List.range j).map fun i => V (O i).toNat
def rowD (L : List Iv) (K : Nat → Int) (n : Nat) : List Iv := (List.range n).map fun k => L.getD (K k).toNat Iv.zero
def rowK (L : List Iv) (K : Nat → Int) (n k : Nat) : List Iv := (List.range n).map fun j => if j < k then L.getD (K j).toNat Iv.zero else Iv.zero
def dO (Q : Nat → List Iv) (K : Nat → Int) (n : Nat) (O : Nat → Int) (j : Nat) : List (List Iv) := (List.range j).map fun i => rowD (Q (O i).toNat) K n
theorem vO_next {V : Nat → Iv} {O : Nat → Int} {j a : Nat} (h : O j = (a : Int)) : vO V O (j + 1) = vO V O j ++ [V a] := by
 unfold vO
 rw [List.range_succ, List.map_append]
 simp [h]
theorem dO_next {Q : Nat → List Iv} {K : Nat → Int} {n : Nat} {O : Nat → Int} {j a : Nat} (h : O j = (a : Int)) : dO Q K n O (j + 1) = dO Q K n O j ++ [rowD (Q a) K n] := by
 unfold dO
 rw [List.range_succ, List.map_append]
 simp [h]
theorem rowK_zero {L : List Iv} {K : Nat → Int} {n : Nat} : rowK L K n 0 = List.replicate n Iv.zero := by
 unfold rowK
 apply List.ext_getElem?
 intro i
 by_cases h : i < n
 ·simp [h]
 ·simp [h]
theorem rowK_all {L : List Iv} {K : Nat → Int} {n : Nat} : rowK L K n n = rowD L K n := by
 unfold rowK rowD
 apply List.map_congr_left
 intro j hj
 rw [if_pos (List.mem_range.1 hj)]
theorem rowK_len {L : List Iv} {K : Nat → Int} {n k : Nat} : (rowK L K n k).length = n := by simp [rowK]
theorem rowK_next {L : List Iv} {K : Nat → Int} {n k a : Nat} (h : K k = (a : Int)) : rowK L K n (k + 1) = (rowK L K n k).set k (L.getD a Iv.zero) := by
 apply List.ext_getElem?
 intro i
 rw [List.getElem?_set]
 unfold rowK
 simp only [List.getElem?_map, List.length_map, List.length_range]
 by_cases e : k = i
 ·subst e
  by_cases hk : k < n
  ·simp [hk, h]
  ·simp [hk]
 ·rw [if_neg e]
  by_cases hi : i < n
  ·have h2 : (i < k + 1) = (i < k) := by apply propext; omega
   simp [hi, h2]
  ·simp [hi]

theorem stold_any {w : World} {b0 gs gr n m nk cO cK cV : Nat} {vs : Nat → Value} {Q : Nat → List Iv} {AV AO AK : Option Addr} {V : Nat → Iv} {p : Int} {O Kf : Nat → Int} (hs : Sheet w b0 gs gr n vs Q AV cV V p) (hO : RdZ w AO m cO O) (hOb : ∀ j, j < m → belowB (O j) (n : Int) = true) (hK : RdZ w AK nk cK Kf) (hKb : ∀ j, j < nk → ∀ i, i < n → belowB (Kf j) ((Q i).length : Int) = true) (hVs : ∀ i, i < n → Small (V i)) (hQs : ∀ i, i < n → ∀ x ∈ Q i, Small x) (hm : m ≤ 200) (hnk : nk ≤ 900) :
  Calls Tryz.prog 38 #[.pointer (some ⟨gs, 0, none⟩), .slice AO m cO, .slice AK nk cK] w (fun en w' => ∃ v1 A c, en = .returned (.tuple #[v1, .slice A m c]) ∧ IRow w' w.heap.size v1 (vO V O m) ∧ RdT w' A m c (fun i => (dO Q Kf nk O m).getD i []) ∧ Below w.heap.size w w') := by
 have HOB := Lib.hid hOb
 have HKB := Lib.hid hKb
 have HSM := Lib.hid (And.intro hVs hQs)
 clear hOb hKb hVs hQs
 go_enter Tryz.func38, Tryz.ntmps38
 go_wp2
 go_loopg [17, 8, 9] m (fun q vi va vr wr => ∃ (i : Nat) (us : List Value), i + q = m ∧ vi = .int .i64 i ∧ Outs wr w.heap.size va vr (vO V O i) us (dO Q Kf nk O i) ∧ Below w.heap.size w wr)
 case atStart => exact ⟨0, [], by omega, rfl, outs_nil _ _, Below.refl _ _⟩
 case round =>
  obtain ⟨i, us, hg, rfl, hout, hb⟩ := hrel
  have HG := Lib.hid hg
  clear hg
  by_cases hi : i < m
  ·obtain ⟨g, off, hal, hc⟩ := (mv hb rfl hO).at_ (by omega)
   have r0 := hc i hi
   obtain ⟨jo, hjo, hjn⟩ := nat_below (HOB.out i hi)
   rw [hjo] at r0
   subst hal
   have HJO := Lib.hid hjo
   clear hc hjo
   have hs1 := mv hb rfl hs
   have s0 := hs1.box.at 0
   obtain ⟨gx, ox, hax, hI⟩ := hs1.vals.at_ (by omega)
   subst hax
   obtain ⟨A3, n3, c3, A4, n4, c4, ⟨y0, y1, y2, y3, y4, y5⟩, q3, q4⟩ := hI jo hjn
   have z1 := len_at q3 (HSM.out.1 jo hjn).1
   have z2 := len_at q4 (HSM.out.1 jo hjn).2
   obtain ⟨xv, hxv⟩ : ∃ x, x = V jo := ⟨_, rfl⟩
   have HXV := Lib.hid hxv
   rw [← hxv] at y0 y2 y3 y5 q3 q4
   clear hxv hI
   have hp2 : (i : Int) < m := by omega
   have hp3 : (0 : Int) ≤ i := by omega
   have hp4 : (jo : Int) < n := by omega
   have hp5 : (0 : Int) ≤ jo := by omega
   go_wp2_with fail
   refine (sown_any q3 q4 z1 z2).mono ?_
   rintro en w2 ⟨A5, n5, c5, A6, n6, c6, rfl, h5, h6, b⟩
   have hb2 := below_next hb hb.size b rfl rfl rfl rfl
   have hout2 := mv b rfl hout
   clear b q3 q4 z1 z2 y0 y1 y2 y3 y4 y5 s0 hs1 hout hb r0
   have b := below_alloc w2 (.cells #[.bool xv.lo.s, .slice A5 n5 c5, .int .i64 xv.lo.e, .bool xv.hi.s, .slice A6 n6 c6, .int .i64 xv.hi.e] 29)
   have xx := Ibx.new w2 xv.lo.s A5 n5 c5 xv.lo.e xv.hi.s A6 n6 c6 xv.hi.e
   have hb3 := below_next hb2 hb2.size b rfl rfl rfl rfl
   have G := mv b rfl (J3 hout2 h5 h6)
   clear b hout2 h5 h6 hb2
   obtain ⟨hout2, h5, h6⟩ := G
   have hlen : (vO V O i).length ≤ 1000 := by simp [vO]; omega
   go_wp2_with (at_builtin; refine wp_appi rfl _ _ rfl rfl rfl hout2.r xx h5 h6 hlen hb3.size ?_)
   intro va' w8 hrow8 hgrow hlimb hat
   have hb8 := grown_below hgrow hb3 (fun k hk => (hlimb k hk).1) hb3.size
   have hout8 := hout2.value hrow8 hgrow (by first | exact hat | simpa using hat)
   clear hgrow hlimb hat hrow8 xx h5 h6 hb3 hlen hout2
   go_wp2_with (at_make; refine law_makeI rfl (.tmp 33) rfl _ nk rfl (by omega) (by omega) ?_; intro w9 hR9 hg9)
   have hb9 := (Below.refl w8.heap.size w8).grown hg9 (Nat.le_refl _) (fun _ e => by cases e)
   have hsz8 : w.heap.size ≤ w8.heap.size := hb8.size
   rw [← rowK_zero (L := Q jo) (K := Kf)] at hR9
   clear hg9
   generalize wr = W1 at *
   generalize gk = gk1 at *
   go_wp2
   go_loopg [37] nk (fun q vk wr => ∃ k : Nat, k + q = nk ∧ vk = .int .i64 k ∧ IRow wr w8.heap.size (.slice (some ⟨w8.heap.size, 0, none⟩) nk nk) (rowK (Q jo) Kf nk k) ∧ Below w8.heap.size w8 wr)
   case atStart => exact ⟨0, by omega, rfl, hR9, hb9⟩
   case round =>
    obtain ⟨k, hg, rfl, hR, hbk⟩ := hrel
    have HG2 := Lib.hid hg
    clear hg hR9 hb9
    by_cases hk : k < nk
    ·have hbw := hb8.trans (hbk.mono hsz8)
     obtain ⟨g2, off2, hal, hc⟩ := (mv hbw rfl hK).at_ (by omega)
     have r0 := hc k hk
     obtain ⟨jk, hjk, hjl⟩ := nat_below (HKB.out k hk jo hjn)
     rw [hjk] at r0
     subst hal
     have HJK := Lib.hid hjk
     clear hc hjk
     have hs1 := mv hbw rfl hs
     have s1 := hs1.box.at 1
     obtain ⟨Ar, cr, _, rr, hrd⟩ := hs1.rows.at hjn
     obtain ⟨gx, ox, hax, hI⟩ := hrd.at_ (by omega)
     subst hax
     have hmem : (Q jo).getD jk Iv.zero ∈ Q jo := by simp [List.getD_eq_getElem?_getD, hjl]
     obtain ⟨A3, n3, c3, A4, n4, c4, ⟨y0, y1, y2, y3, y4, y5⟩, q3, q4⟩ := hI jk hjl
     have z1 := len_at q3 (HSM.out.2 jo hjn _ hmem).1
     have z2 := len_at q4 (HSM.out.2 jo hjn _ hmem).2
     have HRK := Lib.hid (rowK_next (L := Q jo) (n := nk) HJK.out)
     obtain ⟨lq, hlq⟩ : ∃ l, l = (Q jo).length := ⟨_, rfl⟩
     obtain ⟨xv, hxv⟩ : ∃ x, x = (Q jo).getD jk Iv.zero := ⟨_, rfl⟩
     have HXV := Lib.hid hxv
     dsimp only at y0 y1 y2 y3 y4 y5 q3 q4
     rw [← hxv] at y0 y2 y3 y5 q3 q4
     rw [← hlq] at rr hjl
     clear hxv hI hrd hmem hlq
     have hp2 : (k : Int) < nk := by omega
     have hp3 : (0 : Int) ≤ k := by omega
     have hp6 : (jk : Int) < lq := by omega
     have hp7 : (0 : Int) ≤ jk := by omega
     go_wp2_with fail
     refine (sown_any q3 q4 z1 z2).mono ?_
     rintro en w2 ⟨A5, n5, c5, A6, n6, c6, rfl, h5, h6, b⟩
     have hbk2 := below_next hbk hbk.size b rfl rfl rfl rfl
     have hR2 := mv b rfl hR
     clear b q3 q4 z1 z2 y0 y1 y2 y3 y4 y5 s1 hs1 hR hbk r0 rr hbw
     obtain ⟨⟨k0, k1, k2, k3, k4, k5, e0, e1, e2, e3, e4, e5⟩, f0, f1, f2, f3, f4, f5⟩ := hR2.open6 (g := w8.heap.size) rfl (by rw [rowK_len]; exact hk)
     have hR3 := hR2.setAt (g := w8.heap.size) rfl (by rw [rowK_len]; exact hk) h5 h6
     have hbk3 := below_at6 (i := k) hbk2 (Nat.le_refl _) (.bool xv.lo.s) (.slice A5 n5 c5) (.int .i64 xv.lo.e) (.bool xv.hi.s) (.slice A6 n6 c6) (.int .i64 xv.hi.e)
     clear hR2 hbk2 h5 h6
     go_wp2
     go_roundg (gk - 1)
     case measure => have := HG2.out; omega
     case rel => exact ⟨k + 1, by have := HG2.out; omega, by go_num, by rw [HRK.out, ← HXV.out]; exact hR3, hbk3⟩
    ·have hk2 : k = nk := by have := HG2.out; omega
     subst hk2
     rw [rowK_all] at hR
     have hout9 := mv hbk rfl hout8
     have hb9 := hb8.trans (hbk.mono hsz8)
     have b := below_alloc wr (.cells #[.slice (some ⟨w8.heap.size, 0, none⟩) k k] 39)
     have xc : World.cell? _ ⟨_, 0, none⟩ = some (.slice (some ⟨w8.heap.size, 0, none⟩) k k) := (Blk.new wr #[.slice (some ⟨w8.heap.size, 0, none⟩) k k] 39).at 0
     have hb10 := below_next hb9 hb9.size b rfl rfl rfl rfl
     have G := mv b rfl <| And.intro hout9 <| hR
     clear b hout9 hR hb9 hbk
     obtain ⟨hout9, hR⟩ := G
     have hul : us.length ≤ 1000 := by have h1 := hout9.len; have h2 : (dO Q Kf k O i).length = i := (by simp [dO]); rw [h2] at h1; omega
     have hfar : ∀ q, (Value.slice (some ⟨w8.heap.size, 0, none⟩) k k).ownBlock = some q → va'.ownBlock ≠ some q := fun q hq e => by
      have := (hout8.r.lt q e).2
      injection hq with hq
      have hq : w8.heap.size = q := hq
      omega
     go_wp2_with (at_builtin; refine wp_app1 Tryz.underlying40 infoR rfl (fun u hu => by simp [Value.cells] at hu; rw [hu]; exact nol_slice) (by decide) rfl _ _ rfl rfl rfl hout9.o xc rfl nol_slice hul hb10.size ?_)
     intro vr' w11 hrow11 hg11 hat11
     have hout11 := hout9.row (by rw [List.length_append]; exact hrow11) hg11 (hR.lower hsz8) hfar
     have hb11 := grown_below hg11 hb10 (fun q hq => (hout9.o.lt q hq).1) hb10.size
     clear hrow11 hg11 hat11 hout9 hR hb10 xc hul hfar hout8
     go_wp2
     go_roundg (gk1 - 1)
     case measure => have := HG.out; omega
     case rel => exact ⟨i + 1, us ++ [.slice (some ⟨w8.heap.size, 0, none⟩) k k], by have := HG.out; omega, by go_num, by rw [vO_next HJO.out, dO_next HJO.out, ← HXV.out]; exact hout11, hb11⟩
  ·have hi2 : i = m := by have := HG.out; omega
   subst hi2
   obtain ⟨A, c, hvr, ht⟩ := hout.told
   have hdl : (dO Q Kf nk O i).length = i := by simp [dO]
   rw [hdl] at hvr ht
   subst hvr
   go_wp2
   exact bodyPost_ret (v := .tuple #[u8, .slice A i c]) (by simp [results, Tryz.results38, go_sem]) rfl ⟨_, _, _, rfl, hout.r, ht, hb⟩

end Go.Proofs.YtlpjlmophlikeaaGreatDoor
