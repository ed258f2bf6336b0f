/-
 Contract of slope's Grad, at this translation. Condition: the slices read as limbs, the table of math/bits reads as its text lays it.
-/
import Derived.Test.YtlpjlmophlikeaaGreatDoorPGf
import Derived.Test.YtlpjlmophlikeaaGreatDoorPGg
import Derived.Test.YtlpjlmophlikeaaGreatDoorPGh
set_option maxHeartbeats 8000000
set_option maxRecDepth 100000
namespace Go.Proofs.YtlpjlmophlikeaaGreatDoor
open Go.RowKit

/-- how Grad ends -/
def GradEnd (o : Except Int (List Iv × List (List Iv))) (m : Nat) (w : World) (en : Ending) (w' : World) : Prop :=
 (∃ R D v1 A c, o = .ok (R, D) ∧ R.length = m ∧ D.length = m ∧ en = .returned (.tuple #[v1, .slice A m c, .int .i64 0]) ∧ IRow w' w.heap.size v1 R ∧ RdT w' A m c (fun i => D.getD i []) ∧ Below w.heap.size w w') ∨ (∃ k, o = .error k ∧ k ≠ 0 ∧ en = .returned (.tuple #[.slice none 0 0, .slice none 0 0, .int .i64 k]) ∧ Below w.heap.size w w')
theorem rowD_map {L : List Iv} {l : List Int} : rowD L (fun k => l.getD k 0) l.length = l.map fun k => L.getD k.toNat Iv.zero := by
 unfold rowD
 apply List.ext_getElem?
 intro i
 by_cases h : i < l.length
 ·simp [h, List.getD_eq_getElem?_getD]
 ·simp [h]
theorem upd_self {α : Type} {f : Nat → α} {i : Nat} {v : α} (h : f i = v) : upd f i v = f := by
 funext j
 unfold upd
 split
 ·next e => rw [e, h]
 ·rfl
theorem upd_twice {α : Type} {f : Nat → α} {i : Nat} {u v : α} : upd (upd f i u) i v = upd f i v := by
 funext j
 unfold upd
 split <;> rfl
theorem app_upd {Q : List (List Iv)} {R : List Iv} : upd (fun j => Q.getD j []) Q.length R = fun j => (Q ++ [R]).getD j [] := by
 funext j
 unfold upd
 by_cases h : j = Q.length
 ·rw [if_pos h, h]
  simp [List.getD_eq_getElem?_getD]
 ·rw [if_neg h]
  by_cases h2 : j < Q.length
  ·simp [List.getD_eq_getElem?_getD, List.getElem?_append, h2]
  ·have h3 : Q.length + 1 ≤ j := by omega
   have e1 : Q[j]? = none := List.getElem?_eq_none (by omega)
   have e2 : (Q ++ [R])[j]? = none := List.getElem?_eq_none (by rw [List.length_append]; exact h3)
   show Q.getD j [] = (Q ++ [R]).getD j []
   rw [List.getD_eq_getElem?_getD, List.getD_eq_getElem?_getD, e1, e2]
theorem upd_get {f : Nat → List Iv} {i k : Nat} {R : List Iv} (h : R.length = k) (h2 : f i = []) : (fun j => (upd f i R j).getD k Iv.zero) = fun j => (f j).getD k Iv.zero := by
 funext j
 unfold upd
 split
 ·next e =>
  have e1 : R[k]? = none := List.getElem?_eq_none (by omega)
  rw [e, h2, List.getD_eq_getElem?_getD, e1]
  rfl
 ·rfl
theorem grad_lin {S : Sc} {T : Tp} {E : En} {p k : Int} (h : linesO S T E p = .error k) : gradO S T E p = .error k := by
 unfold gradO
 rw [h]
 rfl
theorem grad_tab {S : Sc} {T : Tp} {E : En} {p k : Int} {V : List Iv} (h : linesO S T E p = .ok V) (h2 : tabO S T.L (fun i => V.getD i Iv.zero) (fun k => (askS (namB T.L T.n) E.nx).1.getD k 0) (askS (namB T.L T.n) E.nx).1.length p T.n = .error k) : gradO S T E p = .error k := by
 unfold gradO
 rw [h]
 simp only [thn, h2]
theorem grad_ok {S : Sc} {T : Tp} {E : En} {p : Int} {V : List Iv} {Q : List (List Iv)} (h : linesO S T E p = .ok V) (h2 : tabO S T.L (fun i => V.getD i Iv.zero) (fun k => (askS (namB T.L T.n) E.nx).1.getD k 0) (askS (namB T.L T.n) E.nx).1.length p T.n = .ok Q) :
  gradO S T E p = .ok (vO (fun i => V.getD i Iv.zero) T.O T.m, dO (fun j => Q.getD j []) (fun k => (askS (namB T.L T.n) E.nx).2.1.getD k 0) (askS (namB T.L T.n) E.nx).2.1.length T.O T.m) := by
 unfold gradO
 rw [h]
 simp only [thn, h2]
 unfold dO
 simp only [rowD_map]
 rfl
theorem tab_fail {S : Sc} {L : Nat → Ln} {V : Nat → Iv} {Q : List (List Iv)} {st : Nat → Int} {p : Int} {m n i k : Nat} {e : Int} {R : List Iv} (h : tabO S L V st m p i = .ok Q) (h2 : rowO S (L i) V (fun j => Q.getD j []) (V i) st p k = .ok R) (h3 : nextO S (L i) V (fun j => (Q.getD j []).getD k Iv.zero) (V i) (st k) p = .error e) (hk : k < m) (hi : i < n) : tabO S L V st m p n = .error e := by
 have h4 := row_err (d := m - (k + 1)) (row_bad h2 h3)
 rw [show k + 1 + (m - (k + 1)) = m by omega] at h4
 have h5 := tab_err (d := n - (i + 1)) (tab_bad h h4)
 rwa [show i + 1 + (n - (i + 1)) = n by omega] at h5

theorem sgrad_any (S : Sc) {w : World} {E : En} {p : Int} {AL : Option Addr} {nL cL : Nat} {AO : Option Addr} {nO cO : Nat} {L : Nat → Ln} {O : Nat → Int} {A3 : Option Addr} {n3 c3 : Nat} {A4 : Option Addr} {n4 c4 : Nat} {AX : Option Addr} {cX : Nat} {AU : Option Addr} {cU : Nat} {AP : Option Addr} {cP : Nat} (hT : Tab w) (hL : RdL w AL nL cL L) (hO : RdZ w AO nO cO O) (hE : RdE w E A3 n3 c3 A4 n4 c4 AX cX AU cU AP cP) (hpl : ∀ i, i < nL → (L i).op ≤ 8) (hx : E.nx ≤ 900) :
  Calls Tryz.prog 10 #[.agg #[.slice AL nL cL, .slice AO nO cO], .agg #[.bool E.t.lo.s, .slice A3 n3 c3, .int .i64 E.t.lo.e, .bool E.t.hi.s, .slice A4 n4 c4, .int .i64 E.t.hi.e, .slice AX E.nx cX, .slice AU E.nu cU, .slice AP E.np cP], .int .i64 p] w (GradEnd (gradO S ⟨nL, L, nO, O⟩ E p) nO w) := by
 have HPLA := Lib.hid hpl
 clear hpl
 have BB := two_below w (.cells #[.slice AL nL cL, .slice AO nO cO] 34) (.cells #[.bool E.t.lo.s, .slice A3 n3 c3, .int .i64 E.t.lo.e, .bool E.t.hi.s, .slice A4 n4 c4, .int .i64 E.t.hi.e, .slice AX E.nx cX, .slice AU E.nu cU, .slice AP E.np cP] 44)
 have xt := mv (below_alloc (w.alloc (.cells #[.slice AL nL cL, .slice AO nO cO] 34)) (.cells #[.bool E.t.lo.s, .slice A3 n3 c3, .int .i64 E.t.lo.e, .bool E.t.hi.s, .slice A4 n4 c4, .int .i64 E.t.hi.e, .slice AX E.nx cX, .slice AU E.nu cU, .slice AP E.np cP] 44)) rfl (Blk.new w #[.slice AL nL cL, .slice AO nO cO] 34)
 have xe : Blk ((w.alloc (.cells #[.slice AL nL cL, .slice AO nO cO] 34)).alloc (.cells #[.bool E.t.lo.s, .slice A3 n3 c3, .int .i64 E.t.lo.e, .bool E.t.hi.s, .slice A4 n4 c4, .int .i64 E.t.hi.e, .slice AX E.nx cX, .slice AU E.nu cU, .slice AP E.np cP] 44)) (w.heap.size + 1) #[.bool E.t.lo.s, .slice A3 n3 c3, .int .i64 E.t.lo.e, .bool E.t.hi.s, .slice A4 n4 c4, .int .i64 E.t.hi.e, .slice AX E.nx cX, .slice AU E.nu cU, .slice AP E.np cP] 44 := by have := Blk.new (w.alloc (.cells #[.slice AL nL cL, .slice AO nO cO] 34)) #[.bool E.t.lo.s, .slice A3 n3 c3, .int .i64 E.t.lo.e, .bool E.t.hi.s, .slice A4 n4 c4, .int .i64 E.t.hi.e, .slice AX E.nx cX, .slice AU E.nu cU, .slice AP E.np cP] 44; simpa using this
 have G := mv BB rfl (J4 hT hL hO hE)
 clear hT hL hO hE
 obtain ⟨hT, hL, hO, hE⟩ := G
 have t0 : World.cell? _ ⟨_, 0, none⟩ = some (.slice AL nL cL) := xt.at 0
 have t1 : World.cell? _ ⟨_, 1, none⟩ = some (.slice AO nO cO) := xt.at 1
 have e0 : World.cell? _ ⟨_, 0, none⟩ = some (.bool E.t.lo.s) := xe.at 0
 have e1 : World.cell? _ ⟨_, 1, none⟩ = some (.slice A3 n3 c3) := xe.at 1
 have e2 : World.cell? _ ⟨_, 2, none⟩ = some (.int .i64 E.t.lo.e) := xe.at 2
 have e3 : World.cell? _ ⟨_, 3, none⟩ = some (.bool E.t.hi.s) := xe.at 3
 have e4 : World.cell? _ ⟨_, 4, none⟩ = some (.slice A4 n4 c4) := xe.at 4
 have e5 : World.cell? _ ⟨_, 5, none⟩ = some (.int .i64 E.t.hi.e) := xe.at 5
 have e6 : World.cell? _ ⟨_, 6, none⟩ = some (.slice AX E.nx cX) := xe.at 6
 have e7 : World.cell? _ ⟨_, 7, none⟩ = some (.slice AU E.nu cU) := xe.at 7
 have e8 : World.cell? _ ⟨_, 8, none⟩ = some (.slice AP E.np cP) := xe.at 8
 clear xt xe
 obtain ⟨q, hq⟩ : ∃ q, q = gradO S ⟨nL, L, nO, O⟩ E p := ⟨_, rfl⟩
 rw [← hq]
 have HQ := Lib.hid hq
 clear hq
 go_enter Tryz.func10, Tryz.ntmps10
 go_wp2
 go_step3
 go_wp2_with fail
 obtain ⟨o, ho⟩ : ∃ o, o = linesO S ⟨nL, L, nO, O⟩ E p := ⟨_, rfl⟩
 have HO := Lib.hid ho
 clear ho
 refine (tellr_to HO.out (tlines_any S hT hL hO hE HPLA.out)).mono ?_
 rintro en w2 ⟨va, rfl, hrow, b⟩
 replace BB := bnx BB b
 have G := mv b rfl (J15 hT hL hO hE t0 t1 e0 e1 e2 e3 e4 e5 e6 e7 e8)
 clear b hT hL hO hE t0 t1 e0 e1 e2 e3 e4 e5 e6 e7 e8
 obtain ⟨hT, hL, hO, hE, t0, t1, e0, e1, e2, e3, e4, e5, e6, e7, e8⟩ := G
 cases hoo : o with
 | error k =>
  have HQQ := Lib.hid (And.intro (HQ.out.trans (grad_lin (HO.out.symm.trans hoo))) (linesO_cod k (HO.out.symm.trans hoo)))
  have hkb : (k != 0) = true := by simp [HQQ.out.2]
  clear hoo
  simp only [okc]
  go_wp2
  exact bodyPost_ret (v := .tuple #[.slice none 0 0, .slice none 0 0, .int .i64 k]) (by simp [results, Tryz.results10, go_sem]) rfl (.inr ⟨k, HQQ.out.1, HQQ.out.2, rfl, BB⟩)
 | ok V =>
  rw [hoo] at hrow
  have HLN := Lib.hid (HO.out.symm.trans hoo)
  clear hoo
  simp only [okc, oli] at hrow ⊢
  have HL2 := Lib.hid (lines_ok HLN.out)
  have hvl : V.length = nL := lin_len HL2.out.2
  have h200 : nL ≤ 200 := (mayT_iff.1 HL2.out.1.2.2.1).1
  have h200o : nO ≤ 200 := (mayT_iff.1 HL2.out.1.2.2.1).2.1
  have HML := Lib.hid (show ∀ i, i < nL → mayLn S.K (L i) (i : Int) E.nx E.nu E.np = true from (mayT_iff.1 HL2.out.1.2.2.1).2.2.1)
  have HMO := Lib.hid (show ∀ j, j < nO → belowB (O j) (nL : Int) = true from (mayT_iff.1 HL2.out.1.2.2.1).2.2.2)
  obtain ⟨AV, cV, hva, hV, _⟩ := hrow.form
  rw [hvl] at hva hV
  subst hva
  clear hrow
  have HVS := Lib.hid (show ∀ i, i < nL → Small (V.getD i Iv.zero) from fun i hi => ends_small (lin_ends HL2.out.2 HPLA.out hi))
  obtain ⟨Vf, hVf⟩ : ∃ f, f = fun i => V.getD i Iv.zero := ⟨_, rfl⟩
  rw [← hVf] at hV
  have HVF := Lib.hid hVf
  clear hVf hvl
  go_wp2_with fail
  refine (sasked_any hL h200 hx fun i hi h3 => by have h := HML.out i hi; unfold mayLn at h; rw [if_neg (by omega), if_neg (by omega), if_pos h3] at h; simp only [Bool.and_eq_true] at h; exact h.1).mono ?_
  rintro en w3 ⟨vs, vk, rfl, hst, hlk, b⟩
  replace BB := bnx BB b
  have G := mv b rfl (J16 hT hL hO hE t0 t1 e0 e1 e2 e3 e4 e5 e6 e7 e8 hV)
  clear b hT hL hO hE t0 t1 e0 e1 e2 e3 e4 e5 e6 e7 e8 hV
  obtain ⟨hT, hL, hO, hE, t0, t1, e0, e1, e2, e3, e4, e5, e6, e7, e8, hV⟩ := G
  obtain ⟨st, hsn⟩ : ∃ l, l = (askS (namB L nL) E.nx).1 := ⟨_, rfl⟩
  obtain ⟨lk, hln⟩ : ∃ l, l = (askS (namB L nL) E.nx).2.1 := ⟨_, rfl⟩
  have HAL := Lib.hid (ask_len (namB L nL) E.nx)
  rw [← hsn] at hst
  rw [← hln] at hlk
  have HST := Lib.hid hsn
  have HLK := Lib.hid hln
  have hlkn : lk.length = E.nx := by rw [hln]; exact HAL.out.1
  have hstn : st.length ≤ E.nx := by rw [hsn]; exact HAL.out.2.1
  clear hsn hln
  obtain ⟨AS, cS, hvs, hSz⟩ := hst.form
  subst hvs
  obtain ⟨AK, cK, hvk, hKz⟩ := hlk.form
  rw [hlkn] at hvk hKz
  subst hvk
  obtain ⟨ns, hns⟩ : ∃ n, n = st.length := ⟨_, rfl⟩
  rw [← hns] at hSz hstn ⊢
  clear hst hlk
  have HNS := Lib.hid hns
  clear hns
  go_wp2_with (at_make; refine law_makeR rfl (.tmp 41) rfl _ nL rfl (by omega) (by omega) ?_; intro w4 hR4 hg4)
  have b := (Below.refl w3.heap.size w3).grown hg4 (Nat.le_refl _) (fun _ e => by cases e)
  have hb4 := b
  clear hg4
  have hsh4 := mv b rfl hV
  have b5 := below_alloc w4 (.cells #[.slice AV nL cV, .slice (some ⟨w3.heap.size, 0, none⟩) nL nL, .int .i64 p] 71)
  have hsh : Sheet (w4.alloc (.cells #[.slice AV nL cV, .slice (some ⟨w3.heap.size, 0, none⟩) nL nL, .int .i64 p] 71)) w3.heap.size w4.heap.size w3.heap.size nL (fun _ => .slice none 0 0) (fun _ => []) AV cV Vf p := ⟨Blk.new w4 #[.slice AV nL cV, .slice (some ⟨w3.heap.size, 0, none⟩) nL nL, .int .i64 p] 71, mv b5 rfl hR4, Nat.le_refl _, mv b5 rfl hsh4⟩
  have hb5 : Below w3.heap.size w3 (w4.alloc (.cells #[.slice AV nL cV, .slice (some ⟨w3.heap.size, 0, none⟩) nL nL, .int .i64 p] 71)) := below_next hb4 hb4.size b5 rfl rfl rfl rfl
  have hgs4 : w4.heap.size < (w4.alloc (.cells #[.slice AV nL cV, .slice (some ⟨w3.heap.size, 0, none⟩) nL nL, .int .i64 p] 71)).heap.size := by simp
  clear b b5 hR4 hsh4 hb4
  have hnm : (nL : Int) ≤ 9223372036854775807 := by omega
  have hnm2 : (ns : Int) ≤ 9223372036854775807 := by omega
  have hsz3 : w.heap.size ≤ w3.heap.size := BB.size
  generalize hgs : w4.heap.size = gs at *
  have t0x := mv hb5 rfl t0
  go_wp2
  go_step3
  go_wp2
  go_loopg [48, 10] nL (fun q vi vc wr => ∃ (i : Nat) (Q : List (List Iv)) (us : Nat → Value), i + q = nL ∧ vi = .int .i64 i ∧ vc = .int .i64 0 ∧ tabO S L Vf (fun k => st.getD k 0) ns p i = .ok Q ∧ Sheet wr w3.heap.size gs w3.heap.size nL us (fun j => Q.getD j []) AV cV Vf p ∧ gs < wr.heap.size ∧ Below w3.heap.size w3 wr)
  case atStart => exact ⟨0, [], fun _ => .slice none 0 0, by omega, rfl, rfl, rfl, hsh, hgs4, hb5⟩
  case round =>
   obtain ⟨i, Q, us, hg, rfl, rfl, htab, hsh, hgs4, hb⟩ := hrel
   have HG := Lib.hid hg
   have HTAB := Lib.hid htab
   have HTL := Lib.hid (tab_len htab)
   have hqi := (tab_len htab).1
   have HQI := Lib.hid hqi
   clear hg htab hqi hb5 t0x
   by_cases hi : i < nL
   ·obtain ⟨g, off, hal, hc⟩ := (mv hb rfl hL).at_ (by omega)
    obtain ⟨A1, n1, c1, A2, n2, c2, ⟨r0, r1, r2, r3, r4, r5, r6, r7, r8⟩, _, _⟩ := hc i hi
    subst hal
    have HMLI := Lib.hid (HML.out i hi)
    obtain ⟨l, hl⟩ : ∃ l, l = L i := ⟨_, rfl⟩
    rw [← hl] at r0 r1 r2 r3 r5 r6 r8
    have HLL := Lib.hid hl
    clear hl hc
    have hp2 : (i : Int) < nL := by omega
    have hp3 : (0 : Int) ≤ i := by omega
    have b1 := below_alloc wr (.cells #[.int .i64 l.op, .int .i64 l.a, .int .i64 l.b, .bool l.k.lo.s, .slice A1 n1 c1, .int .i64 l.k.lo.e, .bool l.k.hi.s, .slice A2 n2 c2, .int .i64 l.k.hi.e] 31)
    have xl := Blk.new wr #[.int .i64 l.op, .int .i64 l.a, .int .i64 l.b, .bool l.k.lo.s, .slice A1 n1 c1, .int .i64 l.k.lo.e, .bool l.k.hi.s, .slice A2 n2 c2, .int .i64 l.k.hi.e] 31
    have hb1 := below_next hb hb.size b1 rfl rfl rfl rfl
    have hsh1 := mv b1 rfl hsh
    have hgs5 : gs < (wr.alloc (.cells #[.int .i64 l.op, .int .i64 l.a, .int .i64 l.b, .bool l.k.lo.s, .slice A1 n1 c1, .int .i64 l.k.lo.e, .bool l.k.hi.s, .slice A2 n2 c2, .int .i64 l.k.hi.e] 31)).heap.size := by have := b1.size; omega
    have hgl3 : w3.heap.size ≤ wr.heap.size := hb.size
    have hgl4 := hsh.rows.blk.gl
    clear b1 hsh hb
    generalize hgl : wr.heap.size = gl at *
    generalize gk = gk1 at *
    go_wp2
    go_step3
    go_wp2
    go_step3
    go_wp2
    go_loopg [55, 10] ns (fun q vk vc wr => ∃ (k : Nat) (R : List Iv) (us : Nat → Value), k + q = ns ∧ vk = .int .i64 k ∧ vc = .int .i64 0 ∧ rowO S (L i) Vf (fun j => Q.getD j []) (Vf i) (fun k => st.getD k 0) p k = .ok R ∧ Sheet wr w3.heap.size gs w3.heap.size nL us (upd (fun j => Q.getD j []) i R) AV cV Vf p ∧ gs < wr.heap.size ∧ Blk wr gl #[.int .i64 l.op, .int .i64 l.a, .int .i64 l.b, .bool l.k.lo.s, .slice A1 n1 c1, .int .i64 l.k.lo.e, .bool l.k.hi.s, .slice A2 n2 c2, .int .i64 l.k.hi.e] 31 ∧ Below w3.heap.size w3 wr)
    case atStart => exact ⟨0, [], us, by omega, rfl, rfl, rfl, by rw [upd_self (by simp [List.getD_eq_getElem?_getD, List.getElem?_eq_none (Nat.le_of_eq HQI.out)])]; exact hsh1, hgs5, xl, hb1⟩
    case round =>
     obtain ⟨k, R, us2, hg, rfl, rfl, hrow, hs2, hgs6, xl2, hb2⟩ := hrel
     have HG2 := Lib.hid hg
     have HROW := Lib.hid hrow
     have hrl := row_len hrow
     clear hg hrow hsh1 hgs5 xl hb1 r0 r1 r2 r3 r4 r5 r6 r7 r8
     by_cases hk : k < ns
     ·obtain ⟨gS, oS, hal, hc⟩ := (mv hb2 rfl hSz).at_ (by omega)
      have r0 := hc k hk
      subst hal
      have hT2 := mv hb2 rfl hT
      obtain ⟨sk, hsk⟩ : ∃ s, s = st.getD k 0 := ⟨_, rfl⟩
      rw [← hsk] at r0
      have HSK := Lib.hid hsk
      clear hc hsk
      have m0 : World.cell? _ ⟨_, 0, none⟩ = some (.int .i64 l.op) := xl2.at 0
      have m1 : World.cell? _ ⟨_, 1, none⟩ = some (.int .i64 l.a) := xl2.at 1
      have m2 : World.cell? _ ⟨_, 2, none⟩ = some (.int .i64 l.b) := xl2.at 2
      have m3 : World.cell? _ ⟨_, 3, none⟩ = some (.bool l.k.lo.s) := xl2.at 3
      have m4 : World.cell? _ ⟨_, 4, none⟩ = some (.slice A1 n1 c1) := xl2.at 4
      have m5 : World.cell? _ ⟨_, 5, none⟩ = some (.int .i64 l.k.lo.e) := xl2.at 5
      have m6 : World.cell? _ ⟨_, 6, none⟩ = some (.bool l.k.hi.s) := xl2.at 6
      have m7 : World.cell? _ ⟨_, 7, none⟩ = some (.slice A2 n2 c2) := xl2.at 7
      have m8 : World.cell? _ ⟨_, 8, none⟩ = some (.int .i64 l.k.hi.e) := xl2.at 8
      have hp4 : (k : Int) < ns := by omega
      have hp5 : (0 : Int) ≤ k := by omega
      have hne : (fun j => Q.getD j []) i = [] := by simp [List.getD_eq_getElem?_getD, List.getElem?_eq_none (Nat.le_of_eq HQI.out)]
      have HUG := Lib.hid (upd_get (f := fun j => Q.getD j []) (i := i) hrl hne)
      go_wp2_with fail
      refine (sreckon_any S (w0 := w3) (st := sk) (k := k) hT2 hb2 hV hs2 hgs6 hi (by rw [HLL.out]; exact HPLA.out i hi) (by rw [HLL.out]; exact HMLI.out) (by rw [upd_at]; exact hrl) (fun j hj => by
       rw [upd_far (by omega)]
       have hm : Q.getD j [] ∈ Q := by
        have : j < Q.length := by rw [HQI.out]; exact hj
        simp [List.getD_eq_getElem?_getD, this]
       rw [(HTL.out.2 _ hm).1]
       exact hk) (by omega)).mono ?_
      rintro en w5 (⟨d, v', hd, rfl, hs5, hkeep, hb5⟩ | ⟨kk, hd, hk0, rfl, hb5⟩)
      ·have HD := Lib.hid hd
       clear hd
       have xl5 : Blk w5 gl #[.int .i64 l.op, .int .i64 l.a, .int .i64 l.b, .bool l.k.lo.s, .slice A1 n1 c1, .int .i64 l.k.lo.e, .bool l.k.hi.s, .slice A2 n2 c2, .int .i64 l.k.hi.e] 31 := ⟨(hkeep gl xl2.gl (by omega) (fun e => by
        obtain ⟨cs, hcs⟩ := (hs2.rows.row i hi).kind gl e
        rw [xl2.blk] at hcs
        injection hcs with hcs
        injection hcs with _ hcs
        exact absurd hcs (by decide))).trans xl2.blk⟩
       have hgs7 := hs5.box.gl
       clear hkeep xl2 hs2 hb2 hT2 r0 m0 m1 m2 m3 m4 m5 m6 m7 m8
       go_wp2
       go_roundg (gk - 1)
       case measure => have := HG2.out; omega
       case rel => exact ⟨k + 1, R ++ [d], upd us2 i v', by have := HG2.out; omega, by go_num, rfl, row_ok HROW.out (by rw [← HUG.out, ← HSK.out, ← HLL.out]; exact HD.out), by rw [upd_at, upd_twice] at hs5; exact hs5, hgs7, xl5, hb5⟩
      ·have HQQ := Lib.hid (And.intro (HQ.out.trans (grad_tab (T := ⟨nL, L, nO, O⟩) HLN.out (by rw [← HST.out, ← HVF.out, ← HNS.out]; exact tab_fail (L := L) HTAB.out HROW.out (by rw [← HUG.out, ← HSK.out, ← HLL.out]; exact hd) hk hi))) hk0)
       have hkb : (kk != 0) = true := by simp [hk0]
       have hkc : (kk == 0) = false := beq_eq_false_iff_ne.2 hk0
       have BB5 := BB.trans (hb5.mono hsz3)
       clear hd hk0 r0 m0 m1 m2 m3 m4 m5 m6 m7 m8 xl2 hs2
       go_wp2
       rw [Exit.noGoto_exit]
       go_wp2
       exact bodyPost_ret (v := .tuple #[.slice none 0 0, .slice none 0 0, .int .i64 kk]) (by simp [results, Tryz.results10, go_sem]) rfl (.inr ⟨kk, HQQ.out.1, HQQ.out.2, rfl, BB5⟩)
     ·have hk2 : k = ns := by have := HG2.out; omega
      subst hk2
      have HT2 := Lib.hid (tab_ok HTAB.out HROW.out)
      have hq2 : upd (fun j => Q.getD j []) i R = fun j => (Q ++ [R]).getD j [] := by
       have := app_upd (Q := Q) (R := R)
       rwa [HQI.out] at this
      rw [hq2] at hs2
      clear hq2
      go_wp2
      rw [Exit.noGoto_normal]
      go_wp2
      go_roundg (gk1 - 1)
      case measure => have := HG.out; omega
      case rel => exact ⟨i + 1, Q ++ [R], us2, by have := HG.out; omega, by go_num, rfl, HT2.out, hs2, hgs6, hb2⟩
   ·have hi2 : i = nL := by have := HG.out; omega
    subst hi2
    have G := mv hb rfl (J3 hO t1 hKz)
    obtain ⟨hO2, t1', hKz2⟩ := G
    have BBr := BB.trans (hb.mono hsz3)
    have hql : ∀ j, j < i → Q.getD j [] ∈ Q := fun j hj => by
     have : j < Q.length := by rw [HQI.out]; exact hj
     simp [List.getD_eq_getElem?_getD, this]
    have HQL := Lib.hid hql
    clear hql
    go_wp2_with fail
    refine (stold_any hsh hO2 HMO.out hKz2 (fun j hj a ha => by
     rw [(HTL.out.2 _ (HQL.out a ha)).1]
     have hm : lk.getD j 0 ∈ lk := by
      have : j < lk.length := by rw [hlkn]; exact hj
      simp [List.getD_eq_getElem?_getD, this]
     have := HAL.out.2.2.2 (lk.getD j 0) (by rw [← HLK.out]; exact hm)
     rw [← HST.out, ← HNS.out] at this
     exact belowB_iff.2 this) (fun a ha => by rw [HVF.out]; exact HVS.out a ha) (fun a ha => (HTL.out.2 _ (HQL.out a ha)).2) h200o hx).mono ?_
    rintro en w9 ⟨v1, A, c, rfl, hr, ht, b⟩
    have HQQ := Lib.hid (HQ.out.trans (grad_ok (T := ⟨i, L, nO, O⟩) HLN.out (by rw [← HST.out, ← HVF.out, ← HNS.out]; exact HTAB.out)))
    have hszr : w.heap.size ≤ wr.heap.size := BBr.size
    have BB9 := BBr.trans (b.mono hszr)
    have hl9 : (vO Vf O nO).length = nO := by simp [vO]
    have hd9 : (dO (fun j => Q.getD j []) (fun k => lk.getD k 0) E.nx O nO).length = nO := by simp [dO]
    go_wp2
    exact bodyPost_ret (v := .tuple #[v1, .slice A nO c, .int .i64 0]) (by simp [results, Tryz.results10, go_sem]) rfl (.inl ⟨_, _, v1, A, c, by rw [HQQ.out, ← HVF.out, ← HLK.out, hlkn], hl9, hd9, rfl, hr.lower hszr, ht, BB9⟩)

end Go.Proofs.YtlpjlmophlikeaaGreatDoor
