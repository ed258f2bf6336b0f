/-
 Contracts of tape's own, Eval, at this translation. Condition: the slices read as limbs, the table of math/bits reads as its text lays it.
-/
import Derived.Test.YtlpjlmophlikeaaGreatDoorPTh
import Derived.Test.YtlpjlmophlikeaaGreatDoorPOps
set_option maxHeartbeats 8000000
set_option maxRecDepth 100000
namespace Go.Proofs.YtlpjlmophlikeaaGreatDoor
open Go.RowKit

section
variable {S : Sc} {a b : Rw} {x y : Iv} {p : Int}
theorem oc_may {P : Int → Bool → Nat → Int → Prop} (ho : Only P) (hs : Some P) (hk : ∀ s m e, P 0 s m e → OkD s m e) {c : Rw} (h : S.oc P = .ok c) : c.may = true := by
 obtain ⟨s, m, e, hp, rfl⟩ := S.of_ok ho hs h
 exact Rw.of_may (hk _ _ _ hp)
theorem nm_ok0 {s : Bool} {m : Nat} {e : Int} {s' : Bool} {m' : Nat} {e' : Int} (h : Nm s m e 0 s' m' e') : OkD s' m' e' := nm_okd h
theorem wrong_ok0 {s : Bool} {m : Nat} {e : Int} (h : Wrong 0 s m e) : OkD s m e := absurd h.1 (by decide)
theorem outside_ok0 {s : Bool} {m : Nat} {e : Int} (h : Outside 0 s m e) : OkD s m e := absurd h.1 (by decide)
theorem rndO_may {up : Bool} {c : Rw} (h : rndO S a p up = .ok c) : c.may = true := (rnd_may h).2
theorem quoO_may {up : Bool} {c : Rw} (h : quoO S p up a b = .ok c) : c.may = true := oc_may quotR_only quotR_some (fun s m e hp => by
 unfold quotR at hp
 split at hp
 ·split at hp
  ·exact outside_ok0 hp
  ·exact nm_ok0 hp
 ·exact wrong_ok0 hp) h
def Ends (x : Iv) : Prop := x.lo.may = true ∧ x.hi.may = true
theorem thn_fin {α β : Type} {o : Except Int α} {f : α → Except Int β} {c : β} (h : thn o f = .ok c) : ∃ v, o = .ok v ∧ f v = .ok c := by
 cases o with
 | ok v => exact ⟨v, rfl, h⟩
 | error k => cases h
theorem outO_ends (h : outO S a b p = .ok x) : Ends x := by
 obtain ⟨l, h1, h⟩ := thn_fin h
 obtain ⟨r, h2, h⟩ := thn_fin h
 injection h with h
 subst h
 exact ⟨rndO_may h1, rndO_may h2⟩
theorem sumO_ends {z : Iv} (h : sumO S x y p = .ok z) : Ends z := by
 obtain ⟨_, _, h⟩ := thn_fin h
 obtain ⟨_, h1, h⟩ := thn_fin h
 obtain ⟨_, _, h⟩ := thn_fin h
 obtain ⟨_, h2, h⟩ := thn_fin h
 injection h with h
 subst h
 exact ⟨rndO_may h1, rndO_may h2⟩
theorem corO_all {F : Rw → Rw → Except Int Rw} {P : Rw → Prop} (hF : ∀ a b c, F a b = .ok c → P c) {L : List Rw} (h : corO F x y = .ok L) : ∃ a b c d, L = [a, b, c, d] ∧ P a ∧ P b ∧ P c ∧ P d := by
 obtain ⟨_, h1, h⟩ := thn_fin h
 obtain ⟨_, h2, h⟩ := thn_fin h
 obtain ⟨_, h3, h⟩ := thn_fin h
 obtain ⟨_, h4, h⟩ := thn_fin h
 injection h with h
 subst h
 exact ⟨_, _, _, _, rfl, hF _ _ _ h1, hF _ _ _ h2, hF _ _ _ h3, hF _ _ _ h4⟩
theorem leastQ_may {K : Nat} (h1 : a.may = true) (h2 : b.may = true) : (leastQ K a b).may = true := by
 unfold leastQ
 split
 ·exact h2
 ·exact h1
theorem greatQ_may {K : Nat} (h1 : a.may = true) (h2 : b.may = true) : (greatQ K a b).may = true := by
 unfold greatQ
 split
 ·exact h2
 ·exact h1
theorem divI_ends {z : Iv} (h : divI S x y p = .ok z) : Ends z := by
 unfold divI at h
 split at h
 ·cases h
 ·obtain ⟨L, h1, h⟩ := thn_fin h
  obtain ⟨M, h2, h⟩ := thn_fin h
  injection h with h
  subst h
  obtain ⟨a, b, c, d, rfl, m1, m2, m3, m4⟩ := corO_all (P := fun c => c.may = true) (fun _ _ _ h => quoO_may h) h1
  obtain ⟨a', b', c', d', rfl, n1, n2, n3, n4⟩ := corO_all (P := fun c => c.may = true) (fun _ _ _ h => quoO_may h) h2
  exact ⟨leastQ_may (leastQ_may (leastQ_may m1 m2) m3) m4, greatQ_may (greatQ_may (greatQ_may n1 n2) n3) n4⟩
theorem tface1_ok {o : Except Int Iv} {z : Iv} (h : face1 S x p o = .ok z) : o = .ok z := by
 unfold face1 at h
 split at h
 ·exact h
 ·cases h
theorem tface2_ok {o : Except Int Iv} {z : Iv} (h : face2 S x y p o = .ok z) : o = .ok z := by
 unfold face2 at h
 split at h
 ·exact h
 ·cases h
theorem mulI_ends {z : Iv} (h : mulI S x y p = .ok z) : Ends z := by
 obtain ⟨_, _, h⟩ := thn_fin h
 exact outO_ends h
theorem ite_ok {c : Prop} [Decidable c] {a b : Except Int Iv} {z : Iv} {P : Prop} (h : (if c then a else b) = .ok z) (h1 : a = .ok z → P) (h2 : b = .ok z → P) : P := by
 by_cases hc : c
 ·rw [if_pos hc] at h; exact h1 h
 ·rw [if_neg hc] at h; exact h2 h
theorem ite_ok' {c : Prop} [Decidable c] {a b : Except Int Iv} {z : Iv} {P : Prop} (h : (if c then a else b) = .ok z) (h1 : ¬ c) (h2 : b = .ok z → P) : P := by
 rw [if_neg h1] at h; exact h2 h
theorem valO_ends {l : Ln} {V : Nat → Iv} {E : En} {z : Iv} (hpl : l.op ≤ 8) (h : valO S l V E p = .ok z) : Ends z := by
 exact ite_ok h (fun h => outO_ends h) fun h => ite_ok h (fun h => outO_ends h) fun h => ite_ok h (fun h => outO_ends h) fun h => ite_ok h (fun h => outO_ends h) fun h => ite_ok h (fun h => outO_ends h) fun h => ite_ok h (fun h => sumO_ends (tface2_ok h)) fun h => ite_ok h (fun h => sumO_ends (tface2_ok h)) fun h => ite_ok h (fun h => mulI_ends (tface2_ok h)) fun h => ite_ok' h (by omega) fun h => ite_ok' h (by omega) fun h => ite_ok' h (by omega) fun h => ite_ok' h (by omega) fun h => ite_ok' h (by omega) fun h => by cases h
theorem may_small {a : Rw} (h : a.may = true) : a.l.length ≤ 10000000000000 := by
 have hm := (mayD_of a.lt h).1
 unfold mayB at hm
 simp only [Bool.and_eq_true, decide_eq_true_eq] at hm
 omega
theorem lin_ends {L : Nat → Ln} {E : En} {n : Nat} {R : List Iv} (h : linO S L E p n = .ok R) (hpl : ∀ i, i < n → (L i).op ≤ 8) {i : Nat} (hi : i < n) : Ends (R.getD i Iv.zero) := valO_ends (hpl i hi) (lin_at h hi)
end
section
variable {w : World} {g : Nat} {s : Bool} {A : Option Addr} {n c : Nat} {e : Int} {t : Bool} {B : Option Addr} {m d : Nat} {f : Int}
theorem Ibx.set1 (h : Ibx w g s A n c e t B m d f) (A' : Option Addr) (n' c' : Nat) : Ibx (w.setCell ⟨g, 1, none⟩ (.slice A' n' c')) g s A' n' c' e t B m d f := by
 have := h.blk
 refine ⟨?_⟩
 simp [World.setCell, Array.getElem?_modify, this]
theorem Ibx.set4 (h : Ibx w g s A n c e t B m d f) (A' : Option Addr) (n' c' : Nat) : Ibx (w.setCell ⟨g, 4, none⟩ (.slice A' n' c')) g s A n c e t A' n' c' f := by
 have := h.blk
 refine ⟨?_⟩
 simp [World.setCell, Array.getElem?_modify, this]
end

theorem town_any {w : World} {x : Iv} {A1 : Option Addr} {n1 c1 : Nat} {A2 : Option Addr} {n2 c2 : Nat} (h1 : Rd w .u64 Go.Proofs.YtlpjlmophlikeaaGreatDoor.W A1 n1 c1 x.lo.l) (h2 : Rd w .u64 Go.Proofs.YtlpjlmophlikeaaGreatDoor.W A2 n2 c2 x.hi.l) (hn1 : n1 ≤ 10000000000000) (hn2 : n2 ≤ 10000000000000) :
  Calls Tryz.prog 39 #[.agg #[.bool x.lo.s, .slice A1 n1 c1, .int .i64 x.lo.e, .bool x.hi.s, .slice A2 n2 c2, .int .i64 x.hi.e]] w (GivI x w) := by
 have BB := two_below w (.cells #[.bool x.lo.s, .slice A1 n1 c1, .int .i64 x.lo.e, .bool x.hi.s, .slice A2 n2 c2, .int .i64 x.hi.e] 29) (.cells #[.bool false, .slice none 0 0, .int .i64 0, .bool false, .slice none 0 0, .int .i64 0] 29)
 have xa := (Ibx.new w x.lo.s A1 n1 c1 x.lo.e x.hi.s A2 n2 c2 x.hi.e).alloc (.cells #[.bool false, .slice none 0 0, .int .i64 0, .bool false, .slice none 0 0, .int .i64 0] 29)
 have r : Ibx ((w.alloc (.cells #[.bool x.lo.s, .slice A1 n1 c1, .int .i64 x.lo.e, .bool x.hi.s, .slice A2 n2 c2, .int .i64 x.hi.e] 29)).alloc (.cells #[.bool false, .slice none 0 0, .int .i64 0, .bool false, .slice none 0 0, .int .i64 0] 29)) (w.heap.size + 1) false none 0 0 0 false none 0 0 0 := by have := Ibx.new (w.alloc (.cells #[.bool x.lo.s, .slice A1 n1 c1, .int .i64 x.lo.e, .bool x.hi.s, .slice A2 n2 c2, .int .i64 x.hi.e] 29)) false none 0 0 0 false none 0 0 0; simpa using this
 have G := mv BB rfl <| And.intro h1 <| h2
 clear h1 h2
 obtain ⟨h1, h2⟩ := G
 obtain ⟨a0, a1, a2, a3, a4, a5⟩ := xa.held
 go_enter Tryz.func39, Tryz.ntmps39
 go_wp2_with fail
 refine (clone_any h1 hn1).mono ?_
 rintro en w2 ⟨A3, c3, rfl, h3, b, _⟩
 clear h1 a0 a1 a2 a3 a4 a5
 replace BB := bnx BB b
 have G := mv b rfl (J3 h2 xa r)
 clear b h2 xa r
 obtain ⟨h2, xa, r⟩ := G
 obtain ⟨f0, f1, f2, f3, f4, f5⟩ := xa.open
 obtain ⟨a0, a1, a2, a3, a4, a5⟩ := xa.held
 have xb := xa.set1 A3 n1 c3
 have h2' := h2.set1 (h2.off xa.no) 1 (.slice A3 n1 c3)
 have h3' := h3.set1 (h3.off xa.no) 1 (.slice A3 n1 c3)
 have rb := r.other (g' := w.heap.size) (by omega) 1 (.slice A3 n1 c3)
 have hbb := BB.setCell (p := ⟨w.heap.size, 1, none⟩) (Nat.le_refl _) (.slice A3 n1 c3)
 obtain ⟨b0, b1, b2, b3, b4, b5⟩ := xb.held
 go_upto_region 2 with fail
 generalize w2.setCell ⟨w.heap.size, 1, none⟩ (.slice A3 n1 c3) = w3 at *
 clear f0 f1 f2 f3 f4 f5 a0 a1 a2 a3 a4 a5 xa r h2 h3 BB
 go_wp2_with fail
 refine (clone_any h2' hn2).mono ?_
 rintro en w4 ⟨A4, c4, rfl, h4, b, _⟩
 have BB := hbb
 clear h2' hbb b0 b1 b2 b3 b4 b5
 replace BB := bnx BB b
 have G := mv b rfl (J3 h3' xb rb)
 clear b h3' xb rb
 obtain ⟨h3', xb, rb⟩ := G
 obtain ⟨f0, f1, f2, f3, f4, f5⟩ := xb.open
 obtain ⟨a0, a1, a2, a3, a4, a5⟩ := xb.held
 have xc := xb.set4 A4 n2 c4
 have h3c := h3'.set1 (h3'.off xb.no) 4 (.slice A4 n2 c4)
 have h4c := h4.set1 (h4.off xb.no) 4 (.slice A4 n2 c4)
 have rc := rb.other (g' := w.heap.size) (by omega) 4 (.slice A4 n2 c4)
 have hbc := BB.setCell (p := ⟨w.heap.size, 4, none⟩) (Nat.le_refl _) (.slice A4 n2 c4)
 go_upto_region 3 with fail
 generalize w4.setCell ⟨w.heap.size, 4, none⟩ (.slice A4 n2 c4) = w5 at *
 clear f0 f1 f2 f3 f4 f5 a0 a1 a2 a3 a4 a5 xb rb h3' h4 BB
 have BB := hbc
 have r := rc
 obtain ⟨b0, b1, b2, b3, b4, b5⟩ := xc.held
 obtain ⟨f0, f1, f2, f3, f4, f5⟩ := r.open
 obtain ⟨z0, z1, z2, z3, z4, z5⟩ := r.held
 go_wp2
 have qq := r.put x.lo.s A3 n1 c3 x.lo.e x.hi.s A4 n2 c4 x.hi.e
 have hN := h3c.put6 r (.bool x.lo.s) (.slice A3 n1 c3) (.int .i64 x.lo.e) (.bool x.hi.s) (.slice A4 n2 c4) (.int .i64 x.hi.e)
 have hM := h4c.put6 r (.bool x.lo.s) (.slice A3 n1 c3) (.int .i64 x.lo.e) (.bool x.hi.s) (.slice A4 n2 c4) (.int .i64 x.hi.e)
 have HB3 := below_put6 (g := w.heap.size + 1) BB (by omega) (.bool x.lo.s) (.slice A3 n1 c3) (.int .i64 x.lo.e) (.bool x.hi.s) (.slice A4 n2 c4) (.int .i64 x.hi.e)
 obtain ⟨z0, z1, z2, z3, z4, z5⟩ := qq.held
 exact bodyPost_ret (v := .agg #[.bool x.lo.s, .slice A3 n1 c3, .int .i64 x.lo.e, .bool x.hi.s, .slice A4 n2 c4, .int .i64 x.hi.e]) (by simp [results, Tryz.results39, go_sem, z0, z1, z2, z3, z4, z5]) rfl ⟨_, _, _, _, _, _, rfl, hN, hM, HB3⟩

def someO (R : List Iv) (O : Nat → Int) (j : Nat) : List Iv := (List.range j).map fun k => R.getD (O k).toNat Iv.zero
theorem some_next {R : List Iv} {O : Nat → Int} {j : Nat} : someO R O (j + 1) = someO R O j ++ [R.getD (O j).toNat Iv.zero] := by
 unfold someO
 rw [List.range_succ, List.map_append]
 rfl
theorem some_len {R : List Iv} {O : Nat → Int} {j : Nat} : (someO R O j).length = j := by simp [someO]
theorem lines_ok {S : Sc} {T : Tp} {E : En} {p : Int} {R : List Iv} (h : linesO S T E p = .ok R) : (1 ≤ p ∧ p ≤ 300 ∧ mayT S.K T E.nx E.nu E.np = true ∧ mayE S.K E = true) ∧ linO S T.L E p T.n = .ok R := by
 unfold linesO at h
 split at h
 ·rename_i ha
  exact ⟨asksT_iff.1 ha, h⟩
 ·cases h

theorem tellr_to {f : FuncId} {args : Array Value} {w : World} {o o' : Except Int (List Iv)} (h : o = o') (hc : Calls Tryz.prog f args w (TellR o' w)) : Calls Tryz.prog f args w (TellR o w) := by subst h; exact hc

theorem teval_any (S : Sc) {w : World} {E : En} {p : Int} {AL : Option Addr} {nL cL : Nat} {AO : Option Addr} {nO cO : Nat} {L : Nat → Ln} {O : Nat → Int} {A3 : Option Addr} {n3 c3 : Nat} {A4 : Option Addr} {n4 c4 : Nat} {AX : Option Addr} {cX : Nat} {AU : Option Addr} {cU : Nat} {AP : Option Addr} {cP : Nat} (hT : Tab w) (hL : RdL w AL nL cL L) (hO : RdZ w AO nO cO O) (hE : RdE w E A3 n3 c3 A4 n4 c4 AX cX AU cU AP cP) (hpl : ∀ i, i < nL → (L i).op ≤ 8) :
  Calls Tryz.prog 11 #[.agg #[.slice AL nL cL, .slice AO nO cO], .agg #[.bool E.t.lo.s, .slice A3 n3 c3, .int .i64 E.t.lo.e, .bool E.t.hi.s, .slice A4 n4 c4, .int .i64 E.t.hi.e, .slice AX E.nx cX, .slice AU E.nu cU, .slice AP E.np cP], .int .i64 p] w (TellR (evalO S ⟨nL, L, nO, O⟩ E p) w) := by
 have HPLA := Lib.hid hpl
 clear hpl
 have BB := two_below w (.cells #[.slice AL nL cL, .slice AO nO cO] 34) (.cells #[.bool E.t.lo.s, .slice A3 n3 c3, .int .i64 E.t.lo.e, .bool E.t.hi.s, .slice A4 n4 c4, .int .i64 E.t.hi.e, .slice AX E.nx cX, .slice AU E.nu cU, .slice AP E.np cP] 44)
 have xt := mv (below_alloc (w.alloc (.cells #[.slice AL nL cL, .slice AO nO cO] 34)) (.cells #[.bool E.t.lo.s, .slice A3 n3 c3, .int .i64 E.t.lo.e, .bool E.t.hi.s, .slice A4 n4 c4, .int .i64 E.t.hi.e, .slice AX E.nx cX, .slice AU E.nu cU, .slice AP E.np cP] 44)) rfl (Blk.new w #[.slice AL nL cL, .slice AO nO cO] 34)
 have xe : Blk ((w.alloc (.cells #[.slice AL nL cL, .slice AO nO cO] 34)).alloc (.cells #[.bool E.t.lo.s, .slice A3 n3 c3, .int .i64 E.t.lo.e, .bool E.t.hi.s, .slice A4 n4 c4, .int .i64 E.t.hi.e, .slice AX E.nx cX, .slice AU E.nu cU, .slice AP E.np cP] 44)) (w.heap.size + 1) #[.bool E.t.lo.s, .slice A3 n3 c3, .int .i64 E.t.lo.e, .bool E.t.hi.s, .slice A4 n4 c4, .int .i64 E.t.hi.e, .slice AX E.nx cX, .slice AU E.nu cU, .slice AP E.np cP] 44 := by have := Blk.new (w.alloc (.cells #[.slice AL nL cL, .slice AO nO cO] 34)) #[.bool E.t.lo.s, .slice A3 n3 c3, .int .i64 E.t.lo.e, .bool E.t.hi.s, .slice A4 n4 c4, .int .i64 E.t.hi.e, .slice AX E.nx cX, .slice AU E.nu cU, .slice AP E.np cP] 44; simpa using this
 have G := mv BB rfl (J4 hT hL hO hE)
 clear hT hL hO hE
 obtain ⟨hT, hL, hO, hE⟩ := G
 have t0 : World.cell? _ ⟨_, 0, none⟩ = some (.slice AL nL cL) := xt.at 0
 have t1 : World.cell? _ ⟨_, 1, none⟩ = some (.slice AO nO cO) := xt.at 1
 have e0 : World.cell? _ ⟨_, 0, none⟩ = some (.bool E.t.lo.s) := xe.at 0
 have e1 : World.cell? _ ⟨_, 1, none⟩ = some (.slice A3 n3 c3) := xe.at 1
 have e2 : World.cell? _ ⟨_, 2, none⟩ = some (.int .i64 E.t.lo.e) := xe.at 2
 have e3 : World.cell? _ ⟨_, 3, none⟩ = some (.bool E.t.hi.s) := xe.at 3
 have e4 : World.cell? _ ⟨_, 4, none⟩ = some (.slice A4 n4 c4) := xe.at 4
 have e5 : World.cell? _ ⟨_, 5, none⟩ = some (.int .i64 E.t.hi.e) := xe.at 5
 have e6 : World.cell? _ ⟨_, 6, none⟩ = some (.slice AX E.nx cX) := xe.at 6
 have e7 : World.cell? _ ⟨_, 7, none⟩ = some (.slice AU E.nu cU) := xe.at 7
 have e8 : World.cell? _ ⟨_, 8, none⟩ = some (.slice AP E.np cP) := xe.at 8
 clear xt xe
 obtain ⟨o, ho⟩ : ∃ o, o = linesO S ⟨nL, L, nO, O⟩ E p := ⟨_, rfl⟩
 have HO := Lib.hid ho
 clear ho
 obtain ⟨q, hq⟩ : ∃ q, q = evalO S ⟨nL, L, nO, O⟩ E p := ⟨_, rfl⟩
 rw [← hq]
 have HQ := Lib.hid hq
 clear hq
 go_enter Tryz.func11, Tryz.ntmps11
 go_wp2_with fail
 refine (tellr_to HO.out (tlines_any S hT hL hO hE HPLA.out)).mono ?_
 rintro en w2 ⟨va, rfl, hrow, b⟩
 replace BB := bnx BB b
 have G := mv b rfl (J4 hT hO t0 t1)
 clear b hT hO hL hE t0 t1 e0 e1 e2 e3 e4 e5 e6 e7 e8
 obtain ⟨hT, hO, t0, t1⟩ := G
 cases hoo : o with
 | error k =>
  have hk0 : k ≠ 0 := linesO_cod k (HO.out.symm.trans hoo)
  have hqq : q = .error k := by rw [HQ.out]; unfold evalO; rw [← HO.out, hoo]; rfl
  have HQQ := Lib.hid hqq
  clear hqq hoo HQ HO
  simp only [okc]
  go_wp2
  exact bodyPost_ret (v := .tuple #[.slice none 0 0, .int .i64 k]) (by simp [results, Tryz.results11, go_sem]) rfl (tellr_err HQQ.out BB)
 | ok R =>
  rw [hoo] at hrow
  have HLK := Lib.hid (lines_ok (HO.out.symm.trans hoo))
  have hqq : q = .ok (someO R O nO) := by rw [HQ.out]; unfold evalO; rw [← HO.out, hoo]; rfl
  have HQQ := Lib.hid hqq
  clear hoo hqq HQ HO
  simp only [okc]
  simp only [oli] at hrow
  have hlen := lin_len HLK.out.2
  obtain ⟨AV, cV, rfl, hV, _⟩ := hrow.form
  clear hrow
  obtain ⟨nR, hnR⟩ : ∃ nR, nR = R.length := ⟨_, rfl⟩
  rw [← hnR] at hV
  rw [← hnR]
  have HNR := Lib.hid hnR
  have HLEN := Lib.hid (hnR.trans hlen)
  clear hnR hlen
  have lsz : w.heap.size ≤ w2.heap.size := BB.size
  go_wp2
  go_loopg [26, 10] nO (fun q vi vo wr => ∃ j : Nat, j + q = nO ∧ vi = .int .i64 j ∧ IRow wr w2.heap.size vo (someO R O j) ∧ Below w2.heap.size w2 wr)
  case atStart => exact ⟨0, by omega, rfl, irow_nil _ _, Below.refl _ _⟩
  case round =>
   obtain ⟨j, hg, rfl, hrow, hb⟩ := hrel
   have HG := Lib.hid hg
   clear hg
   by_cases hj : j < nO
   ·have h200 : nO ≤ 200 := (mayT_iff.1 HLK.out.1.2.2.1).2.1
    obtain ⟨go, oo, hao, hc⟩ := hO.at_ (by omega)
    have r0 := mv hb rfl (hc j hj)
    subst hao
    clear hc
    obtain ⟨z, hz, hzl⟩ := nat_below ((mayT_iff.1 HLK.out.1.2.2.1).2.2.2 j hj)
    have HZ := Lib.hid (show O j = (z : Int) from hz)
    rw [HZ.out] at r0
    clear hz
    replace hzl : z < nR := by rw [HLEN.out]; exact hzl
    obtain ⟨gv, ov, hav, hI⟩ := hV.at_ (by omega)
    subst hav
    have hI2 : IvAt wr gv (ov + z * 6) (R.getD z Iv.zero) := (hI.next hb rfl) z hzl
    obtain ⟨A1, n1, c1, A2, n2, c2, ⟨s0, s1, s2, s3, s4, s5⟩, q1, q2⟩ := hI2
    clear hI
    have hends := lin_ends HLK.out.2 HPLA.out (i := z) (by rw [← HLEN.out]; exact hzl)
    obtain ⟨x, hx⟩ : ∃ x, x = R.getD z Iv.zero := ⟨_, rfl⟩
    rw [← hx] at s0 s2 s3 s5 q1 q2 hends
    have HX := Lib.hid hx
    clear hx
    have hn1 : n1 ≤ 10000000000000 := by rw [← q1.len]; exact may_small hends.1
    have hn2 : n2 ≤ 10000000000000 := by rw [← q2.len]; exact may_small hends.2
    have t0' := mv hb rfl t0
    have t1' := mv hb rfl t1
    have hp2 : (j : Int) < nO := by omega
    have hp3 : (0 : Int) ≤ j := by omega
    have hp4 : (z : Int) < nR := by omega
    have hp5 : (0 : Int) ≤ z := by omega
    go_wp2_with fail
    refine (town_any q1 q2 hn1 hn2).mono ?_
    rintro en w3 ⟨A5, n5, c5, A6, n6, c6, rfl, h5, h6, b⟩
    have hb3 := below_next hb hb.size b rfl rfl rfl rfl
    replace hrow := mv b rfl hrow
    clear b q1 q2 s0 s1 s2 s3 s4 s5 r0 t0' t1' hn1 hn2 hends
    have b7 := below_alloc w3 (.cells #[.bool x.lo.s, .slice A5 n5 c5, .int .i64 x.lo.e, .bool x.hi.s, .slice A6 n6 c6, .int .i64 x.hi.e] 29)
    have xv := Ibx.new w3 x.lo.s A5 n5 c5 x.lo.e x.hi.s A6 n6 c6 x.hi.e
    have hb7 := below_next hb3 hb3.size b7 rfl rfl rfl rfl
    have G := mv b7 rfl (J3 hrow h5 h6)
    clear hrow h5 h6 b7
    obtain ⟨hrow, h5, h6⟩ := G
    have hlen : (someO R O j).length ≤ 1000 := by rw [some_len]; have := (mayT_iff.1 HLK.out.1.2.2.1).2.1; have h10 : nO ≤ 200 := this; omega
    have hbase : w2.heap.size ≤ (w3.alloc (.cells #[.bool x.lo.s, .slice A5 n5 c5, .int .i64 x.lo.e, .bool x.hi.s, .slice A6 n6 c6, .int .i64 x.hi.e] 29)).heap.size := hb7.size
    go_wp2_with (at_builtin; refine wp_appi rfl _ _ rfl rfl rfl hrow xv h5 h6 hlen hbase ?_)
    intro vo' w8 hrow8 hgrow hlimb hat
    have hb8 := grown_below hgrow hb7 (fun k hk => (hlimb k hk).1) hbase
    replace hrow8 : IRow w8 w2.heap.size vo' (someO R O (j + 1)) := by rw [some_next, HZ.out, Int.toNat_natCast, ← HX.out]; exact hrow8
    clear hgrow hlimb hat hrow xv h5 h6 hbase hb7 hb3
    go_wp2
    go_roundg (gk - 1)
    case measure => have := HG.out; omega
    case rel => exact ⟨j + 1, by have := HG.out; omega, by go_num, hrow8, hb8⟩
   ·have hn : j = nO := by have := HG.out; omega
    subst hn
    go_wp2
    exact bodyPost_ret (v := .tuple #[u10, .int .i64 0]) (by simp [results, Tryz.results11, go_sem]) rfl (tellr_ok HQQ.out (hrow.lower lsz) (BB.trans (hb.mono lsz)))

end Go.Proofs.YtlpjlmophlikeaaGreatDoor
