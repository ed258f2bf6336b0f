/-
 Contract of tape's May, at this translation. Condition: the slices read as limbs, the table of math/bits reads as its text lays it.
-/
import Derived.Test.YteagjlcmgiknmaaGreatDoorQTc
import Derived.Test.YteagjlcmgiknmaaGreatDoorQTb
import Derived.Test.YteagjlcmgiknmaaGreatDoorQLj
import Derived.Test.YteagjlcmgiknmaaGreatDoorQEb
import Derived.Test.YteagjlcmgiknmaaGreatDoorQRt
import Derived.Test.YteagjlcmgiknmaaGreatDoorQOps
set_option maxHeartbeats 8000000
set_option maxRecDepth 100000
namespace Go.Proofs.YteagjlcmgiknmaaGreatDoor
open Go.RowKit

theorem mayT_no {K : Nat} {T : Tp} {x u p : Int} (h : ¬ (T.n ≤ 200 ∧ T.m ≤ 200 ∧ (∀ i, i < T.n → mayLn K (T.L i) i x u p = true) ∧ ∀ j, j < T.m → belowB (T.O j) T.n = true)) : mayT K T x u p = false := by
 cases q : mayT K T x u p
 ·rfl
 ·exact absurd (mayT_iff.1 q) h
theorem up_next {P : Nat → Prop} {i : Nat} (h : ∀ j, j < i → P j) (h2 : P i) : ∀ j, j < i + 1 → P j := fun j hj => by
 rcases (show j < i ∨ j = i by omega) with h3 | rfl
 ·exact h j h3
 ·exact h2

theorem tmay_any {w : World} {K : Nat} {AL : Option Addr} {nL cL : Nat} {AO : Option Addr} {nO cO : Nat} {L : Nat → Ln} {O : Nat → Int} {x u p : Int} (hK : 4194304 ≤ K) (hT : Tab w) (hL : RdL w AL nL cL L) (hO : RdZ w AO nO cO O) :
  Calls Tryz.prog 15 #[.agg #[.slice AL nL cL, .slice AO nO cO], .int .i64 x, .int .i64 u, .int .i64 p] w (Bools (mayT K ⟨nL, L, nO, O⟩ x u p) w) := by
 have BB := below_alloc w (.cells #[.slice AL nL cL, .slice AO nO cO] 35)
 have xt := Blk.new w #[.slice AL nL cL, .slice AO nO cO] 35
 have G := mv BB rfl (J3 hT hL hO)
 clear hT hL hO
 obtain ⟨hT, hL, hO⟩ := G
 obtain ⟨q, hq⟩ : ∃ q, q = mayT K ⟨nL, L, nO, O⟩ x u p := ⟨_, rfl⟩
 rw [← hq]
 have HQ := Lib.hid hq
 clear hq
 have t0 : World.cell? _ ⟨_, 0, none⟩ = some (.slice AL nL cL) := xt.at 0
 have t1 : World.cell? _ ⟨_, 1, none⟩ = some (.slice AO nO cO) := xt.at 1
 have lw := xt.gl
 by_cases g1 : nL ≤ 200
 ·by_cases g2 : nO ≤ 200
  ·have g3 : ¬ (200 : Int) < (nL : Int) := by omega
   have g4 : ¬ (200 : Int) < (nO : Int) := by omega
   have HG12 := Lib.hid (And.intro g1 g2)
   clear g1 g2
   go_enter Tryz.func15, Tryz.ntmps15
   go_wp2
   go_loopg [26] nL (fun q v wr => ∃ i : Nat, i + q = nL ∧ v = .int .i64 i ∧ (∀ j, j < i → mayLn K (L j) j x u p = true) ∧ Below w.heap.size w wr ∧ Below (w.alloc (.cells #[.slice AL nL cL, .slice AO nO cO] 35)).heap.size (w.alloc (.cells #[.slice AL nL cL, .slice AO nO cO] 35)) wr)
   case atStart => exact ⟨0, by omega, rfl, fun j hj => absurd hj (by omega), BB, Below.refl _ _⟩
   case round =>
    obtain ⟨i, hg, rfl, hall, hb, hb0⟩ := hrel
    have HG := Lib.hid hg
    clear hg
    have HA := Lib.hid hall
    clear hall
    by_cases hi : i < nL
    ·obtain ⟨g, off, hal, hc⟩ := hL.at_ (by omega)
     obtain ⟨A1, n1, c1, A2, n2, c2, ⟨r0, r1, r2, r3, r4, r5, r6, r7, r8⟩, q1, q2⟩ := (hc i hi).next hb0 rfl
     subst hal
     have hT1 := mv hb0 rfl hT
     have t0' := mv hb0 rfl t0
     have t1' := mv hb0 rfl t1
     obtain ⟨l, hl⟩ : ∃ l, l = L i := ⟨_, rfl⟩
     rw [← hl] at r0 r1 r2 r3 r5 r6 r8 q1 q2
     have HL := Lib.hid hl
     clear hl hc
     have hp2 : (i : Int) < nL := by omega
     have hp3 : (0 : Int) ≤ i := by omega
     have b1 := below_alloc wr (.cells #[.int .i64 l.op, .int .i64 l.a, .int .i64 l.b, .bool l.k.lo.s, .slice A1 n1 c1, .int .i64 l.k.lo.e, .bool l.k.hi.s, .slice A2 n2 c2, .int .i64 l.k.hi.e] 31)
     have xl := Blk.new wr #[.int .i64 l.op, .int .i64 l.a, .int .i64 l.b, .bool l.k.lo.s, .slice A1 n1 c1, .int .i64 l.k.lo.e, .bool l.k.hi.s, .slice A2 n2 c2, .int .i64 l.k.hi.e] 31
     have m0 : World.cell? _ ⟨_, 0, none⟩ = some (.int .i64 l.op) := xl.at 0
     have m1 : World.cell? _ ⟨_, 1, none⟩ = some (.int .i64 l.a) := xl.at 1
     have m2 : World.cell? _ ⟨_, 2, none⟩ = some (.int .i64 l.b) := xl.at 2
     have m3 : World.cell? _ ⟨_, 3, none⟩ = some (.bool l.k.lo.s) := xl.at 3
     have m4 : World.cell? _ ⟨_, 4, none⟩ = some (.slice A1 n1 c1) := xl.at 4
     have m5 : World.cell? _ ⟨_, 5, none⟩ = some (.int .i64 l.k.lo.e) := xl.at 5
     have m6 : World.cell? _ ⟨_, 6, none⟩ = some (.bool l.k.hi.s) := xl.at 6
     have m7 : World.cell? _ ⟨_, 7, none⟩ = some (.slice A2 n2 c2) := xl.at 7
     have m8 : World.cell? _ ⟨_, 8, none⟩ = some (.int .i64 l.k.hi.e) := xl.at 8
     have G := mv b1 rfl (J3 hT1 q1 q2)
     clear hT1 q1 q2
     obtain ⟨hT1, q1, q2⟩ := G
     have hbn := below_next hb hb.size b1 rfl rfl rfl rfl
     have hbn0 := below_next hb0 hb0.size b1 rfl rfl rfl rfl
     clear b1 xl
     go_wp2_with fail
     refine (tmayline_any (l := l) (i := (i : Int)) (x := x) (u := u) (p := p) hK hT1 q1 q2).mono ?_
     rintro en w2 ⟨rfl, b⟩
     replace hbn := below_next hbn hbn.size b rfl rfl rfl rfl
     replace hbn0 := below_next hbn0 hbn0.size b rfl rfl rfl rfl
     clear b hT1 q1 q2 m0 m1 m2 m3 m4 m5 m6 m7 m8 r0 r1 r2 r3 r4 r5 r6 r7 r8 t0' t1'
     cases hml : mayLn K l (i : Int) x u p
     ·clear t0 t1
      go_wp2
      go_ret
      refine ⟨?_, hbn⟩
      have hqq : q = false := by
       rw [HQ.out]
       refine mayT_no fun h => ?_
       have h9 : mayLn K (L i) (i : Int) x u p = true := h.2.2.1 i hi
       rw [← HL.out, hml] at h9
       cases h9
      rw [hqq]; first | rfl | simp
     ·have HML := Lib.hid hml
      clear hml
      go_wp2
      go_roundg (gk - 1)
      case measure => have := HG.out; omega
      case rel => exact ⟨i + 1, by have := HG.out; omega, by go_num, up_next HA.out (by rw [← HL.out]; exact HML.out), hbn, hbn0⟩
    ·have hn : i = nL := by have := HG.out; omega
     subst hn
     have hT1 := mv hb0 rfl hT
     have t0' := mv hb0 rfl t0
     have t1' := mv hb0 rfl t1
     have hO1 := mv hb0 rfl hO
     clear hi
     generalize wr = W1 at *
     generalize gk = G1 at *
     go_wp2
     go_loopg [42] nO (fun q v wr => ∃ k : Nat, k + q = nO ∧ v = .int .i64 k ∧ (∀ j, j < k → belowB (O j) i = true) ∧ wr = W1)
     case atStart => exact ⟨0, by omega, rfl, fun j hj => absurd hj (by omega), rfl⟩
     case round =>
      obtain ⟨k, hg, rfl, hall, rfl⟩ := hrel
      have HG2 := Lib.hid hg
      clear hg
      have HA2 := Lib.hid hall
      clear hall
      by_cases hk : k < nO
      ·obtain ⟨g, off, hao, hc⟩ := hO1.at_ (by omega)
       have r0 := hc k hk
       subst hao
       obtain ⟨z, hz⟩ : ∃ z, z = O k := ⟨_, rfl⟩
       rw [← hz] at r0
       have HZ := Lib.hid hz
       clear hz hc
       have hp2 : (k : Int) < nO := by omega
       have hp3 : (0 : Int) ≤ k := by omega
       go_wp2_with fail
       refine (tbelow_at (k := z) (n := (i : Int))).mono ?_
       rintro en w2 ⟨rfl, rfl⟩
       cases hml : belowB z (i : Int)
       ·clear t0 t1 t0' t1' r0
        go_wp2
        go_ret
        refine ⟨?_, hb⟩
        have hqq : q = false := by
         rw [HQ.out]
         refine mayT_no fun h => ?_
         have h9 : belowB (O k) (i : Int) = true := h.2.2.2 k hk
         rw [← HZ.out, hml] at h9
         cases h9
        rw [hqq]; first | rfl | simp
       ·have HML := Lib.hid hml
        clear hml
        go_wp2
        go_roundg (gk - 1)
        case measure => have := HG2.out; omega
        case rel => exact ⟨k + 1, by have := HG2.out; omega, by go_num, up_next HA2.out (by rw [← HZ.out]; exact HML.out), rfl⟩
      ·have hn : k = nO := by have := HG2.out; omega
       subst hn
       go_wp2
       go_ret
       refine ⟨?_, hb⟩
       have hqq : q = true := by rw [HQ.out]; exact mayT_iff.2 ⟨HG12.out.1, HG12.out.2, HA.out, HA2.out⟩
       rw [hqq]; first | rfl | simp
  ·have g3 : ¬ (200 : Int) < (nL : Int) := by omega
   have g4 : (200 : Int) < (nO : Int) := by omega
   go_enter Tryz.func15, Tryz.ntmps15
   go_wp2
   go_ret
   refine ⟨?_, BB⟩
   have hqq : q = false := by rw [HQ.out]; exact mayT_no fun h => g2 h.2.1
   rw [hqq]; first | rfl | simp
 ·have g3 : (200 : Int) < (nL : Int) := by omega
  go_enter Tryz.func15, Tryz.ntmps15
  go_wp2
  go_ret
  refine ⟨?_, BB⟩
  have hqq : q = false := by rw [HQ.out]; exact mayT_no fun h => g1 h.1
  rw [hqq]; first | rfl | simp

end Go.Proofs.YteagjlcmgiknmaaGreatDoor
namespace Go.Proofs.YteagjlcmgiknmaaGreatDoor
open Go.RowKit

theorem cells_tell {q : Except Int Iv} {f : FuncId} {args : Array Value} {w : World} {k : Int} {x : Iv} (h1 : okc q = k) (h2 : oiv q = x) (h : Calls Tryz.prog f args w (TellI k x w)) : Calls Tryz.prog f args w (TellO q w) := by
 subst h1 h2
 exact h
theorem iround_tell (S : Sc) {w : World} {x : Iv} {p : Int} {A1 : Option Addr} {n1 c1 : Nat} {A2 : Option Addr} {n2 c2 : Nat} (hT : Tab w) (h1 : Rd w .u64 Go.Proofs.YteagjlcmgiknmaaGreatDoor.W A1 n1 c1 x.lo.l) (h2 : Rd w .u64 Go.Proofs.YteagjlcmgiknmaaGreatDoor.W A2 n2 c2 x.hi.l) (hm : mayI S.K x = true) (hp1 : 1 ≤ p) (hp2 : p ≤ 2000) :
  Calls Tryz.prog 47 #[.agg #[.bool x.lo.s, .slice A1 n1 c1, .int .i64 x.lo.e, .bool x.hi.s, .slice A2 n2 c2, .int .i64 x.hi.e], .int .i64 p] w (TellO (rouI S x p) w) := by
 obtain ⟨P, rfl⟩ := Int.eq_ofNat_of_zero_le (show 0 ≤ p by omega)
 have hP1 : 1 ≤ P := by omega
 have hP2 : P ≤ 2000 := by omega
 obtain ⟨k1, s, m, e, hl⟩ := nm_total x.lo.s (rdN P (val Go.Proofs.YteagjlcmgiknmaaGreatDoor.W x.lo.l) (false != x.lo.s)) x.lo.e
 obtain ⟨k2, s', m', e', hh⟩ := nm_total x.hi.s (rdN P (val Go.Proofs.YteagjlcmgiknmaaGreatDoor.W x.hi.l) (true != x.hi.s)) x.hi.e
 have ml := (mayI_iff.1 hm).1
 have mh := (mayI_iff.1 hm).2.1
 have r1 : rndR x.lo (P : Int) false k1 s m e := by
  unfold rndR
  rw [if_pos ⟨⟨hp1, hp2⟩, ml⟩, Int.toNat_natCast]
  exact hl
 have r2 : rndR x.hi (P : Int) true k2 s' m' e' := by
  unfold rndR
  rw [if_pos ⟨⟨hp1, hp2⟩, mh⟩, Int.toNat_natCast]
  exact hh
 have o1 := S.is _ _ _ _ _ rndR_only r1
 have o2 := S.is _ _ _ _ _ rndR_only r2
 by_cases z1 : k1 = 0
 ·subst z1
  have g1 : rndO S x.lo (P : Int) false = .ok (Rw.of s m e) := o1.1 rfl
  by_cases z2 : k2 = 0
  ·subst z2
   have g2 : rndO S x.hi (P : Int) true = .ok (Rw.of s' m' e') := o2.1 rfl
   have hq : rouI S x (P : Int) = .ok ⟨Rw.of s m e, Rw.of s' m' e'⟩ := by
    unfold rouI outO
    simp only [g1, g2, thn]
   exact cells_tell (by rw [hq]; rfl) (by rw [hq]; rfl) (iround_ok S.big hT h1 h2 hm hP1 hP2 hl hh)
  ·have g2 : rndO S x.hi (P : Int) true = .error k2 := o2.2 z2
   have hq : rouI S x (P : Int) = .error k2 := by
    unfold rouI outO
    simp only [g1, g2, thn]
   exact cells_tell (by rw [hq]; rfl) (by rw [hq]; rfl) (iround_hi S.big hT h1 h2 hm hP1 hP2 hl hh z2)
 ·have g1 : rndO S x.lo (P : Int) false = .error k1 := o1.2 z1
  have hq : rouI S x (P : Int) = .error k1 := by
   unfold rouI outO
   simp only [g1, thn]
  exact cells_tell (by rw [hq]; rfl) (by rw [hq]; rfl) (iround_lo S.big hT h1 h2 hm hP1 hP2 hl z1)

end Go.Proofs.YteagjlcmgiknmaaGreatDoor
namespace Go.Proofs.YteagjlcmgiknmaaGreatDoor
open Go.RowKit

theorem RowN.same {w w2 : World} {base : Nat} {e : TypeId} {size : Nat} {v : Value} {n : Nat} {xs : List Value} (h : RowN w base e size v n xs) (key : ∀ g, v.ownBlock = some g → w2.heap[g]? = w.heap[g]?) : RowN w2 base e size v n xs := by
 refine ⟨⟨h.1.1, ?_⟩, fun g hg i x => ?_⟩
 ·rcases h.1.2 with h2 | ⟨g, cap, cur, hv, hb, hg, h3⟩
  ·exact .inl h2
  ·exact .inr ⟨g, cap, cur, hv, hb, (key g (by rw [hv]; rfl)).trans hg, h3⟩
 ·have h2 := h.2 g hg i x
  have h3 := key g hg
  unfold World.cell? at h2 ⊢
  simpa [h3] using h2
theorem IRow.put6 {w : World} {base : Nat} {v : Value} {L : List Iv} (h : IRow w base v L) {g : Nat} {s : Bool} {A : Option Addr} {n c : Nat} {e : Int} {t : Bool} {B : Option Addr} {m d : Nat} {f : Int} (r : Ibx w g s A n c e t B m d f) (hne : ∀ k, v.ownBlock = some k → k ≠ g) (u0 u1 u2 u3 u4 u5 : Value) :
  IRow ((((((w.setCell ⟨g, 0, none⟩ u0).setCell ⟨g, 1, none⟩ u1).setCell ⟨g, 2, none⟩ u2).setCell ⟨g, 3, none⟩ u3).setCell ⟨g, 4, none⟩ u4).setCell ⟨g, 5, none⟩ u5) base v L := by
 obtain ⟨xs, h1, h2⟩ := h
 refine ⟨xs, h1.same fun k hk => ?_, h2.mv fun _ _ _ _ hr => hr.put6 r u0 u1 u2 u3 u4 u5⟩
 have ne := hne k hk
 rw [Below.heap_setCell _ ⟨g, 5, none⟩ u5 k ne, Below.heap_setCell _ ⟨g, 4, none⟩ u4 k ne, Below.heap_setCell _ ⟨g, 3, none⟩ u3 k ne, Below.heap_setCell _ ⟨g, 2, none⟩ u2 k ne, Below.heap_setCell _ ⟨g, 1, none⟩ u1 k ne, Below.heap_setCell _ ⟨g, 0, none⟩ u0 k ne]
theorem IRow.lower {w : World} {base b0 : Nat} {v : Value} {L : List Iv} (h : IRow w base v L) (hb : b0 ≤ base) : IRow w b0 v L := by
 obtain ⟨xs, ⟨⟨h1, h2⟩, h3⟩, h4⟩ := h
 refine ⟨xs, ⟨⟨h1, ?_⟩, h3⟩, h4⟩
 rcases h2 with h2 | ⟨g, cap, cur, hv, hb2, h5⟩
 ·exact .inl h2
 ·exact .inr ⟨g, cap, cur, hv, Nat.le_trans hb hb2, h5⟩
end Go.Proofs.YteagjlcmgiknmaaGreatDoor
namespace Go.Proofs.YteagjlcmgiknmaaGreatDoor
open Go.RowKit

section
variable {S : Sc} {a b : Rw} {x y : Iv} {p : Int}
def Ends (x : Iv) : Prop := x.lo.may = true ∧ x.hi.may = true
theorem tface2_ok {o : Except Int Iv} {z : Iv} (h : face2 S x y p o = .ok z) : o = .ok z := by
 unfold face2 at h
 split at h
 ·exact h
 ·cases h
theorem may_small {a : Rw} (h : a.may = true) : a.l.length ≤ 10000000000000 := by
 have hm := (mayD_of a.lt h).1
 unfold mayB at hm
 simp only [Bool.and_eq_true, decide_eq_true_eq] at hm
 omega
end
section
variable {w : World} {g : Nat} {s : Bool} {A : Option Addr} {n c : Nat} {e : Int} {t : Bool} {B : Option Addr} {m d : Nat} {f : Int}
theorem Ibx.set1 (h : Ibx w g s A n c e t B m d f) (A' : Option Addr) (n' c' : Nat) : Ibx (w.setCell ⟨g, 1, none⟩ (.slice A' n' c')) g s A' n' c' e t B m d f := by
 have := h.blk
 refine ⟨?_⟩
 simp [World.setCell, Array.getElem?_modify, this]
end

end Go.Proofs.YteagjlcmgiknmaaGreatDoor
namespace Go.Proofs.YteagjlcmgiknmaaGreatDoor

/-- 2^e as it is laid, and alone in an interval -/
def pwQ (e : Int) : Rw := Rw.of false 1 e
def pwI (e : Int) : Iv := ⟨pwQ e, pwQ e⟩
section
variable (S : Sc)
def addF (x y : Iv) (p : Int) : Except Int Iv := face2 S x y p (sumO S x y p)
def mulF (x y : Iv) (p : Int) : Except Int Iv := face2 S x y p (mulI S x y p)
def divF (x y : Iv) (p : Int) : Except Int Iv := face2 S x y p (divI S x y p)
end
section
variable {S : Sc} {x y : Iv} {p : Int}
theorem addF_cod : Cod (addF S x y p) := tface2_cod sumO_cod
theorem mulF_cod : Cod (mulF S x y p) := tface2_cod tmulI_cod
/-- few enough limbs to be copied -/
def Small (x : Iv) : Prop := x.lo.l.length ≤ 10000000000000 ∧ x.hi.l.length ≤ 10000000000000
theorem ends_small {x : Iv} (h : Ends x) : Small x := ⟨may_small h.1, may_small h.2⟩
end
end Go.Proofs.YteagjlcmgiknmaaGreatDoor
set_option maxHeartbeats 200000
set_option maxRecDepth 100000
namespace Go.Proofs.YteagjlcmgiknmaaGreatDoor
open Go.RowKit

/-- how a walk ends that stores six parts into the box of its result -/
theorem ret6 {fn : Func} {R : Ending → World → Prop} {a : Act} {w w0 : World} {g b0 T Q : Nat} {s : Bool} {A : Option Addr} {n c : Nat} {e : Int} {t : Bool} {B : Option Addr} {m d : Nat} {f : Int} {s' : Bool} {A' : Option Addr} {n' c' : Nat} {e' : Int} {t' : Bool} {B' : Option Addr} {m' d' : Nat} {f' : Int} {l l' : List Nat}
  (hr : fn.results = #[.cell T 29]) (ht : a.tmps.getD T undef = .pointer (some ⟨g, 0, none⟩)) (hd : a.defers = []) (r : Ibx w g s' A' n' c' e' t' B' m' d' f') (h5 : Rd w .u64 Q A n c l) (h6 : Rd w .u64 Q B m d l') (BB : Below b0 w0 w) (hg : b0 ≤ g)
  (hR : ∀ W', Rd W' .u64 Q A n c l → Rd W' .u64 Q B m d l' → Below b0 w0 W' → R (.returned (.agg #[.bool s, .slice A n c, .int .i64 e, .bool t, .slice B m d, .int .i64 f])) W') :
  bodyPost Tryz.prog fn R .ret a ((((((w.setCell ⟨g, 0, none⟩ (.bool s)).setCell ⟨g, 1, none⟩ (.slice A n c)).setCell ⟨g, 2, none⟩ (.int .i64 e)).setCell ⟨g, 3, none⟩ (.bool t)).setCell ⟨g, 4, none⟩ (.slice B m d)).setCell ⟨g, 5, none⟩ (.int .i64 f)) := by
 obtain ⟨z0, z1, z2, z3, z4, z5⟩ := (r.put s A n c e t B m d f).held
 have ht2 : a.tmps[T]?.getD undef = .pointer (some ⟨g, 0, none⟩) := by simpa using ht
 exact bodyPost_ret (v := .agg #[.bool s, .slice A n c, .int .i64 e, .bool t, .slice B m d, .int .i64 f]) (by simp [results, hr, ht2, go_sem, z0, z1, z2, z3, z4, z5]) hd (hR _ (h5.put6 r _ _ _ _ _ _) (h6.put6 r _ _ _ _ _ _) (below_put6 BB hg _ _ _ _ _ _))
theorem IRow.grown {w w' : World} {base : Nat} {v : Value} {L : List Iv} {row : Option Nat} (h : IRow w base v L) (hg : w.grownBy w' row) (hne : ∀ k, v.ownBlock = some k → row ≠ some k) (hno : ∀ k, row = some k → ∀ i x : Nat, w.cell? ⟨k, i, none⟩ ≠ some (.int .u64 (x : Int))) : IRow w' base v L := by
 obtain ⟨xs, h1, h2⟩ := h
 refine ⟨xs, h1.same fun k hk => hg.block k (h1.lt k hk).2 (fun e => hne k hk e.symm), h2.mv fun A n c l hr => ?_⟩
 cases row with
 | none => exact hr.grownNone hg
 | some g => exact hr.grown hg (hr.off (hno g rfl))
/-- append of one interval, which lies in a block of its own, as a run -/
theorem appi_run {w : World} (ty : TypeId) {base : Nat} {v : Value} {L : List Iv} {b : Nat} {q : Iv} {A : Option Addr} {n c : Nat} {B : Option Addr} {m d : Nat} (h : IRow w base v L) (hb : Ibx w b q.lo.s A n c q.lo.e q.hi.s B m d q.hi.e) (hr : Rd w .u64 Go.Proofs.YteagjlcmgiknmaaGreatDoor.W A n c q.lo.l) (hr2 : Rd w .u64 Go.Proofs.YteagjlcmgiknmaaGreatDoor.W B m d q.hi.l) (hL : L.length ≤ 1000) (hbase : base ≤ w.heap.size) :
  ∃ v' w', (Builtin.append_ #[40, 40] ty #[v, .slice (some ⟨b, 0, none⟩) 1 1]).run Tryz.prog w = .ok v' w' ∧ IRow w' base v' (L ++ [q]) ∧ w.grownBy w' v.ownBlock ∧ (v'.ownBlock = v.ownBlock ∨ v'.ownBlock = some w.heap.size) := by
 obtain ⟨xs, h1, h2⟩ := h
 obtain ⟨i0, hi, hz0, hz1, hz2⟩ := info_partsD infoIv
 obtain ⟨b0, b1, b2, b3, b4, b5⟩ := hb.held
 obtain ⟨v', w', hr', g1, g2, g3⟩ := run_append_n (ty := ty) (c := 1) Tryz.underlying40 hi hz0 hz1 hz2 rfl (by decide) (by intro u hu x hx; simp [Value.cells] at hu; rcases hu with rfl | rfl | rfl | rfl | rfl | rfl <;> cases hx) h1 (a := ⟨b, 0, none⟩) (m := 1) (news := [.bool q.lo.s, .slice A n c, .int .i64 q.lo.e, .bool q.hi.s, .slice B m d, .int .i64 q.hi.e]) rfl
  (fun j u hu => by
   match j, hu with
   | 0, hu => simp at hu; subst hu; simpa [Addr.add] using b0
   | 1, hu => simp at hu; subst hu; simpa [Addr.add] using b1
   | 2, hu => simp at hu; subst hu; simpa [Addr.add] using b2
   | 3, hu => simp at hu; subst hu; simpa [Addr.add] using b3
   | 4, hu => simp at hu; subst hu; simpa [Addr.add] using b4
   | 5, hu => simp at hu; subst hu; simpa [Addr.add] using b5)
  (fun u hu => by simp at hu; rcases hu with rfl | rfl | rfl | rfl | rfl | rfl <;> rfl) (fun u hu x hx => by simp at hu; rcases hu with rfl | rfl | rfl | rfl | rfl | rfl <;> cases hx) (by decide) (by unfold maxLen; omega) (by omega) hbase
 have hfar : ∀ (B : Option Addr) (k d : Nat) (l : List Nat), Rd w .u64 Go.Proofs.YteagjlcmgiknmaaGreatDoor.W B k d l → Rd w' .u64 Go.Proofs.YteagjlcmgiknmaaGreatDoor.W B k d l := fun B k d l hB => by
  cases hv : v.ownBlock with
  | none => rw [hv] at g2; exact hB.grownNone g2
  | some g => rw [hv] at g2; exact hB.grown g2 (hB.off (h1.2 g hv))
 have hrow : IRow w' base v' (L ++ [q]) := ⟨xs ++ [.bool q.lo.s, .slice A n c, .int .i64 q.lo.e, .bool q.hi.s, .slice B m d, .int .i64 q.hi.e], by simpa using g1, (h2.mv hfar).snoc (hfar _ _ _ _ hr) (hfar _ _ _ _ hr2)⟩
 exact ⟨v', w', hr', hrow, g2, g3⟩
def upd {α : Type} (f : Nat → α) (i : Nat) (v : α) : Nat → α := fun j => if j = i then v else f j
theorem upd_at {α : Type} {f : Nat → α} {i : Nat} {v : α} : upd f i v i = v := if_pos rfl
theorem upd_far {α : Type} {f : Nat → α} {i j : Nat} {v : α} (h : j ≠ i) : upd f i v j = f j := if_neg h
def rls (n : Nat) (vs : Nat → Value) : Array Value := ((List.range n).map vs).toArray
theorem rls_get {n i : Nat} {vs : Nat → Value} (hi : i < n) : (rls n vs)[i]? = some (vs i) := by
 unfold rls
 simp [hi]
theorem rls_far {n i : Nat} {vs : Nat → Value} (hi : ¬ i < n) : (rls n vs)[i]? = none := by
 unfold rls
 simp; omega
theorem rls_size {n : Nat} {vs : Nat → Value} : (rls n vs).size = n := by simp [rls]
theorem rls_set {n i : Nat} {vs : Nat → Value} {v : Value} : (rls n vs).setIfInBounds i v = rls n (upd vs i v) := by
 apply Array.ext_getElem?
 intro j
 rw [Array.getElem?_setIfInBounds, rls_size]
 by_cases hj : j < n
 ·rw [rls_get hj, rls_get hj]
  by_cases e : i = j
  ·subst e; rw [if_pos rfl, if_pos hj, upd_at]
  ·rw [if_neg e, upd_far (Ne.symm e)]
 ·rw [rls_far hj, rls_far hj]
  split
  ·rw [if_neg (by omega)]
  ·rfl
/-- n rows in the block gr, each in a block of its own from b0 on -/
structure Rws (w : World) (b0 gr n : Nat) (vs : Nat → Value) (Q : Nat → List Iv) : Prop where
 blk : Blk w gr (rls n vs) 40
 row : ∀ i, i < n → IRow w b0 (vs i) (Q i)
 far : ∀ i j k, i < n → j < n → i ≠ j → (vs i).ownBlock = some k → (vs j).ownBlock ≠ some k
theorem Rws.next {w X w2 : World} {b0 gr n : Nat} {vs : Nat → Value} {Q : Nat → List Iv} (h : Rws w b0 gr n vs Q) (b : Below X.heap.size X w2) (e : X.heap = w.heap) : Rws w2 b0 gr n vs Q := ⟨h.blk.next b e, fun i hi => (h.row i hi).next b e, h.far⟩
instance {w w2 : World} {b0 gr n : Nat} {vs : Nat → Value} {Q : Nat → List Iv} : Moves w w2 (Rws w b0 gr n vs Q) (Rws w2 b0 gr n vs Q) := ⟨fun _ b e h => h.next b e⟩
theorem IRow.kind {w : World} {base : Nat} {v : Value} {L : List Iv} (h : IRow w base v L) : ∀ k, v.ownBlock = some k → ∃ cs, w.heap[k]? = some (.cells cs 29 (0, 0)) := by
 intro k hk
 obtain ⟨xs, ⟨⟨_, h1⟩, _⟩, _⟩ := h
 rcases h1 with ⟨rfl, _⟩ | ⟨g, cap, cur, rfl, _, hg, _⟩
 ·cases hk
 ·injection hk with hk
  subst hk
  exact ⟨cur, hg⟩
theorem IRow.off {w : World} {base gr : Nat} {v : Value} {L : List Iv} {cs : Array Value} (h : IRow w base v L) (hb : Blk w gr cs 40) : v.ownBlock ≠ some gr := by
 intro hk
 obtain ⟨cs', hc⟩ := h.kind gr hk
 rw [hb.blk] at hc
 injection hc with hc
 injection hc with _ hc
 exact absurd hc (by decide)
theorem IRow.slice {w : World} {base : Nat} {v : Value} {L : List Iv} (h : IRow w base v L) : ∃ A c, v = .slice A L.length c := by
 obtain ⟨A, c, h, _⟩ := h.form
 exact ⟨A, c, h⟩
section
variable {w w' : World} {b0 gr n i : Nat} {vs : Nat → Value} {Q : Nat → List Iv}
theorem Rws.at (h : Rws w b0 gr n vs Q) (hi : i < n) : ∃ A c, vs i = .slice A (Q i).length c ∧ w.cell? ⟨gr, i, none⟩ = some (.slice A (Q i).length c) ∧ RdS w A (Q i).length c (fun k => (Q i).getD k Iv.zero) := by
 obtain ⟨A, c, hv, hr, _⟩ := (h.row i hi).form
 exact ⟨A, c, hv, by rw [← hv]; exact h.blk.at i (rls_get hi), hr⟩
theorem Rws.no (h : Rws w b0 gr n vs Q) (j x : Nat) : w.cell? ⟨gr, j, none⟩ ≠ some (.int .u64 (x : Int)) := by
 intro hc
 have h1 := cell_of_row w gr j _ _ (0, 0) h.blk.blk
 rw [h1] at hc
 by_cases hj : j < n
 ·rw [rls_get hj] at hc
  obtain ⟨A, c, hv⟩ := (h.row j hj).slice
  rw [hv] at hc
  cases hc
 ·rw [rls_far hj] at hc
  cases hc
/-- a row that has grown is stored in its place -/
theorem Rws.put (h : Rws w b0 gr n vs Q) (hi : i < n) {v' : Value} {L : List Iv} (h1 : IRow w' b0 v' L) (hg : w.grownBy w' (vs i).ownBlock) (ho : v'.ownBlock = (vs i).ownBlock ∨ v'.ownBlock = some w.heap.size) :
  Rws (w'.setCell ⟨gr, i, none⟩ v') b0 gr n (upd vs i v') (upd Q i L) := by
 have hb : Blk w' gr (rls n vs) 40 := ⟨(hg.block gr h.blk.gl (fun e => (h.row i hi).off h.blk e.symm)).trans h.blk.blk⟩
 have hno : ∀ (k : Nat), some gr = some k → ∀ j x : Nat, w'.cell? ⟨k, j, none⟩ ≠ some (.int .u64 (x : Int)) := fun k e j x => by
  injection e with e
  subst e
  rw [World.cell?_of_block (w := w) (w' := w') (a := ⟨gr, j, none⟩) (by rw [hb.blk, h.blk.blk])]
  exact h.no j x
 refine ⟨⟨?_⟩, fun j hj => ?_, fun j k x hj hk hne hx => ?_⟩
 ·have := hb.blk
  rw [← rls_set]
  simp [World.setCell, Array.getElem?_modify, this]
 ·by_cases e : j = i
  ·subst e
   rw [upd_at, upd_at]
   exact h1.grown (grownBy_set w' gr j v') (fun k hk e => h1.off hb (hk.trans e.symm)) hno
  ·rw [upd_far e, upd_far e]
   have h2 := (h.row j hj).grown hg (fun k hk e2 => h.far i j k hi hj (Ne.symm e) e2 hk) (h.row i hi).no
   exact h2.grown (grownBy_set w' gr i v') (fun k hk e => h2.off hb (hk.trans e.symm)) hno
 ·have key : ∀ a, a < n → a ≠ i → ∀ y, v'.ownBlock = some y → (vs a).ownBlock ≠ some y := fun a ha hai y hy e => by
   rcases ho with ho | ho
   ·exact h.far a i y ha hi hai e (ho.symm.trans hy)
   ·have h3 := ((h.row a ha).lt y e).2
    rw [ho] at hy
    injection hy with hy
    omega
  by_cases e1 : j = i
  ·subst e1
   rw [upd_at] at hx
   rw [upd_far (Ne.symm hne)]
   exact key k hk (Ne.symm hne) x hx
  ·rw [upd_far e1] at hx
   by_cases e2 : k = i
   ·subst e2
    rw [upd_at]
    exact fun h9 => key j hj e1 x h9 hx
   ·rw [upd_far e2]
    exact h.far j k x hj hk hne hx
end
end Go.Proofs.YteagjlcmgiknmaaGreatDoor
