/-
 Contract of tape's May, at this translation. Condition: the slices read as limbs, the table of math/bits reads as its text lays it.
-/
import Derived.Test.YtlpjlmophlikeaaGreatDoorPTc
import Derived.Test.YtlpjlmophlikeaaGreatDoorPTe
import Derived.Test.YtlpjlmophlikeaaGreatDoorPTg
set_option maxHeartbeats 8000000
set_option maxRecDepth 100000
namespace Go.Proofs.YtlpjlmophlikeaaGreatDoor
open Go.RowKit

theorem mayT_no {K : Nat} {T : Tp} {x u p : Int} (h : ¬ (T.n ≤ 200 ∧ T.m ≤ 200 ∧ (∀ i, i < T.n → mayLn K (T.L i) i x u p = true) ∧ ∀ j, j < T.m → belowB (T.O j) T.n = true)) : mayT K T x u p = false := by
 cases q : mayT K T x u p
 ·rfl
 ·exact absurd (mayT_iff.1 q) h
theorem up_next {P : Nat → Prop} {i : Nat} (h : ∀ j, j < i → P j) (h2 : P i) : ∀ j, j < i + 1 → P j := fun j hj => by
 rcases (show j < i ∨ j = i by omega) with h3 | rfl
 ·exact h j h3
 ·exact h2

theorem tmay_any {w : World} {K : Nat} {AL : Option Addr} {nL cL : Nat} {AO : Option Addr} {nO cO : Nat} {L : Nat → Ln} {O : Nat → Int} {x u p : Int} (hK : 4194304 ≤ K) (hT : Tab w) (hL : RdL w AL nL cL L) (hO : RdZ w AO nO cO O) :
  Calls Tryz.prog 80 #[.agg #[.slice AL nL cL, .slice AO nO cO], .int .i64 x, .int .i64 u, .int .i64 p] w (Bools (mayT K ⟨nL, L, nO, O⟩ x u p) w) := by
 have BB := below_alloc w (.cells #[.slice AL nL cL, .slice AO nO cO] 34)
 have xt := Blk.new w #[.slice AL nL cL, .slice AO nO cO] 34
 have G := mv BB rfl (J3 hT hL hO)
 clear hT hL hO
 obtain ⟨hT, hL, hO⟩ := G
 obtain ⟨q, hq⟩ : ∃ q, q = mayT K ⟨nL, L, nO, O⟩ x u p := ⟨_, rfl⟩
 rw [← hq]
 have HQ := Lib.hid hq
 clear hq
 have t0 : World.cell? _ ⟨_, 0, none⟩ = some (.slice AL nL cL) := xt.at 0
 have t1 : World.cell? _ ⟨_, 1, none⟩ = some (.slice AO nO cO) := xt.at 1
 have lw := xt.gl
 by_cases g1 : nL ≤ 200
 ·by_cases g2 : nO ≤ 200
  ·have g3 : ¬ (200 : Int) < (nL : Int) := by omega
   have g4 : ¬ (200 : Int) < (nO : Int) := by omega
   have HG12 := Lib.hid (And.intro g1 g2)
   clear g1 g2
   go_enter Tryz.func80, Tryz.ntmps80
   go_wp2
   go_loopg [26] nL (fun q v wr => ∃ i : Nat, i + q = nL ∧ v = .int .i64 i ∧ (∀ j, j < i → mayLn K (L j) j x u p = true) ∧ Below w.heap.size w wr ∧ Below (w.alloc (.cells #[.slice AL nL cL, .slice AO nO cO] 34)).heap.size (w.alloc (.cells #[.slice AL nL cL, .slice AO nO cO] 34)) wr)
   case atStart => exact ⟨0, by omega, rfl, fun j hj => absurd hj (by omega), BB, Below.refl _ _⟩
   case round =>
    obtain ⟨i, hg, rfl, hall, hb, hb0⟩ := hrel
    have HG := Lib.hid hg
    clear hg
    have HA := Lib.hid hall
    clear hall
    by_cases hi : i < nL
    ·obtain ⟨g, off, hal, hc⟩ := hL.at_ (by omega)
     obtain ⟨A1, n1, c1, A2, n2, c2, ⟨r0, r1, r2, r3, r4, r5, r6, r7, r8⟩, q1, q2⟩ := (hc i hi).next hb0 rfl
     subst hal
     have hT1 := mv hb0 rfl hT
     have t0' := mv hb0 rfl t0
     have t1' := mv hb0 rfl t1
     obtain ⟨l, hl⟩ : ∃ l, l = L i := ⟨_, rfl⟩
     rw [← hl] at r0 r1 r2 r3 r5 r6 r8 q1 q2
     have HL := Lib.hid hl
     clear hl hc
     have hp2 : (i : Int) < nL := by omega
     have hp3 : (0 : Int) ≤ i := by omega
     have b1 := below_alloc wr (.cells #[.int .i64 l.op, .int .i64 l.a, .int .i64 l.b, .bool l.k.lo.s, .slice A1 n1 c1, .int .i64 l.k.lo.e, .bool l.k.hi.s, .slice A2 n2 c2, .int .i64 l.k.hi.e] 31)
     have xl := Blk.new wr #[.int .i64 l.op, .int .i64 l.a, .int .i64 l.b, .bool l.k.lo.s, .slice A1 n1 c1, .int .i64 l.k.lo.e, .bool l.k.hi.s, .slice A2 n2 c2, .int .i64 l.k.hi.e] 31
     have m0 : World.cell? _ ⟨_, 0, none⟩ = some (.int .i64 l.op) := xl.at 0
     have m1 : World.cell? _ ⟨_, 1, none⟩ = some (.int .i64 l.a) := xl.at 1
     have m2 : World.cell? _ ⟨_, 2, none⟩ = some (.int .i64 l.b) := xl.at 2
     have m3 : World.cell? _ ⟨_, 3, none⟩ = some (.bool l.k.lo.s) := xl.at 3
     have m4 : World.cell? _ ⟨_, 4, none⟩ = some (.slice A1 n1 c1) := xl.at 4
     have m5 : World.cell? _ ⟨_, 5, none⟩ = some (.int .i64 l.k.lo.e) := xl.at 5
     have m6 : World.cell? _ ⟨_, 6, none⟩ = some (.bool l.k.hi.s) := xl.at 6
     have m7 : World.cell? _ ⟨_, 7, none⟩ = some (.slice A2 n2 c2) := xl.at 7
     have m8 : World.cell? _ ⟨_, 8, none⟩ = some (.int .i64 l.k.hi.e) := xl.at 8
     have G := mv b1 rfl (J3 hT1 q1 q2)
     clear hT1 q1 q2
     obtain ⟨hT1, q1, q2⟩ := G
     have hbn := below_next hb hb.size b1 rfl rfl rfl rfl
     have hbn0 := below_next hb0 hb0.size b1 rfl rfl rfl rfl
     clear b1 xl
     go_wp2_with fail
     refine (tmayline_any (l := l) (i := (i : Int)) (x := x) (u := u) (p := p) hK hT1 q1 q2).mono ?_
     rintro en w2 ⟨rfl, b⟩
     replace hbn := below_next hbn hbn.size b rfl rfl rfl rfl
     replace hbn0 := below_next hbn0 hbn0.size b rfl rfl rfl rfl
     clear b hT1 q1 q2 m0 m1 m2 m3 m4 m5 m6 m7 m8 r0 r1 r2 r3 r4 r5 r6 r7 r8 t0' t1'
     cases hml : mayLn K l (i : Int) x u p
     ·clear t0 t1
      go_wp2
      go_ret
      refine ⟨?_, hbn⟩
      have hqq : q = false := by
       rw [HQ.out]
       refine mayT_no fun h => ?_
       have h9 : mayLn K (L i) (i : Int) x u p = true := h.2.2.1 i hi
       rw [← HL.out, hml] at h9
       cases h9
      rw [hqq]; first | rfl | simp
     ·have HML := Lib.hid hml
      clear hml
      go_wp2
      go_roundg (gk - 1)
      case measure => have := HG.out; omega
      case rel => exact ⟨i + 1, by have := HG.out; omega, by go_num, up_next HA.out (by rw [← HL.out]; exact HML.out), hbn, hbn0⟩
    ·have hn : i = nL := by have := HG.out; omega
     subst hn
     have hT1 := mv hb0 rfl hT
     have t0' := mv hb0 rfl t0
     have t1' := mv hb0 rfl t1
     have hO1 := mv hb0 rfl hO
     clear hi
     generalize wr = W1 at *
     generalize gk = G1 at *
     go_wp2
     go_loopg [42] nO (fun q v wr => ∃ k : Nat, k + q = nO ∧ v = .int .i64 k ∧ (∀ j, j < k → belowB (O j) i = true) ∧ wr = W1)
     case atStart => exact ⟨0, by omega, rfl, fun j hj => absurd hj (by omega), rfl⟩
     case round =>
      obtain ⟨k, hg, rfl, hall, rfl⟩ := hrel
      have HG2 := Lib.hid hg
      clear hg
      have HA2 := Lib.hid hall
      clear hall
      by_cases hk : k < nO
      ·obtain ⟨g, off, hao, hc⟩ := hO1.at_ (by omega)
       have r0 := hc k hk
       subst hao
       obtain ⟨z, hz⟩ : ∃ z, z = O k := ⟨_, rfl⟩
       rw [← hz] at r0
       have HZ := Lib.hid hz
       clear hz hc
       have hp2 : (k : Int) < nO := by omega
       have hp3 : (0 : Int) ≤ k := by omega
       go_wp2_with fail
       refine (tbelow_at (k := z) (n := (i : Int))).mono ?_
       rintro en w2 ⟨rfl, rfl⟩
       cases hml : belowB z (i : Int)
       ·clear t0 t1 t0' t1' r0
        go_wp2
        go_ret
        refine ⟨?_, hb⟩
        have hqq : q = false := by
         rw [HQ.out]
         refine mayT_no fun h => ?_
         have h9 : belowB (O k) (i : Int) = true := h.2.2.2 k hk
         rw [← HZ.out, hml] at h9
         cases h9
        rw [hqq]; first | rfl | simp
       ·have HML := Lib.hid hml
        clear hml
        go_wp2
        go_roundg (gk - 1)
        case measure => have := HG2.out; omega
        case rel => exact ⟨k + 1, by have := HG2.out; omega, by go_num, up_next HA2.out (by rw [← HZ.out]; exact HML.out), rfl⟩
      ·have hn : k = nO := by have := HG2.out; omega
       subst hn
       go_wp2
       go_ret
       refine ⟨?_, hb⟩
       have hqq : q = true := by rw [HQ.out]; exact mayT_iff.2 ⟨HG12.out.1, HG12.out.2, HA.out, HA2.out⟩
       rw [hqq]; first | rfl | simp
  ·have g3 : ¬ (200 : Int) < (nL : Int) := by omega
   have g4 : (200 : Int) < (nO : Int) := by omega
   go_enter Tryz.func80, Tryz.ntmps80
   go_wp2
   go_ret
   refine ⟨?_, BB⟩
   have hqq : q = false := by rw [HQ.out]; exact mayT_no fun h => g2 h.2.1
   rw [hqq]; first | rfl | simp
 ·have g3 : (200 : Int) < (nL : Int) := by omega
  go_enter Tryz.func80, Tryz.ntmps80
  go_wp2
  go_ret
  refine ⟨?_, BB⟩
  have hqq : q = false := by rw [HQ.out]; exact mayT_no fun h => g1 h.1
  rw [hqq]; first | rfl | simp

end Go.Proofs.YtlpjlmophlikeaaGreatDoor
set_option maxHeartbeats 8000000
set_option maxRecDepth 100000
namespace Go.Proofs.YtlpjlmophlikeaaGreatDoor
open Go.RowKit

theorem RowN.same {w w2 : World} {base : Nat} {e : TypeId} {size : Nat} {v : Value} {n : Nat} {xs : List Value} (h : RowN w base e size v n xs) (key : ∀ g, v.ownBlock = some g → w2.heap[g]? = w.heap[g]?) : RowN w2 base e size v n xs := by
 refine ⟨⟨h.1.1, ?_⟩, fun g hg i x => ?_⟩
 ·rcases h.1.2 with h2 | ⟨g, cap, cur, hv, hb, hg, h3⟩
  ·exact .inl h2
  ·exact .inr ⟨g, cap, cur, hv, hb, (key g (by rw [hv]; rfl)).trans hg, h3⟩
 ·have h2 := h.2 g hg i x
  have h3 := key g hg
  unfold World.cell? at h2 ⊢
  simpa [h3] using h2
theorem IRow.put6 {w : World} {base : Nat} {v : Value} {L : List Iv} (h : IRow w base v L) {g : Nat} {s : Bool} {A : Option Addr} {n c : Nat} {e : Int} {t : Bool} {B : Option Addr} {m d : Nat} {f : Int} (r : Ibx w g s A n c e t B m d f) (hne : ∀ k, v.ownBlock = some k → k ≠ g) (u0 u1 u2 u3 u4 u5 : Value) :
  IRow ((((((w.setCell ⟨g, 0, none⟩ u0).setCell ⟨g, 1, none⟩ u1).setCell ⟨g, 2, none⟩ u2).setCell ⟨g, 3, none⟩ u3).setCell ⟨g, 4, none⟩ u4).setCell ⟨g, 5, none⟩ u5) base v L := by
 obtain ⟨xs, h1, h2⟩ := h
 refine ⟨xs, h1.same fun k hk => ?_, h2.mv fun _ _ _ _ hr => hr.put6 r u0 u1 u2 u3 u4 u5⟩
 have ne := hne k hk
 rw [Below.heap_setCell _ ⟨g, 5, none⟩ u5 k ne, Below.heap_setCell _ ⟨g, 4, none⟩ u4 k ne, Below.heap_setCell _ ⟨g, 3, none⟩ u3 k ne, Below.heap_setCell _ ⟨g, 2, none⟩ u2 k ne, Below.heap_setCell _ ⟨g, 1, none⟩ u1 k ne, Below.heap_setCell _ ⟨g, 0, none⟩ u0 k ne]
theorem IRow.lower {w : World} {base b0 : Nat} {v : Value} {L : List Iv} (h : IRow w base v L) (hb : b0 ≤ base) : IRow w b0 v L := by
 obtain ⟨xs, ⟨⟨h1, h2⟩, h3⟩, h4⟩ := h
 refine ⟨xs, ⟨⟨h1, ?_⟩, h3⟩, h4⟩
 rcases h2 with h2 | ⟨g, cap, cur, hv, hb2, h5⟩
 ·exact .inl h2
 ·exact .inr ⟨g, cap, cur, hv, Nat.le_trans hb hb2, h5⟩
/-- how a face ends that tells a row of intervals and a code -/
def TellR (o : Except Int (List Iv)) (w : World) (en : Ending) (w' : World) : Prop := ∃ v, en = .returned (.tuple #[v, .int .i64 (okc o)]) ∧ IRow w' w.heap.size v (oli o) ∧ Below w.heap.size w w'
theorem tellr_err {q : Except Int (List Iv)} {k : Int} {w w' : World} (hq : q = .error k) (b : Below w.heap.size w w') : TellR q w (.returned (.tuple #[.slice none 0 0, .int .i64 k])) w' := by
 subst hq
 exact ⟨_, rfl, irow_nil _ _, b⟩
theorem tellr_ok {q : Except Int (List Iv)} {R : List Iv} {v : Value} {w w' : World} (hq : q = .ok R) (h : IRow w' w.heap.size v R) (b : Below w.heap.size w w') : TellR q w (.returned (.tuple #[v, .int .i64 0])) w' := by
 subst hq
 exact ⟨_, rfl, h, b⟩
theorem tello_or {o : Except Int Iv} (hc : Cod o) {w w' : World} {en : Ending} (h : TellO o w en w') : (∃ v, o = .ok v ∧ TellI 0 v w en w') ∨ (∃ k, o = .error k ∧ k ≠ 0 ∧ TellI k Iv.zero w en w') := by
 cases o with
 | ok v => exact .inl ⟨v, rfl, h⟩
 | error k => exact .inr ⟨k, rfl, hc k rfl, h⟩
theorem asksT_iff {S : Sc} {T : Tp} {E : En} {p : Int} : asksT S T E p = true ↔ 1 ≤ p ∧ p ≤ 300 ∧ mayT S.K T E.nx E.nu E.np = true ∧ mayE S.K E = true := by
 unfold asksT
 simp only [Bool.and_eq_true, decide_eq_true_eq]
theorem lines_no {S : Sc} {T : Tp} {E : En} {p : Int} (h : ¬ (1 ≤ p ∧ p ≤ 300 ∧ mayT S.K T E.nx E.nu E.np = true ∧ mayE S.K E = true)) : linesO S T E p = .error 1 := by
 unfold linesO
 rw [if_neg fun h2 => h (asksT_iff.1 h2)]
theorem lines_yes {S : Sc} {T : Tp} {E : En} {p : Int} (h : 1 ≤ p ∧ p ≤ 300 ∧ mayT S.K T E.nx E.nu E.np = true ∧ mayE S.K E = true) : linesO S T E p = linO S T.L E p T.n := by
 unfold linesO
 rw [if_pos (asksT_iff.2 h)]

theorem tlines_any (S : Sc) {w : World} {E : En} {p : Int} {AL : Option Addr} {nL cL : Nat} {AO : Option Addr} {nO cO : Nat} {L : Nat → Ln} {O : Nat → Int} {A3 : Option Addr} {n3 c3 : Nat} {A4 : Option Addr} {n4 c4 : Nat} {AX : Option Addr} {cX : Nat} {AU : Option Addr} {cU : Nat} {AP : Option Addr} {cP : Nat} (hT : Tab w) (hL : RdL w AL nL cL L) (hO : RdZ w AO nO cO O) (hE : RdE w E A3 n3 c3 A4 n4 c4 AX cX AU cU AP cP) (hpl : ∀ i, i < nL → (L i).op ≤ 8) :
  Calls Tryz.prog 35 #[.agg #[.slice AL nL cL, .slice AO nO cO], .agg #[.bool E.t.lo.s, .slice A3 n3 c3, .int .i64 E.t.lo.e, .bool E.t.hi.s, .slice A4 n4 c4, .int .i64 E.t.hi.e, .slice AX E.nx cX, .slice AU E.nu cU, .slice AP E.np cP], .int .i64 p] w (TellR (linesO S ⟨nL, L, nO, O⟩ E p) w) := by
 have HPLA := Lib.hid hpl
 clear hpl
 have BB := two_below w (.cells #[.slice AL nL cL, .slice AO nO cO] 34) (.cells #[.bool E.t.lo.s, .slice A3 n3 c3, .int .i64 E.t.lo.e, .bool E.t.hi.s, .slice A4 n4 c4, .int .i64 E.t.hi.e, .slice AX E.nx cX, .slice AU E.nu cU, .slice AP E.np cP] 44)
 have xt := mv (below_alloc (w.alloc (.cells #[.slice AL nL cL, .slice AO nO cO] 34)) (.cells #[.bool E.t.lo.s, .slice A3 n3 c3, .int .i64 E.t.lo.e, .bool E.t.hi.s, .slice A4 n4 c4, .int .i64 E.t.hi.e, .slice AX E.nx cX, .slice AU E.nu cU, .slice AP E.np cP] 44)) rfl (Blk.new w #[.slice AL nL cL, .slice AO nO cO] 34)
 have xe : Blk ((w.alloc (.cells #[.slice AL nL cL, .slice AO nO cO] 34)).alloc (.cells #[.bool E.t.lo.s, .slice A3 n3 c3, .int .i64 E.t.lo.e, .bool E.t.hi.s, .slice A4 n4 c4, .int .i64 E.t.hi.e, .slice AX E.nx cX, .slice AU E.nu cU, .slice AP E.np cP] 44)) (w.heap.size + 1) #[.bool E.t.lo.s, .slice A3 n3 c3, .int .i64 E.t.lo.e, .bool E.t.hi.s, .slice A4 n4 c4, .int .i64 E.t.hi.e, .slice AX E.nx cX, .slice AU E.nu cU, .slice AP E.np cP] 44 := by have := Blk.new (w.alloc (.cells #[.slice AL nL cL, .slice AO nO cO] 34)) #[.bool E.t.lo.s, .slice A3 n3 c3, .int .i64 E.t.lo.e, .bool E.t.hi.s, .slice A4 n4 c4, .int .i64 E.t.hi.e, .slice AX E.nx cX, .slice AU E.nu cU, .slice AP E.np cP] 44; simpa using this
 have G := mv BB rfl (J4 hT hL hO hE)
 clear hT hL hO hE
 obtain ⟨hT, hL, hO, hE⟩ := G
 have t0 : World.cell? _ ⟨_, 0, none⟩ = some (.slice AL nL cL) := xt.at 0
 have t1 : World.cell? _ ⟨_, 1, none⟩ = some (.slice AO nO cO) := xt.at 1
 have e0 : World.cell? _ ⟨_, 0, none⟩ = some (.bool E.t.lo.s) := xe.at 0
 have e1 : World.cell? _ ⟨_, 1, none⟩ = some (.slice A3 n3 c3) := xe.at 1
 have e2 : World.cell? _ ⟨_, 2, none⟩ = some (.int .i64 E.t.lo.e) := xe.at 2
 have e3 : World.cell? _ ⟨_, 3, none⟩ = some (.bool E.t.hi.s) := xe.at 3
 have e4 : World.cell? _ ⟨_, 4, none⟩ = some (.slice A4 n4 c4) := xe.at 4
 have e5 : World.cell? _ ⟨_, 5, none⟩ = some (.int .i64 E.t.hi.e) := xe.at 5
 have e6 : World.cell? _ ⟨_, 6, none⟩ = some (.slice AX E.nx cX) := xe.at 6
 have e7 : World.cell? _ ⟨_, 7, none⟩ = some (.slice AU E.nu cU) := xe.at 7
 have e8 : World.cell? _ ⟨_, 8, none⟩ = some (.slice AP E.np cP) := xe.at 8
 clear xt xe
 obtain ⟨q, hq⟩ : ∃ q, q = linesO S ⟨nL, L, nO, O⟩ E p := ⟨_, rfl⟩
 rw [← hq]
 have HQ := Lib.hid hq
 clear hq
 by_cases hp1 : 1 ≤ p
 ·by_cases hp2 : p ≤ 300
  ·have g1 : ¬ p < 1 := by omega
   have g2 : ¬ (300 : Int) < p := by omega
   go_enter Tryz.func35, Tryz.ntmps35
   go_wp2
   go_step3
   go_wp2_with fail
   refine (tmay_any (x := (E.nx : Int)) (u := (E.nu : Int)) (p := (E.np : Int)) S.big hT hL hO).mono ?_
   rintro en w2 ⟨rfl, b⟩
   have hb0 : Below ((w.alloc (.cells #[.slice AL nL cL, .slice AO nO cO] 34)).alloc (.cells #[.bool E.t.lo.s, .slice A3 n3 c3, .int .i64 E.t.lo.e, .bool E.t.hi.s, .slice A4 n4 c4, .int .i64 E.t.hi.e, .slice AX E.nx cX, .slice AU E.nu cU, .slice AP E.np cP] 44)).heap.size ((w.alloc (.cells #[.slice AL nL cL, .slice AO nO cO] 34)).alloc (.cells #[.bool E.t.lo.s, .slice A3 n3 c3, .int .i64 E.t.lo.e, .bool E.t.hi.s, .slice A4 n4 c4, .int .i64 E.t.hi.e, .slice AX E.nx cX, .slice AU E.nu cU, .slice AP E.np cP] 44)) w2 := b
   replace BB := bnx BB b
   have G := mv b rfl (J14 hT hL hE t0 t1 e0 e1 e2 e3 e4 e5 e6 e7 e8)
   clear b hT hL hO hE t0 t1 e0 e1 e2 e3 e4 e5 e6 e7 e8 hb0
   obtain ⟨hT, hL, hE, t0, t1, e0, e1, e2, e3, e4, e5, e6, e7, e8⟩ := G
   cases hmt : mayT S.K ⟨nL, L, nO, O⟩ E.nx E.nu E.np
   ·have HMT := Lib.hid hmt
    clear hmt
    have hqq : q = .error 1 := by rw [HQ.out]; exact lines_no fun h => by have := HMT.out; rw [h.2.2.1] at this; cases this
    have HQQ := Lib.hid hqq
    clear hqq
    go_wp2
    exact bodyPost_ret (v := .tuple #[.slice none 0 0, .int .i64 1]) (by simp [results, Tryz.results35, go_sem]) rfl (tellr_err HQQ.out BB)
   ·have HMT := Lib.hid hmt
    clear hmt
    go_wp2_with fail
    refine (tmayenv_any S.big hT hE).mono ?_
    rintro en w3 ⟨rfl, b⟩
    replace BB := bnx BB b
    have G := mv b rfl (J14 hT hL hE t0 t1 e0 e1 e2 e3 e4 e5 e6 e7 e8)
    clear b hT hL hE t0 t1 e0 e1 e2 e3 e4 e5 e6 e7 e8
    obtain ⟨hT, hL, hE, t0, t1, e0, e1, e2, e3, e4, e5, e6, e7, e8⟩ := G
    cases hme : mayE S.K E
    ·have HME := Lib.hid hme
     clear hme
     have hqq : q = .error 1 := by rw [HQ.out]; exact lines_no fun h => by have := HME.out; rw [h.2.2.2] at this; cases this
     have HQQ := Lib.hid hqq
     clear hqq
     go_wp2
     exact bodyPost_ret (v := .tuple #[.slice none 0 0, .int .i64 1]) (by simp [results, Tryz.results35, go_sem]) rfl (tellr_err HQQ.out BB)
    ·have HAS := Lib.hid (And.intro hp1 (And.intro hp2 (And.intro HMT.out hme)))
     clear hme HMT
     have HQ2 := Lib.hid (HQ.out.trans (lines_yes HAS.out))
     clear HQ
     have lsz : w.heap.size ≤ w3.heap.size := BB.size
     have l0 := World.block_lt_of_cell? _ _ t0
     have l1 := World.block_lt_of_cell? _ _ e0
     go_wp2
     go_step3
     go_wp2
     go_loopg [41, 8, 9] nL (fun q vi va vc wr => ∃ (i : Nat) (R : List Iv), i + q = nL ∧ vi = .int .i64 i ∧ vc = .int .i64 0 ∧ linO S L E p i = .ok R ∧ IRow wr w3.heap.size va R ∧ Below w3.heap.size w3 wr)
     case atStart => exact ⟨0, [], by omega, rfl, rfl, rfl, irow_nil _ _, Below.refl _ _⟩
     case round =>
      obtain ⟨i, R, hg, rfl, rfl, hlin, hrow, hb⟩ := hrel
      have HG := Lib.hid hg
      clear hg
      have HLN := Lib.hid hlin
      clear hlin
      by_cases hi : i < nL
      ·obtain ⟨g, off, hal, hc⟩ := hL.at_ (by omega)
       obtain ⟨A1, n1, c1, A2, n2, c2, ⟨r0, r1, r2, r3, r4, r5, r6, r7, r8⟩, q1, q2⟩ := (hc i hi).next hb rfl
       subst hal
       have HML := Lib.hid ((mayT_iff.1 HAS.out.2.2.1).2.2.1 i hi)
       obtain ⟨l, hl⟩ : ∃ l, l = L i := ⟨_, rfl⟩
       have HL := Lib.hid hl
       clear hl hc
       rw [← HL.out] at r0 r1 r2 r3 r5 r6 r8 q1 q2
       have G := mv hb rfl (J13 hT hE t0 t1 e0 e1 e2 e3 e4 e5 e6 e7 e8)
       obtain ⟨hT1, hE1, t0', t1', e0', e1', e2', e3', e4', e5', e6', e7', e8'⟩ := G
       have hp3 : (i : Int) < nL := by omega
       have hp4 : (0 : Int) ≤ i := by omega
       have h200 : nL ≤ 200 := (mayT_iff.1 HAS.out.2.2.1).1
       obtain ⟨AV, cV, rfl, hV, _⟩ := hrow.form
       have LB := (Array.mk ([] : List Value))
       clear LB
       have b1 := two_below wr (.cells #[.int .i64 l.op, .int .i64 l.a, .int .i64 l.b, .bool l.k.lo.s, .slice A1 n1 c1, .int .i64 l.k.lo.e, .bool l.k.hi.s, .slice A2 n2 c2, .int .i64 l.k.hi.e] 31) (.cells #[.bool false, .slice none 0 0, .int .i64 0, .bool false, .slice none 0 0, .int .i64 0] 29)
       have xl := mv (below_alloc (wr.alloc (.cells #[.int .i64 l.op, .int .i64 l.a, .int .i64 l.b, .bool l.k.lo.s, .slice A1 n1 c1, .int .i64 l.k.lo.e, .bool l.k.hi.s, .slice A2 n2 c2, .int .i64 l.k.hi.e] 31)) (.cells #[.bool false, .slice none 0 0, .int .i64 0, .bool false, .slice none 0 0, .int .i64 0] 29)) rfl (Blk.new wr #[.int .i64 l.op, .int .i64 l.a, .int .i64 l.b, .bool l.k.lo.s, .slice A1 n1 c1, .int .i64 l.k.lo.e, .bool l.k.hi.s, .slice A2 n2 c2, .int .i64 l.k.hi.e] 31)
       have r : Ibx ((wr.alloc (.cells #[.int .i64 l.op, .int .i64 l.a, .int .i64 l.b, .bool l.k.lo.s, .slice A1 n1 c1, .int .i64 l.k.lo.e, .bool l.k.hi.s, .slice A2 n2 c2, .int .i64 l.k.hi.e] 31)).alloc (.cells #[.bool false, .slice none 0 0, .int .i64 0, .bool false, .slice none 0 0, .int .i64 0] 29)) (wr.heap.size + 1) false none 0 0 0 false none 0 0 0 := by have := Ibx.new (wr.alloc (.cells #[.int .i64 l.op, .int .i64 l.a, .int .i64 l.b, .bool l.k.lo.s, .slice A1 n1 c1, .int .i64 l.k.lo.e, .bool l.k.hi.s, .slice A2 n2 c2, .int .i64 l.k.hi.e] 31)) false none 0 0 0 false none 0 0 0; simpa using this
       have hlt := hrow.lt
       have G := mv b1 rfl (J17 hT1 hE1 t0' t1' q1 q2 hV hrow e0' e1' e2' e3' e4' e5' e6' e7' e8')
       clear hT1 hE1 t0' t1' q1 q2 hV hrow e0' e1' e2' e3' e4' e5' e6' e7' e8'
       obtain ⟨hT1, hE1, t0', t1', q1, q2, hV, hrow, e0', e1', e2', e3', e4', e5', e6', e7', e8'⟩ := G
       have hb1 := below_next hb hb.size b1 rfl rfl rfl rfl
       have m0 : World.cell? _ ⟨_, 0, none⟩ = some (.int .i64 l.op) := xl.at 0
       have m1 : World.cell? _ ⟨_, 1, none⟩ = some (.int .i64 l.a) := xl.at 1
       have m2 : World.cell? _ ⟨_, 2, none⟩ = some (.int .i64 l.b) := xl.at 2
       have m3 : World.cell? _ ⟨_, 3, none⟩ = some (.bool l.k.lo.s) := xl.at 3
       have m4 : World.cell? _ ⟨_, 4, none⟩ = some (.slice A1 n1 c1) := xl.at 4
       have m5 : World.cell? _ ⟨_, 5, none⟩ = some (.int .i64 l.k.lo.e) := xl.at 5
       have m6 : World.cell? _ ⟨_, 6, none⟩ = some (.bool l.k.hi.s) := xl.at 6
       have m7 : World.cell? _ ⟨_, 7, none⟩ = some (.slice A2 n2 c2) := xl.at 7
       have m8 : World.cell? _ ⟨_, 8, none⟩ = some (.int .i64 l.k.hi.e) := xl.at 8
       clear xl b1
       have hlen := lin_len HLN.out
       obtain ⟨o, ho⟩ : ∃ o, o = valO S l (fun j => R.getD j Iv.zero) E p := ⟨_, rfl⟩
       have HO := Lib.hid ho
       clear ho
       have HLEN := Lib.hid hlen
       clear hlen
       obtain ⟨nR, hnR⟩ : ∃ nR, nR = R.length := ⟨_, rfl⟩
       have HNR := Lib.hid hnR
       rw [← hnR] at hV hrow hlt ⊢
       clear hnR
       have hszW : wr.heap.size + 2 = ((wr.alloc (.cells #[.int .i64 l.op, .int .i64 l.a, .int .i64 l.b, .bool l.k.lo.s, .slice A1 n1 c1, .int .i64 l.k.lo.e, .bool l.k.hi.s, .slice A2 n2 c2, .int .i64 l.k.hi.e] 31)).alloc (.cells #[.bool false, .slice none 0 0, .int .i64 0, .bool false, .slice none 0 0, .int .i64 0] 29)).heap.size := by simp
       have HSZ := Lib.hid hszW
       clear hszW
       skip
       go_wp2_with fail
       refine (tello_to HO.out (tvalue_any S hT1 q1 q2 hV hE1 (by rw [HNR.out, HLEN.out, HL.out]; exact HML.out) HAS.out.2.2.2 HAS.out.1 HAS.out.2.1 (by rw [HL.out]; exact HPLA.out i hi))).mono ?_
       intro en w5 hte
       have HCD : Cod o := by rw [HO.out]; exact valO_cod
       rcases tello_or HCD hte with ⟨v, hv, A5, n5, c5, A6, n6, c6, rfl, h5, h6, b⟩ | ⟨k, hk, hk0, A5, n5, c5, A6, n6, c6, rfl, h5, h6, b⟩
       ·have HLN2 := Lib.hid (lin_ok HLN.out (by rw [← HL.out, ← HO.out]; exact hv))
        clear hv
        have hb5 := below_next hb1 hb1.size b rfl rfl rfl rfl
        have G := mv b rfl <| And.intro r <| hrow
        clear b r hrow hT1 hE1 hV q1 q2 hte m0 m1 m2 m3 m4 m5 m6 m7 m8 r0 r1 r2 r3 r4 r5 r6 r7 r8 t0' t1' e0' e1' e2' e3' e4' e5' e6' e7' e8'
        obtain ⟨r, hrow⟩ := G
        obtain ⟨f0, f1, f2, f3, f4, f5⟩ := r.open
        obtain ⟨z0, z1, z2, z3, z4, z5⟩ := r.held
        have hsz5 : w3.heap.size ≤ wr.heap.size + 1 := by have := hb.size; omega
        have hsz9 : wr.heap.size + 1 < w5.heap.size := r.gl
        have qq := r.put v.lo.s A5 n5 c5 v.lo.e v.hi.s A6 n6 c6 v.hi.e
        have h5' := h5.put6 r (.bool v.lo.s) (.slice A5 n5 c5) (.int .i64 v.lo.e) (.bool v.hi.s) (.slice A6 n6 c6) (.int .i64 v.hi.e)
        have h6' := h6.put6 r (.bool v.lo.s) (.slice A5 n5 c5) (.int .i64 v.lo.e) (.bool v.hi.s) (.slice A6 n6 c6) (.int .i64 v.hi.e)
        have hrow6 := hrow.put6 r (fun k hk => by have := hlt k hk; omega) (.bool v.lo.s) (.slice A5 n5 c5) (.int .i64 v.lo.e) (.bool v.hi.s) (.slice A6 n6 c6) (.int .i64 v.hi.e)
        have hb6 := below_put6 (g := wr.heap.size + 1) hb5 hsz5 (.bool v.lo.s) (.slice A5 n5 c5) (.int .i64 v.lo.e) (.bool v.hi.s) (.slice A6 n6 c6) (.int .i64 v.hi.e)
        have b7 := below_alloc ((((((w5.setCell ⟨wr.heap.size + 1, 0, none⟩ (.bool v.lo.s)).setCell ⟨wr.heap.size + 1, 1, none⟩ (.slice A5 n5 c5)).setCell ⟨wr.heap.size + 1, 2, none⟩ (.int .i64 v.lo.e)).setCell ⟨wr.heap.size + 1, 3, none⟩ (.bool v.hi.s)).setCell ⟨wr.heap.size + 1, 4, none⟩ (.slice A6 n6 c6)).setCell ⟨wr.heap.size + 1, 5, none⟩ (.int .i64 v.hi.e)) (.cells #[.bool v.lo.s, .slice A5 n5 c5, .int .i64 v.lo.e, .bool v.hi.s, .slice A6 n6 c6, .int .i64 v.hi.e] 29)
        have xv : Ibx (((((((w5.setCell ⟨wr.heap.size + 1, 0, none⟩ (.bool v.lo.s)).setCell ⟨wr.heap.size + 1, 1, none⟩ (.slice A5 n5 c5)).setCell ⟨wr.heap.size + 1, 2, none⟩ (.int .i64 v.lo.e)).setCell ⟨wr.heap.size + 1, 3, none⟩ (.bool v.hi.s)).setCell ⟨wr.heap.size + 1, 4, none⟩ (.slice A6 n6 c6)).setCell ⟨wr.heap.size + 1, 5, none⟩ (.int .i64 v.hi.e)).alloc (.cells #[.bool v.lo.s, .slice A5 n5 c5, .int .i64 v.lo.e, .bool v.hi.s, .slice A6 n6 c6, .int .i64 v.hi.e] 29)) w5.heap.size v.lo.s A5 n5 c5 v.lo.e v.hi.s A6 n6 c6 v.hi.e := by have := Ibx.new ((((((w5.setCell ⟨wr.heap.size + 1, 0, none⟩ (.bool v.lo.s)).setCell ⟨wr.heap.size + 1, 1, none⟩ (.slice A5 n5 c5)).setCell ⟨wr.heap.size + 1, 2, none⟩ (.int .i64 v.lo.e)).setCell ⟨wr.heap.size + 1, 3, none⟩ (.bool v.hi.s)).setCell ⟨wr.heap.size + 1, 4, none⟩ (.slice A6 n6 c6)).setCell ⟨wr.heap.size + 1, 5, none⟩ (.int .i64 v.hi.e)) v.lo.s A5 n5 c5 v.lo.e v.hi.s A6 n6 c6 v.hi.e; simpa using this
        have hb7 := below_next hb6 hb6.size b7 rfl rfl rfl rfl
        have G := mv b7 rfl (J3 hrow6 h5' h6')
        clear hrow6 h5' h6' h5 h6 hrow b7
        obtain ⟨hrow7, h5', h6'⟩ := G
        obtain ⟨y0, y1, y2, y3, y4, y5⟩ := qq.held
        have hlen : R.length ≤ 1000 := by have := (mayT_iff.1 HAS.out.2.2.1).1; have h9 : R.length = i := HLEN.out; have h10 : nL ≤ 200 := this; omega
        have hbase : w3.heap.size ≤ (((((((w5.setCell ⟨wr.heap.size + 1, 0, none⟩ (.bool v.lo.s)).setCell ⟨wr.heap.size + 1, 1, none⟩ (.slice A5 n5 c5)).setCell ⟨wr.heap.size + 1, 2, none⟩ (.int .i64 v.lo.e)).setCell ⟨wr.heap.size + 1, 3, none⟩ (.bool v.hi.s)).setCell ⟨wr.heap.size + 1, 4, none⟩ (.slice A6 n6 c6)).setCell ⟨wr.heap.size + 1, 5, none⟩ (.int .i64 v.hi.e)).alloc (.cells #[.bool v.lo.s, .slice A5 n5 c5, .int .i64 v.lo.e, .bool v.hi.s, .slice A6 n6 c6, .int .i64 v.hi.e] 29)).heap.size := hb7.size
        go_wp2_with (at_builtin; refine wp_appi rfl _ _ rfl rfl rfl hrow7 xv h5' h6' hlen hbase ?_)
        intro va' w8 hrow8 hgrow hlimb hat
        have hb8 := grown_below hgrow hb7 (fun k hk => (hlimb k hk).1) hbase
        clear hgrow hlimb hat hrow7 xv h5' h6' hbase hb7 hb6 hb5 qq r f0 f1 f2 f3 f4 f5 z0 z1 z2 z3 z4 z5 y0 y1 y2 y3 y4 y5
        go_wp2
        go_roundg (gk - 1)
        case measure => have := HG.out; omega
        case rel => exact ⟨i + 1, R ++ [v], by have := HG.out; omega, by go_num, rfl, HLN2.out, hrow8, hb8⟩
       ·have HER := Lib.hid (lin_err (d := nL - (i + 1)) (lin_bad HLN.out (by rw [← HL.out, ← HO.out]; exact hk)))
        clear hk
        have HK0 := Lib.hid hk0
        have hb5 := below_next hb1 hb1.size b rfl rfl rfl rfl
        have G := mv b rfl <| And.intro r <| hrow
        clear b r hrow hT1 hE1 hV q1 q2 hte m0 m1 m2 m3 m4 m5 m6 m7 m8 r0 r1 r2 r3 r4 r5 r6 r7 r8 t0' t1' e0' e1' e2' e3' e4' e5' e6' e7' e8'
        obtain ⟨r, hrow⟩ := G
        obtain ⟨f0, f1, f2, f3, f4, f5⟩ := r.open
        obtain ⟨z0, z1, z2, z3, z4, z5⟩ := r.held
        have hsz5 : w3.heap.size ≤ wr.heap.size + 1 := by have := hb.size; omega
        have hb6 := below_put6 (g := wr.heap.size + 1) hb5 hsz5 (.bool Iv.zero.lo.s) (.slice A5 n5 c5) (.int .i64 Iv.zero.lo.e) (.bool Iv.zero.hi.s) (.slice A6 n6 c6) (.int .i64 Iv.zero.hi.e)
        have hqq : q = .error k := by rw [HQ2.out]; have h9 := HER.out; rw [show i + 1 + (nL - (i + 1)) = nL by omega] at h9; exact h9
        have HQQ := Lib.hid hqq
        clear hqq
        go_wp2
        exact bodyPost_ret (v := .tuple #[.slice none 0 0, .int .i64 k]) (by simp [results, Tryz.results35, go_sem]) rfl (tellr_err HQQ.out (BB.trans (hb6.mono lsz)))
      ·have hn : i = nL := by have := HG.out; omega
       subst hn
       have hqq : q = .ok R := HQ2.out.trans HLN.out
       have HQQ := Lib.hid hqq
       clear hqq
       go_wp2
       exact bodyPost_ret (v := .tuple #[u8, .int .i64 0]) (by simp [results, Tryz.results35, go_sem]) rfl (tellr_ok HQQ.out (hrow.lower lsz) (BB.trans (hb.mono lsz)))
  ·have g1 : ¬ p < 1 := by omega
   have g2 : (300 : Int) < p := by omega
   have hqq : q = .error 1 := by rw [HQ.out]; exact lines_no fun h => (by omega)
   have HQQ := Lib.hid hqq
   clear hqq
   go_enter Tryz.func35, Tryz.ntmps35
   go_wp2
   go_step3
   go_wp2
   all_goals exact bodyPost_ret (v := .tuple #[.slice none 0 0, .int .i64 1]) (by simp [results, Tryz.results35, go_sem]) rfl (tellr_err HQQ.out BB)
 ·have g1 : p < 1 := by omega
  have hqq : q = .error 1 := by rw [HQ.out]; exact lines_no fun h => (by omega)
  have HQQ := Lib.hid hqq
  clear hqq
  go_enter Tryz.func35, Tryz.ntmps35
  go_wp2
  go_step3
  go_wp2
  all_goals exact bodyPost_ret (v := .tuple #[.slice none 0 0, .int .i64 1]) (by simp [results, Tryz.results35, go_sem]) rfl (tellr_err HQQ.out BB)

end Go.Proofs.YtlpjlmophlikeaaGreatDoor
