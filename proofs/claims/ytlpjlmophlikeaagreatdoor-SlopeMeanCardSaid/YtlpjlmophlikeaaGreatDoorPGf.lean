/-
 Contract of slope's reckon, at this translation. Condition: the slices read as limbs, the table of math/bits reads as its text lays it.
-/
import Derived.StillTailTactics
import Derived.Test.YtlpjlmophlikeaaGreatDoorPGe
import Derived.Test.YtlpjlmophlikeaaGreatDoorPGc
set_option maxHeartbeats 8000000
set_option maxRecDepth 100000
namespace Go.Proofs.YtlpjlmophlikeaaGreatDoor
open Go.RowKit


theorem snext_run (S : Sc) {w : World} {l : Ln} {b0 gs gr n i k : Nat} {vs : Nat → Value} {Q : Nat → List Iv} {AV : Option Addr} {cV : Nat} {V : Nat → Iv} {p st x u z : Int} {A1 : Option Addr} {n1 c1 : Nat} {A2 : Option Addr} {n2 c2 : Nat} (hT : Tab w) (hs : Sheet w b0 gs gr n vs Q AV cV V p) (hi : i < n) (hpl : l.op ≤ 8) (hml : mayLn S.K l (i : Int) x u z = true) (hk : (Q i).length = k) (hq : ∀ j, j < i → k < (Q j).length) :
  Calls Tryz.prog 84 #[.pointer (some ⟨gs, 0, none⟩), .int .i64 (i : Int), .agg #[.int .i64 l.op, .int .i64 l.a, .int .i64 l.b, .bool l.k.lo.s, .slice A1 n1 c1, .int .i64 l.k.lo.e, .bool l.k.hi.s, .slice A2 n2 c2, .int .i64 l.k.hi.e], .int .i64 st] w (RunI (nextO S l V (fun j => (Q j).getD k Iv.zero) (V i) st p) w) := by
 obtain ⟨op, a, b, kk⟩ := l
 have zero : ∀ {d : Iv} {o : Except Int Iv} {en : Ending} {w' : World}, o = .ok d → GivI d w en w' → RunI o w en w' := fun h1 h2 => .inl ⟨_, h1, h2⟩
 by_cases c1 : op = 1 ∨ op = 2 ∨ op = 4 ∨ op = 5
 ·refine (snext_zero (op := op) (la := a) (lb := b) (kk := kk) c1).mono fun en w' h => zero (d := Iv.zero) ?_ h
  unfold nextO
  rcases c1 with rfl | rfl | rfl | rfl <;> rfl
 ·by_cases c3 : op = 3
  ·subst c3
   refine (snext_state (la := a) (lb := b) (kk := kk)).mono fun en w' h => zero (d := if a = st then pwI 0 else Iv.zero) ?_ h
   show (if a = st then Except.ok (pwI 0) else Except.ok Iv.zero) = _
   split <;> rfl
  ·have hn : nextO S ⟨op, a, b, kk⟩ V (fun j => (Q j).getD k Iv.zero) (V i) st p = stepO S op (V a.toNat) (V b.toNat) (V i) ((Q a.toNat).getD k Iv.zero) ((Q b.toNat).getD k Iv.zero) p := by
    unfold nextO
    rw [if_neg (fun h => c1 (.inl h)), if_neg (fun h => c1 (.inr (.inl h))), if_neg c3, if_neg (fun h => c1 (.inr (.inr (.inl h)))), if_neg (fun h => c1 (.inr (.inr (.inr h))))]
   rw [hn]
   clear hn
   have hab : 6 ≤ op ∧ op ≤ 13 ∧ belowB a (i : Int) = true ∧ (belowB b (i : Int) = true ∨ b = 0) := by
    unfold mayLn at hml
    dsimp only at hml
    rw [if_neg (fun h => c1 (.inl h)), if_neg (fun h => c1 (.inr (.inl h))), if_neg c3, if_neg (fun h => c1 (.inr (.inr (.inl h)))), if_neg (fun h => c1 (.inr (.inr (.inr h))))] at hml
    split at hml
    ·simp only [Bool.and_eq_true] at hml
     exact ⟨by omega, by omega, hml.1, .inl hml.2.1⟩
    ·split at hml
     ·simp only [Bool.and_eq_true, decide_eq_true_eq] at hml
      exact ⟨by omega, by omega, hml.1, .inr hml.2.1⟩
     ·cases hml
   obtain ⟨o1, _, ha, hb⟩ := hab
   obtain ⟨ja, rfl, hja⟩ := nat_below ha
   obtain ⟨jb, rfl, hjb⟩ : ∃ j : Nat, b = (j : Int) ∧ j < i := by
    rcases hb with hb | hb
    ·exact nat_below hb
    ·exact ⟨0, hb, by omega⟩
   obtain ⟨gx, ox, hax, hI⟩ := hs.vals.at_ (by omega)
   subst hax
   obtain ⟨Aa, ca, _, ra, da⟩ := hs.rows.at (i := ja) (by omega)
   obtain ⟨Ab, cb, _, rb, db⟩ := hs.rows.at (i := jb) (by omega)
   obtain ⟨Ai, ci, _, rc, _⟩ := hs.rows.at hi
   have ka := hq ja hja
   have kb := hq jb hjb
   obtain ⟨g1, o1', hg1, hI1⟩ := da.at_ (by omega)
   obtain ⟨g2, o2', hg2, hI2⟩ := db.at_ (by omega)
   subst hg1 hg2
   rw [hk] at rc
   exact snext_high S (a := V ja) (b := V jb) (c := V i) (da := (Q ja).getD k Iv.zero) (db := (Q jb).getD k Iv.zero) ⟨o1, hpl⟩ hT (hs.box.at 0) (hs.box.at 1) (hs.box.at 2) (hI ja (by omega)) (hI jb (by omega)) (hI i hi) ra rb rc (hI1 k ka) (hI2 k kb) (by omega) (by omega) hi ka kb

theorem rws_frozen {w w' : World} {b0 gr n i : Nat} {vs : Nat → Value} {Q : Nat → List Iv} (h : Rws w b0 gr n vs Q) (hi : i < n) (hg : w.grownBy w' (vs i).ownBlock) (j : Nat) : w'.frozen? ⟨gr, j, none⟩ = false := by
 have := (hg.block gr h.blk.gl (fun e => (h.row i hi).off h.blk e.symm)).trans h.blk.blk
 simp [World.frozen?, this]
theorem sheet_off {w : World} {b0 gs gr n i : Nat} {vs : Nat → Value} {Q : Nat → List Iv} {AV : Option Addr} {cV : Nat} {V : Nat → Iv} {p : Int} (hs : Sheet w b0 gs gr n vs Q AV cV V p) (hi : i < n) : (vs i).ownBlock ≠ some gs ∧ gs ≠ gr := by
 refine ⟨fun e => ?_, fun e => ?_⟩
 ·obtain ⟨cs, hc⟩ := (hs.rows.row i hi).kind gs e
  rw [hs.box.blk] at hc
  injection hc with hc
  injection hc with _ hc
  exact absurd hc (by decide)
 ·have h1 := hs.box.blk
  rw [e, hs.rows.blk.blk] at h1
  injection h1 with h1
  injection h1 with _ h1
  exact absurd h1 (by decide)
theorem hg_block {w w' : World} {row : Option Nat} {g : Nat} {cs : Array Value} {T : TypeId} (hg : w.grownBy w' row) (h : Blk w g cs T) (hne : row ≠ some g) : Blk w' g cs T := ⟨(hg.block g h.gl (fun e => hne e.symm)).trans h.blk⟩
theorem sheet_put {w0 w w' : World} {gs gr n i : Nat} {vs : Nat → Value} {Q : Nat → List Iv} {AV : Option Addr} {cV : Nat} {V : Nat → Iv} {p : Int} {v' : Value} {d : Iv} (hs : Sheet w w0.heap.size gs gr n vs Q AV cV V p) (hi : i < n) (g1 : IRow w' w0.heap.size v' (Q i ++ [d])) (g2 : w.grownBy w' (vs i).ownBlock) (g3 : v'.ownBlock = (vs i).ownBlock ∨ v'.ownBlock = some w.heap.size) (BN : Below w0.heap.size w0 w') (hV0 : RdS w0 AV n cV V) :
  Sheet (w'.setCell ⟨gr, i, none⟩ v') w0.heap.size gs gr n (upd vs i v') (upd Q i (Q i ++ [d])) AV cV V p := by
 obtain ⟨h1, h2⟩ := sheet_off hs hi
 exact ⟨⟨(Below.heap_setCell _ ⟨gr, i, none⟩ v' gs h2).trans ((hg_block g2 hs.box h1).blk)⟩, hs.rows.put hi g1 g2 g3, hs.lo, mv (BN.setCell (p := ⟨gr, i, none⟩) hs.lo v') rfl hV0⟩

theorem sreck1_run (S : Sc) {w : World} {l : Ln} {b0 gs gr n i k : Nat} {vs : Nat → Value} {Q : Nat → List Iv} {AV : Option Addr} {cV : Nat} {V : Nat → Iv} {p st x u z : Int} {A1 : Option Addr} {n1 c1 : Nat} {A2 : Option Addr} {n2 c2 : Nat} {g g1 g2 g3 : Nat} (hT : Tab w) (hs : Sheet w b0 gs gr n vs Q AV cV V p) (hi : i < n) (hpl : l.op ≤ 8) (hml : mayLn S.K l (i : Int) x u z = true) (hk : (Q i).length = k) (hq : ∀ j, j < i → k < (Q j).length) (x0 : Blk w g #[.pointer (some ⟨gs, 0, none⟩)] 111) (x1 : Blk w g1 #[.int .i64 (i : Int)] 3) (x2 : Blk w g2 #[.int .i64 l.op, .int .i64 l.a, .int .i64 l.b, .bool l.k.lo.s, .slice A1 n1 c1, .int .i64 l.k.lo.e, .bool l.k.hi.s, .slice A2 n2 c2, .int .i64 l.k.hi.e] 31) (x3 : Blk w g3 #[.int .i64 st] 3) :
  Calls Tryz.prog 83 #[.pointer (some ⟨g, 0, none⟩), .pointer (some ⟨g1, 0, none⟩), .pointer (some ⟨g2, 0, none⟩), .pointer (some ⟨g3, 0, none⟩)] w (RunI (nextO S l V (fun j => (Q j).getD k Iv.zero) (V i) st p) w) := by
 obtain ⟨q, hq⟩ : ∃ q : Except Int Iv, q = nextO S l V (fun j => (Q j).getD k Iv.zero) (V i) st p := ⟨_, rfl⟩
 rw [← hq]
 have HQ := Lib.hid hq
 clear hq
 have HML := Lib.hid (And.intro hi (And.intro hml (And.intro hk hq)))
 have HPL := Lib.hid hpl
 clear hpl
 clear hml hk hq hi
 have BB := below_alloc w (.cells #[.bool false, .slice none 0 0, .int .i64 0, .bool false, .slice none 0 0, .int .i64 0] 29)
 have r := Ibx.new w false none 0 0 0 false none 0 0 0
 have G := mv BB rfl (J6 hT hs x0 x1 x2 x3)
 clear hT hs x0 x1 x2 x3
 obtain ⟨hT, hs, x0, x1, x2, x3⟩ := G
 have p0 : World.cell? _ ⟨_, 0, none⟩ = some (.pointer (some ⟨gs, 0, none⟩)) := x0.at 0
 have p1 : World.cell? _ ⟨_, 0, none⟩ = some (.int .i64 (i : Int)) := x1.at 0
 have m0 : World.cell? _ ⟨_, 0, none⟩ = some (.int .i64 l.op) := x2.at 0
 have m1 : World.cell? _ ⟨_, 1, none⟩ = some (.int .i64 l.a) := x2.at 1
 have m2 : World.cell? _ ⟨_, 2, none⟩ = some (.int .i64 l.b) := x2.at 2
 have m3 : World.cell? _ ⟨_, 3, none⟩ = some (.bool l.k.lo.s) := x2.at 3
 have m4 : World.cell? _ ⟨_, 4, none⟩ = some (.slice A1 n1 c1) := x2.at 4
 have m5 : World.cell? _ ⟨_, 5, none⟩ = some (.int .i64 l.k.lo.e) := x2.at 5
 have m6 : World.cell? _ ⟨_, 6, none⟩ = some (.bool l.k.hi.s) := x2.at 6
 have m7 : World.cell? _ ⟨_, 7, none⟩ = some (.slice A2 n2 c2) := x2.at 7
 have m8 : World.cell? _ ⟨_, 8, none⟩ = some (.int .i64 l.k.hi.e) := x2.at 8
 have p3 : World.cell? _ ⟨_, 0, none⟩ = some (.int .i64 st) := x3.at 0
 go_enter Tryz.func83, Tryz.ntmps83
 obtain ⟨o1, ho1⟩ : ∃ o, o = nextO S l V (fun j => (Q j).getD k Iv.zero) (V i) st p := ⟨_, rfl⟩
 have HO1 := Lib.hid ho1
 clear ho1
 go_wp2_with fail
 refine (runi_to HO1.out (snext_run S hT hs HML.out.1 HPL.out HML.out.2.1 HML.out.2.2.1 HML.out.2.2.2)).mono ?_
 rintro en w1 (⟨v1, hv1, A21, n21, c21, A22, n22, c22, rfl, h21, h22, b⟩ | ⟨kk, hk, hk0, rfl, b⟩)
 rotate_left
 ·replace BB := bnx BB b
  clear b
  have HKK := Lib.hid (And.intro hk hk0)
  clear hk hk0
  go_wp2
  exact ⟨rfl, .inr ⟨kk, (HQ.out.trans (by simp only [← HO1.out, HKK.out.1])), HKK.out.2, rfl, BB⟩⟩
 have HV1 := Lib.hid hv1
 clear hv1
 clear hT hs x0 x1 x2 x3
 replace BB := bnx BB b
 replace r := mv b rfl r
 clear b
 clear p0 p1 p3 m0 m1 m2 m3 m4 m5 m6 m7 m8
 obtain ⟨f0, f1, f2, f3, f4, f5⟩ := r.open
 obtain ⟨z0, z1, z2, z3, z4, z5⟩ := r.held
 go_wp2
 exact ret6 rfl rfl rfl r h21 h22 BB (by omega) fun _ hN hM HB3 => .inl ⟨v1, (HQ.out.trans (by simp only [← HO1.out, HV1.out])), _, _, _, _, _, _, rfl, hN, hM, HB3⟩

/-- how reckon ends: the row i has one derivative more, or a code -/
def RkEnd (o : Except Int Iv) (w0 w : World) (gs gr n i : Nat) (vs : Nat → Value) (Q : Nat → List Iv) (AV : Option Addr) (cV : Nat) (V : Nat → Iv) (p : Int) (en : Ending) (w' : World) : Prop :=
 (∃ d v', o = .ok d ∧ en = .returned (.int .i64 0) ∧ Sheet w' w0.heap.size gs gr n (upd vs i v') (upd Q i (Q i ++ [d])) AV cV V p ∧ (∀ g, g < w.heap.size → g ≠ gr → (vs i).ownBlock ≠ some g → w'.heap[g]? = w.heap[g]?) ∧ Below w0.heap.size w0 w') ∨ (∃ kk, o = .error kk ∧ kk ≠ 0 ∧ en = .returned (.int .i64 kk) ∧ Below w0.heap.size w0 w')

theorem sreckon_any (S : Sc) {w0 w : World} {l : Ln} {gs gr n i k : Nat} {vs : Nat → Value} {Q : Nat → List Iv} {AV : Option Addr} {cV : Nat} {V : Nat → Iv} {p st x u z : Int} {A1 : Option Addr} {n1 c1 : Nat} {A2 : Option Addr} {n2 c2 : Nat} (hT : Tab w) (HB : Below w0.heap.size w0 w) (hV0 : RdS w0 AV n cV V) (hs : Sheet w w0.heap.size gs gr n vs Q AV cV V p) (lg0 : gs < w.heap.size) (hi : i < n) (hpl : l.op ≤ 8) (hml : mayLn S.K l (i : Int) x u z = true) (hk : (Q i).length = k) (hqq : ∀ j, j < i → k < (Q j).length) (hkk : k ≤ 1000) :
  Calls Tryz.prog 37 #[.pointer (some ⟨gs, 0, none⟩), .int .i64 (i : Int), .agg #[.int .i64 l.op, .int .i64 l.a, .int .i64 l.b, .bool l.k.lo.s, .slice A1 n1 c1, .int .i64 l.k.lo.e, .bool l.k.hi.s, .slice A2 n2 c2, .int .i64 l.k.hi.e], .int .i64 st] w (RkEnd (nextO S l V (fun j => (Q j).getD k Iv.zero) (V i) st p) w0 w gs gr n i vs Q AV cV V p) := by
 have hmf := make_func
 obtain ⟨q, hq⟩ : ∃ q : Except Int Iv, q = nextO S l V (fun j => (Q j).getD k Iv.zero) (V i) st p := ⟨_, rfl⟩
 rw [← hq]
 have HQ := Lib.hid hq
 clear hq
 have HML := Lib.hid (And.intro hi (And.intro hml (And.intro hk hqq)))
 have HPL := Lib.hid hpl
 clear hpl
 clear hml hk hqq hi
 have b := (three_below w (.cells #[.pointer (some ⟨gs, 0, none⟩)] 111) (.cells #[.int .i64 (i : Int)] 3) (.cells #[.int .i64 l.op, .int .i64 l.a, .int .i64 l.b, .bool l.k.lo.s, .slice A1 n1 c1, .int .i64 l.k.lo.e, .bool l.k.hi.s, .slice A2 n2 c2, .int .i64 l.k.hi.e] 31)).trans ((below_alloc (((w.alloc (.cells #[.pointer (some ⟨gs, 0, none⟩)] 111)).alloc (.cells #[.int .i64 (i : Int)] 3)).alloc (.cells #[.int .i64 l.op, .int .i64 l.a, .int .i64 l.b, .bool l.k.lo.s, .slice A1 n1 c1, .int .i64 l.k.lo.e, .bool l.k.hi.s, .slice A2 n2 c2, .int .i64 l.k.hi.e] 31)) (.cells #[.int .i64 st] 3)).mono (by simp <;> omega))
 have x0 := mv ((two_below (w.alloc (.cells #[.pointer (some ⟨gs, 0, none⟩)] 111)) (.cells #[.int .i64 (i : Int)] 3) (.cells #[.int .i64 l.op, .int .i64 l.a, .int .i64 l.b, .bool l.k.lo.s, .slice A1 n1 c1, .int .i64 l.k.lo.e, .bool l.k.hi.s, .slice A2 n2 c2, .int .i64 l.k.hi.e] 31)).trans ((below_alloc (((w.alloc (.cells #[.pointer (some ⟨gs, 0, none⟩)] 111)).alloc (.cells #[.int .i64 (i : Int)] 3)).alloc (.cells #[.int .i64 l.op, .int .i64 l.a, .int .i64 l.b, .bool l.k.lo.s, .slice A1 n1 c1, .int .i64 l.k.lo.e, .bool l.k.hi.s, .slice A2 n2 c2, .int .i64 l.k.hi.e] 31)) (.cells #[.int .i64 st] 3)).mono (by simp <;> omega))) rfl (Blk.new w #[.pointer (some ⟨gs, 0, none⟩)] 111)
 have x1 : Blk ((w.alloc (.cells #[.pointer (some ⟨gs, 0, none⟩)] 111)).alloc (.cells #[.int .i64 (i : Int)] 3)) (w.heap.size + 1) #[.int .i64 (i : Int)] 3 := by have := Blk.new (w.alloc (.cells #[.pointer (some ⟨gs, 0, none⟩)] 111)) #[.int .i64 (i : Int)] 3; simpa using this
 replace x1 := mv (two_below ((w.alloc (.cells #[.pointer (some ⟨gs, 0, none⟩)] 111)).alloc (.cells #[.int .i64 (i : Int)] 3)) (.cells #[.int .i64 l.op, .int .i64 l.a, .int .i64 l.b, .bool l.k.lo.s, .slice A1 n1 c1, .int .i64 l.k.lo.e, .bool l.k.hi.s, .slice A2 n2 c2, .int .i64 l.k.hi.e] 31) (.cells #[.int .i64 st] 3)) rfl x1
 have x2 : Blk (((w.alloc (.cells #[.pointer (some ⟨gs, 0, none⟩)] 111)).alloc (.cells #[.int .i64 (i : Int)] 3)).alloc (.cells #[.int .i64 l.op, .int .i64 l.a, .int .i64 l.b, .bool l.k.lo.s, .slice A1 n1 c1, .int .i64 l.k.lo.e, .bool l.k.hi.s, .slice A2 n2 c2, .int .i64 l.k.hi.e] 31)) (w.heap.size + 2) #[.int .i64 l.op, .int .i64 l.a, .int .i64 l.b, .bool l.k.lo.s, .slice A1 n1 c1, .int .i64 l.k.lo.e, .bool l.k.hi.s, .slice A2 n2 c2, .int .i64 l.k.hi.e] 31 := by have := Blk.new ((w.alloc (.cells #[.pointer (some ⟨gs, 0, none⟩)] 111)).alloc (.cells #[.int .i64 (i : Int)] 3)) #[.int .i64 l.op, .int .i64 l.a, .int .i64 l.b, .bool l.k.lo.s, .slice A1 n1 c1, .int .i64 l.k.lo.e, .bool l.k.hi.s, .slice A2 n2 c2, .int .i64 l.k.hi.e] 31; simpa using this
 replace x2 := mv (below_alloc (((w.alloc (.cells #[.pointer (some ⟨gs, 0, none⟩)] 111)).alloc (.cells #[.int .i64 (i : Int)] 3)).alloc (.cells #[.int .i64 l.op, .int .i64 l.a, .int .i64 l.b, .bool l.k.lo.s, .slice A1 n1 c1, .int .i64 l.k.lo.e, .bool l.k.hi.s, .slice A2 n2 c2, .int .i64 l.k.hi.e] 31)) (.cells #[.int .i64 st] 3)) rfl x2
 have x3 : Blk ((((w.alloc (.cells #[.pointer (some ⟨gs, 0, none⟩)] 111)).alloc (.cells #[.int .i64 (i : Int)] 3)).alloc (.cells #[.int .i64 l.op, .int .i64 l.a, .int .i64 l.b, .bool l.k.lo.s, .slice A1 n1 c1, .int .i64 l.k.lo.e, .bool l.k.hi.s, .slice A2 n2 c2, .int .i64 l.k.hi.e] 31)).alloc (.cells #[.int .i64 st] 3)) (w.heap.size + 3) #[.int .i64 st] 3 := by have := Blk.new (((w.alloc (.cells #[.pointer (some ⟨gs, 0, none⟩)] 111)).alloc (.cells #[.int .i64 (i : Int)] 3)).alloc (.cells #[.int .i64 l.op, .int .i64 l.a, .int .i64 l.b, .bool l.k.lo.s, .slice A1 n1 c1, .int .i64 l.k.lo.e, .bool l.k.hi.s, .slice A2 n2 c2, .int .i64 l.k.hi.e] 31)) #[.int .i64 st] 3; simpa using this
 have BB := below_next HB HB.size b rfl rfl rfl rfl
 have BW := b
 have hlo := hs.lo
 have hgg := (sheet_off hs HML.out.1).2
 have lgr : gr < w.heap.size := hs.rows.blk.gl
 have hown : ∀ g, w.heap.size ≤ g ∨ g = gs ∨ g = gr → some g ≠ (vs i).ownBlock := fun g hg e => by
  have hr := hs.rows.row i HML.out.1
  rcases hg with h | h | h
  ·have := (hr.lt g e.symm).2; omega
  ·rw [h] at e; exact (sheet_off hs HML.out.1).1 e.symm
  ·rw [h] at e; exact hr.off hs.rows.blk e.symm
 clear HB
 have G := mv b rfl <| And.intro hT <| hs
 clear b hT hs
 obtain ⟨hT, hs⟩ := G
 have lgs : gs < w.heap.size := lg0
 clear lg0
 go_enter Tryz.func37, Tryz.ntmps37
 go_wp2_with fail
 refine (tello_to HQ.out (itold_run (fun _ => by kernel_rfl) fun W2 b2 => sreck1_run S (mv b2 rfl hT) (mv b2 rfl hs) HML.out.1 HPL.out HML.out.2.1 HML.out.2.2.1 HML.out.2.2.2 (mv b2 rfl x0) (mv b2 rfl x1) (mv b2 rfl x2) (mv b2 rfl x3))).mono ?_
 rintro en w5 ⟨A5, n5, c5, A6, n6, c6, rfl, h5, h6, b⟩
 clear hT x2 x3
 replace BW := below_next BW BW.size b rfl rfl rfl rfl
 replace BB := bnx BB b
 have G := mv b rfl (J3 hs x0 x1)
 clear b hs x0 x1
 obtain ⟨hs, x0, x1⟩ := G
 have xd := Ibx.new w5 (oiv q).lo.s A5 n5 c5 (oiv q).lo.e (oiv q).hi.s A6 n6 c6 (oiv q).hi.e
 have b := below_alloc w5 (.cells #[.bool (oiv q).lo.s, .slice A5 n5 c5, .int .i64 (oiv q).lo.e, .bool (oiv q).hi.s, .slice A6 n6 c6, .int .i64 (oiv q).hi.e] 29)
 have lgd : w.heap.size ≤ w5.heap.size := BW.size
 replace BW := below_next BW BW.size b rfl rfl rfl rfl
 replace BB := bnx BB b
 have G := mv b rfl (J5 hs x0 x1 h5 h6)
 clear b hs x0 x1 h5 h6
 obtain ⟨hs, x0, x1, h5, h6⟩ := G
 go_upto_region 2 with fail
 generalize w5.alloc (.cells #[.bool (oiv q).lo.s, .slice A5 n5 c5, .int .i64 (oiv q).lo.e, .bool (oiv q).hi.s, .slice A6 n6 c6, .int .i64 (oiv q).hi.e] 29) = W6 at *
 generalize w5.heap.size = gd at *
 cases hqq : q with
 | error kk =>
  have hk0 : kk ≠ 0 := next_cod kk (HQ.out.symm.trans hqq)
  have HK := Lib.hid (And.intro hqq hk0)
  have hkb : (kk == 0) = false := beq_eq_false_iff_ne.2 hk0
  simp only [okc]
  clear hqq hk0
  go_wp2
  exact bodyPost_ret (v := .int .i64 kk) (by simp [results, Tryz.results37, go_sem]) rfl (.inr ⟨kk, HK.out.1, HK.out.2, rfl, BB⟩)
 | ok d =>
  rw [hqq] at h5 h6 xd
  have HD := Lib.hid hqq
  clear hqq
  simp only [okc, oiv] at h5 h6 xd ⊢
  go_upto_region 3 with fail
  have hi := HML.out.1
  have hi2 : (i : Int) < (n : Int) := by omega
  have hi3 : (0 : Int) ≤ (i : Int) := by omega
  have p0 : World.cell? _ ⟨_, 0, none⟩ = some (.pointer (some ⟨gs, 0, none⟩)) := x0.at 0
  have p1 : World.cell? _ ⟨_, 0, none⟩ = some (.int .i64 (i : Int)) := x1.at 0
  have s1 := hs.box.at 1
  obtain ⟨Ar, cr, hvi, rr, _⟩ := hs.rows.at hi
  obtain ⟨d0, d1, d2, d3, d4, d5⟩ := xd.held
  rw [HML.out.2.2.1] at hvi rr
  have hrow := hs.rows.row i hi
  have lg6 := hs.box.gl
  have lgr := hs.rows.blk.gl
  have b : Below W6.heap.size W6 (World.drew W6) := below_drewN (Below.refl _ _) 1
  clear x0 x1
  replace BW := below_next BW BW.size b rfl rfl rfl rfl
  replace BB := bnx BB b
  have G := mv b rfl (J15 hs h5 h6 xd p0 p1 s1 rr hrow d0 d1 d2 d3 d4 d5)
  clear b hs h5 h6 xd p0 p1 s1 rr hrow d0 d1 d2 d3 d4 d5
  obtain ⟨hs, h5, h6, xd, p0, p1, s1, rr, hrow, d0, d1, d2, d3, d4, d5⟩ := G
  refine wp_region_held_drew (S := fun w' => w'.cell? ⟨w.heap.size, 0, none⟩ = some (.pointer (some ⟨gs, 0, none⟩)) ∧ w'.cell? ⟨w.heap.size + 1, 0, none⟩ = some (.int .i64 (i : Int)) ∧ w'.cell? ⟨gs, 1, none⟩ = some (.slice (some ⟨gr, 0, none⟩) n n) ∧ w'.cell? ⟨gd, 0, none⟩ = some (.bool d.lo.s) ∧ w'.cell? ⟨gd, 1, none⟩ = some (.slice A5 n5 c5) ∧ w'.cell? ⟨gd, 2, none⟩ = some (.int .i64 d.lo.e) ∧ w'.cell? ⟨gd, 3, none⟩ = some (.bool d.hi.s) ∧ w'.cell? ⟨gd, 4, none⟩ = some (.slice A6 n6 c6) ∧ w'.cell? ⟨gd, 5, none⟩ = some (.int .i64 d.hi.e)) (by kernel_rfl) (by exact ⟨p0, p1, s1, d0, d1, d2, d3, d4, d5⟩) (fun hHeldv0 => ?_)
  generalize World.drew W6 = wd at *
  refine tl 0 ?_
  refine tl 1 ?_
  refine tl 2 ?_
  refine tl 3 ?_
  refine tl 4 ?_
  refine tl 5 ?_
  refine tl 6 ?_
  refine tl 7 ?_
  refine tl 8 ?_
  refine tl 9 ?_
  refine tl 10 ?_
  refine tl 12 ?_
  refine wpAnyH_ready (rs := [11, 13]) (by kernel_rfl) (by simp) ?_
  refine AllReadyH.cons (o := _) rfl (fun K hK => ?_) (AllReadyH.cons (o := _) rfl (fun K hK => ?_) (AllReadyH.nil))
  ·go_simp
   refine hK.out _ _ (by exact ⟨p0, p1, s1, d0, d1, d2, d3, d4, d5⟩) (fun hHeldv1 => ?_)
   clear hK K hHeldv0
   try simp only [Act.put]
   refine rdy 13 fun K hK => ?_
   go_simp
   have b := below_alloc wd (.cells #[.bool d.lo.s, .slice A5 n5 c5, .int .i64 d.lo.e, .bool d.hi.s, .slice A6 n6 c6, .int .i64 d.hi.e] 29)
   have xv := Ibx.new wd d.lo.s A5 n5 c5 d.lo.e d.hi.s A6 n6 c6 d.hi.e
   replace BW := below_next BW BW.size b (by rfl) (by rfl) (by rfl) (by rfl)
   replace BB := below_next BB BB.size b (by rfl) (by rfl) (by rfl) (by rfl)
   have G := mv b (by rfl) <| And.intro hs <| And.intro h5 <| And.intro h6 <| And.intro xd <| And.intro p0 <| And.intro p1 <| And.intro s1 <| And.intro rr <| And.intro hrow <| And.intro d0 <| And.intro d1 <| And.intro d2 <| And.intro d3 <| And.intro d4 <| d5
   clear b hs h5 h6 xd p0 p1 s1 rr hrow d0 d1 d2 d3 d4 d5
   obtain ⟨hs, h5, h6, xd, p0, p1, s1, rr, hrow, d0, d1, d2, d3, d4, d5⟩ := G
   generalize wd.alloc (.cells #[.bool d.lo.s, .slice A5 n5 c5, .int .i64 d.lo.e, .bool d.hi.s, .slice A6 n6 c6, .int .i64 d.hi.e] 29) = u_2 at *
   generalize wd.heap.size = gv at *
   refine hK.out _ _ (by exact ⟨p0, p1, s1, d0, d1, d2, d3, d4, d5⟩) (fun hHeldv2 => ?_)
   clear hK K hHeldv1
   try simp only [Act.put]
   refine rdy 14 fun K hK => ?_
   obtain ⟨v', u_3, hr', g1, g2, g3⟩ := appi_run 39 hrow xv h5 h6 (by rw [HML.out.2.2.1]; exact hkk) (by have := hs.lo; have := hs.rows.blk.gl; omega)
   obtain ⟨A9, c9, e9, _⟩ := g1.form
   generalize (Q i ++ [d]).length = n9 at e9
   subst e9
   have hkw : ∀ g, g < w.heap.size → g ≠ gr → (vs i).ownBlock ≠ some g → u_3.heap[g]? = w.heap[g]? := fun g h1 _ h3 => (g2.block g (by have := BW.size; omega) (fun e => h3 e.symm)).trans (BW.block g h1)
   have BN := grown_below g2 BB (fun g hg => ((hs.rows.row i hi).lt g hg).1) BB.size
   have hS2 : Sheet (u_3.setCell ⟨gr, i, none⟩ (.slice A9 n9 c9)) w0.heap.size gs gr n (upd vs i (.slice A9 n9 c9)) (upd Q i (Q i ++ [d])) AV cV V p := sheet_put hs hi g1 g2 g3 BN hV0
   have f9 : u_3.frozen? ⟨gr, i, none⟩ = false := rws_frozen hs.rows hi g2 i
   have hne : ∀ g, w.heap.size ≤ g ∨ g = gs ∨ g = gr → some g ≠ (vs i).ownBlock := hown
   rw [hvi] at hr' hne
   rw [hvi] at g2
   rw [if_pos (by rfl)]
   unfold Oper.wp execOp
   simp only [List.getElem_toArray, List.getElem_cons_succ, List.getElem_cons_zero, resolve, invoke, builtin, Sem.run_bind, Sem.run_pure, Result.andThen_ok, List.map_toArray, List.map_cons, List.map_nil]
   change Oper.upon _ _ _ _ _ ((Sem.run _ (Builtin.append_ _ _ #[.slice Ar k cr, .slice (some ⟨gv, 0, none⟩) 1 1]) _).andThen _)
   rw [hr']
   go_simp
   replace p0 := g2.cell p0 (hne (w.heap.size) (.inl (by omega)))
   replace p1 := g2.cell p1 (hne (w.heap.size + 1) (.inl (by omega)))
   replace s1 := g2.cell s1 (hne (gs) (.inr (.inl rfl)))
   replace d0 := g2.cell d0 (hne (gd) (.inl (by omega)))
   replace d1 := g2.cell d1 (hne (gd) (.inl (by omega)))
   replace d2 := g2.cell d2 (hne (gd) (.inl (by omega)))
   replace d3 := g2.cell d3 (hne (gd) (.inl (by omega)))
   replace d4 := g2.cell d4 (hne (gd) (.inl (by omega)))
   replace d5 := g2.cell d5 (hne (gd) (.inl (by omega)))
   replace rr := g2.cell rr (hne gr (.inr (.inr rfl)))
   clear hr' g1 g2 g3 hs hrow xv h5 h6 xd BB
   refine hK.out _ _ (by exact ⟨p0, p1, s1, d0, d1, d2, d3, d4, d5⟩) (fun hHeldv3 => ?_)
   clear hK K hHeldv2
   try simp only [Act.put]
   refine tl 15 ?_
   refine rdy 16 fun K hK => ?_
   go_simp
   have BB := BN.setCell (p := ⟨gr, i, none⟩) hlo (.slice A9 n9 c9)
   replace hkw : ∀ g, g < w.heap.size → g ≠ gr → (vs i).ownBlock ≠ some g → (u_3.setCell ⟨gr, i, none⟩ (.slice A9 n9 c9)).heap[g]? = w.heap[g]? := fun g h1 h2 h3 => (Below.heap_setCell _ ⟨gr, i, none⟩ (.slice A9 n9 c9) g h2).trans (hkw g h1 h2 h3)
   replace p0 := cell_oth p0 (show w.heap.size ≠ gr by omega) i (.slice A9 n9 c9)
   replace p1 := cell_oth p1 (show w.heap.size + 1 ≠ gr by omega) i (.slice A9 n9 c9)
   replace s1 := cell_oth s1 (show gs ≠ gr by omega) i (.slice A9 n9 c9)
   replace d0 := cell_oth d0 (show gd ≠ gr by omega) i (.slice A9 n9 c9)
   replace d1 := cell_oth d1 (show gd ≠ gr by omega) i (.slice A9 n9 c9)
   replace d2 := cell_oth d2 (show gd ≠ gr by omega) i (.slice A9 n9 c9)
   replace d3 := cell_oth d3 (show gd ≠ gr by omega) i (.slice A9 n9 c9)
   replace d4 := cell_oth d4 (show gd ≠ gr by omega) i (.slice A9 n9 c9)
   replace d5 := cell_oth d5 (show gd ≠ gr by omega) i (.slice A9 n9 c9)
   refine hK.out _ _ (by exact ⟨p0, p1, s1, d0, d1, d2, d3, d4, d5⟩) (fun hHeldv4 => ?_)
   clear hK K hHeldv3
   try simp only [Act.put]
   refine wpAnyH_done (by kernel_rfl) ?_ _
   go_wp2
   exact bodyPost_ret (v := .int .i64 0) (by simp [results, Tryz.results37, go_sem]) rfl (.inl ⟨d, _, HD.out, rfl, hS2, hkw, BB⟩)
  ·go_simp
   have b := below_alloc wd (.cells #[.bool d.lo.s, .slice A5 n5 c5, .int .i64 d.lo.e, .bool d.hi.s, .slice A6 n6 c6, .int .i64 d.hi.e] 29)
   have xv := Ibx.new wd d.lo.s A5 n5 c5 d.lo.e d.hi.s A6 n6 c6 d.hi.e
   replace BW := below_next BW BW.size b (by rfl) (by rfl) (by rfl) (by rfl)
   replace BB := below_next BB BB.size b (by rfl) (by rfl) (by rfl) (by rfl)
   have G := mv b (by rfl) <| And.intro hs <| And.intro h5 <| And.intro h6 <| And.intro xd <| And.intro p0 <| And.intro p1 <| And.intro s1 <| And.intro rr <| And.intro hrow <| And.intro d0 <| And.intro d1 <| And.intro d2 <| And.intro d3 <| And.intro d4 <| d5
   clear b hs h5 h6 xd p0 p1 s1 rr hrow d0 d1 d2 d3 d4 d5
   obtain ⟨hs, h5, h6, xd, p0, p1, s1, rr, hrow, d0, d1, d2, d3, d4, d5⟩ := G
   generalize wd.alloc (.cells #[.bool d.lo.s, .slice A5 n5 c5, .int .i64 d.lo.e, .bool d.hi.s, .slice A6 n6 c6, .int .i64 d.hi.e] 29) = u_1 at *
   generalize wd.heap.size = gv at *
   refine hK.out _ _ (by exact ⟨p0, p1, s1, d0, d1, d2, d3, d4, d5⟩) (fun hHeldv1 => ?_)
   clear hK K hHeldv0
   try simp only [Act.put]
   refine rdy 11 fun K hK => ?_
   go_simp
   refine hK.out _ _ (by exact ⟨p0, p1, s1, d0, d1, d2, d3, d4, d5⟩) (fun hHeldv2 => ?_)
   clear hK K hHeldv1
   try simp only [Act.put]
   refine rdy 14 fun K hK => ?_
   obtain ⟨v', u_3, hr', g1, g2, g3⟩ := appi_run 39 hrow xv h5 h6 (by rw [HML.out.2.2.1]; exact hkk) (by have := hs.lo; have := hs.rows.blk.gl; omega)
   obtain ⟨A9, c9, e9, _⟩ := g1.form
   generalize (Q i ++ [d]).length = n9 at e9
   subst e9
   have hkw : ∀ g, g < w.heap.size → g ≠ gr → (vs i).ownBlock ≠ some g → u_3.heap[g]? = w.heap[g]? := fun g h1 _ h3 => (g2.block g (by have := BW.size; omega) (fun e => h3 e.symm)).trans (BW.block g h1)
   have BN := grown_below g2 BB (fun g hg => ((hs.rows.row i hi).lt g hg).1) BB.size
   have hS2 : Sheet (u_3.setCell ⟨gr, i, none⟩ (.slice A9 n9 c9)) w0.heap.size gs gr n (upd vs i (.slice A9 n9 c9)) (upd Q i (Q i ++ [d])) AV cV V p := sheet_put hs hi g1 g2 g3 BN hV0
   have f9 : u_3.frozen? ⟨gr, i, none⟩ = false := rws_frozen hs.rows hi g2 i
   have hne : ∀ g, w.heap.size ≤ g ∨ g = gs ∨ g = gr → some g ≠ (vs i).ownBlock := hown
   rw [hvi] at hr' hne
   rw [hvi] at g2
   rw [if_pos (by rfl)]
   unfold Oper.wp execOp
   simp only [List.getElem_toArray, List.getElem_cons_succ, List.getElem_cons_zero, resolve, invoke, builtin, Sem.run_bind, Sem.run_pure, Result.andThen_ok, List.map_toArray, List.map_cons, List.map_nil]
   change Oper.upon _ _ _ _ _ ((Sem.run _ (Builtin.append_ _ _ #[.slice Ar k cr, .slice (some ⟨gv, 0, none⟩) 1 1]) _).andThen _)
   rw [hr']
   go_simp
   replace p0 := g2.cell p0 (hne (w.heap.size) (.inl (by omega)))
   replace p1 := g2.cell p1 (hne (w.heap.size + 1) (.inl (by omega)))
   replace s1 := g2.cell s1 (hne (gs) (.inr (.inl rfl)))
   replace d0 := g2.cell d0 (hne (gd) (.inl (by omega)))
   replace d1 := g2.cell d1 (hne (gd) (.inl (by omega)))
   replace d2 := g2.cell d2 (hne (gd) (.inl (by omega)))
   replace d3 := g2.cell d3 (hne (gd) (.inl (by omega)))
   replace d4 := g2.cell d4 (hne (gd) (.inl (by omega)))
   replace d5 := g2.cell d5 (hne (gd) (.inl (by omega)))
   replace rr := g2.cell rr (hne gr (.inr (.inr rfl)))
   clear hr' g1 g2 g3 hs hrow xv h5 h6 xd BB
   refine hK.out _ _ (by exact ⟨p0, p1, s1, d0, d1, d2, d3, d4, d5⟩) (fun hHeldv3 => ?_)
   clear hK K hHeldv2
   try simp only [Act.put]
   refine tl 15 ?_
   refine rdy 16 fun K hK => ?_
   go_simp
   have BB := BN.setCell (p := ⟨gr, i, none⟩) hlo (.slice A9 n9 c9)
   replace hkw : ∀ g, g < w.heap.size → g ≠ gr → (vs i).ownBlock ≠ some g → (u_3.setCell ⟨gr, i, none⟩ (.slice A9 n9 c9)).heap[g]? = w.heap[g]? := fun g h1 h2 h3 => (Below.heap_setCell _ ⟨gr, i, none⟩ (.slice A9 n9 c9) g h2).trans (hkw g h1 h2 h3)
   replace p0 := cell_oth p0 (show w.heap.size ≠ gr by omega) i (.slice A9 n9 c9)
   replace p1 := cell_oth p1 (show w.heap.size + 1 ≠ gr by omega) i (.slice A9 n9 c9)
   replace s1 := cell_oth s1 (show gs ≠ gr by omega) i (.slice A9 n9 c9)
   replace d0 := cell_oth d0 (show gd ≠ gr by omega) i (.slice A9 n9 c9)
   replace d1 := cell_oth d1 (show gd ≠ gr by omega) i (.slice A9 n9 c9)
   replace d2 := cell_oth d2 (show gd ≠ gr by omega) i (.slice A9 n9 c9)
   replace d3 := cell_oth d3 (show gd ≠ gr by omega) i (.slice A9 n9 c9)
   replace d4 := cell_oth d4 (show gd ≠ gr by omega) i (.slice A9 n9 c9)
   replace d5 := cell_oth d5 (show gd ≠ gr by omega) i (.slice A9 n9 c9)
   refine hK.out _ _ (by exact ⟨p0, p1, s1, d0, d1, d2, d3, d4, d5⟩) (fun hHeldv4 => ?_)
   clear hK K hHeldv3
   try simp only [Act.put]
   refine wpAnyH_done (by kernel_rfl) ?_ _
   go_wp2
   exact bodyPost_ret (v := .int .i64 0) (by simp [results, Tryz.results37, go_sem]) rfl (.inl ⟨d, _, HD.out, rfl, hS2, hkw, BB⟩)

end Go.Proofs.YtlpjlmophlikeaaGreatDoor
