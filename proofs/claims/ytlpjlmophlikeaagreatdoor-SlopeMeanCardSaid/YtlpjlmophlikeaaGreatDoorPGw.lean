/-
 A tape and what it is reckoned at as they lie while they are made term by term. Condition: the slices read as limbs, the table of math/bits reads as its text lays it.
-/
import Derived.Test.YtlpjlmophlikeaaGreatDoorPGm
import Derived.Test.YtlpjlmophlikeaaGreatDoorPGs
namespace Go.Proofs.YtlpjlmophlikeaaGreatDoor
open Go.RowKit

def ptI (a : Rw) : Iv := ⟨a, a⟩
/-- what lies between two rounds -/
structure LinW (w w1 : World) (vW vX vL : Value) (D X : List Rw) (Ls : List Ln) : Prop where
 below : Below w.heap.size w w1
 tape : Blk w1 w.heap.size #[vL, .slice none 0 0] 34
 env : Blk w1 (w.heap.size + 1) #[.bool false, .slice none 0 0, .int .i64 0, .bool false, .slice none 0 0, .int .i64 0, vX, .slice none 0 0, .slice none 0 0] 44
 W : DRow w1 (w.heap.size + 2) vW D
 X : IRow w1 (w.heap.size + 2) vX (X.map ptI)
 L : LRow w1 (w.heap.size + 2) vL Ls
section
variable {w w1 w2 : World} {vW vX vL v' : Value} {D X : List Rw} {Ls N : List Ln}
theorem LinW.big (h : LinW w w1 vW vX vL D X Ls) : w.heap.size + 2 ≤ w1.heap.size := h.env.gl
theorem LinW.go (h : LinW w w1 vW vX vL D X Ls) (b : Below w1.heap.size w1 w2) : LinW w w2 vW vX vL D X Ls :=
 ⟨below_next h.below h.below.size b rfl rfl rfl rfl, h.tape.next b rfl, h.env.next b rfl, GRow.next h.W b rfl, h.X.next b rfl, GRow.next h.L b rfl⟩
theorem LinW.apart (h : LinW w w1 vW vX vL D X Ls) : (∀ q, vW.ownBlock = some q → vX.ownBlock ≠ some q ∧ vL.ownBlock ≠ some q) ∧ ∀ q, vX.ownBlock = some q → vL.ownBlock ≠ some q := by
 have hne : ∀ {g : Nat} {a b : Array Value} {S T : TypeId}, S ≠ T → w1.heap[g]? = some (.cells a S (0, 0)) → w1.heap[g]? = some (.cells b T (0, 0)) → False := fun hST h1 h2 => by
  rw [h1] at h2
  injection h2 with h2
  injection h2 with _ h2
  exact hST h2
 refine ⟨fun q hq => ⟨fun h2 => ?_, fun h2 => ?_⟩, fun q hq h2 => ?_⟩
 ·obtain ⟨a, ha⟩ := GRow.kind h.W q hq
  obtain ⟨b, hb⟩ := h.X.kind q h2
  exact hne (by decide) ha hb
 ·obtain ⟨a, ha⟩ := GRow.kind h.W q hq
  obtain ⟨b, hb⟩ := GRow.kind h.L q h2
  exact hne (by decide) ha hb
 ·obtain ⟨a, ha⟩ := h.X.kind q hq
  obtain ⟨b, hb⟩ := GRow.kind h.L q h2
  exact hne (by decide) ha hb
theorem no_limb {g : Nat} {cs : Array Value} {T : TypeId} (h : Blk w g cs T) (hn : ∀ u ∈ cs, NoL u) : ∀ q, some g = some q → ∀ i x : Nat, w.cell? ⟨q, i, none⟩ ≠ some (.int .u64 (x : Int)) := fun q e i x => by
 injection e with e
 subst e
 rw [cell_of_row w g i _ _ (0, 0) h.blk]
 exact nol_at hn i x
theorem blk_set {g i : Nat} {cs : Array Value} {T : TypeId} {v : Value} (h : Blk w g cs T) : Blk (w.setCell ⟨g, i, none⟩ v) g (cs.setIfInBounds i v) T := ⟨by
 have := h.blk
 simp [World.setCell, Array.getElem?_modify, this]⟩
theorem blk_oth {g g2 i : Nat} {cs : Array Value} {T : TypeId} {v : Value} (h : Blk w g cs T) (hne : g ≠ g2) : Blk (w.setCell ⟨g2, i, none⟩ v) g cs T := ⟨(Below.heap_setCell _ ⟨g2, i, none⟩ v g hne).trans h.blk⟩
theorem LinW.forms (h : LinW w w1 vW vX vL D X Ls) : (∃ A c, vW = .slice A D.length c) ∧ (∃ A c, vX = .slice A X.length c) ∧ ∃ A c, vL = .slice A Ls.length c := by
 obtain ⟨A, c, h1, _⟩ := GRow.form h.W
 obtain ⟨B, d, h2⟩ := h.X.slice
 obtain ⟨C, e, h3, _⟩ := GRow.form h.L
 exact ⟨⟨A, c, h1⟩, ⟨B, d, by rw [h2, List.length_map]⟩, ⟨C, e, h3⟩⟩
theorem LinW.lines (h : LinW w w1 vW vX vL D X Ls) (h1 : LRow w2 (w.heap.size + 2) v' (Ls ++ N)) (hg : w1.grownBy w2 vL.ownBlock) : LinW w (w2.setCell ⟨w.heap.size, 0, none⟩ v') vW vX v' D X (Ls ++ N) := by
 have hlt := GRow.lt h.L
 have hno := GRow.no h.L
 have hs := h.big
 have b2 := grown_below hg h.below (fun q e => by have := (hlt q e).1; omega) h.below.size
 have t2 : Blk w2 w.heap.size #[vL, .slice none 0 0] 34 := ⟨(hg.block _ h.tape.gl (fun e => by have := (hlt _ e.symm).1; omega)).trans h.tape.blk⟩
 have e2 : Blk w2 (w.heap.size + 1) _ 44 := ⟨(hg.block _ h.env.gl (fun e => by have := (hlt _ e.symm).1; omega)).trans h.env.blk⟩
 have W2 : DRow w2 (w.heap.size + 2) vW D := GRow.grown h.W hg (fun q e e2 => (h.apart.1 q e).2 e2) hno
 have X2 : IRow w2 (w.heap.size + 2) vX (X.map ptI) := h.X.grown hg (fun q e e2 => h.apart.2 q e e2) hno
 obtain ⟨_, _, B, d, rfl⟩ := h.forms
 have hn2 := no_limb t2 (fun u hu => by simp at hu; rcases hu with rfl | rfl <;> exact fun _ h => by cases h)
 have hgs := grownBy_set w2 w.heap.size 0 v'
 refine ⟨b2.setCell (p := ⟨w.heap.size, 0, none⟩) (Nat.le_refl _) v', blk_set t2, blk_oth e2 (by omega), ?_, ?_, ?_⟩
 ·exact GRow.grown W2 hgs (fun q e e3 => by injection e3 with e3; have := (GRow.lt W2 q e).1; omega) hn2
 ·exact X2.grown hgs (fun q e e3 => by injection e3 with e3; have := (X2.lt q e).1; omega) hn2
 ·exact GRow.grown h1 hgs (fun q e e3 => by injection e3 with e3; have := (GRow.lt h1 q e).1; omega) hn2
theorem LinW.tapeAt (h : LinW w w1 vW vX vL D X Ls) (hg : w1.grownBy w2 vL.ownBlock) : Blk w2 w.heap.size #[vL, .slice none 0 0] 34 := ⟨(hg.block _ h.tape.gl (fun e => by have := (GRow.lt h.L _ e.symm).1; omega)).trans h.tape.blk⟩
/-- the outs are stored -/
theorem LinW.outs (h : LinW w w1 vW vX vL D X Ls) {v : Value} : Below w.heap.size w (w1.setCell ⟨w.heap.size, 1, none⟩ v) ∧ Blk (w1.setCell ⟨w.heap.size, 1, none⟩ v) w.heap.size #[vL, v] 34 ∧ Blk (w1.setCell ⟨w.heap.size, 1, none⟩ v) (w.heap.size + 1) #[.bool false, .slice none 0 0, .int .i64 0, .bool false, .slice none 0 0, .int .i64 0, vX, .slice none 0 0, .slice none 0 0] 44 ∧
  DRow (w1.setCell ⟨w.heap.size, 1, none⟩ v) (w.heap.size + 2) vW D ∧ IRow (w1.setCell ⟨w.heap.size, 1, none⟩ v) (w.heap.size + 2) vX (X.map ptI) ∧ LRow (w1.setCell ⟨w.heap.size, 1, none⟩ v) (w.heap.size + 2) vL Ls := by
 obtain ⟨_, _, B, d, rfl⟩ := h.forms
 have hn2 := no_limb h.tape (fun u hu => by simp at hu; rcases hu with rfl | rfl <;> exact fun _ h => by cases h)
 have hgs := grownBy_set w1 w.heap.size 1 v
 refine ⟨h.below.setCell (p := ⟨w.heap.size, 1, none⟩) (Nat.le_refl _) v, blk_set h.tape, blk_oth h.env (by omega), ?_, ?_, ?_⟩
 ·exact GRow.grown h.W hgs (fun q e e3 => by injection e3 with e3; have := (GRow.lt h.W q e).1; omega) hn2
 ·exact h.X.grown hgs (fun q e e3 => by injection e3 with e3; have := (h.X.lt q e).1; omega) hn2
 ·exact GRow.grown h.L hgs (fun q e e3 => by injection e3 with e3; have := (GRow.lt h.L q e).1; omega) hn2
end
/-- the lines laid so far are the terms' -/
def dl : Ln := ⟨0, 0, 0, Iv.zero⟩
theorem gd_end {α : Type} {R : List α} {x z : α} : (R ++ [x]).getD R.length z = x := gd_at (m := R.length) (k := 0) rfl
/-- all are numbers of eighths -/
def AllE (S : Sc) (D : List Rw) : Prop := ∀ a ∈ D, ∃ z : Int, At S 3 z a ∧ z.natAbs ≤ 32
theorem AllE.snoc {S : Sc} {D : List Rw} {d : Rw} {z : Int} (h : AllE S D) (h1 : At S 3 z d) (h2 : z.natAbs ≤ 32) : AllE S (D ++ [d]) := fun a ha => by
 rcases List.mem_append.1 ha with ha | ha
 ·exact h a ha
 ·rw [List.mem_singleton.1 ha]; exact ⟨z, h1, h2⟩
theorem bits_in (z : Int) : 20 ≤ wrap64 (20 + wrap64 ((IntKind.u64.wrap z).tmod 61)) ∧ wrap64 (20 + wrap64 ((IntKind.u64.wrap z).tmod 61)) ≤ 80 := by
 rw [IntKind.wrap_u64]
 unfold wrap64
 have : 0 ≤ z % 18446744073709551616 := Int.emod_nonneg _ (by decide)
 rw [Int.tmod_eq_emod_of_nonneg this]
 omega
theorem rdz_one {w : World} {g : Nat} {z : Int} (x : Blk w g #[.int .i64 z] 3) : RdZ w (some ⟨g, 0, none⟩) 1 1 (fun _ => z) := ⟨Nat.le_refl 1, by decide, fun _ => ⟨g, 0, rfl, fun i hi => by
 obtain rfl : i = 0 := by omega
 exact x.at 0⟩⟩
end Go.Proofs.YtlpjlmophlikeaaGreatDoor
namespace Go.Proofs.YtlpjlmophlikeaaGreatDoor
open Go.RowKit

/-- a number of eighths as dyad.Of tells it -/
def OfIs (S : Sc) (z : Int) (w : World) (en : Ending) (w' : World) : Prop := ∃ (q : Rw) (A : Option Addr) (n c : Nat), en = .returned (.tuple #[.agg #[.bool q.s, .slice A n c, .int .i64 q.e], .int .i64 0]) ∧ Rd w' .u64 Go.Proofs.YtlpjlmophlikeaaGreatDoor.W A n c q.l ∧ At S 3 z q ∧ Below w.heap.size w w'
theorem of_is (S : Sc) {w : World} {z : Int} (hT : Tab w) (hz : -32 ≤ z ∧ z ≤ 32) : Calls Tryz.prog 7 #[.int .i64 z, .int .i64 (-3)] w (OfIs S z w) := by
 have hK := S.big
 have key : ∀ {s : Bool} {m : Nat} (_ : m ≤ 32) (_ : sg s * (m : Int) = z) {en : Ending} {w' : World}, Tells (Nm s m (-3)) w en w' → OfIs S z w en w' := fun {s m} hm hs {en w'} h => by
  obtain ⟨k, s', m', e', h9⟩ := nm_total s m (-3)
  have hk := nm_good h9 (by have := (blen_le m 6).2 (by omega); omega) (by omega) (by omega)
  subst hk
  obtain ⟨A, n, c, he, hr, hb⟩ := told_is h (s := s') (m := m') (e := e') (k := 0) fun k1 s1 m1 e1 h2 => nm_fun h2 h9
  refine ⟨Rw.of s' m' e', A, n, c, he, hr.rd, ⟨Rw.of_may (nm_ok h9), ?_⟩, hb⟩
  rw [Rw.of_v, nm_value (by omega) h9, show (-3 : Int) = -((3 : Nat) : Int) from rfl, vz_at_neg (by omega), hs]
 by_cases h0 : z < 0
 ·have e1 : z = -((z.natAbs : Nat) : Int) := by omega
  rw [e1]
  rw [e1] at key
  exact (of_neg hT (by omega) (by omega)).mono fun en w' h => key (s := true) (m := z.natAbs) (by omega) (by simp [sg]) h
 ·have e1 : z = ((z.natAbs : Nat) : Int) := by omega
  rw [e1]
  rw [e1] at key
  exact (of_pos hT (by omega)).mono fun en w' h => key (s := false) (m := z.natAbs) (by omega) (by simp [sg]) h
/-- a block of the call's own is a row of one line -/
theorem lrow_one {w : World} {g base : Nat} {op a b : Int} (hb : base ≤ g) (x : Blk w g #[.int .i64 op, .int .i64 a, .int .i64 b, .bool false, .slice none 0 0, .int .i64 0, .bool false, .slice none 0 0, .int .i64 0] 31) : LRow w base (.slice (some ⟨g, 0, none⟩) 1 1) [⟨op, a, b, Iv.zero⟩] := by
 refine ⟨_, ⟨⟨rfl, .inr ⟨g, 1, _, rfl, hb, x.blk, Nat.le_refl 1, by decide, rfl, rfl⟩⟩, fun k hk i y => ?_⟩, ⟨_, [], (List.append_nil _).symm, zln, rfl⟩⟩
 injection hk with hk
 have hk : g = k := hk
 subst hk
 rw [cell_of_row w g i _ _ (0, 0) x.blk]
 exact nol_at (fun u hu => by simp at hu; rcases hu with rfl | rfl | rfl | rfl | rfl | rfl | rfl | rfl | rfl <;> exact fun _ h => by cases h) i y
/-- what lies between two rounds -/
structure MeanW (w w1 : World) (vL : Value) (Ls : List Ln) : Prop where
 below : Below w.heap.size w w1
 tape : Blk w1 (w.heap.size + 1) #[vL, .slice none 0 0] 34
 L : LRow w1 w.heap.size vL Ls
section
variable {w w1 w2 : World} {vL v' : Value} {Ls N : List Ln}
theorem mean_start (w : World) : MeanW w ((w.alloc (.cells #[.int .i64 3, .int .i64 0, .int .i64 0, .bool false, .slice none 0 0, .int .i64 0, .bool false, .slice none 0 0, .int .i64 0] 31)).alloc (.cells #[.slice (some ⟨w.heap.size, 0, none⟩) 1 1, .slice none 0 0] 34)) (.slice (some ⟨w.heap.size, 0, none⟩) 1 1) [⟨3, 0, 0, Iv.zero⟩] :=
 ⟨two_below w _ _, by
  have := Blk.new (w.alloc (.cells #[.int .i64 3, .int .i64 0, .int .i64 0, .bool false, .slice none 0 0, .int .i64 0, .bool false, .slice none 0 0, .int .i64 0] 31)) #[.slice (some ⟨w.heap.size, 0, none⟩) 1 1, .slice none 0 0] 34
  simpa using this, lrow_one (Nat.le_refl _) (mv (below_alloc _ _) rfl (Blk.new w #[.int .i64 3, .int .i64 0, .int .i64 0, .bool false, .slice none 0 0, .int .i64 0, .bool false, .slice none 0 0, .int .i64 0] 31))⟩
theorem MeanW.big (h : MeanW w w1 vL Ls) : w.heap.size + 2 ≤ w1.heap.size := h.tape.gl
theorem MeanW.go (h : MeanW w w1 vL Ls) (b : Below w1.heap.size w1 w2) : MeanW w w2 vL Ls := ⟨below_next h.below h.below.size b rfl rfl rfl rfl, h.tape.next b rfl, GRow.next h.L b rfl⟩
theorem MeanW.off (h : MeanW w w1 vL Ls) : vL.ownBlock ≠ some (w.heap.size + 1) := fun e => by
 obtain ⟨cs, hc⟩ := GRow.kind h.L _ e
 rw [h.tape.blk] at hc
 injection hc with hc
 injection hc with _ hc
 exact absurd hc (by decide)
theorem MeanW.form (h : MeanW w w1 vL Ls) : ∃ A c, vL = .slice A Ls.length c := by
 obtain ⟨C, e, h3, _⟩ := GRow.form h.L
 exact ⟨C, e, h3⟩
theorem MeanW.tapeAt (h : MeanW w w1 vL Ls) (hg : w1.grownBy w2 vL.ownBlock) : Blk w2 (w.heap.size + 1) #[vL, .slice none 0 0] 34 := ⟨(hg.block _ h.tape.gl (fun e => h.off e.symm)).trans h.tape.blk⟩
theorem MeanW.lines (h : MeanW w w1 vL Ls) (h1 : LRow w2 w.heap.size v' (Ls ++ N)) (hg : w1.grownBy w2 vL.ownBlock) (ho : v'.ownBlock = vL.ownBlock ∨ v'.ownBlock = some w1.heap.size) : MeanW w (w2.setCell ⟨w.heap.size + 1, 0, none⟩ v') v' (Ls ++ N) := by
 have hs := h.big
 have b2 := grown_below hg h.below (fun q e => (GRow.lt h.L q e).1) h.below.size
 have t2 := h.tapeAt hg
 have hoff := h.off
 obtain ⟨B, d, rfl⟩ := h.form
 have hn2 := no_limb t2 (fun u hu => by simp at hu; rcases hu with rfl | rfl <;> exact fun _ h => by cases h)
 refine ⟨b2.setCell (p := ⟨w.heap.size + 1, 0, none⟩) (by show w.heap.size ≤ w.heap.size + 1; omega) v', blk_set t2, ?_⟩
 refine GRow.grown h1 (grownBy_set w2 (w.heap.size + 1) 0 v') (fun q e e3 => ?_) hn2
 injection e3 with e3
 subst e3
 rcases ho with ho | ho
 ·exact hoff (ho.symm.trans e)
 ·rw [ho] at e
  injection e with e
  omega
theorem MeanW.outs (h : MeanW w w1 vL Ls) {v : Value} : Below w.heap.size w (w1.setCell ⟨w.heap.size + 1, 1, none⟩ v) ∧ Blk (w1.setCell ⟨w.heap.size + 1, 1, none⟩ v) (w.heap.size + 1) #[vL, v] 34 ∧ LRow (w1.setCell ⟨w.heap.size + 1, 1, none⟩ v) w.heap.size vL Ls := by
 have hoff := h.off
 obtain ⟨B, d, rfl⟩ := h.form
 have hn2 := no_limb h.tape (fun u hu => by simp at hu; rcases hu with rfl | rfl <;> exact fun _ h => by cases h)
 refine ⟨h.below.setCell (p := ⟨w.heap.size + 1, 1, none⟩) (by show w.heap.size ≤ w.heap.size + 1; omega) v, blk_set h.tape, ?_⟩
 exact GRow.grown h.L (grownBy_set w1 (w.heap.size + 1) 1 v) (fun q e e3 => by injection e3 with e3; subst e3; exact hoff e) hn2
theorem appm_run {w : World} {base : Nat} {v : Value} {L : List Ln} {b : Nat} {d : Iv} {k l k1 : Int} {A : Option Addr} {n c : Nat} {B : Option Addr} {m e : Nat} (ty : TypeId) (h : LRow w base v L) (hb : Blk w b #[.int .i64 1, .int .i64 0, .int .i64 0, .bool d.lo.s, .slice A n c, .int .i64 d.lo.e, .bool d.hi.s, .slice B m e, .int .i64 d.hi.e,
   .int .i64 7, .int .i64 0, .int .i64 k, .bool false, .slice none 0 0, .int .i64 0, .bool false, .slice none 0 0, .int .i64 0, .int .i64 8, .int .i64 l, .int .i64 k1, .bool false, .slice none 0 0, .int .i64 0, .bool false, .slice none 0 0, .int .i64 0] 31)
  (r1 : Rd w .u64 Go.Proofs.YtlpjlmophlikeaaGreatDoor.W A n c d.lo.l) (r2 : Rd w .u64 Go.Proofs.YtlpjlmophlikeaaGreatDoor.W B m e d.hi.l) (hL : L.length ≤ 900) (hbase : base ≤ w.heap.size) :
  ∃ v' w', (Builtin.append_ #[32, 32] ty #[v, .slice (some ⟨b, 0, none⟩) 3 3]).run Tryz.prog w = .ok v' w' ∧ LRow w' base v' (L ++ [⟨1, 0, 0, d⟩, ⟨7, 0, k, Iv.zero⟩, ⟨8, l, k1, Iv.zero⟩]) ∧ w.grownBy w' v.ownBlock ∧ (v'.ownBlock = v.ownBlock ∨ v'.ownBlock = some w.heap.size) :=
 appg_run (R := rL) (N := [⟨1, 0, 0, d⟩, ⟨7, 0, k, Iv.zero⟩, ⟨8, l, k1, Iv.zero⟩]) (news := [.int .i64 1, .int .i64 0, .int .i64 0, .bool d.lo.s, .slice A n c, .int .i64 d.lo.e, .bool d.hi.s, .slice B m e, .int .i64 d.hi.e,
   .int .i64 7, .int .i64 0, .int .i64 k, .bool false, .slice none 0 0, .int .i64 0, .bool false, .slice none 0 0, .int .i64 0, .int .i64 8, .int .i64 l, .int .i64 k1, .bool false, .slice none 0 0, .int .i64 0, .bool false, .slice none 0 0, .int .i64 0]) Tryz.underlying32 infoLn rfl (fun u hu => by simp [Value.cells] at hu; rcases hu with rfl | rfl | rfl | rfl | rfl | rfl | rfl | rfl | rfl <;> exact fun _ h => by cases h) (by decide) (by decide) ty h
  (fun j u hu => hb.at j (by rw [← hu]; simp)) ⟨_, _, rfl, ⟨A, n, c, B, m, e, rfl, r1, r2⟩, _, _, rfl, zln, _, [], (List.append_nil _).symm, zln, rfl⟩ rfl (by decide) (by omega) hbase
end
/-- the lines laid so far are the roots' -/
structure MeaP (D : List Rw) (Ls : List Ln) : Prop where
 len : Ls.length = 3 * D.length + 1
 is : MeaT D.length (fun i => Ls.getD i dl) (fun i => D.getD i Rw.zero)
theorem meap_nil : MeaP [] [⟨3, 0, 0, Iv.zero⟩] := ⟨rfl, ⟨rfl, fun i hi => absurd hi (Nat.not_lt_zero i), fun i hi => absurd hi (Nat.not_lt_zero i), fun i hi => absurd hi (Nat.not_lt_zero i)⟩⟩
theorem meap_step {D : List Rw} {Ls : List Ln} {d : Rw} (h : MeaP D Ls) : MeaP (D ++ [d]) (Ls ++ [⟨1, 0, 0, ptI d⟩, ⟨7, 0, ((3 * D.length + 1 : Nat) : Int), Iv.zero⟩, ⟨8, ((3 * D.length : Nat) : Int), ((3 * D.length + 2 : Nat) : Int), Iv.zero⟩]) := by
 have hl := h.len
 have old : ∀ {j : Nat} {T : List Ln}, j < 3 * D.length + 1 → (Ls ++ T).getD j dl = Ls.getD j dl := fun hj => gd_old (by omega)
 refine ⟨by rw [List.length_append, List.length_append, hl]; simp only [List.length_cons, List.length_nil]; omega, ?_, fun i hi => ?_, fun i hi => ?_, fun i hi => ?_⟩
 ·exact (old (by omega)).trans h.is.z
 all_goals
  rw [List.length_append] at hi
  simp only [List.length_cons, List.length_nil] at hi
  rcases Nat.lt_or_ge i D.length with c | c
 ·show (Ls ++ _).getD (3 * i + 1) dl = ⟨1, 0, 0, ⟨(D ++ [d]).getD i Rw.zero, (D ++ [d]).getD i Rw.zero⟩⟩
  rw [old (by omega), gd_old (R := D) c]
  exact h.is.c i c
 ·obtain rfl : i = D.length := by omega
  show (Ls ++ _).getD (3 * D.length + 1) dl = ⟨1, 0, 0, ⟨(D ++ [d]).getD D.length Rw.zero, (D ++ [d]).getD D.length Rw.zero⟩⟩
  rw [gd_end]
  exact gd_at (m := 3 * D.length + 1) (k := 0) hl
 ·exact (old (by omega)).trans (h.is.s i c)
 ·obtain rfl : i = D.length := by omega
  exact gd_at (m := 3 * D.length + 1) (k := 1) hl
 ·exact (old (by omega)).trans (h.is.m i c)
 ·obtain rfl : i = D.length := by omega
  exact gd_at (m := 3 * D.length + 1) (k := 2) hl
theorem meap_new {D : List Rw} {Ls : List Ln} {d : Rw} {i a nL : Nat} (h : MeaP D Ls) (hD : D.length = i) (ha : a = 3 * i) (hn : nL = a + 1) : MeaP (D ++ [d]) (Ls ++ [⟨1, 0, 0, ptI d⟩, ⟨7, 0, (nL : Int), Iv.zero⟩, ⟨8, (a : Int), (nL : Int) + 1, Iv.zero⟩]) := by
 subst hD ha hn
 have := meap_step (d := d) h
 rw [show ((3 * D.length + 2 : Nat) : Int) = ((3 * D.length + 1 : Nat) : Int) + 1 by omega] at this
 exact this
end Go.Proofs.YtlpjlmophlikeaaGreatDoor
namespace Go.Proofs.YtlpjlmophlikeaaGreatDoor
open Go.RowKit

def AtEnd (S : Sc) (f : Nat) (z : Int) (w : World) (en : Ending) (w' : World) : Prop := ∃ (q : Rw) (A : Option Addr) (n c : Nat), en = .returned (.tuple #[.agg #[.bool q.s, .slice A n c, .int .i64 q.e], .int .i64 0]) ∧ Rd w' .u64 Go.Proofs.YtlpjlmophlikeaaGreatDoor.W A n c q.l ∧ At S f z q ∧ Below w.heap.size w w'
section
variable {S : Sc} {w : World} {f g m : Nat} {x y : Int} {a b : Rw} {A1 : Option Addr} {n1 c1 : Nat} {A2 : Option Addr} {n2 c2 : Nat}
theorem at_v (h : At S f x a) (h' : At S f y b) {c : Rw} (hc : At S f (x - y) c) : c.v S.K = a.v S.K - b.v S.K := by
 refine Int.eq_of_mul_eq_mul_right (Int.ne_of_gt (two_pos f)) ?_
 rw [hc.2, Int.sub_mul, Int.sub_mul, h.2, h'.2]
theorem dsub_at (hT : Tab w) (h1 : Rd w .u64 Go.Proofs.YtlpjlmophlikeaaGreatDoor.W A1 n1 c1 a.l) (h2 : Rd w .u64 Go.Proofs.YtlpjlmophlikeaaGreatDoor.W A2 n2 c2 b.l) (ha : At S f x a) (hb : At S f y b) (hf : f ≤ 1000) (hm : m ≤ 500) (hz : (x - y).natAbs ≤ 2 ^ m) :
  Calls Tryz.prog 12 #[.agg #[.bool a.s, .slice A1 n1 c1, .int .i64 a.e], .agg #[.bool b.s, .slice A2 n2 c2, .int .i64 b.e]] w (AtEnd S f (x - y) w) := by
 obtain ⟨c, hc, _⟩ := at_has S (f := f) (L := m + 1) (z := x - y) hf (by omega) (Nat.lt_of_le_of_lt hz (Nat.pow_lt_pow_right (by omega) (by omega)))
 refine (dsub_raw S.big hT h1 h2).mono fun en w' h => ?_
 obtain ⟨k, s, A, n, c', m', e', he, hP, hr, hbl⟩ := h
 unfold subR at hP
 rw [if_pos ⟨ha.1, hb.1⟩] at hP
 obtain ⟨rfl, rfl, rfl, rfl⟩ := nmv_hit S.big hP (mayD_of c.lt hc.1).2 (at_v ha hb hc)
 refine ⟨c, A, n, c', he, ?_, hc, hbl⟩
 have := hr.rd
 have e1 : dig Go.Proofs.YtlpjlmophlikeaaGreatDoor.W (val Go.Proofs.YtlpjlmophlikeaaGreatDoor.W c.l) = c.l := congrArg Rw.l (Rw.of_self hc.1)
 rwa [e1] at this
theorem oc_told {P : Int → Bool → Nat → Int → Prop} {c : Rw} (hO : Only P) (h : S.oc P = .ok c) {k : Int} {s : Bool} {m' : Nat} {e : Int} (hP : P k s m' e) : k = 0 ∧ Rw.of s m' e = c := by
 obtain ⟨i1, i2⟩ := S.is _ _ _ _ _ hO hP
 by_cases hk : k = 0
 ·rw [i1 hk] at h
  injection h with h
  exact ⟨hk, h⟩
 ·rw [i2 hk] at h
  cases h
theorem dmul_at (hT : Tab w) (h1 : Rd w .u64 Go.Proofs.YtlpjlmophlikeaaGreatDoor.W A1 n1 c1 a.l) (h2 : Rd w .u64 Go.Proofs.YtlpjlmophlikeaaGreatDoor.W A2 n2 c2 b.l) (ha : At S f x a) (hb : At S g y b) (hf : f + g ≤ 1000) (hm : m ≤ 500) (hz : (x * y).natAbs ≤ 2 ^ m) :
  Calls Tryz.prog 13 #[.agg #[.bool a.s, .slice A1 n1 c1, .int .i64 a.e], .agg #[.bool b.s, .slice A2 n2 c2, .int .i64 b.e]] w (AtEnd S (f + g) (x * y) w) := by
 obtain ⟨c, hc, hat, _⟩ := at_times hf hm ha hb hz
 refine (dmul_raw hT h1 h2).mono fun en w' h => ?_
 obtain ⟨k, s, A, n, c', m', e', he, hP, hr, hbl⟩ := h
 obtain ⟨rfl, rfl⟩ := oc_told mulR_only hc hP
 exact ⟨Rw.of s m' e', A, n, c', he, hr.rd, hat, hbl⟩
theorem dcmp_at (hT : Tab w) (h1 : Rd w .u64 Go.Proofs.YtlpjlmophlikeaaGreatDoor.W A1 n1 c1 a.l) (h2 : Rd w .u64 Go.Proofs.YtlpjlmophlikeaaGreatDoor.W A2 n2 c2 b.l) (ha : At S f x a) (hb : At S f y b) :
  Calls Tryz.prog 9 #[.agg #[.bool a.s, .slice A1 n1 c1, .int .i64 a.e], .agg #[.bool b.s, .slice A2 n2 c2, .int .i64 b.e]] w (Ints (cmpV x y) w) := by
 have e : cmpR S.K a.s a.l a.e b.s b.l b.e = cmpV x y := by
  unfold cmpR
  rw [if_pos ⟨ha.1, hb.1⟩]
  have i1 := at_le ha hb
  have i2 := at_le hb ha
  show cmpV (a.v S.K) (b.v S.K) = _
  unfold cmpV
  by_cases c1 : x < y
  ·rw [if_pos c1, if_pos (by omega)]
  ·by_cases c2 : x = y
   ·rw [if_neg c1, if_pos c2, if_neg (by omega), if_pos (by omega)]
   ·rw [if_neg c1, if_neg c2, if_neg (by omega), if_neg (by omega)]
 rw [← e]
 exact dcmp_raw S.big hT h1 h2
end
end Go.Proofs.YtlpjlmophlikeaaGreatDoor
namespace Go.Proofs.YtlpjlmophlikeaaGreatDoor
open Go.RowKit

def mE (I : Iv) : En := ⟨Iv.zero, 1, fun _ => I, 0, fun _ => Iv.zero, 0, fun _ => Iv.zero⟩
theorem rde_one {w : World} {g : Nat} {I : Iv} {A5 : Option Addr} {n5 c5 : Nat} {A6 : Option Addr} {n6 c6 : Nat} (x : Blk w g #[.bool I.lo.s, .slice A5 n5 c5, .int .i64 I.lo.e, .bool I.hi.s, .slice A6 n6 c6, .int .i64 I.hi.e] 29) (h5 : Rd w .u64 Go.Proofs.YtlpjlmophlikeaaGreatDoor.W A5 n5 c5 I.lo.l) (h6 : Rd w .u64 Go.Proofs.YtlpjlmophlikeaaGreatDoor.W A6 n6 c6 I.hi.l) : RdE w (mE I) none 0 0 none 0 0 (some ⟨g, 0, none⟩) 1 none 0 none 0 :=
 ⟨rd_nil0 w, rd_nil0 w, ⟨Nat.le_refl 1, by decide, fun _ => ⟨g, 0, rfl, fun i hi => by
  obtain rfl : i = 0 := by have hi : i < 1 := hi; omega
  exact ⟨A5, n5, c5, A6, n6, c6, ⟨x.at 0, x.at 1, x.at 2, x.at 3, x.at 4, x.at 5⟩, h5, h6⟩⟩⟩, ⟨Nat.le_refl 0, by decide, fun h => absurd rfl h⟩, ⟨Nat.le_refl 0, by decide, fun h => absurd rfl h⟩⟩
structure MeanK (S : Sc) (i : Nat) (T : Tp) (qa qb : Rw) (za zb p : Int) (R : List Iv) (Dv : Iv) (ca cb : Rw) (fa fb u v : Int) : Prop where
 grad : gradO S T (mE ⟨qa, qb⟩) p = .ok (R, [[Dv]])
 ea : evalO S T (mE ⟨qa, qa⟩) 200 = .ok [⟨ca, ca⟩]
 eb : evalO S T (mE ⟨qb, qb⟩) 200 = .ok [⟨cb, cb⟩]
 aa : At S (3 * (i + 1)) fa ca
 ab : At S (3 * (i + 1)) fb cb
 au : At S (3 * i) u Dv.lo
 av : At S (3 * i) v Dv.hi
 bu : u.natAbs ≤ 2 ^ 30
 bv : v.natAbs ≤ 2 ^ 30
 ba : fa.natAbs ≤ 2 ^ 30
 bb : fb.natAbs ≤ 2 ^ 30
 lo : u * (zb - za) ≤ fb - fa
 hi : fb - fa ≤ v * (zb - za)
theorem mean_known {S : Sc} {D : List Rw} {Ls : List Ln} {i a3 nL : Nat} (h : MeaP D Ls) (hD : D.length = i) (hi : i ≤ 5) (ha : a3 = 3 * i) (hn : Ls.length = nL) (hz : ∀ a ∈ D, ∃ z : Int, At S 3 z a ∧ z.natAbs ≤ 8) {za zb p : Int} {qa qb : Rw} (hab : za ≤ zb) (HA : za.natAbs ≤ 16) (HB : zb.natAbs ≤ 16) (e1 : At S 3 za qa) (e2 : At S 3 zb qb) (hp : 20 ≤ p ∧ p ≤ 80) :
  ∃ R Dv ca cb fa fb u v, MeanK S i ⟨nL, fun j => Ls.getD j dl, 1, fun _ => (a3 : Int)⟩ qa qb za zb p R Dv ca cb fa fb u v := by
 have hl := h.len
 have his := h.is
 rw [hD] at hl his
 have hr : ∀ j, ∃ z : Int, j < i → At S 3 z (D.getD j Rw.zero) ∧ z.natAbs ≤ 8 := fun j => by
  by_cases hj : j < i
  ·obtain ⟨z, hz⟩ := hz (D.getD j Rw.zero) (by rw [List.getD_eq_getElem?_getD, List.getElem?_eq_getElem (by omega)]; exact List.getElem_mem (by omega))
   exact ⟨z, fun _ => hz⟩
  ·exact ⟨0, fun h => absurd h hj⟩
 obtain ⟨r, hr⟩ := Classical.axiomOfChoice hr
 have hd : Rts S i (fun j => D.getD j Rw.zero) r := fun j hj => hr j hj
 have hrk : ∀ j, j < i → (r j).natAbs ≤ 8 := fun j hj => (hr j hj).2
 have hm : mayI S.K ⟨qa, qb⟩ = true := mayI_iff.2 ⟨e1.1, e2.1, (at_le e1 e2).2 hab⟩
 have hO : (fun _ : Nat => (a3 : Int)) 0 = ((3 * i : Nat) : Int) := by rw [← ha]
 have eT : nL = 3 * i + 1 := by omega
 subst eT
 obtain ⟨R, Dv, hg, hb, hnn⟩ := grad_mean (E := mE ⟨qa, qb⟩) (O := fun _ => (a3 : Int)) hi hp his hd HA HB ⟨za, zb, e1, e2, hab, by show za.natAbs ≤ 16; omega, by show zb.natAbs ≤ 16; omega⟩ ⟨qa, e1, withinI_iff.2 ⟨mayI_point e1.1, hm, Int.le_refl _, (at_le e1 e2).2 hab⟩⟩ ⟨qb, e2, withinI_iff.2 ⟨mayI_point e2.1, hm, (at_le e1 e2).2 hab, Int.le_refl _⟩⟩ rfl ⟨rfl, rfl⟩ rfl hO
 obtain ⟨ca, ha1, ha2⟩ := eval_mean (E := mE ⟨qa, qa⟩) (O := fun _ => (a3 : Int)) hi his hd HA e1 rfl rfl ⟨rfl, rfl⟩ rfl hO
 obtain ⟨cb, hb1, hb2⟩ := eval_mean (E := mE ⟨qb, qb⟩) (O := fun _ => (a3 : Int)) hi his hd HB e2 rfl rfl ⟨rfl, rfl⟩ rfl hO
 obtain ⟨u, v, u1, u2, u3, u4, u5, u6⟩ := mean_in hab hb hnn
 have hpw : 2 ^ (6 * i) ≤ 2 ^ 30 := Nat.pow_le_pow_right (by omega) (by omega)
 have hpw2 : 2 ^ (4 + 5 * i) ≤ 2 ^ 30 := Nat.pow_le_pow_right (by omega) (by omega)
 exact ⟨R, Dv, ca, cb, _, _, u, v, hg, ha1, hb1, ha2, hb2, u1, u2, Nat.le_trans u3 hpw, Nat.le_trans u4 hpw, Nat.le_trans (p_abs HA hrk i (Nat.le_refl i)) hpw2, Nat.le_trans (p_abs HB hrk i (Nat.le_refl i)) hpw2, u5, u6⟩
end Go.Proofs.YtlpjlmophlikeaaGreatDoor
