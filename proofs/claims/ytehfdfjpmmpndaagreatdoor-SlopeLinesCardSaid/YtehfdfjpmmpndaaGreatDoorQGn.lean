/-
  A tape and what it is reckoned at as they lie while they are made term by term.
-/
import Derived.Test.YtehfdfjpmmpndaaGreatDoorQGm
namespace Go.Proofs.YtehfdfjpmmpndaaGreatDoor
open Go.RowKit
variable {d : Rw} {g i n : Nat} {v : Value}
def OfEnd (S : Sc) (w : World) (en : Ending) (w' : World) : Prop := ∃ (q : Rw) (A : Option Addr) (n c : Nat) (z : Int), en = .returned (.tuple #[.agg #[.bool q.s, .slice A n c, .int .i64 q.e], .int .i64 0]) ∧ Rd w' .u64 YtehfdfjpmmpndaaGreatDoor.W A n c q.l ∧ At S 3 z q ∧ z.natAbs ≤ 32 ∧ Below w.heap.size w w'
theorem of_egh (S : Sc) {w : World} {z : Int} (hT : Tab w) (hz : -32 ≤ z ∧ z ≤ 32) : Calls Tryz.prog 12 #[.int .i64 z, .int .i64 (-3)] w (OfEnd S w) := by
 have hK := S.big
 have key : ∀ {s : Bool} {m : Nat} (_ : m ≤ 32) (_ : sg s * (m : Int) = z) {en : Ending} {w' : World}, Tells (Nm s m (-3)) w en w' → OfEnd S w en w' := fun {s m} hm hs {en w'} h => by
  obtain ⟨k, s', m', e', h9⟩ := nm_total s m (-3)
  have hk := nm_good h9 (by have := (blen_le m 6).2 (by omega); omega) (by omega) (by omega)
  subst hk
  obtain ⟨A, n, c, he, hr, hb⟩ := told_is h (s := s') (m := m') (e := e') (k := 0) fun k1 s1 m1 e1 h2 => nm_fun h2 h9
  refine ⟨Rw.of s' m' e', A, n, c, z, he, hr.rd, ⟨Rw.of_may (nm_ok h9), ?_⟩, by omega, hb⟩
  rw [Rw.of_v, nm_value (by omega) h9, show (-3 : Int) = -((3 : Nat) : Int) from rfl, vz_at_neg (by omega), hs]
 by_cases h0 : z < 0
 ·have e1 : z = -((z.natAbs : Nat) : Int) := by omega
  rw [e1]
  rw [e1] at key
  exact (of_neg hT (by omega) (by omega)).mono fun en w' h => key (s := true) (m := z.natAbs) (by omega) (by simp [sg]) h
 have e1 : z = ((z.natAbs : Nat) : Int) := by omega
 rw [e1]
 rw [e1] at key
 exact (of_pos hT (by omega)).mono fun en w' h => key (s := false) (m := z.natAbs) (by omega) (by simp [sg]) h
def ptI (a : Rw) : Iv := ⟨a, a⟩
structure LinW (w w1 : World) (vW vX vL : Value) (D X : List Rw) (Ls : List Ln) : Prop where
 below : Below w.heap.size w w1
 tape : Blk w1 w.heap.size #[vL, .slice none 0 0] 25
 env : Blk w1 (w.heap.size + 1) #[.bool false, .slice none 0 0, .int .i64 0, .bool false, .slice none 0 0, .int .i64 0, vX, .slice none 0 0, .slice none 0 0] 33
 W : DRow w1 (w.heap.size + 2) vW D
 X : IRow w1 (w.heap.size + 2) vX (X.map ptI)
 L : LRow w1 (w.heap.size + 2) vL Ls
section
variable {w w1 w2 : World} {vW vX vL v' : Value} {D X : List Rw} {Ls N : List Ln}
theorem LinW.big (h : LinW w w1 vW vX vL D X Ls) : w.heap.size + 2 ≤ w1.heap.size := h.env.gl
theorem LinW.go (h : LinW w w1 vW vX vL D X Ls) (b : Below w1.heap.size w1 w2) : LinW w w2 vW vX vL D X Ls :=
 ⟨below_next h.below h.below.size b rfl rfl rfl rfl, h.tape.next b rfl, h.env.next b rfl, GRow.next h.W b rfl, h.X.next b rfl, GRow.next h.L b rfl⟩
theorem LinW.apart (h : LinW w w1 vW vX vL D X Ls) : (∀ q, vW.ownBlock = some q → vX.ownBlock ≠ some q ∧ vL.ownBlock ≠ some q) ∧ ∀ q, vX.ownBlock = some q → vL.ownBlock ≠ some q := by
 have hne : ∀ {g : Nat} {a b : Array Value} {S T : TypeId}, S ≠ T → w1.heap[g]? = some (.cells a S (0, 0)) → w1.heap[g]? = some (.cells b T (0, 0)) → False := fun hST h1 h2 => by
  rw [h1] at h2
  injection h2 with h2
  injection h2 with _ h2
  exact hST h2
 refine ⟨fun q hq => ⟨fun h2 => ?_, fun h2 => ?_⟩, fun q hq h2 => ?_⟩
 ·obtain ⟨a, ha⟩ := GRow.kind h.W q hq
  obtain ⟨b, hb⟩ := h.X.kind q h2
  exact hne (by decide) ha hb
 ·obtain ⟨a, ha⟩ := GRow.kind h.W q hq
  obtain ⟨b, hb⟩ := GRow.kind h.L q h2
  exact hne (by decide) ha hb
 obtain ⟨a, ha⟩ := h.X.kind q hq
 obtain ⟨b, hb⟩ := GRow.kind h.L q h2
 exact hne (by decide) ha hb
theorem LinW.want (h : LinW w w1 vW vX vL D X Ls) (h1 : DRow w2 (w.heap.size + 2) v' (D ++ [d])) (hg : w1.grownBy w2 vW.ownBlock) : LinW w w2 v' vX vL (D ++ [d]) X Ls := by
 have hlt := GRow.lt h.W
 have hno := GRow.no h.W
 refine ⟨grown_below hg h.below (fun q e => by have := (hlt q e).1; omega) h.below.size, ⟨(hg.block _ h.tape.gl (fun e => by have := (hlt _ e.symm).1; omega)).trans h.tape.blk⟩, ⟨(hg.block _ h.env.gl (fun e => by have := (hlt _ e.symm).1; omega)).trans h.env.blk⟩, h1, ?_, ?_⟩
 ·exact h.X.grown hg (fun q e e2 => (h.apart.1 q e2).1 e) hno
 exact GRow.grown h.L hg (fun q e e2 => (h.apart.1 q e2).2 e) hno
theorem no_limb {cs : Array Value} {T : TypeId} (h : Blk w g cs T) (hn : ∀ u ∈ cs, NoL u) : ∀ q, some g = some q → ∀ i x : Nat, w.cell? ⟨q, i, none⟩ ≠ some (.int .u64 (x : Int)) := fun q e i x => by
 injection e with e
 subst e
 rw [cell_of_row w g i _ _ (0, 0) h.blk]
 exact nol_at hn i x
theorem blk_set {cs : Array Value} {T : TypeId} (h : Blk w g cs T) : Blk (w.setCell ⟨g, i, none⟩ v) g (cs.setIfInBounds i v) T := ⟨by
 have := h.blk
 simp [World.setCell, Array.getElem?_modify, this]⟩
theorem blk_oth {g g2 i : Nat} {cs : Array Value} {T : TypeId} (h : Blk w g cs T) (hne : g ≠ g2) : Blk (w.setCell ⟨g2, i, none⟩ v) g cs T := ⟨(Below.heap_setCell _ ⟨g2, i, none⟩ v g hne).trans h.blk⟩
theorem LinW.forms (h : LinW w w1 vW vX vL D X Ls) : (∃ A c, vW = .slice A D.length c) ∧ (∃ A c, vX = .slice A X.length c) ∧ ∃ A c, vL = .slice A Ls.length c := by
 obtain ⟨A, c, h1, _⟩ := GRow.form h.W
 obtain ⟨B, d, h2⟩ := h.X.slice
 obtain ⟨C, e, h3, _⟩ := GRow.form h.L
 exact ⟨⟨A, c, h1⟩, ⟨B, d, by rw [h2, List.length_map]⟩, ⟨C, e, h3⟩⟩
theorem LinW.xs (h : LinW w w1 vW vX vL D X Ls) {x : Rw} (h1 : IRow w2 (w.heap.size + 2) v' (X.map ptI ++ [ptI x])) (hg : w1.grownBy w2 vX.ownBlock) : LinW w (w2.setCell ⟨w.heap.size + 1, 6, none⟩ v') vW v' vL D (X ++ [x]) Ls := by
 have hlt := h.X.lt
 have hno := h.X.no
 have hs := h.big
 have b2 := grown_below hg h.below (fun q e => by have := (hlt q e).1; omega) h.below.size
 have t2 : Blk w2 w.heap.size #[vL, .slice none 0 0] 25 := ⟨(hg.block _ h.tape.gl (fun e => by have := (hlt _ e.symm).1; omega)).trans h.tape.blk⟩
 have e2 : Blk w2 (w.heap.size + 1) _ 33 := ⟨(hg.block _ h.env.gl (fun e => by have := (hlt _ e.symm).1; omega)).trans h.env.blk⟩
 have W2 : DRow w2 (w.heap.size + 2) vW D := GRow.grown h.W hg (fun q e e2 => (h.apart.1 q e).1 e2) hno
 have L2 : LRow w2 (w.heap.size + 2) vL Ls := GRow.grown h.L hg (fun q e e2 => h.apart.2 q e2 e) hno
 obtain ⟨_, ⟨B, d, rfl⟩, _⟩ := h.forms
 have hn2 := no_limb e2 (fun u hu => by simp at hu; rcases hu with rfl | rfl | rfl | rfl | rfl | rfl | rfl | rfl | rfl <;> exact fun _ h => by cases h)
 have hgs := grownBy_set w2 (w.heap.size + 1) 6 v'
 refine ⟨b2.setCell (p := ⟨w.heap.size + 1, 6, none⟩) (by show w.heap.size ≤ w.heap.size + 1; omega) v', blk_oth t2 (by omega), blk_set e2, ?_, ?_, ?_⟩
 ·exact GRow.grown W2 hgs (fun q e e3 => by injection e3 with e3; have := (GRow.lt W2 q e).1; omega) hn2
 ·rw [List.map_append]
  exact h1.grown hgs (fun q e e3 => by injection e3 with e3; have := (h1.lt q e).1; omega) hn2
 exact GRow.grown L2 hgs (fun q e e3 => by injection e3 with e3; have := (GRow.lt L2 q e).1; omega) hn2
theorem LinW.lines (h : LinW w w1 vW vX vL D X Ls) (h1 : LRow w2 (w.heap.size + 2) v' (Ls ++ N)) (hg : w1.grownBy w2 vL.ownBlock) : LinW w (w2.setCell ⟨w.heap.size, 0, none⟩ v') vW vX v' D X (Ls ++ N) := by
 have hlt := GRow.lt h.L
 have hno := GRow.no h.L
 have hs := h.big
 have b2 := grown_below hg h.below (fun q e => by have := (hlt q e).1; omega) h.below.size
 have t2 : Blk w2 w.heap.size #[vL, .slice none 0 0] 25 := ⟨(hg.block _ h.tape.gl (fun e => by have := (hlt _ e.symm).1; omega)).trans h.tape.blk⟩
 have e2 : Blk w2 (w.heap.size + 1) _ 33 := ⟨(hg.block _ h.env.gl (fun e => by have := (hlt _ e.symm).1; omega)).trans h.env.blk⟩
 have W2 : DRow w2 (w.heap.size + 2) vW D := GRow.grown h.W hg (fun q e e2 => (h.apart.1 q e).2 e2) hno
 have X2 : IRow w2 (w.heap.size + 2) vX (X.map ptI) := h.X.grown hg (fun q e e2 => h.apart.2 q e e2) hno
 obtain ⟨_, _, B, d, rfl⟩ := h.forms
 have hn2 := no_limb t2 (fun u hu => by simp at hu; rcases hu with rfl | rfl <;> exact fun _ h => by cases h)
 have hgs := grownBy_set w2 w.heap.size 0 v'
 refine ⟨b2.setCell (p := ⟨w.heap.size, 0, none⟩) (Nat.le_refl _) v', blk_set t2, blk_oth e2 (by omega), ?_, ?_, ?_⟩
 ·exact GRow.grown W2 hgs (fun q e e3 => by injection e3 with e3; have := (GRow.lt W2 q e).1; omega) hn2
 ·exact X2.grown hgs (fun q e e3 => by injection e3 with e3; have := (X2.lt q e).1; omega) hn2
 exact GRow.grown h1 hgs (fun q e e3 => by injection e3 with e3; have := (GRow.lt h1 q e).1; omega) hn2
theorem rd_own {A : Option Addr} {n c : Nat} {l : List Nat} (hr : Rd w .u64 YtehfdfjpmmpndaaGreatDoor.W A n c l) (hg : w.grownBy w2 v.ownBlock) (hno : ∀ q, v.ownBlock = some q → ∀ i x : Nat, w.cell? ⟨q, i, none⟩ ≠ some (.int .u64 (x : Int))) : Rd w2 .u64 YtehfdfjpmmpndaaGreatDoor.W A n c l := by
 cases hv : v.ownBlock with
 | none => rw [hv] at hg; exact hr.grownNone hg
 | some g => rw [hv] at hg; exact hr.grown hg (hr.off (hno g hv))
theorem LinW.envAt (h : LinW w w1 vW vX vL D X Ls) (hg : w1.grownBy w2 vX.ownBlock) : Blk w2 (w.heap.size + 1) #[.bool false, .slice none 0 0, .int .i64 0, .bool false, .slice none 0 0, .int .i64 0, vX, .slice none 0 0, .slice none 0 0] 33 := ⟨(hg.block _ h.env.gl (fun e => by have := (h.X.lt _ e.symm).1; omega)).trans h.env.blk⟩
theorem LinW.tapeAt (h : LinW w w1 vW vX vL D X Ls) (hg : w1.grownBy w2 vL.ownBlock) : Blk w2 w.heap.size #[vL, .slice none 0 0] 25 := ⟨(hg.block _ h.tape.gl (fun e => by have := (GRow.lt h.L _ e.symm).1; omega)).trans h.tape.blk⟩
theorem LinW.xs_rd (h : LinW w w1 vW vX vL D X Ls) (hg : w1.grownBy w2 vX.ownBlock) {A : Option Addr} {n c : Nat} {l : List Nat} (hr : Rd w1 .u64 YtehfdfjpmmpndaaGreatDoor.W A n c l) : Rd (w2.setCell ⟨w.heap.size + 1, 6, none⟩ v') .u64 YtehfdfjpmmpndaaGreatDoor.W A n c l := by
 have h2 := rd_own hr hg h.X.no
 have e2 := h.envAt hg
 obtain ⟨_, ⟨B, d, rfl⟩, _⟩ := h.forms
 exact h2.set1 (h2.off (no_limb e2 (fun u hu => by simp at hu; rcases hu with rfl | rfl | rfl | rfl | rfl | rfl | rfl | rfl | rfl <;> exact fun _ h => by cases h) _ rfl)) _ _
theorem LinW.outs (h : LinW w w1 vW vX vL D X Ls) : Below w.heap.size w (w1.setCell ⟨w.heap.size, 1, none⟩ v) ∧ Blk (w1.setCell ⟨w.heap.size, 1, none⟩ v) w.heap.size #[vL, v] 25 ∧ Blk (w1.setCell ⟨w.heap.size, 1, none⟩ v) (w.heap.size + 1) #[.bool false, .slice none 0 0, .int .i64 0, .bool false, .slice none 0 0, .int .i64 0, vX, .slice none 0 0, .slice none 0 0] 33 ∧
  DRow (w1.setCell ⟨w.heap.size, 1, none⟩ v) (w.heap.size + 2) vW D ∧ IRow (w1.setCell ⟨w.heap.size, 1, none⟩ v) (w.heap.size + 2) vX (X.map ptI) ∧ LRow (w1.setCell ⟨w.heap.size, 1, none⟩ v) (w.heap.size + 2) vL Ls := by
 obtain ⟨_, _, B, d, rfl⟩ := h.forms
 have hn2 := no_limb h.tape (fun u hu => by simp at hu; rcases hu with rfl | rfl <;> exact fun _ h => by cases h)
 have hgs := grownBy_set w1 w.heap.size 1 v
 refine ⟨h.below.setCell (p := ⟨w.heap.size, 1, none⟩) (Nat.le_refl _) v, blk_set h.tape, blk_oth h.env (by omega), ?_, ?_, ?_⟩
 ·exact GRow.grown h.W hgs (fun q e e3 => by injection e3 with e3; have := (GRow.lt h.W q e).1; omega) hn2
 ·exact h.X.grown hgs (fun q e e3 => by injection e3 with e3; have := (h.X.lt q e).1; omega) hn2
 exact GRow.grown h.L hgs (fun q e e3 => by injection e3 with e3; have := (GRow.lt h.L q e).1; omega) hn2
end
def dl : Ln := ⟨0, 0, 0, Iv.zero⟩
structure LinP (D : List Rw) (Ls : List Ln) : Prop where
 len : Ls.length = gB D.length
 is : LinT D.length (fun i => Ls.getD i dl) (fun i => D.getD i Rw.zero)
theorem linp_nil : LinP [] [] := ⟨rfl, ⟨fun i hi => absurd hi (Nat.not_lt_zero i), fun i hi => absurd hi (Nat.not_lt_zero i), fun i hi => absurd hi (Nat.not_lt_zero i), fun i hi => absurd hi (Nat.not_lt_zero i)⟩⟩
theorem gd_end {α : Type} {R : List α} {x z : α} : (R ++ [x]).getD R.length z = x := gd_at (m := R.length) (k := 0) rfl
theorem linp_step {D : List Rw} {Ls T : List Ln} (h : LinP D Ls) (h0 : D.length = 0 → T = []) (h1 : 1 ≤ D.length → T = [⟨6, ((gB D.length - 1 : Nat) : Int), ((gB D.length + 2 : Nat) : Int), Iv.zero⟩]) :
  LinP (D ++ [d]) (Ls ++ ([⟨1, 0, 0, ptI d⟩, ⟨3, ((D.length : Nat) : Int), 0, Iv.zero⟩, ⟨8, ((gB D.length : Nat) : Int), ((gB D.length + 1 : Nat) : Int), Iv.zero⟩] ++ T)) := by
 have hl := h.len
 have hT : T.length = if D.length = 0 then 0 else 1 := by
  by_cases e : D.length = 0
  ·rw [h0 e, if_pos e]; rfl
  rw [h1 (by omega), if_neg e]; rfl
 have old : ∀ {i j : Nat}, i < D.length → j < gB D.length → ∀ {T' : List Ln} {d' : Rw}, (Ls ++ T').getD j dl = Ls.getD j dl ∧ (D ++ [d']).getD i Rw.zero = D.getD i Rw.zero := fun hi hj => ⟨gd_old (by omega), gd_old hi⟩
 refine ⟨?_, ?_, ?_, ?_, ?_⟩
 ·rw [List.length_append, List.length_append, List.length_append, hT, hl]
  unfold gB
  simp only [List.length_cons, List.length_nil]
  split <;> omega
 ·intro i hi
  rw [List.length_append] at hi
  simp only [List.length_cons, List.length_nil] at hi
  rcases Nat.lt_or_ge i D.length with c | c
  ·have hj : gB i < gB D.length := by unfold gB; omega
   show (Ls ++ _).getD (gB i) dl = ⟨1, 0, 0, ⟨(D ++ [d]).getD i Rw.zero, (D ++ [d]).getD i Rw.zero⟩⟩
   rw [(old c hj (d' := d)).1, (old c hj (T' := []) (d' := d)).2]
   exact h.is.c i c
  obtain rfl : i = D.length := by omega
  show (Ls ++ _).getD (gB D.length) dl = ⟨1, 0, 0, ⟨(D ++ [d]).getD D.length Rw.zero, (D ++ [d]).getD D.length Rw.zero⟩⟩
  rw [gd_end]
  exact gd_at (m := gB D.length) (k := 0) hl
 ·intro i hi
  rw [List.length_append] at hi
  simp only [List.length_cons, List.length_nil] at hi
  rcases Nat.lt_or_ge i D.length with c | c
  ·have hj : gB i + 1 < gB D.length := by unfold gB; omega
   show (Ls ++ _).getD (gB i + 1) dl = _
   rw [(old c hj (d' := d)).1]
   exact h.is.s i c
  obtain rfl : i = D.length := by omega
  exact gd_at (m := gB D.length) (k := 1) hl
 ·intro i hi
  rw [List.length_append] at hi
  simp only [List.length_cons, List.length_nil] at hi
  rcases Nat.lt_or_ge i D.length with c | c
  ·have hj : gB i + 2 < gB D.length := by unfold gB; omega
   show (Ls ++ _).getD (gB i + 2) dl = _
   rw [(old c hj (d' := d)).1]
   exact h.is.m i c
  obtain rfl : i = D.length := by omega
  exact gd_at (m := gB D.length) (k := 2) hl
 intro i hi hi1
 rw [List.length_append] at hi
 simp only [List.length_cons, List.length_nil] at hi
 rcases Nat.lt_or_ge i D.length with c | c
 ·have hj : gB i + 3 < gB D.length := by unfold gB; omega
  show (Ls ++ _).getD (gB i + 3) dl = _
  rw [(old c hj (d' := d)).1]
  exact h.is.a i c hi1
 obtain rfl : i = D.length := by omega
 rw [h1 hi1]
 exact gd_at (m := gB D.length) (k := 3) hl
theorem linp_first {D : List Rw} {Ls : List Ln} {i nL : Nat} (h : LinP D Ls) (hD : D.length = i) (hn : nL = gB i) (h0 : i = 0) : LinP (D ++ [d]) (Ls ++ [⟨1, 0, 0, ptI d⟩, ⟨3, (i : Int), 0, Iv.zero⟩, ⟨8, (nL : Int), (nL : Int) + 1, Iv.zero⟩]) := by
 subst hD hn
 have := linp_step (T := []) (d := d) h (fun _ => rfl) (fun h1 => by omega)
 simpa using this
theorem linp_next {D : List Rw} {Ls : List Ln} {i nL : Nat} (h : LinP D Ls) (hD : D.length = i) (hn : nL = gB i) (h0 : 1 ≤ i) : LinP (D ++ [d]) (Ls ++ [⟨1, 0, 0, ptI d⟩, ⟨3, (i : Int), 0, Iv.zero⟩, ⟨8, (nL : Int), (nL : Int) + 1, Iv.zero⟩] ++ [⟨6, (nL : Int) - 1, (nL : Int) + 2, Iv.zero⟩]) := by
 subst hD hn
 have e : ((gB D.length - 1 : Nat) : Int) = (gB D.length : Int) - 1 := by unfold gB; omega
 have := linp_step (d := d) h (fun h1 => by omega) (fun _ => rfl)
 rw [e] at this
 simpa using this
def AllE (S : Sc) (D : List Rw) : Prop := ∀ a ∈ D, ∃ z : Int, At S 3 z a ∧ z.natAbs ≤ 32
theorem AllE.snoc {S : Sc} {D : List Rw} {z : Int} (h : AllE S D) (h1 : At S 3 z d) (h2 : z.natAbs ≤ 32) : AllE S (D ++ [d]) := fun a ha => by
 rcases List.mem_append.1 ha with ha | ha
 ·exact h a ha
 rw [List.mem_singleton.1 ha]; exact ⟨z, h1, h2⟩
theorem AllE.egh {S : Sc} {D : List Rw} (h : AllE S D) (hn : D.length = n) : Egh S n fun i => D.getD i Rw.zero := fun i hi => by
 refine h _ ?_
 show D.getD i Rw.zero ∈ D
 rw [List.getD_eq_getElem?_getD, List.getElem?_eq_getElem (by omega)]
 exact List.getElem_mem (by omega)
def linE (n : Nat) (X : List Rw) : En := ⟨Iv.zero, n, fun i => (X.map ptI).getD i Iv.zero, 0, fun _ => Iv.zero, 0, fun _ => Iv.zero⟩
theorem grad_linp {S : Sc} {D X : List Rw} {Ls : List Ln} {p : Int} {O : Nat → Int} (hn : 1 ≤ n ∧ n ≤ 6) (hp : 20 ≤ p ∧ p ≤ 80) (h : LinP D Ls) (hD : D.length = n) (hX : X.length = n) (h1 : AllE S D) (h2 : AllE S X) (hO : O 0 = ((Ls.length : Nat) : Int) - 1) :
  ∃ R, gradO S ⟨Ls.length, fun i => Ls.getD i dl, 1, O⟩ (linE n X) p = .ok (R, [(List.range n).map fun k => ptI (D.getD k Rw.zero)]) := by
 have hl := h.len
 have his := h.is
 rw [hD] at his hl
 have e : Ls.length = 4 * n - 1 := by rw [hl]; rfl
 have := grad_lines (S := S) (E := linE n X) (O := O) hn hp his (h1.egh hD) (h2.egh hX) (fun i hi => by
  show (X.map ptI).getD i Iv.zero = _
  rw [List.getD_eq_getElem?_getD, List.getElem?_map, List.getElem?_eq_getElem (by omega), List.getD_eq_getElem?_getD, List.getElem?_eq_getElem (by omega)]
  rfl) rfl ⟨rfl, rfl⟩ rfl (by rw [hO, e]; omega)
 rw [e]
 exact this
end Go.Proofs.YtehfdfjpmmpndaaGreatDoor
