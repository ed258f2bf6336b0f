/-
 Contract of jet's reckon, where all is told, at this translation. Condition: the slices read as limbs, the table of math/bits reads as its text lays it.
-/
import Derived.StillTailTactics
import Derived.Deep.CutBlock
import Derived.Test.YteagjlcmgiknmaaGreatDoorQJk
import Derived.Test.YteagjlcmgiknmaaGreatDoorQGb
import Derived.Test.YteagjlcmgiknmaaGreatDoorQGj
set_option maxHeartbeats 8000000
set_option maxRecDepth 100000
namespace Go.Proofs.YteagjlcmgiknmaaGreatDoor
open Go.RowKit

theorem jrws_frozen {w w' : World} {b0 gr n i : Nat} {vs : Nat → Value} {Q : Nat → List Iv} (h : Rws w b0 gr n vs Q) (hi : i < n) (hg : w.grownBy w' (vs i).ownBlock) (j : Nat) : w'.frozen? ⟨gr, j, none⟩ = false := by
 have := (hg.block gr h.blk.gl (fun e => (h.row i hi).off h.blk e.symm)).trans h.blk.blk
 simp [World.frozen?, this]
theorem jhg_block {w w' : World} {row : Option Nat} {g : Nat} {cs : Array Value} {T : TypeId} (hg : w.grownBy w' row) (h : Blk w g cs T) (hne : row ≠ some g) : Blk w' g cs T := ⟨(hg.block g h.gl (fun e => hne e.symm)).trans h.blk⟩
/-- jet's sheet: n rows in the block gr -/
structure JSh (w : World) (b0 gs gr n : Nat) (st sx sp : Value) (p : Int) (vs : Nat → Value) (Q : Nat → List Iv) : Prop where
 box : Blk w gs #[st, sx, sp, .slice (some ⟨gr, 0, none⟩) n n, .int .i64 p] 56
 rows : Rws w b0 gr n vs Q
 lo : b0 ≤ gr
theorem JSh.next {w X w2 : World} {b0 gs gr n : Nat} {st sx sp : Value} {p : Int} {vs : Nat → Value} {Q : Nat → List Iv} (h : JSh w b0 gs gr n st sx sp p vs Q) (b : Below X.heap.size X w2) (e : X.heap = w.heap) : JSh w2 b0 gs gr n st sx sp p vs Q := ⟨h.box.next b e, h.rows.next b e, h.lo⟩
instance {w w2 : World} {b0 gs gr n : Nat} {st sx sp : Value} {p : Int} {vs : Nat → Value} {Q : Nat → List Iv} : Moves w w2 (JSh w b0 gs gr n st sx sp p vs Q) (JSh w2 b0 gs gr n st sx sp p vs Q) := ⟨fun _ b e h => h.next b e⟩
theorem jsh_off {w : World} {b0 gs gr n i : Nat} {st sx sp : Value} {p : Int} {vs : Nat → Value} {Q : Nat → List Iv} (hs : JSh w b0 gs gr n st sx sp p vs Q) (hi : i < n) : (vs i).ownBlock ≠ some gs ∧ gs ≠ gr := by
 refine ⟨fun e => ?_, fun e => ?_⟩
 ·obtain ⟨cs, hc⟩ := (hs.rows.row i hi).kind gs e
  rw [hs.box.blk] at hc
  injection hc with hc
  injection hc with _ hc
  exact absurd hc (by decide)
 ·have h1 := hs.box.blk
  rw [e, hs.rows.blk.blk] at h1
  injection h1 with h1
  injection h1 with _ h1
  exact absurd h1 (by decide)
theorem jsh_put {w0 w w' : World} {gs gr n i : Nat} {st sx sp : Value} {p : Int} {vs : Nat → Value} {Q : Nat → List Iv} {v' : Value} {d : Iv} (hs : JSh w w0.heap.size gs gr n st sx sp p vs Q) (hi : i < n) (g1 : IRow w' w0.heap.size v' (Q i ++ [d])) (g2 : w.grownBy w' (vs i).ownBlock) (g3 : v'.ownBlock = (vs i).ownBlock ∨ v'.ownBlock = some w.heap.size) :
  JSh (w'.setCell ⟨gr, i, none⟩ v') w0.heap.size gs gr n st sx sp p (upd vs i v') (upd Q i (Q i ++ [d])) := by
 obtain ⟨h1, h2⟩ := jsh_off hs hi
 exact ⟨⟨(Below.heap_setCell _ ⟨gr, i, none⟩ v' gs h2).trans ((jhg_block g2 hs.box h1).blk)⟩, hs.rows.put hi g1 g2 g3, hs.lo⟩
/-- the row of the one state -/
structure JX (w : World) (b0 gx : Nat) (vx : Value) (L : List Iv) : Prop where
 blk : ∃ cs : Array Value, Blk w gx cs 40 ∧ cs[0]? = some vx ∧ ∀ j x : Nat, cs[j]? ≠ some (.int .u64 (x : Int))
 row : IRow w b0 vx L
 lo : b0 ≤ gx
theorem JX.first {w : World} {b0 gx : Nat} {vx : Value} {L : List Iv} (h : JX w b0 gx vx L) : w.cell? ⟨gx, 0, none⟩ = some vx := by
 obtain ⟨cs, hb, h0, _⟩ := h.blk
 exact hb.at 0 h0
theorem JX.no {w : World} {b0 gx : Nat} {vx : Value} {L : List Iv} (h : JX w b0 gx vx L) (j x : Nat) : w.cell? ⟨gx, j, none⟩ ≠ some (.int .u64 (x : Int)) := by
 obtain ⟨cs, hb, _, hn⟩ := h.blk
 rw [cell_of_row w gx j _ _ (0, 0) hb.blk]
 exact hn j x
theorem JX.gl {w : World} {b0 gx : Nat} {vx : Value} {L : List Iv} (h : JX w b0 gx vx L) : gx < w.heap.size := by
 obtain ⟨cs, hb, _, _⟩ := h.blk
 exact hb.gl
theorem JX.next {w X w2 : World} {b0 gx : Nat} {vx : Value} {L : List Iv} (h : JX w b0 gx vx L) (b : Below X.heap.size X w2) (e : X.heap = w.heap) : JX w2 b0 gx vx L := by
 obtain ⟨cs, hb, h0, hn⟩ := h.blk
 exact ⟨⟨cs, hb.next b e, h0, hn⟩, h.row.next b e, h.lo⟩
instance {w w2 : World} {b0 gx : Nat} {vx : Value} {L : List Iv} : Moves w w2 (JX w b0 gx vx L) (JX w2 b0 gx vx L) := ⟨fun _ b e h => h.next b e⟩
theorem JX.grow {w w' : World} {b0 gx : Nat} {vx : Value} {L : List Iv} {row : Option Nat} (h : JX w b0 gx vx L) (hg : w.grownBy w' row) (hgx : row ≠ some gx) (hne : ∀ k, vx.ownBlock = some k → row ≠ some k) (hno : ∀ k, row = some k → ∀ i x : Nat, w.cell? ⟨k, i, none⟩ ≠ some (.int .u64 (x : Int))) : JX w' b0 gx vx L := by
 obtain ⟨cs, hb, h0, hn⟩ := h.blk
 exact ⟨⟨cs, jhg_block hg hb hgx, h0, hn⟩, h.row.grown hg hne hno, h.lo⟩
/-- the state's row has grown, and is stored in its place -/
theorem JX.put {w w' : World} {b0 gx : Nat} {vx v' : Value} {L M : List Iv} (h : JX w b0 gx vx L) (h1 : IRow w' b0 v' M) (hg : w.grownBy w' vx.ownBlock) : JX (w'.setCell ⟨gx, 0, none⟩ v') b0 gx v' M := by
 obtain ⟨cs, hb, h0, hn⟩ := h.blk
 have hb2 : Blk w' gx cs 40 := jhg_block hg hb (h.row.off hb)
 have hno : ∀ (k : Nat), some gx = some k → ∀ j x : Nat, w'.cell? ⟨k, j, none⟩ ≠ some (.int .u64 (x : Int)) := fun k e j x => by
  injection e with e
  subst e
  rw [cell_of_row w' gx j _ _ (0, 0) hb2.blk]
  exact hn j x
 have hz : 0 < cs.size := by
  rcases Nat.eq_zero_or_pos cs.size with h9 | h9
  ·rw [Array.getElem?_eq_none (by omega)] at h0
   cases h0
  ·exact h9
 obtain ⟨A, c, hv⟩ := h1.slice
 refine ⟨⟨cs.setIfInBounds 0 v', ⟨?_⟩, ?_, fun j x hj => ?_⟩, h1.grown (grownBy_set w' gx 0 v') (fun k hk e => h1.off hb2 (hk.trans e.symm)) hno, h.lo⟩
 ·have := hb2.blk
  simp [World.setCell, Array.getElem?_modify, this]
 ·rw [Array.getElem?_setIfInBounds, if_pos rfl, if_pos hz]
 ·rw [Array.getElem?_setIfInBounds] at hj
  by_cases e : 0 = j
  ·rw [if_pos e, if_pos (by omega), hv] at hj
   cases hj
  ·rw [if_neg e] at hj
   exact hn j x hj
/-- a line's row has grown, and is stored in its place: the state's row stays -/
theorem JX.far {w w' : World} {b0 gx gr n i : Nat} {vx v' : Value} {L : List Iv} {vs : Nat → Value} {Q : Nat → List Iv} (h : JX w b0 gx vx L) (hs : Rws w b0 gr n vs Q) (hi : i < n) (hg : w.grownBy w' (vs i).ownBlock) (hne : gx ≠ gr) (hd : ∀ k, vx.ownBlock = some k → (vs i).ownBlock ≠ some k) : JX (w'.setCell ⟨gr, i, none⟩ v') b0 gx vx L := by
 have hb : Blk w' gr (rls n vs) 40 := jhg_block hg hs.blk ((hs.row i hi).off hs.blk)
 have hno : ∀ (k : Nat), some gr = some k → ∀ j x : Nat, w'.cell? ⟨k, j, none⟩ ≠ some (.int .u64 (x : Int)) := fun k e j x => by
  injection e with e
  subst e
  rw [World.cell?_of_block (w := w) (w' := w') (a := ⟨gr, j, none⟩) (by rw [hb.blk, hs.blk.blk])]
  exact hs.no j x
 obtain ⟨cs, hx, _, _⟩ := h.blk
 have h1 := h.grow hg ((hs.row i hi).off hx) hd (hs.row i hi).no
 exact h1.grow (grownBy_set w' gr i v') (fun e => hne (by injection e with e; exact e.symm)) (fun k hk e => h1.row.off hb (hk.trans e.symm)) hno
/-- the state's row has grown, and is stored in its place: the sheet stays -/
theorem JSh.far {w w' : World} {b0 gs gr n gx : Nat} {st sx sp vx v' : Value} {p : Int} {vs : Nat → Value} {Q : Nat → List Iv} {L : List Iv} (hs : JSh w b0 gs gr n st sx sp p vs Q) (hx : JX w b0 gx vx L) (hg : w.grownBy w' vx.ownBlock) (hne : gx ≠ gr) (hd : ∀ i k, i < n → vx.ownBlock = some k → (vs i).ownBlock ≠ some k) : JSh (w'.setCell ⟨gx, 0, none⟩ v') b0 gs gr n st sx sp p vs Q := by
 obtain ⟨cs, hb, h0, hn⟩ := hx.blk
 have hb2 : Blk w' gx cs 40 := jhg_block hg hb (hx.row.off hb)
 have hno : ∀ (k : Nat), some gx = some k → ∀ j x : Nat, w'.cell? ⟨k, j, none⟩ ≠ some (.int .u64 (x : Int)) := fun k e j x => by
  injection e with e
  subst e
  rw [cell_of_row w' gx j _ _ (0, 0) hb2.blk]
  exact hn j x
 have hgx : gs ≠ gx := fun e => by
  have h1 := hs.box.blk
  rw [e, hb.blk] at h1
  injection h1 with h1
  injection h1 with _ h1
  exact absurd h1 (by decide)
 have hgo : vx.ownBlock ≠ some gs := fun e => by
  obtain ⟨cs, hc⟩ := hx.row.kind gs e
  rw [hs.box.blk] at hc
  injection hc with hc
  injection hc with _ hc
  exact absurd hc (by decide)
 have hr : Blk w' gr (rls n vs) 40 := jhg_block hg hs.rows.blk (hx.row.off hs.rows.blk)
 refine ⟨⟨(Below.heap_setCell _ ⟨gx, 0, none⟩ v' gs hgx).trans ((jhg_block hg hs.box hgo).blk)⟩, ⟨⟨(Below.heap_setCell _ ⟨gx, 0, none⟩ v' gr (Ne.symm hne)).trans hr.blk⟩, fun i hi => ?_, hs.rows.far⟩, hs.lo⟩
 have h2 := (hs.rows.row i hi).grown hg (fun k hk e => hd i k hi e hk) hx.row.no
 exact h2.grown (grownBy_set w' gx 0 v') (fun k hk e => h2.off hb2 (hk.trans e.symm)) hno

theorem jreckon_ok {w0 w : World} {kk R : Iv} {lo la lb : Int} {gs gr i n : Nat} {st sx sp : Value} {p : Int} {vs : Nat → Value} {Q : Nat → List Iv} {A1 : Option Addr} {n1 c1 : Nat} {A2 : Option Addr} {n2 c2 : Nat} (HB : Below w0.heap.size w0 w) (hs : JSh w w0.heap.size gs gr n st sx sp p vs Q) (hi : i < n) (hkk : (Q i).length ≤ 1000) (hN : ∀ (Ac : Option Addr) (cc : Nat), vs i = .slice Ac (Q i).length cc → ∀ w2 : World, Below w.heap.size w w2 → Calls Tryz.prog 50 #[.pointer (some ⟨gs, 0, none⟩), .agg #[.int .i64 lo, .int .i64 la, .int .i64 lb, .bool kk.lo.s, .slice A1 n1 c1, .int .i64 kk.lo.e, .bool kk.hi.s, .slice A2 n2 c2, .int .i64 kk.hi.e], .slice Ac (Q i).length cc] w2 (GivI R w2)) :
  Calls Tryz.prog 21 #[.pointer (some ⟨gs, 0, none⟩), .int .i64 (i : Int), .agg #[.int .i64 lo, .int .i64 la, .int .i64 lb, .bool kk.lo.s, .slice A1 n1 c1, .int .i64 kk.lo.e, .bool kk.hi.s, .slice A2 n2 c2, .int .i64 kk.hi.e]] w (fun en w' => en = .returned (.int .i64 0) ∧ (∃ v', JSh w' w0.heap.size gs gr n st sx sp p (upd vs i v') (upd Q i (Q i ++ [R])) ∧ (v'.ownBlock = (vs i).ownBlock ∨ ∃ k, v'.ownBlock = some k ∧ w.heap.size ≤ k)) ∧ (∀ (gx : Nat) (vx : Value) (L : List Iv), JX w w0.heap.size gx vx L → gx ≠ gr → (∀ k, vx.ownBlock = some k → (vs i).ownBlock ≠ some k) → JX w' w0.heap.size gx vx L) ∧ (∀ g, g < w.heap.size → g ≠ gr → (vs i).ownBlock ≠ some g → w'.heap[g]? = w.heap[g]?) ∧ Below w0.heap.size w0 w') := by
 have hmf := make_func
 have HN := Lib.hid hN
 clear hN
 have b := three_below w (.cells #[.pointer (some ⟨gs, 0, none⟩)] 79) (.cells #[.int .i64 (i : Int)] 3) (.cells #[.int .i64 lo, .int .i64 la, .int .i64 lb, .bool kk.lo.s, .slice A1 n1 c1, .int .i64 kk.lo.e, .bool kk.hi.s, .slice A2 n2 c2, .int .i64 kk.hi.e] 31)
 have x0 := mv (two_below (w.alloc (.cells #[.pointer (some ⟨gs, 0, none⟩)] 79)) (.cells #[.int .i64 (i : Int)] 3) (.cells #[.int .i64 lo, .int .i64 la, .int .i64 lb, .bool kk.lo.s, .slice A1 n1 c1, .int .i64 kk.lo.e, .bool kk.hi.s, .slice A2 n2 c2, .int .i64 kk.hi.e] 31)) rfl (Blk.new w #[.pointer (some ⟨gs, 0, none⟩)] 79)
 have x1 : Blk ((w.alloc (.cells #[.pointer (some ⟨gs, 0, none⟩)] 79)).alloc (.cells #[.int .i64 (i : Int)] 3)) (w.heap.size + 1) #[.int .i64 (i : Int)] 3 := by have := Blk.new (w.alloc (.cells #[.pointer (some ⟨gs, 0, none⟩)] 79)) #[.int .i64 (i : Int)] 3; simpa using this
 replace x1 := mv (below_alloc ((w.alloc (.cells #[.pointer (some ⟨gs, 0, none⟩)] 79)).alloc (.cells #[.int .i64 (i : Int)] 3)) (.cells #[.int .i64 lo, .int .i64 la, .int .i64 lb, .bool kk.lo.s, .slice A1 n1 c1, .int .i64 kk.lo.e, .bool kk.hi.s, .slice A2 n2 c2, .int .i64 kk.hi.e] 31)) rfl x1
 have x2 : Blk (((w.alloc (.cells #[.pointer (some ⟨gs, 0, none⟩)] 79)).alloc (.cells #[.int .i64 (i : Int)] 3)).alloc (.cells #[.int .i64 lo, .int .i64 la, .int .i64 lb, .bool kk.lo.s, .slice A1 n1 c1, .int .i64 kk.lo.e, .bool kk.hi.s, .slice A2 n2 c2, .int .i64 kk.hi.e] 31)) (w.heap.size + 2) #[.int .i64 lo, .int .i64 la, .int .i64 lb, .bool kk.lo.s, .slice A1 n1 c1, .int .i64 kk.lo.e, .bool kk.hi.s, .slice A2 n2 c2, .int .i64 kk.hi.e] 31 := by have := Blk.new ((w.alloc (.cells #[.pointer (some ⟨gs, 0, none⟩)] 79)).alloc (.cells #[.int .i64 (i : Int)] 3)) #[.int .i64 lo, .int .i64 la, .int .i64 lb, .bool kk.lo.s, .slice A1 n1 c1, .int .i64 kk.lo.e, .bool kk.hi.s, .slice A2 n2 c2, .int .i64 kk.hi.e] 31; simpa using this
 have BB := below_next HB HB.size b rfl rfl rfl rfl
 have BW := b
 have hlo := hs.lo
 have hgg := (jsh_off hs hi).2
 have lgr : gr < w.heap.size := hs.rows.blk.gl
 have lgs : gs < w.heap.size := hs.box.gl
 have hown : ∀ g, w.heap.size ≤ g ∨ g = gs ∨ g = gr → some g ≠ (vs i).ownBlock := fun g hg e => by
  have hr := hs.rows.row i hi
  rcases hg with h | h | h
  ·have := (hr.lt g e.symm).2; omega
  ·rw [h] at e; exact (jsh_off hs hi).1 e.symm
  ·rw [h] at e; exact hr.off hs.rows.blk e.symm
 clear HB
 replace hs := mv b rfl hs
 clear b
 have hi2 : (i : Int) < (n : Int) := by omega
 have hi3 : (0 : Int) ≤ (i : Int) := by omega
 have s3 : World.cell? _ ⟨_, 3, none⟩ = some (.slice (some ⟨gr, 0, none⟩) n n) := hs.box.at 3
 obtain ⟨Ar, cr, hvi, rr, _⟩ := hs.rows.at hi
 have p0 : World.cell? _ ⟨_, 0, none⟩ = some (.pointer (some ⟨gs, 0, none⟩)) := x0.at 0
 have p1 : World.cell? _ ⟨_, 0, none⟩ = some (.int .i64 (i : Int)) := x1.at 0
 have m0 : World.cell? _ ⟨_, 0, none⟩ = some (.int .i64 lo) := x2.at 0
 have m1 : World.cell? _ ⟨_, 1, none⟩ = some (.int .i64 la) := x2.at 1
 have m2 : World.cell? _ ⟨_, 2, none⟩ = some (.int .i64 lb) := x2.at 2
 have m3 : World.cell? _ ⟨_, 3, none⟩ = some (.bool kk.lo.s) := x2.at 3
 have m4 : World.cell? _ ⟨_, 4, none⟩ = some (.slice A1 n1 c1) := x2.at 4
 have m5 : World.cell? _ ⟨_, 5, none⟩ = some (.int .i64 kk.lo.e) := x2.at 5
 have m6 : World.cell? _ ⟨_, 6, none⟩ = some (.bool kk.hi.s) := x2.at 6
 have m7 : World.cell? _ ⟨_, 7, none⟩ = some (.slice A2 n2 c2) := x2.at 7
 have m8 : World.cell? _ ⟨_, 8, none⟩ = some (.int .i64 kk.hi.e) := x2.at 8
 clear x0 x1 x2
 go_enter Tryz.func21, Tryz.ntmps21
 go_wp2_with fail
 generalize hk9 : (Q i).length = k9 at *
 refine (itold_ok (x := R) (fun _ => by kernel_rfl) fun W2 b2 => jreck1_ok (mv b2 rfl p0) (mv b2 rfl m0) (mv b2 rfl m1) (mv b2 rfl m2) (mv b2 rfl m3) (mv b2 rfl m4) (mv b2 rfl m5) (mv b2 rfl m6) (mv b2 rfl m7) (mv b2 rfl m8) (mv b2 rfl p1) (mv b2 rfl s3) (mv b2 rfl rr) hi (fun w2 b3 => HN.out Ar cr hvi w2 (have B2 := below_next BW BW.size b2 rfl rfl rfl rfl; below_next B2 B2.size b3 rfl rfl rfl rfl))).mono ?_
 rintro en w5 ⟨A5, n5, c5, A6, n6, c6, rfl, h5, h6, b⟩
 clear m0 m1 m2 m3 m4 m5 m6 m7 m8
 replace BB := bnx BB b
 replace BW := below_next BW BW.size b rfl rfl rfl rfl
 have G := mv b rfl (J5 hs p0 p1 s3 rr)
 clear b hs p0 p1 s3 rr
 obtain ⟨hs, p0, p1, s3, rr⟩ := G
 have xd := Ibx.new w5 R.lo.s A5 n5 c5 R.lo.e R.hi.s A6 n6 c6 R.hi.e
 have b := below_alloc w5 (.cells #[.bool R.lo.s, .slice A5 n5 c5, .int .i64 R.lo.e, .bool R.hi.s, .slice A6 n6 c6, .int .i64 R.hi.e] 29)
 have lgd : w.heap.size ≤ w5.heap.size := BW.size
 replace BB := bnx BB b
 replace BW := below_next BW BW.size b rfl rfl rfl rfl
 have G := mv b rfl (J7 hs p0 p1 s3 rr h5 h6)
 clear b hs p0 p1 s3 rr h5 h6
 obtain ⟨hs, p0, p1, s3, rr, h5, h6⟩ := G
 go_upto_region 2 with fail
 generalize w5.alloc (.cells #[.bool R.lo.s, .slice A5 n5 c5, .int .i64 R.lo.e, .bool R.hi.s, .slice A6 n6 c6, .int .i64 R.hi.e] 29) = W6 at *
 generalize w5.heap.size = gd at *
 go_upto_region 3 with fail
 obtain ⟨d0, d1, d2, d3, d4, d5⟩ := xd.held
 have hrow := hs.rows.row i hi
 have b : Below W6.heap.size W6 (World.drew W6) := below_drewN (Below.refl _ _) 1
 replace BB := bnx BB b
 replace BW := below_next BW BW.size b rfl rfl rfl rfl
 have G := mv b rfl (J15 hs p0 p1 s3 rr h5 h6 xd hrow d0 d1 d2 d3 d4 d5)
 clear b hs p0 p1 s3 rr h5 h6 xd hrow d0 d1 d2 d3 d4 d5
 obtain ⟨hs, p0, p1, s3, rr, h5, h6, xd, hrow, d0, d1, d2, d3, d4, d5⟩ := G
 refine wp_region_held_drew (S := fun w' => w'.cell? ⟨w.heap.size, 0, none⟩ = some (.pointer (some ⟨gs, 0, none⟩)) ∧ w'.cell? ⟨w.heap.size + 1, 0, none⟩ = some (.int .i64 (i : Int)) ∧ w'.cell? ⟨gs, 3, none⟩ = some (.slice (some ⟨gr, 0, none⟩) n n) ∧ w'.cell? ⟨gd, 0, none⟩ = some (.bool R.lo.s) ∧ w'.cell? ⟨gd, 1, none⟩ = some (.slice A5 n5 c5) ∧ w'.cell? ⟨gd, 2, none⟩ = some (.int .i64 R.lo.e) ∧ w'.cell? ⟨gd, 3, none⟩ = some (.bool R.hi.s) ∧ w'.cell? ⟨gd, 4, none⟩ = some (.slice A6 n6 c6) ∧ w'.cell? ⟨gd, 5, none⟩ = some (.int .i64 R.hi.e)) (by kernel_rfl) (by exact ⟨p0, p1, s3, d0, d1, d2, d3, d4, d5⟩) (fun hHeldv0 => ?_)
 generalize World.drew W6 = wd at *
 refine tl 0 ?_
 refine tl 1 ?_
 refine tl 2 ?_
 refine tl 3 ?_
 refine tl 4 ?_
 refine tl 5 ?_
 refine tl 6 ?_
 refine tl 7 ?_
 refine tl 8 ?_
 refine tl 9 ?_
 refine tl 10 ?_
 refine tl 12 ?_
 refine wpAnyH_ready (rs := [11, 13]) (by kernel_rfl) (by simp) ?_
 refine AllReadyH.cons (o := _) rfl (fun K hK => ?_) (AllReadyH.cons (o := _) rfl (fun K hK => ?_) (AllReadyH.nil))
 ·go_simp
  refine hK.out _ _ (by exact ⟨p0, p1, s3, d0, d1, d2, d3, d4, d5⟩) (fun hHeldv1 => ?_)
  clear hK K hHeldv0
  try simp only [Act.put]
  refine rdy 13 fun K hK => ?_
  go_simp
  have b := below_alloc wd (.cells #[.bool R.lo.s, .slice A5 n5 c5, .int .i64 R.lo.e, .bool R.hi.s, .slice A6 n6 c6, .int .i64 R.hi.e] 29)
  have xv := Ibx.new wd R.lo.s A5 n5 c5 R.lo.e R.hi.s A6 n6 c6 R.hi.e
  replace BW := below_next BW BW.size b (by rfl) (by rfl) (by rfl) (by rfl)
  replace BB := below_next BB BB.size b (by rfl) (by rfl) (by rfl) (by rfl)
  have G := mv b (by rfl) <| And.intro hs <| And.intro p0 <| And.intro p1 <| And.intro s3 <| And.intro rr <| And.intro h5 <| And.intro h6 <| And.intro xd <| And.intro hrow <| And.intro d0 <| And.intro d1 <| And.intro d2 <| And.intro d3 <| And.intro d4 <| d5
  clear b hs p0 p1 s3 rr h5 h6 xd hrow d0 d1 d2 d3 d4 d5
  obtain ⟨hs, p0, p1, s3, rr, h5, h6, xd, hrow, d0, d1, d2, d3, d4, d5⟩ := G
  generalize wd.alloc (.cells #[.bool R.lo.s, .slice A5 n5 c5, .int .i64 R.lo.e, .bool R.hi.s, .slice A6 n6 c6, .int .i64 R.hi.e] 29) = u_2 at *
  generalize wd.heap.size = gv at *
  refine hK.out _ _ (by exact ⟨p0, p1, s3, d0, d1, d2, d3, d4, d5⟩) (fun hHeldv2 => ?_)
  clear hK K hHeldv1
  try simp only [Act.put]
  refine rdy 14 fun K hK => ?_
  obtain ⟨v', u_3, hr', g1, g2, g3⟩ := appi_run 40 hrow xv h5 h6 (by rw [hk9]; exact hkk) (by have := hs.lo; have := hs.rows.blk.gl; omega)
  obtain ⟨A9, c9, e9, _⟩ := g1.form
  generalize (Q i ++ [R]).length = n9 at e9
  subst e9
  have hkw : ∀ g, g < w.heap.size → g ≠ gr → (vs i).ownBlock ≠ some g → u_3.heap[g]? = w.heap[g]? := fun g h1 _ h3 => (g2.block g (by have := BW.size; omega) (fun e => h3 e.symm)).trans (BW.block g h1)
  have BN := grown_below g2 BB (fun g hg => ((hs.rows.row i hi).lt g hg).1) BB.size
  have hS2 : JSh (u_3.setCell ⟨gr, i, none⟩ (.slice A9 n9 c9)) w0.heap.size gs gr n st sx sp p (upd vs i (.slice A9 n9 c9)) (upd Q i (Q i ++ [R])) := jsh_put hs hi g1 g2 g3
  have hJX : ∀ (gx : Nat) (vx : Value) (L : List Iv), JX w w0.heap.size gx vx L → gx ≠ gr → (∀ k, vx.ownBlock = some k → (vs i).ownBlock ≠ some k) → JX (u_3.setCell ⟨gr, i, none⟩ (.slice A9 n9 c9)) w0.heap.size gx vx L := fun gx vx L h hne hd => (mv BW rfl h).far hs.rows hi g2 hne hd
  have hO9 : (Value.slice A9 n9 c9).ownBlock = (vs i).ownBlock ∨ ∃ k, (Value.slice A9 n9 c9).ownBlock = some k ∧ w.heap.size ≤ k := g3.imp id fun e => ⟨_, e, BW.size⟩
  have f9 : u_3.frozen? ⟨gr, i, none⟩ = false := jrws_frozen hs.rows hi g2 i
  have hne : ∀ g, w.heap.size ≤ g ∨ g = gs ∨ g = gr → some g ≠ (vs i).ownBlock := hown
  rw [hvi] at hr' hne
  rw [hvi] at g2
  rw [if_pos (by rfl)]
  unfold Oper.wp execOp
  simp only [List.getElem_toArray, List.getElem_cons_succ, List.getElem_cons_zero, resolve, invoke, builtin, Sem.run_bind, Sem.run_pure, Result.andThen_ok, List.map_toArray, List.map_cons, List.map_nil]
  change Oper.upon _ _ _ _ _ ((Sem.run _ (Builtin.append_ _ _ #[.slice Ar k9 cr, .slice (some ⟨gv, 0, none⟩) 1 1]) _).andThen _)
  rw [hr']
  go_simp
  replace p0 := g2.cell p0 (hne (w.heap.size) (.inl (by omega)))
  replace p1 := g2.cell p1 (hne (w.heap.size + 1) (.inl (by omega)))
  replace s3 := g2.cell s3 (hne (gs) (.inr (.inl rfl)))
  replace d0 := g2.cell d0 (hne (gd) (.inl (by omega)))
  replace d1 := g2.cell d1 (hne (gd) (.inl (by omega)))
  replace d2 := g2.cell d2 (hne (gd) (.inl (by omega)))
  replace d3 := g2.cell d3 (hne (gd) (.inl (by omega)))
  replace d4 := g2.cell d4 (hne (gd) (.inl (by omega)))
  replace d5 := g2.cell d5 (hne (gd) (.inl (by omega)))
  replace rr := g2.cell rr (hne gr (.inr (.inr rfl)))
  clear hr' g1 g2 g3 hs hrow xv h5 h6 xd BB
  refine hK.out _ _ (by exact ⟨p0, p1, s3, d0, d1, d2, d3, d4, d5⟩) (fun hHeldv3 => ?_)
  clear hK K hHeldv2
  try simp only [Act.put]
  refine tl 15 ?_
  refine rdy 16 fun K hK => ?_
  go_simp
  have BB := BN.setCell (p := ⟨gr, i, none⟩) hlo (.slice A9 n9 c9)
  replace hkw : ∀ g, g < w.heap.size → g ≠ gr → (vs i).ownBlock ≠ some g → (u_3.setCell ⟨gr, i, none⟩ (.slice A9 n9 c9)).heap[g]? = w.heap[g]? := fun g h1 h2 h3 => (Below.heap_setCell _ ⟨gr, i, none⟩ (.slice A9 n9 c9) g h2).trans (hkw g h1 h2 h3)
  replace p0 := cell_oth p0 (show w.heap.size ≠ gr by omega) i (.slice A9 n9 c9)
  replace p1 := cell_oth p1 (show w.heap.size + 1 ≠ gr by omega) i (.slice A9 n9 c9)
  replace s3 := cell_oth s3 (show gs ≠ gr by omega) i (.slice A9 n9 c9)
  replace d0 := cell_oth d0 (show gd ≠ gr by omega) i (.slice A9 n9 c9)
  replace d1 := cell_oth d1 (show gd ≠ gr by omega) i (.slice A9 n9 c9)
  replace d2 := cell_oth d2 (show gd ≠ gr by omega) i (.slice A9 n9 c9)
  replace d3 := cell_oth d3 (show gd ≠ gr by omega) i (.slice A9 n9 c9)
  replace d4 := cell_oth d4 (show gd ≠ gr by omega) i (.slice A9 n9 c9)
  replace d5 := cell_oth d5 (show gd ≠ gr by omega) i (.slice A9 n9 c9)
  refine hK.out _ _ (by exact ⟨p0, p1, s3, d0, d1, d2, d3, d4, d5⟩) (fun hHeldv4 => ?_)
  clear hK K hHeldv3
  try simp only [Act.put]
  refine wpAnyH_done (by kernel_rfl) ?_ _
  go_wp2
  exact bodyPost_ret (v := .int .i64 0) (by simp [results, Tryz.results21, go_sem]) rfl ⟨rfl, ⟨_, hS2, hO9⟩, hJX, hkw, BB⟩
 ·go_simp
  have b := below_alloc wd (.cells #[.bool R.lo.s, .slice A5 n5 c5, .int .i64 R.lo.e, .bool R.hi.s, .slice A6 n6 c6, .int .i64 R.hi.e] 29)
  have xv := Ibx.new wd R.lo.s A5 n5 c5 R.lo.e R.hi.s A6 n6 c6 R.hi.e
  replace BW := below_next BW BW.size b (by rfl) (by rfl) (by rfl) (by rfl)
  replace BB := below_next BB BB.size b (by rfl) (by rfl) (by rfl) (by rfl)
  have G := mv b (by rfl) <| And.intro hs <| And.intro p0 <| And.intro p1 <| And.intro s3 <| And.intro rr <| And.intro h5 <| And.intro h6 <| And.intro xd <| And.intro hrow <| And.intro d0 <| And.intro d1 <| And.intro d2 <| And.intro d3 <| And.intro d4 <| d5
  clear b hs p0 p1 s3 rr h5 h6 xd hrow d0 d1 d2 d3 d4 d5
  obtain ⟨hs, p0, p1, s3, rr, h5, h6, xd, hrow, d0, d1, d2, d3, d4, d5⟩ := G
  generalize wd.alloc (.cells #[.bool R.lo.s, .slice A5 n5 c5, .int .i64 R.lo.e, .bool R.hi.s, .slice A6 n6 c6, .int .i64 R.hi.e] 29) = u_1 at *
  generalize wd.heap.size = gv at *
  refine hK.out _ _ (by exact ⟨p0, p1, s3, d0, d1, d2, d3, d4, d5⟩) (fun hHeldv1 => ?_)
  clear hK K hHeldv0
  try simp only [Act.put]
  refine rdy 11 fun K hK => ?_
  go_simp
  refine hK.out _ _ (by exact ⟨p0, p1, s3, d0, d1, d2, d3, d4, d5⟩) (fun hHeldv2 => ?_)
  clear hK K hHeldv1
  try simp only [Act.put]
  refine rdy 14 fun K hK => ?_
  obtain ⟨v', u_3, hr', g1, g2, g3⟩ := appi_run 40 hrow xv h5 h6 (by rw [hk9]; exact hkk) (by have := hs.lo; have := hs.rows.blk.gl; omega)
  obtain ⟨A9, c9, e9, _⟩ := g1.form
  generalize (Q i ++ [R]).length = n9 at e9
  subst e9
  have hkw : ∀ g, g < w.heap.size → g ≠ gr → (vs i).ownBlock ≠ some g → u_3.heap[g]? = w.heap[g]? := fun g h1 _ h3 => (g2.block g (by have := BW.size; omega) (fun e => h3 e.symm)).trans (BW.block g h1)
  have BN := grown_below g2 BB (fun g hg => ((hs.rows.row i hi).lt g hg).1) BB.size
  have hS2 : JSh (u_3.setCell ⟨gr, i, none⟩ (.slice A9 n9 c9)) w0.heap.size gs gr n st sx sp p (upd vs i (.slice A9 n9 c9)) (upd Q i (Q i ++ [R])) := jsh_put hs hi g1 g2 g3
  have hJX : ∀ (gx : Nat) (vx : Value) (L : List Iv), JX w w0.heap.size gx vx L → gx ≠ gr → (∀ k, vx.ownBlock = some k → (vs i).ownBlock ≠ some k) → JX (u_3.setCell ⟨gr, i, none⟩ (.slice A9 n9 c9)) w0.heap.size gx vx L := fun gx vx L h hne hd => (mv BW rfl h).far hs.rows hi g2 hne hd
  have hO9 : (Value.slice A9 n9 c9).ownBlock = (vs i).ownBlock ∨ ∃ k, (Value.slice A9 n9 c9).ownBlock = some k ∧ w.heap.size ≤ k := g3.imp id fun e => ⟨_, e, BW.size⟩
  have f9 : u_3.frozen? ⟨gr, i, none⟩ = false := jrws_frozen hs.rows hi g2 i
  have hne : ∀ g, w.heap.size ≤ g ∨ g = gs ∨ g = gr → some g ≠ (vs i).ownBlock := hown
  rw [hvi] at hr' hne
  rw [hvi] at g2
  rw [if_pos (by rfl)]
  unfold Oper.wp execOp
  simp only [List.getElem_toArray, List.getElem_cons_succ, List.getElem_cons_zero, resolve, invoke, builtin, Sem.run_bind, Sem.run_pure, Result.andThen_ok, List.map_toArray, List.map_cons, List.map_nil]
  change Oper.upon _ _ _ _ _ ((Sem.run _ (Builtin.append_ _ _ #[.slice Ar k9 cr, .slice (some ⟨gv, 0, none⟩) 1 1]) _).andThen _)
  rw [hr']
  go_simp
  replace p0 := g2.cell p0 (hne (w.heap.size) (.inl (by omega)))
  replace p1 := g2.cell p1 (hne (w.heap.size + 1) (.inl (by omega)))
  replace s3 := g2.cell s3 (hne (gs) (.inr (.inl rfl)))
  replace d0 := g2.cell d0 (hne (gd) (.inl (by omega)))
  replace d1 := g2.cell d1 (hne (gd) (.inl (by omega)))
  replace d2 := g2.cell d2 (hne (gd) (.inl (by omega)))
  replace d3 := g2.cell d3 (hne (gd) (.inl (by omega)))
  replace d4 := g2.cell d4 (hne (gd) (.inl (by omega)))
  replace d5 := g2.cell d5 (hne (gd) (.inl (by omega)))
  replace rr := g2.cell rr (hne gr (.inr (.inr rfl)))
  clear hr' g1 g2 g3 hs hrow xv h5 h6 xd BB
  refine hK.out _ _ (by exact ⟨p0, p1, s3, d0, d1, d2, d3, d4, d5⟩) (fun hHeldv3 => ?_)
  clear hK K hHeldv2
  try simp only [Act.put]
  refine tl 15 ?_
  refine rdy 16 fun K hK => ?_
  go_simp
  have BB := BN.setCell (p := ⟨gr, i, none⟩) hlo (.slice A9 n9 c9)
  replace hkw : ∀ g, g < w.heap.size → g ≠ gr → (vs i).ownBlock ≠ some g → (u_3.setCell ⟨gr, i, none⟩ (.slice A9 n9 c9)).heap[g]? = w.heap[g]? := fun g h1 h2 h3 => (Below.heap_setCell _ ⟨gr, i, none⟩ (.slice A9 n9 c9) g h2).trans (hkw g h1 h2 h3)
  replace p0 := cell_oth p0 (show w.heap.size ≠ gr by omega) i (.slice A9 n9 c9)
  replace p1 := cell_oth p1 (show w.heap.size + 1 ≠ gr by omega) i (.slice A9 n9 c9)
  replace s3 := cell_oth s3 (show gs ≠ gr by omega) i (.slice A9 n9 c9)
  replace d0 := cell_oth d0 (show gd ≠ gr by omega) i (.slice A9 n9 c9)
  replace d1 := cell_oth d1 (show gd ≠ gr by omega) i (.slice A9 n9 c9)
  replace d2 := cell_oth d2 (show gd ≠ gr by omega) i (.slice A9 n9 c9)
  replace d3 := cell_oth d3 (show gd ≠ gr by omega) i (.slice A9 n9 c9)
  replace d4 := cell_oth d4 (show gd ≠ gr by omega) i (.slice A9 n9 c9)
  replace d5 := cell_oth d5 (show gd ≠ gr by omega) i (.slice A9 n9 c9)
  refine hK.out _ _ (by exact ⟨p0, p1, s3, d0, d1, d2, d3, d4, d5⟩) (fun hHeldv4 => ?_)
  clear hK K hHeldv3
  try simp only [Act.put]
  refine wpAnyH_done (by kernel_rfl) ?_ _
  go_wp2
  exact bodyPost_ret (v := .int .i64 0) (by simp [results, Tryz.results21, go_sem]) rfl ⟨rfl, ⟨_, hS2, hO9⟩, hJX, hkw, BB⟩

end Go.Proofs.YteagjlcmgiknmaaGreatDoor
