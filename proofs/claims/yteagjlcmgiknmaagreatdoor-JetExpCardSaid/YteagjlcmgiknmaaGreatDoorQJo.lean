/-
 The state of the loops of jet's Solve, and what is asked of a tape's lines so that all is told, at this translation. Condition: the slices read as limbs, the table of math/bits reads as its text lays it.
-/
import Derived.Test.YteagjlcmgiknmaaGreatDoorQJn
set_option maxHeartbeats 200000
set_option maxRecDepth 100000
namespace Go.Proofs.YteagjlcmgiknmaaGreatDoor
open Go.RowKit

/-- the sheet, the state's row, apart from the lines' rows -/
structure JSt (w0 w : World) (gs gr gx nl cx : Nat) (st sp vx : Value) (p : Int) (vs : Nat → Value) (Q : Nat → List Iv) (LX : List Iv) : Prop where
 sh : JSh w w0.heap.size gs gr nl st (.slice (some ⟨gx, 0, none⟩) 1 cx) sp p vs Q
 x : JX w w0.heap.size gx vx LX
 ne : gx ≠ gr
 far : ∀ i k, i < nl → vx.ownBlock = some k → (vs i).ownBlock ≠ some k
 below : Below w0.heap.size w0 w
section
variable {w0 w : World} {gs gr gx nl cx : Nat} {st sp vx : Value} {p : Int} {vs : Nat → Value} {Q : Nat → List Iv} {LX : List Iv}
theorem JSt.go (h : JSt w0 w gs gr gx nl cx st sp vx p vs Q LX) {w2 : World} (b : Below w.heap.size w w2) : JSt w0 w2 gs gr gx nl cx st sp vx p vs Q LX :=
 ⟨mv b rfl h.sh, mv b rfl h.x, h.ne, h.far, below_next h.below h.below.size b rfl rfl rfl rfl⟩
/-- the line i of L is told R behind the coefficients Q, LX -/
def NextOk (nl : Nat) (p : Int) (L : Nat → Ln) (i : Nat) (Q : Nat → List Iv) (LX : List Iv) (R : Iv) : Prop :=
 ∀ (w0 w : World) (gs gr gx cx : Nat) (st sp vx : Value) (vs : Nat → Value), JSt w0 w gs gr gx nl cx st sp vx p vs Q LX → Tab w → ∀ (Ac : Option Addr) (cc : Nat) (A1 : Option Addr) (n1 c1 : Nat) (A2 : Option Addr) (n2 c2 : Nat),
  Calls Tryz.prog 50 #[.pointer (some ⟨gs, 0, none⟩), .agg #[.int .i64 (L i).op, .int .i64 (L i).a, .int .i64 (L i).b, .bool (L i).k.lo.s, .slice A1 n1 c1, .int .i64 (L i).k.lo.e, .bool (L i).k.hi.s, .slice A2 n2 c2, .int .i64 (L i).k.hi.e], .slice Ac (Q i).length cc] w (GivI R w)
/-- behind n orders and i lines P holds of the rows: each line is told, and the state's next coefficient -/
structure Plan (S : Sc) (nl k ln : Nat) (p : Int) (L : Nat → Ln) (P : Nat → Nat → (Nat → List Iv) → List Iv → Prop) : Prop where
 reck : ∀ n i Q LX, n < k → i < nl → P n i Q LX → ∃ R, P n (i + 1) (upd Q i (Q i ++ [R])) LX ∧ NextOk nl p L i Q LX R
 raise : ∀ n Q LX, n < k → P n nl Q LX → ∃ R, divF S ((Q ln).getD n Iv.zero) ⟨wQ (n + 1), wQ (n + 1)⟩ p = .ok R ∧ P (n + 1) 0 Q (LX ++ [R])
 len : ∀ n i Q LX, P n i Q LX → LX.length = n + 1 ∧ ∀ j, j < nl → (Q j).length = if j < i then n + 1 else n
theorem jreck_st {L : Nat → Ln} {i : Nat} {R : Iv} {A1 : Option Addr} {n1 c1 : Nat} {A2 : Option Addr} {n2 c2 : Nat} (hT : Tab w) (h : JSt w0 w gs gr gx nl cx st sp vx p vs Q LX) (hi : i < nl) (hkk : (Q i).length ≤ 1000) (hN : NextOk nl p L i Q LX R) :
  Calls Tryz.prog 21 #[.pointer (some ⟨gs, 0, none⟩), .int .i64 (i : Int), .agg #[.int .i64 (L i).op, .int .i64 (L i).a, .int .i64 (L i).b, .bool (L i).k.lo.s, .slice A1 n1 c1, .int .i64 (L i).k.lo.e, .bool (L i).k.hi.s, .slice A2 n2 c2, .int .i64 (L i).k.hi.e]] w (fun en w' => en = .returned (.int .i64 0) ∧ ∃ v', JSt w0 w' gs gr gx nl cx st sp vx p (upd vs i v') (upd Q i (Q i ++ [R])) LX) := by
 refine (jreckon_ok (w0 := w0) (R := R) (kk := (L i).k) h.below h.sh hi hkk (fun Ac cc _ w2 b => hN w0 w2 gs gr gx cx st sp vx vs (h.go b) (mv b rfl hT) Ac cc A1 n1 c1 A2 n2 c2)).mono ?_
 rintro en w' ⟨rfl, ⟨v', h1, h2⟩, h3, _, b⟩
 refine ⟨rfl, v', h1, h3 gx vx LX h.x h.ne (fun k hk => h.far i k hi hk), h.ne, fun j k hj hk => ?_, b⟩
 by_cases e : j = i
 ·subst e
  rw [upd_at]
  rcases h2 with h2 | ⟨k2, h2, h4⟩
  ·rw [h2]; exact h.far j k hj hk
  ·rw [h2]
   intro e
   injection e with e
   have := (h.x.row.lt k hk).2
   omega
 ·rw [upd_far e]; exact h.far j k hj hk
theorem jraise_st (S : Sc) {n ln go oo co : Nat} {R : Iv} (hT : Tab w) (h : JSt w0 w gs gr gx nl cx st sp vx p vs Q LX) (ho : w.cell? ⟨go, oo, none⟩ = some (.int .i64 (ln : Int))) (hl : ln < nl) (hn : n < (Q ln).length) (hn2 : n ≤ 12) (hkk : LX.length ≤ 1000) (hR : divF S ((Q ln).getD n Iv.zero) ⟨wQ (n + 1), wQ (n + 1)⟩ p = .ok R) :
  Calls Tryz.prog 22 #[.pointer (some ⟨gs, 0, none⟩), .slice (some ⟨go, oo, none⟩) 1 co, .int .i64 (n : Int)] w (fun en w' => en = .returned (.int .i64 0) ∧ ∃ v', JSt w0 w' gs gr gx nl cx st sp v' p vs Q (LX ++ [R])) := by
 refine (jraise_ok S hT h.below h.sh h.x h.ne h.far ho hl hn hn2 hkk hR).mono ?_
 rintro en w' ⟨rfl, ⟨v', h1, h2⟩, h3, b⟩
 refine ⟨rfl, v', h3, h1, h.ne, fun j k hj hk e => ?_, b⟩
 rcases h2 with h2 | ⟨k2, h2, h4⟩
 ·rw [h2] at hk; exact h.far j k hj hk e
 ·rw [h2] at hk
  injection hk with hk
  have := ((h.sh.rows.row j hj).lt k e).2
  omega
end
/-- two intervals in one block -/
theorem rds_two {w : World} {g : Nat} {x y : Iv} {A1 : Option Addr} {n1 c1 : Nat} {A2 : Option Addr} {n2 c2 : Nat} {A3 : Option Addr} {n3 c3 : Nat} {A4 : Option Addr} {n4 c4 : Nat} (hb : Blk w g #[.bool x.lo.s, .slice A1 n1 c1, .int .i64 x.lo.e, .bool x.hi.s, .slice A2 n2 c2, .int .i64 x.hi.e, .bool y.lo.s, .slice A3 n3 c3, .int .i64 y.lo.e, .bool y.hi.s, .slice A4 n4 c4, .int .i64 y.hi.e] 29)
  (h1 : Rd w .u64 Go.Proofs.YteagjlcmgiknmaaGreatDoor.W A1 n1 c1 x.lo.l) (h2 : Rd w .u64 Go.Proofs.YteagjlcmgiknmaaGreatDoor.W A2 n2 c2 x.hi.l) (h3 : Rd w .u64 Go.Proofs.YteagjlcmgiknmaaGreatDoor.W A3 n3 c3 y.lo.l) (h4 : Rd w .u64 Go.Proofs.YteagjlcmgiknmaaGreatDoor.W A4 n4 c4 y.hi.l) : RdS w (some ⟨g, 0, none⟩) 2 2 (fun i => if i = 0 then x else y) := by
 refine ⟨Nat.le_refl _, by omega, fun _ => ⟨g, 0, rfl, fun i hi => ?_⟩⟩
 match i, hi with
 | 0, _ => exact ⟨A1, n1, c1, A2, n2, c2, ⟨hb.at 0, hb.at 1, hb.at 2, hb.at 3, hb.at 4, hb.at 5⟩, h1, h2⟩
 | 1, _ => exact ⟨A3, n3, c3, A4, n4, c4, ⟨hb.at 6, hb.at 7, hb.at 8, hb.at 9, hb.at 10, hb.at 11⟩, h3, h4⟩
theorem rds_one {w : World} {g : Nat} {x : Iv} {A1 : Option Addr} {n1 c1 : Nat} {A2 : Option Addr} {n2 c2 : Nat} (hb : Ibx w g x.lo.s A1 n1 c1 x.lo.e x.hi.s A2 n2 c2 x.hi.e)
  (h1 : Rd w .u64 Go.Proofs.YteagjlcmgiknmaaGreatDoor.W A1 n1 c1 x.lo.l) (h2 : Rd w .u64 Go.Proofs.YteagjlcmgiknmaaGreatDoor.W A2 n2 c2 x.hi.l) : RdS w (some ⟨g, 0, none⟩) 1 1 (fun _ => x) := by
 refine ⟨Nat.le_refl _, by omega, fun _ => ⟨g, 0, rfl, fun i hi => ?_⟩⟩
 match i, hi with
 | 0, _ => exact ⟨A1, n1, c1, A2, n2, c2, hb.held, h1, h2⟩
/-- a block of rows is made, as a run -/
theorem makeR_run (w : World) {n : Nat} (b0 : Nat) (hn : n ≤ 1000000) : ∃ w', (Instr.makeSlice 36 (.int .i64 (n : Int)) (.int .i64 (n : Int))).run Tryz.prog w = .ok (.slice (some ⟨w.heap.size, 0, none⟩) n n) w' ∧ Rws w' b0 w.heap.size n (fun _ => .slice none 0 0) (fun _ => []) ∧ w.grownBy w' none := by
 obtain ⟨i0, hi, hz0, hz1, hz2⟩ := info_partsD infoR
 obtain ⟨w', hrun, h1, h2⟩ := run_make_full (P := Tryz.prog) w w.heap.size 36 40 i0 (.slice none 0 0) 1 Tryz.underlying36 hi hz0 hz1 .i64 .i64 n (by rw [hz2]; omega) (by unfold maxLen; omega) (Nat.le_refl _)
 refine ⟨w', hrun, ⟨?_, fun i _ => irow_nil _ _, fun i j k _ _ _ h => by cases h⟩, h2⟩
 have h3 := made_blk h1
 have e : (madeCells (Value.cells (.slice none 0 0)) (n * 1)).toList.toArray = rls n fun _ => .slice none 0 0 := by
  rw [show (Value.cells (.slice none 0 0)) = #[Value.slice none 0 0] from rfl, toList_madeCells_one, Nat.mul_one]
  unfold rls
  congr 1
  apply List.ext_getElem?
  intro i
  simp [List.getElem?_replicate, List.getElem?_map]
  split <;> simp_all
 rw [← e]
 exact h3
theorem blk_frozen {w : World} {g : Nat} {cs : Array Value} {T : TypeId} (h : Blk w g cs T) (i : Nat) : w.frozen? ⟨g, i, none⟩ = false := by
 simp [World.frozen?, h.blk]
theorem blk_put5 {w : World} {g : Nat} {T : TypeId} {a0 a1 a2 a3 a4 : Value} (h : Blk w g #[a0, a1, a2, a3, a4] T) (b0 b1 b2 b3 b4 : Value) : Blk (((((w.setCell ⟨g, 0, none⟩ b0).setCell ⟨g, 1, none⟩ b1).setCell ⟨g, 2, none⟩ b2).setCell ⟨g, 3, none⟩ b3).setCell ⟨g, 4, none⟩ b4) g #[b0, b1, b2, b3, b4] T := by
 refine ⟨?_⟩
 have := h.blk
 simp [World.setCell, Array.getElem?_modify, this]
theorem jsh_new {w : World} {b0 gs gr n : Nat} {st : Value} {p : Int} {a0 a1 a2 a3 a4 : Value} (h : Blk w gs #[a0, a1, a2, a3, a4] 56) (hr : Rws w b0 gr n (fun _ => .slice none 0 0) (fun _ => [])) (hb : b0 ≤ gr) : JSh (((((w.setCell ⟨gs, 0, none⟩ st).setCell ⟨gs, 1, none⟩ (.slice none 0 0)).setCell ⟨gs, 2, none⟩ (.slice none 0 0)).setCell ⟨gs, 3, none⟩ (.slice (some ⟨gr, 0, none⟩) n n)).setCell ⟨gs, 4, none⟩ (.int .i64 p)) b0 gs gr n st (.slice none 0 0) (.slice none 0 0) p (fun _ => .slice none 0 0) (fun _ => []) := by
 have hne : gr ≠ gs := fun e => by
  have h1 := h.blk
  rw [← e, hr.blk.blk] at h1
  injection h1 with h1
  injection h1 with _ h1
  exact absurd h1 (by decide)
 refine ⟨blk_put5 h _ _ _ _ _, ⟨⟨?_⟩, fun i _ => irow_nil _ _, hr.far⟩, hb⟩
 have h2 := hr.blk.blk
 rw [Below.heap_setCell _ ⟨gs, 4, none⟩ _ gr hne, Below.heap_setCell _ ⟨gs, 3, none⟩ _ gr hne, Below.heap_setCell _ ⟨gs, 2, none⟩ _ gr hne, Below.heap_setCell _ ⟨gs, 1, none⟩ _ gr hne, Below.heap_setCell _ ⟨gs, 0, none⟩ _ gr hne]
 exact h2
theorem below_put5 {b0 g : Nat} {w0 w : World} (h : Below b0 w0 w) (hg : b0 ≤ g) (a0 a1 a2 a3 a4 : Value) : Below b0 w0 (((((w.setCell ⟨g, 0, none⟩ a0).setCell ⟨g, 1, none⟩ a1).setCell ⟨g, 2, none⟩ a2).setCell ⟨g, 3, none⟩ a3).setCell ⟨g, 4, none⟩ a4) :=
 ((((h.setCell (p := ⟨g, 0, none⟩) hg a0).setCell (p := ⟨g, 1, none⟩) hg a1).setCell (p := ⟨g, 2, none⟩) hg a2).setCell (p := ⟨g, 3, none⟩) hg a3).setCell (p := ⟨g, 4, none⟩) hg a4
theorem JX.lower {w : World} {b0 b1 gx : Nat} {vx : Value} {L : List Iv} (h : JX w b1 gx vx L) (hb : b0 ≤ b1) : JX w b0 gx vx L := ⟨h.blk, h.row.lower hb, Nat.le_trans hb h.lo⟩
end Go.Proofs.YteagjlcmgiknmaaGreatDoor
