/-
 Contract of the reference's Div of intervals, at this translation. Condition: the slices read as limbs, the table of math/bits reads as its text lays it.
-/
import Derived.Test.YtcbkhmejlaaieaaGreatDoorQLm
namespace Go.Proofs.YtcbkhmejlaaieaaGreatDoor
open Go.RowKit
theorem pan_blockLn {Q : Exit → Act → World → Prop} {k : Nat} (h : PanQ Q) : PanQ (Exit.inBlock k Q) := fun c a d v w x => h c a d v w x
theorem tlLn {P : Program} {Q : Exit → Act → World → Prop} {ops : Array Oper} {S : World → Prop} {md : Region.Mode} {oi : Oper} {v : Value} {fuel d : Nat} {listed l2 : Array Bool} {a a2 : Act} {w : World} (i : Nat)
    (h : wpAnyH P md ops Q S fuel l2 a2 w) (hi : ops[i]? = some oi := by rfl)
    (hs : Region.noSelect ops = true := by kernel_rfl) (hf : Region.free md ops listed i = true := by kernel_rfl) (hr : (Region.ready md ops listed).contains i = true := by kernel_rfl) (hQ : PanQ Q := by repeat first | with_reducible exact pan_body | with_reducible apply pan_then | with_reducible apply pan_blockLn)
    (hd : oi.dst = some d := by rfl) (hy : YieldsIf P ops S oi v a := by exact Or.inl ⟨by rfl, by (intro w hSw; (try dsimp only at hSw); go_simp); try with_reducible rfl⟩)
    (hl : listed.setIfInBounds i true = l2 := by first | (simp only [List.setIfInBounds_toArray, List.set_cons_zero, List.set_cons_succ]; rfl) | rfl)
    (ha : a.put (some d) v = a2 := by (simp only [Act.put, List.setIfInBounds_toArray, List.set_cons_zero, List.set_cons_succ]; rfl)) (hS : S w := by assumption) : wpAnyH P md ops Q S (fuel + 1) listed a w :=
  wpAnyH_take hi hs hf hr (fun c a w h => hQ c a oi.dst v w h) hy hS (by rw [hd, hl, ha]; exact h)

theorem rquot_tell (S : Sc) {p : Int} {up : Bool} {w : World} {a b : Rw} {A1 : Option Addr} {n1 c1 : Nat} {A2 : Option Addr} {n2 c2 : Nat} (h1 : Rd w .u64 Go.Proofs.YtcbkhmejlaaieaaGreatDoor.W A1 n1 c1 a.l) (h2 : Rd w .u64 Go.Proofs.YtcbkhmejlaaieaaGreatDoor.W A2 n2 c2 b.l) (hp : p ≤ 1000 ∨ 2000 < p) : Calls Tryz.prog 69 #[.agg #[.bool a.s, .slice A1 n1 c1, .int .i64 a.e], .agg #[.bool b.s, .slice A2 n2 c2, .int .i64 b.e], .int .i64 p, .bool up] w (TellQ (quoO S p up a b) w) := tells_oc S quotR_only quotR_null (rquotd_raw h1 h2 hp)
/-- an array of two numbers -/
structure Arr (w : World) (g : Nat) (s : Bool) (A : Option Addr) (n c : Nat) (e : Int) (t : Bool) (B : Option Addr) (m d : Nat) (f : Int) : Prop where
 blk : w.heap[g]? = some (.cells #[.bool s, .slice A n c, .int .i64 e, .bool t, .slice B m d, .int .i64 f] 63 (0, 0))
section
variable {w w' : World} {g g' : Nat} {s t : Bool} {A B : Option Addr} {n c m d : Nat} {e f : Int}
theorem Arr.gl (h : Arr w g s A n c e t B m d f) : g < w.heap.size := by
 rcases Nat.lt_or_ge g w.heap.size with hlt | hge
 ·exact hlt
 ·have := h.blk; rw [Array.getElem?_eq_none hge] at this; cases this
theorem Arr.at (h : Arr w g s A n c e t B m d f) (i : Nat) : w.cell? ⟨g, i, none⟩ = (#[.bool s, .slice A n c, .int .i64 e, .bool t, .slice B m d, .int .i64 f] : Array Value)[i]? := cell_of_row w g i _ 63 (0, 0) h.blk
theorem Arr.held (h : Arr w g s A n c e t B m d f) : w.cell? ⟨g, 0, none⟩ = some (.bool s) ∧ w.cell? ⟨g, 1, none⟩ = some (.slice A n c) ∧ w.cell? ⟨g, 2, none⟩ = some (.int .i64 e) ∧ w.cell? ⟨g, 3, none⟩ = some (.bool t) ∧ w.cell? ⟨g, 4, none⟩ = some (.slice B m d) ∧ w.cell? ⟨g, 5, none⟩ = some (.int .i64 f) := ⟨h.at 0, h.at 1, h.at 2, h.at 3, h.at 4, h.at 5⟩
theorem Arr.frozen (h : Arr w g s A n c e t B m d f) (i : Nat) : w.frozen? ⟨g, i, none⟩ = false := by
 have := h.blk
 simp [World.frozen?, this]
theorem Arr.open (h : Arr w g s A n c e t B m d f) : w.frozen? ⟨g, 0, none⟩ = false ∧ w.frozen? ⟨g, 1, none⟩ = false ∧ w.frozen? ⟨g, 2, none⟩ = false ∧ w.frozen? ⟨g, 3, none⟩ = false ∧ w.frozen? ⟨g, 4, none⟩ = false ∧ w.frozen? ⟨g, 5, none⟩ = false := ⟨h.frozen 0, h.frozen 1, h.frozen 2, h.frozen 3, h.frozen 4, h.frozen 5⟩
theorem Arr.next {X w2 : World} (h : Arr w g s A n c e t B m d f) (b : Below X.heap.size X w2) (he : X.heap = w.heap) : Arr w2 g s A n c e t B m d f := ⟨(b.block g (by rw [he]; exact h.gl)).trans (by rw [he]; exact h.blk)⟩
instance {w w2 : World} {g : Nat} {s : Bool} {A : Option Addr} {n c : Nat} {e : Int} {t : Bool} {B : Option Addr} {m d : Nat} {f : Int} : Moves w w2 (Arr w g s A n c e t B m d f) (Arr w2 g s A n c e t B m d f) := ⟨fun _ b e h => h.next b e⟩
theorem Arr.new (w : World) (s : Bool) (A : Option Addr) (n c : Nat) (e : Int) (t : Bool) (B : Option Addr) (m d : Nat) (f : Int) : Arr (w.alloc (.cells #[.bool s, .slice A n c, .int .i64 e, .bool t, .slice B m d, .int .i64 f] 63)) w.heap.size s A n c e t B m d f := ⟨heap_alloc_new w _⟩
theorem Arr.no (h : Arr w g s A n c e t B m d f) (i x : Nat) : w.cell? ⟨g, i, none⟩ ≠ some (.int .u64 (x : Int)) := by
 rw [h.at i]
 refine nol_at (fun u hu y hy => ?_) i x
 simp at hu
 rcases hu with rfl | rfl | rfl | rfl | rfl | rfl <;> cases hy
theorem Arr.put0 (h : Arr w g s A n c e t B m d f) (s' : Bool) (A' : Option Addr) (n' c' : Nat) (e' : Int) : Arr (((w.setCell ⟨g, 0, none⟩ (.bool s')).setCell ⟨g, 1, none⟩ (.slice A' n' c')).setCell ⟨g, 2, none⟩ (.int .i64 e')) g s' A' n' c' e' t B m d f := by
 have := h.blk
 refine ⟨?_⟩
 simp [World.setCell, Array.getElem?_modify, this]
theorem Arr.put1 (h : Arr w g s A n c e t B m d f) (s' : Bool) (A' : Option Addr) (n' c' : Nat) (e' : Int) : Arr (((w.setCell ⟨g, 3, none⟩ (.bool s')).setCell ⟨g, 4, none⟩ (.slice A' n' c')).setCell ⟨g, 5, none⟩ (.int .i64 e')) g s A n c e s' A' n' c' e' := by
 have := h.blk
 refine ⟨?_⟩
 simp [World.setCell, Array.getElem?_modify, this]
end
section
variable {w : World} {g k : Nat}
/-- three stores into a block that holds no limbs, at any place: what lies elsewhere stays -/
theorem rd_off3 {Q : Nat} {C : Option Addr} {n z : Nat} {l : List Nat} (h : Rd w .u64 Q C n z l) (hno : ∀ i x : Nat, w.cell? ⟨g, i, none⟩ ≠ some (.int .u64 (x : Int))) (i j m : Nat) (u0 u1 u2 : Value) : Rd (((w.setCell ⟨g, i, none⟩ u0).setCell ⟨g, j, none⟩ u1).setCell ⟨g, m, none⟩ u2) .u64 Q C n z l := by
 have hne := h.off hno
 exact ((h.set1 hne i u0).set1 hne j u1).set1 hne m u2
theorem cell_off3 {i : Nat} {v : Value} (h : w.cell? ⟨k, i, none⟩ = some v) (hne : k ≠ g) (a b c : Nat) (u0 u1 u2 : Value) : (((w.setCell ⟨g, a, none⟩ u0).setCell ⟨g, b, none⟩ u1).setCell ⟨g, c, none⟩ u2).cell? ⟨k, i, none⟩ = some v := cell_oth (cell_oth (cell_oth h hne a u0) hne b u1) hne c u2
theorem qs_off3 {L : List Rw} (h : Qs w k L) (hno : ∀ i x : Nat, w.cell? ⟨g, i, none⟩ ≠ some (.int .u64 (x : Int))) (hne : k ≠ g) (a b c : Nat) (u0 u1 u2 : Value) : Qs (((w.setCell ⟨g, a, none⟩ u0).setCell ⟨g, b, none⟩ u1).setCell ⟨g, c, none⟩ u2) k L := fun i hi => by
 obtain ⟨A, n, d, ⟨h0, h1, h2⟩, r⟩ := h i hi
 exact ⟨A, n, d, ⟨cell_off3 h0 hne a b c u0 u1 u2, cell_off3 h1 hne a b c u0 u1 u2, cell_off3 h2 hne a b c u0 u1 u2⟩, rd_off3 r hno a b c u0 u1 u2⟩
theorem ibx_off3 {s : Bool} {A : Option Addr} {n c : Nat} {e : Int} {t : Bool} {B : Option Addr} {m d : Nat} {f : Int} (h : Ibx w k s A n c e t B m d f) (hne : k ≠ g) (a b z : Nat) (u0 u1 u2 : Value) : Ibx (((w.setCell ⟨g, a, none⟩ u0).setCell ⟨g, b, none⟩ u1).setCell ⟨g, z, none⟩ u2) k s A n c e t B m d f := ((h.other hne a u0).other hne b u1).other hne z u2
theorem below_off3 {b0 : Nat} {w0 : World} (h : Below b0 w0 w) (hg : b0 ≤ g) (a b c : Nat) (u0 u1 u2 : Value) : Below b0 w0 (((w.setCell ⟨g, a, none⟩ u0).setCell ⟨g, b, none⟩ u1).setCell ⟨g, c, none⟩ u2) := ((h.setCell hg u0).setCell hg u1).setCell hg u2
end

set_option maxRecDepth 100000 in
set_option maxHeartbeats 8000000 in
theorem rdiv5_any (S : Sc) {w : World} {x y : Iv} {p : Int} {A1 : Option Addr} {n1 c1 : Nat} {A2 : Option Addr} {n2 c2 : Nat} {A3 : Option Addr} {n3 c3 : Nat} {A4 : Option Addr} {n4 c4 : Nat} (h1 : Rd w .u64 Go.Proofs.YtcbkhmejlaaieaaGreatDoor.W A1 n1 c1 x.lo.l) (h2 : Rd w .u64 Go.Proofs.YtcbkhmejlaaieaaGreatDoor.W A2 n2 c2 x.hi.l) (h3 : Rd w .u64 Go.Proofs.YtcbkhmejlaaieaaGreatDoor.W A3 n3 c3 y.lo.l) (h4 : Rd w .u64 Go.Proofs.YtcbkhmejlaaieaaGreatDoor.W A4 n4 c4 y.hi.l) (hp : p ≤ 1000 ∨ 2000 < p) :
  Calls Tryz.prog 23 #[.agg #[.bool x.lo.s, .slice A1 n1 c1, .int .i64 x.lo.e, .bool x.hi.s, .slice A2 n2 c2, .int .i64 x.hi.e], .agg #[.bool y.lo.s, .slice A3 n3 c3, .int .i64 y.lo.e, .bool y.hi.s, .slice A4 n4 c4, .int .i64 y.hi.e], .int .i64 p] w (TellO (face2 S x y p (divI S x y p)) w) := by
 obtain ⟨q, hq⟩ : ∃ q : Except Int Iv, q = face2 S x y p (divI S x y p) := ⟨_, rfl⟩
 rw [← hq]
 have HQ := Lib.hid hq
 clear hq
 have BB := three_below w (.cells #[.bool x.lo.s, .slice A1 n1 c1, .int .i64 x.lo.e, .bool x.hi.s, .slice A2 n2 c2, .int .i64 x.hi.e] 26) (.cells #[.bool y.lo.s, .slice A3 n3 c3, .int .i64 y.lo.e, .bool y.hi.s, .slice A4 n4 c4, .int .i64 y.hi.e] 26) (.cells #[.bool false, .slice none 0 0, .int .i64 0, .bool false, .slice none 0 0, .int .i64 0] 26)
 obtain ⟨_, xa, xb⟩ := two_ivl w (x := x) (y := y) (A1 := A1) (n1 := n1) (c1 := c1) (A2 := A2) (n2 := n2) (c2 := c2) (A3 := A3) (n3 := n3) (c3 := c3) (A4 := A4) (n4 := n4) (c4 := c4)
 replace xa := xa.alloc (.cells #[.bool false, .slice none 0 0, .int .i64 0, .bool false, .slice none 0 0, .int .i64 0] 26)
 replace xb := xb.alloc (.cells #[.bool false, .slice none 0 0, .int .i64 0, .bool false, .slice none 0 0, .int .i64 0] 26)
 have r := ibx_two w (.cells #[.bool x.lo.s, .slice A1 n1 c1, .int .i64 x.lo.e, .bool x.hi.s, .slice A2 n2 c2, .int .i64 x.hi.e] 26) (.cells #[.bool y.lo.s, .slice A3 n3 c3, .int .i64 y.lo.e, .bool y.hi.s, .slice A4 n4 c4, .int .i64 y.hi.e] 26) false none 0 0 0 false none 0 0 0
 obtain ⟨a0, a1, a2, a3, a4, a5⟩ := xa.held
 obtain ⟨e0, e1, e2, e3, e4, e5⟩ := xb.held
 clear xa xb
 have G := mv BB rfl (J4 h1 h2 h3 h4)
 clear h1 h2 h3 h4
 obtain ⟨h1, h2, h3, h4⟩ := G
 have hnil : ∀ W2 : World, Rd W2 .u64 Go.Proofs.YtcbkhmejlaaieaaGreatDoor.W none 0 0 Rw.zero.l := fun _ => Rd.nil _ _ _ _ (by omega)
 go_enter Tryz.func23, Tryz.ntmps23
 obtain ⟨z1_, hz⟩ : ∃ z, z = mayI S.K x := ⟨_, rfl⟩
 have HZ1 := Lib.hid hz
 clear hz
 obtain ⟨z2_, hz⟩ : ∃ z, z = mayI S.K y := ⟨_, rfl⟩
 have HZ2 := Lib.hid hz
 clear hz
 obtain ⟨z3_, hz⟩ : ∃ z, z = prec p := ⟨_, rfl⟩
 have HZ3 := Lib.hid hz
 clear hz
 go_wp2_with fail
 refine (show Calls _ _ _ _ (Bools z1_ _) from by rw [HZ1.out]; exact rmayi_any (K := S.K) S.big h1 h2).mono ?_
 rintro en w1 ⟨rfl, b⟩
 replace BB := bnx BB b rfl rfl rfl rfl
 have G := mv b rfl (J17 h1 h2 h3 h4 r a0 a1 a2 a3 a4 a5 e0 e1 e2 e3 e4 e5)
 clear b h1 h2 h3 h4 r a0 a1 a2 a3 a4 a5 e0 e1 e2 e3 e4 e5
 obtain ⟨h1, h2, h3, h4, r, a0, a1, a2, a3, a4, a5, e0, e1, e2, e3, e4, e5⟩ := G
 cases z1_
 ·have HL := Lib.hid (show q = .error 1 from by rw [HQ.out]; unfold face2; rw [if_neg (by intro h; rw [← HZ1.out] at h; simp at h)])
  obtain ⟨f0, f1, f2, f3, f4, f5⟩ := r.open
  obtain ⟨z0, z1, z2, z3, z4, z5⟩ := r.held
  go_wp2
  have qq := r.put false none 0 0 0 false none 0 0 0
  have HB3 := below_put6 (g := w.heap.size + 2) BB (by omega) (.bool false) (.slice none 0 0) (.int .i64 0) (.bool false) (.slice none 0 0) (.int .i64 0)
  obtain ⟨z0, z1, z2, z3, z4, z5⟩ := qq.held
  exact bodyPost_ret (v := .tuple #[.agg #[.bool false, .slice none 0 0, .int .i64 0, .bool false, .slice none 0 0, .int .i64 0], .int .i64 1]) (by simp [results, Tryz.results23, go_sem, z0, z1, z2, z3, z4, z5]) rfl (by rw [HL.out]; exact ⟨none, 0, 0, none, 0, 0, rfl, Rd.nil _ _ _ _ (by omega), Rd.nil _ _ _ _ (by omega), HB3⟩)
 go_wp2_with fail
 refine (show Calls _ _ _ _ (Bools z2_ _) from by rw [HZ2.out]; exact rmayi_any (K := S.K) S.big h3 h4).mono ?_
 rintro en w2 ⟨rfl, b⟩
 replace BB := bnx BB b rfl rfl rfl rfl
 have G := mv b rfl (J17 h1 h2 h3 h4 r a0 a1 a2 a3 a4 a5 e0 e1 e2 e3 e4 e5)
 clear b h1 h2 h3 h4 r a0 a1 a2 a3 a4 a5 e0 e1 e2 e3 e4 e5
 obtain ⟨h1, h2, h3, h4, r, a0, a1, a2, a3, a4, a5, e0, e1, e2, e3, e4, e5⟩ := G
 cases z2_
 ·have HL := Lib.hid (show q = .error 1 from by rw [HQ.out]; unfold face2; rw [if_neg (by intro h; rw [← HZ2.out] at h; simp at h)])
  obtain ⟨f0, f1, f2, f3, f4, f5⟩ := r.open
  obtain ⟨z0, z1, z2, z3, z4, z5⟩ := r.held
  go_wp2
  have qq := r.put false none 0 0 0 false none 0 0 0
  have HB3 := below_put6 (g := w.heap.size + 2) BB (by omega) (.bool false) (.slice none 0 0) (.int .i64 0) (.bool false) (.slice none 0 0) (.int .i64 0)
  obtain ⟨z0, z1, z2, z3, z4, z5⟩ := qq.held
  exact bodyPost_ret (v := .tuple #[.agg #[.bool false, .slice none 0 0, .int .i64 0, .bool false, .slice none 0 0, .int .i64 0], .int .i64 1]) (by simp [results, Tryz.results23, go_sem, z0, z1, z2, z3, z4, z5]) rfl (by rw [HL.out]; exact ⟨none, 0, 0, none, 0, 0, rfl, Rd.nil _ _ _ _ (by omega), Rd.nil _ _ _ _ (by omega), HB3⟩)
 go_wp2_with fail
 refine (show Calls _ _ _ _ (Bools z3_ _) from by rw [HZ3.out]; exact rprec_any).mono ?_
 rintro en w3 ⟨rfl, b⟩
 replace BB := bnx BB b rfl rfl rfl rfl
 have G := mv b rfl (J17 h1 h2 h3 h4 r a0 a1 a2 a3 a4 a5 e0 e1 e2 e3 e4 e5)
 clear b h1 h2 h3 h4 r a0 a1 a2 a3 a4 a5 e0 e1 e2 e3 e4 e5
 obtain ⟨h1, h2, h3, h4, r, a0, a1, a2, a3, a4, a5, e0, e1, e2, e3, e4, e5⟩ := G
 cases z3_
 ·have HL := Lib.hid (show q = .error 1 from by rw [HQ.out]; unfold face2; rw [if_neg (by intro h; rw [← HZ3.out] at h; simp at h)])
  obtain ⟨f0, f1, f2, f3, f4, f5⟩ := r.open
  obtain ⟨z0, z1, z2, z3, z4, z5⟩ := r.held
  go_wp2
  have qq := r.put false none 0 0 0 false none 0 0 0
  have HB3 := below_put6 (g := w.heap.size + 2) BB (by omega) (.bool false) (.slice none 0 0) (.int .i64 0) (.bool false) (.slice none 0 0) (.int .i64 0)
  obtain ⟨z0, z1, z2, z3, z4, z5⟩ := qq.held
  exact bodyPost_ret (v := .tuple #[.agg #[.bool false, .slice none 0 0, .int .i64 0, .bool false, .slice none 0 0, .int .i64 0], .int .i64 1]) (by simp [results, Tryz.results23, go_sem, z0, z1, z2, z3, z4, z5]) rfl (by rw [HL.out]; exact ⟨none, 0, 0, none, 0, 0, rfl, Rd.nil _ _ _ _ (by omega), Rd.nil _ _ _ _ (by omega), HB3⟩)
 have HF := Lib.hid (show q = divI S x y p from by rw [HQ.out]; unfold face2; rw [if_pos (by rw [← HZ1.out, ← HZ2.out, ← HZ3.out]; rfl)])
 clear HZ1 HZ2 HZ3
 obtain ⟨zh, hz⟩ : ∃ z, z = hasI S.K y Rw.zero := ⟨_, rfl⟩
 have HZ := Lib.hid hz
 clear hz
 go_wp2_with fail
 refine (show Calls _ _ _ _ (Bools zh _) from by rw [HZ.out]; exact rhas_any (K := S.K) (d := Rw.zero) S.big h3 h4 (hnil _)).mono ?_
 rintro en w4 ⟨rfl, b⟩
 replace BB := bnx BB b rfl rfl rfl rfl
 have G := mv b rfl (J17 h1 h2 h3 h4 r a0 a1 a2 a3 a4 a5 e0 e1 e2 e3 e4 e5)
 clear b h1 h2 h3 h4 r a0 a1 a2 a3 a4 a5 e0 e1 e2 e3 e4 e5
 obtain ⟨h1, h2, h3, h4, r, a0, a1, a2, a3, a4, a5, e0, e1, e2, e3, e4, e5⟩ := G
 cases zh
 rotate_left
 ·have HL := Lib.hid (show q = .error 4 from HF.out.trans (by unfold divI; rw [if_pos HZ.out.symm]))
  obtain ⟨f0, f1, f2, f3, f4, f5⟩ := r.open
  obtain ⟨z0, z1, z2, z3, z4, z5⟩ := r.held
  go_wp2
  have qq := r.put false none 0 0 0 false none 0 0 0
  have HB3 := below_put6 (g := w.heap.size + 2) BB (by omega) (.bool false) (.slice none 0 0) (.int .i64 0) (.bool false) (.slice none 0 0) (.int .i64 0)
  obtain ⟨z0, z1, z2, z3, z4, z5⟩ := qq.held
  exact bodyPost_ret (v := .tuple #[.agg #[.bool false, .slice none 0 0, .int .i64 0, .bool false, .slice none 0 0, .int .i64 0], .int .i64 4]) (by simp [results, Tryz.results23, go_sem, z0, z1, z2, z3, z4, z5]) rfl (by rw [HL.out]; exact ⟨none, 0, 0, none, 0, 0, rfl, Rd.nil _ _ _ _ (by omega), Rd.nil _ _ _ _ (by omega), HB3⟩)
 have HD := Lib.hid (show q = thn (corO (quoO S p false) x y) (fun L => thn (corO (quoO S p true) x y) fun M => .ok ⟨leaL S L, greL S M⟩) from HF.out.trans (by unfold divI; rw [if_neg (by rw [← HZ.out]; decide)]))
 clear HF HZ
 go_upto_region 5 with fail
 go_cut [8, 9] (fun v8 v9 wc => ∃ gx gy : Nat, v8 = .slice (some ⟨gx, 0, none⟩) 4 4 ∧ v9 = .slice (some ⟨gy, 0, none⟩) 4 4 ∧ Qs wc gx [x.lo, x.lo, x.hi, x.hi] ∧ Qs wc gy [y.lo, y.hi, y.lo, y.hi] ∧ Ibx wc (w.heap.size + 2) false none 0 0 0 false none 0 0 0 ∧ Below w.heap.size w wc)
 case first =>
  have b : Below w4.heap.size w4 (World.drew w4) := below_drewN (Below.refl _ _) 1
  replace BB := bnx BB b rfl rfl rfl rfl
  have G := mv b rfl (J17 h1 h2 h3 h4 r a0 a1 a2 a3 a4 a5 e0 e1 e2 e3 e4 e5)
  clear b h1 h2 h3 h4 r a0 a1 a2 a3 a4 a5 e0 e1 e2 e3 e4 e5
  obtain ⟨h1, h2, h3, h4, r, a0, a1, a2, a3, a4, a5, e0, e1, e2, e3, e4, e5⟩ := G
  refine wp_region_held_drew (S := fun w' => w'.cell? ⟨w.heap.size, 0, none⟩ = some (.bool x.lo.s) ∧ w'.cell? ⟨w.heap.size, 1, none⟩ = some (.slice A1 n1 c1) ∧ w'.cell? ⟨w.heap.size, 2, none⟩ = some (.int .i64 x.lo.e) ∧ w'.cell? ⟨w.heap.size, 3, none⟩ = some (.bool x.hi.s) ∧ w'.cell? ⟨w.heap.size, 4, none⟩ = some (.slice A2 n2 c2) ∧ w'.cell? ⟨w.heap.size, 5, none⟩ = some (.int .i64 x.hi.e) ∧ w'.cell? ⟨w.heap.size + 1, 0, none⟩ = some (.bool y.lo.s) ∧ w'.cell? ⟨w.heap.size + 1, 1, none⟩ = some (.slice A3 n3 c3) ∧ w'.cell? ⟨w.heap.size + 1, 2, none⟩ = some (.int .i64 y.lo.e) ∧ w'.cell? ⟨w.heap.size + 1, 3, none⟩ = some (.bool y.hi.s) ∧ w'.cell? ⟨w.heap.size + 1, 4, none⟩ = some (.slice A4 n4 c4) ∧ w'.cell? ⟨w.heap.size + 1, 5, none⟩ = some (.int .i64 y.hi.e)) (by kernel_rfl) (by exact ⟨a0, a1, a2, a3, a4, a5, e0, e1, e2, e3, e4, e5⟩) (fun hHeldp0 => ?_)
  generalize World.drew w4 = wd at *
  refine tlLn 0 ?_
  refine tlLn 1 ?_
  refine tlLn 2 ?_
  refine tlLn 3 ?_
  refine tlLn 4 ?_
  refine tlLn 5 ?_
  refine tlLn 6 ?_
  refine tlLn 7 ?_
  refine tlLn 9 ?_
  refine tlLn 10 ?_
  refine tlLn 11 ?_
  refine tlLn 12 ?_
  refine tlLn 13 ?_
  refine tlLn 14 ?_
  refine tlLn 15 ?_
  refine tlLn 16 ?_
  refine wpAnyH_ready (rs := [8, 17]) (by kernel_rfl) (by simp) ?_
  refine AllReadyH.cons (o := _) rfl (fun K hK => ?_) (AllReadyH.cons (o := _) rfl (fun K hK => ?_) (AllReadyH.nil))
  ·go_simp
   have qx := qs_four (w := wd) rfl h1 h1 h2 h2
   have b := below_alloc wd (.cells #[.bool x.lo.s, .slice A1 n1 c1, .int .i64 x.lo.e, .bool x.lo.s, .slice A1 n1 c1, .int .i64 x.lo.e, .bool x.hi.s, .slice A2 n2 c2, .int .i64 x.hi.e, .bool x.hi.s, .slice A2 n2 c2, .int .i64 x.hi.e] 24)
   replace BB := bnx BB b rfl rfl rfl rfl
   have G := mv b rfl (J17 h1 h2 h3 h4 r a0 a1 a2 a3 a4 a5 e0 e1 e2 e3 e4 e5)
   clear b h1 h2 h3 h4 r a0 a1 a2 a3 a4 a5 e0 e1 e2 e3 e4 e5
   obtain ⟨h1, h2, h3, h4, r, a0, a1, a2, a3, a4, a5, e0, e1, e2, e3, e4, e5⟩ := G
   generalize wd.alloc (.cells #[.bool x.lo.s, .slice A1 n1 c1, .int .i64 x.lo.e, .bool x.lo.s, .slice A1 n1 c1, .int .i64 x.lo.e, .bool x.hi.s, .slice A2 n2 c2, .int .i64 x.hi.e, .bool x.hi.s, .slice A2 n2 c2, .int .i64 x.hi.e] 24) = u1 at *
   generalize wd.heap.size = gx at *
   refine hK.out _ _ (by exact ⟨a0, a1, a2, a3, a4, a5, e0, e1, e2, e3, e4, e5⟩) (fun hHeldp1 => ?_)
   clear hK K hHeldp0
   try simp only [Act.put]
   refine tlLn 18 ?_
   refine rdy 17 fun K hK => ?_
   go_simp
   have qy := qs_four (w := u1) rfl h3 h4 h3 h4
   have b := below_alloc u1 (.cells #[.bool y.lo.s, .slice A3 n3 c3, .int .i64 y.lo.e, .bool y.hi.s, .slice A4 n4 c4, .int .i64 y.hi.e, .bool y.lo.s, .slice A3 n3 c3, .int .i64 y.lo.e, .bool y.hi.s, .slice A4 n4 c4, .int .i64 y.hi.e] 24)
   replace BB := bnx BB b rfl rfl rfl rfl
   have G := mv b rfl (J18 h1 h2 h3 h4 r a0 a1 a2 a3 a4 a5 e0 e1 e2 e3 e4 e5 qx)
   clear b h1 h2 h3 h4 r a0 a1 a2 a3 a4 a5 e0 e1 e2 e3 e4 e5 qx
   obtain ⟨h1, h2, h3, h4, r, a0, a1, a2, a3, a4, a5, e0, e1, e2, e3, e4, e5, qx⟩ := G
   generalize u1.alloc (.cells #[.bool y.lo.s, .slice A3 n3 c3, .int .i64 y.lo.e, .bool y.hi.s, .slice A4 n4 c4, .int .i64 y.hi.e, .bool y.lo.s, .slice A3 n3 c3, .int .i64 y.lo.e, .bool y.hi.s, .slice A4 n4 c4, .int .i64 y.hi.e] 24) = u2 at *
   generalize u1.heap.size = gy at *
   refine hK.out _ _ (by exact ⟨a0, a1, a2, a3, a4, a5, e0, e1, e2, e3, e4, e5⟩) (fun hHeldp2 => ?_)
   clear hK K hHeldp1
   try simp only [Act.put]
   refine tlLn 19 ?_
   refine wpAnyH_done (by kernel_rfl) ?_ _
   go_wp2_with fail
   go_meet
   case rel => exact ⟨gx, gy, rfl, rfl, qx, qy, r, BB⟩
  ·go_simp
   have qy := qs_four (w := wd) rfl h3 h4 h3 h4
   have b := below_alloc wd (.cells #[.bool y.lo.s, .slice A3 n3 c3, .int .i64 y.lo.e, .bool y.hi.s, .slice A4 n4 c4, .int .i64 y.hi.e, .bool y.lo.s, .slice A3 n3 c3, .int .i64 y.lo.e, .bool y.hi.s, .slice A4 n4 c4, .int .i64 y.hi.e] 24)
   replace BB := bnx BB b rfl rfl rfl rfl
   have G := mv b rfl (J17 h1 h2 h3 h4 r a0 a1 a2 a3 a4 a5 e0 e1 e2 e3 e4 e5)
   clear b h1 h2 h3 h4 r a0 a1 a2 a3 a4 a5 e0 e1 e2 e3 e4 e5
   obtain ⟨h1, h2, h3, h4, r, a0, a1, a2, a3, a4, a5, e0, e1, e2, e3, e4, e5⟩ := G
   generalize wd.alloc (.cells #[.bool y.lo.s, .slice A3 n3 c3, .int .i64 y.lo.e, .bool y.hi.s, .slice A4 n4 c4, .int .i64 y.hi.e, .bool y.lo.s, .slice A3 n3 c3, .int .i64 y.lo.e, .bool y.hi.s, .slice A4 n4 c4, .int .i64 y.hi.e] 24) = u1 at *
   generalize wd.heap.size = gy at *
   refine hK.out _ _ (by exact ⟨a0, a1, a2, a3, a4, a5, e0, e1, e2, e3, e4, e5⟩) (fun hHeldp1 => ?_)
   clear hK K hHeldp0
   try simp only [Act.put]
   refine rdy 8 fun K hK => ?_
   go_simp
   have qx := qs_four (w := u1) rfl h1 h1 h2 h2
   have b := below_alloc u1 (.cells #[.bool x.lo.s, .slice A1 n1 c1, .int .i64 x.lo.e, .bool x.lo.s, .slice A1 n1 c1, .int .i64 x.lo.e, .bool x.hi.s, .slice A2 n2 c2, .int .i64 x.hi.e, .bool x.hi.s, .slice A2 n2 c2, .int .i64 x.hi.e] 24)
   replace BB := bnx BB b rfl rfl rfl rfl
   have G := mv b rfl (J18 h1 h2 h3 h4 r a0 a1 a2 a3 a4 a5 e0 e1 e2 e3 e4 e5 qy)
   clear b h1 h2 h3 h4 r a0 a1 a2 a3 a4 a5 e0 e1 e2 e3 e4 e5 qy
   obtain ⟨h1, h2, h3, h4, r, a0, a1, a2, a3, a4, a5, e0, e1, e2, e3, e4, e5, qy⟩ := G
   generalize u1.alloc (.cells #[.bool x.lo.s, .slice A1 n1 c1, .int .i64 x.lo.e, .bool x.lo.s, .slice A1 n1 c1, .int .i64 x.lo.e, .bool x.hi.s, .slice A2 n2 c2, .int .i64 x.hi.e, .bool x.hi.s, .slice A2 n2 c2, .int .i64 x.hi.e] 24) = u2 at *
   generalize u1.heap.size = gx at *
   refine hK.out _ _ (by exact ⟨a0, a1, a2, a3, a4, a5, e0, e1, e2, e3, e4, e5⟩) (fun hHeldp2 => ?_)
   clear hK K hHeldp1
   try simp only [Act.put]
   refine tlLn 18 ?_
   refine tlLn 19 ?_
   refine wpAnyH_done (by kernel_rfl) ?_ _
   go_wp2_with fail
   go_meet
   case rel => exact ⟨gx, gy, rfl, rfl, qx, qy, r, BB⟩
 case rest =>
  clear r BB h1 h2 h3 h4 a0 a1 a2 a3 a4 a5 e0 e1 e2 e3 e4 e5
  obtain ⟨gx, gy, rfl, rfl, qx, qy, r, BB⟩ := hcut
  generalize wc = W0 at *
  have xr := Arr.new W0 false none 0 0 0 false none 0 0 0
  have b := below_alloc W0 (.cells #[.bool false, .slice none 0 0, .int .i64 0, .bool false, .slice none 0 0, .int .i64 0] 63)
  have lr_ := Lib.hid r.gl
  have lgw : Hid (w.heap.size ≤ W0.heap.size) := Lib.hid BB.size
  have lgxy : Hid (gx < W0.heap.size ∧ gy < W0.heap.size) := Lib.hid (by obtain ⟨_, _, _, ⟨e1, _, _⟩, _⟩ := qx 0 (by simp); obtain ⟨_, _, _, ⟨e2, _, _⟩, _⟩ := qy 0 (by simp); exact ⟨World.block_lt_of_cell? _ _ e1, World.block_lt_of_cell? _ _ e2⟩)
  replace BB := bnx BB b rfl rfl rfl rfl
  have G := mv b rfl (J3 r qx qy)
  clear b r qx qy
  obtain ⟨r, qx, qy⟩ := G
  go_wp2
  go_loopg [11] 2 (fun q v wr => ∃ (j : Nat), j + q = 2 ∧ v = .int .i64 j ∧ Below w.heap.size w wr ∧ Qs wr gx [x.lo, x.lo, x.hi, x.hi] ∧ Qs wr gy [y.lo, y.hi, y.lo, y.hi] ∧ Ibx wr (w.heap.size + 2) false none 0 0 0 false none 0 0 0 ∧ ∃ (m M : Rw) (A : Option Addr) (n c : Nat) (B : Option Addr) (k d : Nat), (j = 0 ∧ m = Rw.zero ∧ M = Rw.zero ∨ j = 1 ∧ (∃ L1, corO (quoO S p false) x y = .ok L1 ∧ m = leaL S L1) ∧ M = Rw.zero ∨ j = 2 ∧ (∃ L1, corO (quoO S p false) x y = .ok L1 ∧ m = leaL S L1) ∧ (∃ L2, corO (quoO S p true) x y = .ok L2 ∧ M = greL S L2)) ∧ Arr wr W0.heap.size m.s A n c m.e M.s B k d M.e ∧ Rd wr .u64 Go.Proofs.YtcbkhmejlaaieaaGreatDoor.W A n c m.l ∧ Rd wr .u64 Go.Proofs.YtcbkhmejlaaieaaGreatDoor.W B k d M.l)
  case atStart => exact ⟨0, by omega, rfl, BB, qx, qy, r, Rw.zero, Rw.zero, none, 0, 0, none, 0, 0, .inl ⟨rfl, rfl, rfl⟩, xr, hnil _, hnil _⟩
  case round =>
   obtain ⟨j, hg, rfl, BB2, qx2, qy2, r2, m, M, A5, n5, c5, A6, n6, c6, hst, xr2, q5, q6⟩ := hrel
   clear BB qx qy r xr
   have BB := BB2
   clear BB2
   have HG := Lib.hid hg
   clear hg
   rcases hst with ⟨rfl, hm, hM⟩ | ⟨rfl, hm, hM⟩ | ⟨rfl, hm, hM⟩
   ·have HMM := Lib.hid (And.intro hm hM)
    clear hm hM
    generalize gk = G0 at *
    go_wp2
    go_loopg [12] 4 (fun q v wr => ∃ (i : Nat) (L : List Rw), i + q = 4 ∧ v = .int .i64 i ∧ Pre (quoO S p false) x y i L ∧ Below w.heap.size w wr ∧ Qs wr gx [x.lo, x.lo, x.hi, x.hi] ∧ Qs wr gy [y.lo, y.hi, y.lo, y.hi] ∧ Ibx wr (w.heap.size + 2) false none 0 0 0 false none 0 0 0 ∧ ∃ (m M : Rw) (A : Option Addr) (n c : Nat) (B : Option Addr) (k d : Nat), m = leaL S L ∧ M = Rw.zero ∧ Arr wr W0.heap.size m.s A n c m.e M.s B k d M.e ∧ Rd wr .u64 Go.Proofs.YtcbkhmejlaaieaaGreatDoor.W A n c m.l ∧ Rd wr .u64 Go.Proofs.YtcbkhmejlaaieaaGreatDoor.W B k d M.l)
    case atStart => exact ⟨0, [], by omega, rfl, pre_nil, BB, qx2, qy2, r2, m, M, A5, n5, c5, A6, n6, c6, HMM.out.1, HMM.out.2, xr2, q5, q6⟩
    case round =>
     obtain ⟨i, L, hg, rfl, hpre, BB3, qx3, qy3, r3, m2, M2, A3, n3, c3, A4, n4, c4, hm2, hM2, xr3, q3, q4⟩ := hrel
     clear BB qx2 qy2 r2 xr2 q5 q6
     have BB := BB3
     clear BB3
     have HG2 := Lib.hid hg
     have HP := Lib.hid hpre
     have HM := Lib.hid (And.intro hm2 hM2)
     clear hg hpre hm2 hM2
     by_cases hi : i < 4
     ·obtain ⟨A7, n7, c7, ⟨y0, y1, y2⟩, q7⟩ := qx3 i (by simpa using hi)
      obtain ⟨A8, n8, c8, ⟨u0, u1, u2⟩, q8⟩ := qy3 i (by simpa using hi)
      obtain ⟨a, ha⟩ : ∃ a, a = [x.lo, x.lo, x.hi, x.hi].getD i Rw.zero := ⟨_, rfl⟩
      rw [← ha] at y0 y2 q7
      obtain ⟨b, hb⟩ : ∃ b, b = [y.lo, y.hi, y.lo, y.hi].getD i Rw.zero := ⟨_, rfl⟩
      rw [← hb] at u0 u2 q8
      have HAB := Lib.hid (And.intro ha hb)
      clear ha hb
      have hp2 : (i : Int) < 4 := by omega
      have hp3 : (0 : Int) ≤ i := by omega
      have lga : Hid (W0.heap.size < wr.heap.size) := Lib.hid xr3.gl
      generalize wr = W1 at *
      generalize gk = G1 at *
      obtain ⟨oz, ho⟩ : ∃ o, o = quoO S p false a b := ⟨_, rfl⟩
      have HO := Lib.hid ho
      have HC : Hid (Cod oz) := Lib.hid (by rw [ho]; exact quoO_cod)
      clear ho
      obtain ⟨z, hz⟩ : ∃ z, z = orw oz := ⟨_, rfl⟩
      obtain ⟨zk, hzk⟩ : ∃ z, z = okc oz := ⟨_, rfl⟩
      have HZ := Lib.hid (And.intro hz hzk)
      clear hz hzk
      go_upto_region 13 with fail
      go_cut [13, 14] (fun v13 v14 wx => ∃ (g : Nat) (A : Option Addr) (n c : Nat), v13 = .pointer (some ⟨g, 0, none⟩) ∧ v14 = .int .i64 zk ∧ W1.heap.size ≤ g ∧ Box wx g z.s A n c z.e ∧ Rd wx .u64 Go.Proofs.YtcbkhmejlaaieaaGreatDoor.W A n c z.l ∧ Below W1.heap.size W1 wx)
      case first =>
       have B1 := Below.refl W1.heap.size W1
       clear BB
       have BB := B1
       clear B1
       have b : Below W1.heap.size W1 (World.drew W1) := below_drewN (Below.refl _ _) 1
       replace BB := bnx BB b rfl rfl rfl rfl
       have G := mv b rfl (J8 q7 q8 y0 y1 y2 u0 u1 u2)
       clear b q7 q8 y0 y1 y2 u0 u1 u2
       obtain ⟨q7, q8, y0, y1, y2, u0, u1, u2⟩ := G
       refine wp_region_held_drew (S := fun w' => w'.cell? ⟨gx, i * 3, none⟩ = some (.bool a.s) ∧ w'.cell? ⟨gx, i * 3 + 1, none⟩ = some (.slice A7 n7 c7) ∧ w'.cell? ⟨gx, i * 3 + 2, none⟩ = some (.int .i64 a.e) ∧ w'.cell? ⟨gy, i * 3, none⟩ = some (.bool b.s) ∧ w'.cell? ⟨gy, i * 3 + 1, none⟩ = some (.slice A8 n8 c8) ∧ w'.cell? ⟨gy, i * 3 + 2, none⟩ = some (.int .i64 b.e)) (by kernel_rfl) (by exact ⟨y0, y1, y2, u0, u1, u2⟩) (fun hHeldr00 => ?_)
       generalize World.drew W1 = wd at *
       refine tlLn 0 ?_
       refine tlLn 1 ?_
       refine tlLn 2 ?_
       refine tlLn 3 ?_
       refine tlLn 4 ?_
       refine tlLn 5 ?_
       refine tlLn 6 ?_
       refine tlLn 7 ?_
       refine tlLn 8 ?_
       refine tlLn 9 ?_
       refine tlLn 10 ?_
       refine wpAnyH_ready (rs := [11, 15]) (by kernel_rfl) (by simp) ?_
       refine AllReadyH.cons (o := _) rfl (fun K hK => ?_) (AllReadyH.cons (o := _) rfl (fun K hK => ?_) (AllReadyH.nil))
       ·go_simp
        refine (show Calls _ _ _ _ (TellQ oz _) from by rw [HO.out]; exact rquot_tell S (up := false) q7 q8 hp).mono ?_
        rintro en u_1 ⟨A9, n9, c9, hen, h9, b⟩
        rw [← HZ.out.1, ← HZ.out.2] at hen
        rw [← HZ.out.1] at h9
        subst hen
        clear q7 q8
        replace BB := bnx BB b rfl rfl rfl rfl
        have G := mv b rfl (J6 y0 y1 y2 u0 u1 u2)
        clear b y0 y1 y2 u0 u1 u2
        obtain ⟨y0, y1, y2, u0, u1, u2⟩ := G
        refine hK.out _ _ (by exact ⟨y0, y1, y2, u0, u1, u2⟩) (fun hHeldr01 => ?_)
        clear hK K hHeldr00
        try simp only [Act.put]
        refine tlLn 12 ?_
        refine tlLn 13 ?_
        refine tlLn 14 ?_
        refine rdy 15 fun K hK => ?_
        go_simp
        have gl9 : W1.heap.size ≤ u_1.heap.size := BB.size
        have gx9 : gx < u_1.heap.size := World.block_lt_of_cell? _ _ y0
        have gy9 : gy < u_1.heap.size := World.block_lt_of_cell? _ _ u0
        have p9 := Box.new u_1 false none 0 0 0
        have b := below_alloc u_1 (.cells #[.bool false, .slice none 0 0, .int .i64 0] 24)
        replace BB := bnx BB b rfl rfl rfl rfl
        have G := mv b rfl (J7 y0 y1 y2 u0 u1 u2 h9)
        clear b y0 y1 y2 u0 u1 u2 h9
        obtain ⟨y0, y1, y2, u0, u1, u2, h9⟩ := G
        generalize u_1.alloc (.cells #[.bool false, .slice none 0 0, .int .i64 0] 24) = u_2 at *
        generalize u_1.heap.size = g9 at *
        refine hK.out _ _ (by exact ⟨y0, y1, y2, u0, u1, u2⟩) (fun hHeldr02 => ?_)
        clear hK K hHeldr01
        try simp only [Act.put]
        refine rdy 16 fun K hK => ?_
        obtain ⟨f0, f1, f2⟩ := p9.open
        obtain ⟨z0, z1, z2⟩ := p9.held
        go_simp
        replace y0 := cell_oth3 (g := g9) y0 (by omega) (.bool z.s) (.slice A9 n9 c9) (.int .i64 z.e)
        replace y1 := cell_oth3 (g := g9) y1 (by omega) (.bool z.s) (.slice A9 n9 c9) (.int .i64 z.e)
        replace y2 := cell_oth3 (g := g9) y2 (by omega) (.bool z.s) (.slice A9 n9 c9) (.int .i64 z.e)
        replace u0 := cell_oth3 (g := g9) u0 (by omega) (.bool z.s) (.slice A9 n9 c9) (.int .i64 z.e)
        replace u1 := cell_oth3 (g := g9) u1 (by omega) (.bool z.s) (.slice A9 n9 c9) (.int .i64 z.e)
        replace u2 := cell_oth3 (g := g9) u2 (by omega) (.bool z.s) (.slice A9 n9 c9) (.int .i64 z.e)
        replace h9 := h9.put3 p9 (.bool z.s) (.slice A9 n9 c9) (.int .i64 z.e)
        replace BB := below_put3 (g := g9) BB gl9 (.bool z.s) (.slice A9 n9 c9) (.int .i64 z.e)
        replace p9 := p9.put z.s A9 n9 c9 z.e
        clear f0 f1 f2 z0 z1 z2
        generalize ((u_2.setCell ⟨g9, 0, none⟩ (.bool z.s)).setCell ⟨g9, 1, none⟩ (.slice A9 n9 c9)).setCell ⟨g9, 2, none⟩ (.int .i64 z.e) = u_3 at *
        refine hK.out _ _ (by exact ⟨y0, y1, y2, u0, u1, u2⟩) (fun hHeldr03 => ?_)
        clear hK K hHeldr02
        try simp only [Act.put]
        refine tlLn 17 ?_
        refine wpAnyH_done (by kernel_rfl) ?_ _
        go_wp2_with fail
        go_meet
        case rel => exact ⟨g9, A9, n9, c9, rfl, rfl, gl9, p9, h9, BB⟩
       ·go_simp
        have gl9 : W1.heap.size ≤ wd.heap.size := BB.size
        have gx9 : gx < wd.heap.size := World.block_lt_of_cell? _ _ y0
        have gy9 : gy < wd.heap.size := World.block_lt_of_cell? _ _ u0
        have p9 := Box.new wd false none 0 0 0
        have b := below_alloc wd (.cells #[.bool false, .slice none 0 0, .int .i64 0] 24)
        replace BB := bnx BB b rfl rfl rfl rfl
        have G := mv b rfl (J8 q7 q8 y0 y1 y2 u0 u1 u2)
        clear b q7 q8 y0 y1 y2 u0 u1 u2
        obtain ⟨q7, q8, y0, y1, y2, u0, u1, u2⟩ := G
        generalize wd.alloc (.cells #[.bool false, .slice none 0 0, .int .i64 0] 24) = u_1 at *
        generalize wd.heap.size = g9 at *
        refine hK.out _ _ (by exact ⟨y0, y1, y2, u0, u1, u2⟩) (fun hHeldr01 => ?_)
        clear hK K hHeldr00
        try simp only [Act.put]
        refine rdy 11 fun K hK => ?_
        go_simp
        refine (show Calls _ _ _ _ (TellQ oz _) from by rw [HO.out]; exact rquot_tell S (up := false) q7 q8 hp).mono ?_
        rintro en u_2 ⟨A9, n9, c9, hen, h9, b⟩
        rw [← HZ.out.1, ← HZ.out.2] at hen
        rw [← HZ.out.1] at h9
        subst hen
        clear q7 q8
        replace BB := bnx BB b rfl rfl rfl rfl
        have G := mv b rfl (J7 y0 y1 y2 u0 u1 u2 p9)
        clear b y0 y1 y2 u0 u1 u2 p9
        obtain ⟨y0, y1, y2, u0, u1, u2, p9⟩ := G
        refine hK.out _ _ (by exact ⟨y0, y1, y2, u0, u1, u2⟩) (fun hHeldr02 => ?_)
        clear hK K hHeldr01
        try simp only [Act.put]
        refine tlLn 12 ?_
        refine tlLn 13 ?_
        refine tlLn 14 ?_
        refine rdy 16 fun K hK => ?_
        obtain ⟨f0, f1, f2⟩ := p9.open
        obtain ⟨z0, z1, z2⟩ := p9.held
        go_simp
        replace y0 := cell_oth3 (g := g9) y0 (by omega) (.bool z.s) (.slice A9 n9 c9) (.int .i64 z.e)
        replace y1 := cell_oth3 (g := g9) y1 (by omega) (.bool z.s) (.slice A9 n9 c9) (.int .i64 z.e)
        replace y2 := cell_oth3 (g := g9) y2 (by omega) (.bool z.s) (.slice A9 n9 c9) (.int .i64 z.e)
        replace u0 := cell_oth3 (g := g9) u0 (by omega) (.bool z.s) (.slice A9 n9 c9) (.int .i64 z.e)
        replace u1 := cell_oth3 (g := g9) u1 (by omega) (.bool z.s) (.slice A9 n9 c9) (.int .i64 z.e)
        replace u2 := cell_oth3 (g := g9) u2 (by omega) (.bool z.s) (.slice A9 n9 c9) (.int .i64 z.e)
        replace h9 := h9.put3 p9 (.bool z.s) (.slice A9 n9 c9) (.int .i64 z.e)
        replace BB := below_put3 (g := g9) BB gl9 (.bool z.s) (.slice A9 n9 c9) (.int .i64 z.e)
        replace p9 := p9.put z.s A9 n9 c9 z.e
        clear f0 f1 f2 z0 z1 z2
        generalize ((u_2.setCell ⟨g9, 0, none⟩ (.bool z.s)).setCell ⟨g9, 1, none⟩ (.slice A9 n9 c9)).setCell ⟨g9, 2, none⟩ (.int .i64 z.e) = u_3 at *
        refine hK.out _ _ (by exact ⟨y0, y1, y2, u0, u1, u2⟩) (fun hHeldr03 => ?_)
        clear hK K hHeldr02
        try simp only [Act.put]
        refine tlLn 17 ?_
        refine wpAnyH_done (by kernel_rfl) ?_ _
        go_wp2_with fail
        go_meet
        case rel => exact ⟨g9, A9, n9, c9, rfl, rfl, gl9, p9, h9, BB⟩
      case rest =>
       obtain ⟨g9, A9, n9, c9, rfl, rfl, gl9, p9, h9, b⟩ := hcut
       generalize wc = W2 at *
       clear q7 q8 y0 y1 y2 u0 u1 u2
       replace BB := bnx BB b rfl rfl rfl rfl
       have G := mv b rfl (J6 qx3 qy3 r3 xr3 q3 q4)
       clear b qx3 qy3 r3 xr3 q3 q4
       obtain ⟨qx3, qy3, r3, xr3, q3, q4⟩ := G
       by_cases hz : zk = 0
       rotate_left
       ·have HKK := Lib.hid hz
        have g1 : (zk != 0) = true := by simp; exact hz
        have g2 : (zk == 0) = false := by simp; exact hz
        clear hz
        have HE := Lib.hid (show quoO S p false a b = .error zk from by rw [← HO.out, HZ.out.2]; exact okc_err (by rw [← HZ.out.2]; exact HKK.out))
        have HL := Lib.hid (show q = .error zk from HD.out.trans (by rw [pre_stop HP.out hi HAB.out.1 HAB.out.2 HE.out]; rfl))
        have r := r3
        obtain ⟨f0, f1, f2, f3, f4, f5⟩ := r.open
        obtain ⟨z0, z1, z2, z3, z4, z5⟩ := r.held
        go_wp2
        have qq := r.put false none 0 0 0 false none 0 0 0
        have HB3 := below_put6 (g := w.heap.size + 2) BB (by omega) (.bool false) (.slice none 0 0) (.int .i64 0) (.bool false) (.slice none 0 0) (.int .i64 0)
        obtain ⟨z0, z1, z2, z3, z4, z5⟩ := qq.held
        first | rw [Exit.noGoto_ret] | skip
        exact bodyPost_ret (v := .tuple #[.agg #[.bool false, .slice none 0 0, .int .i64 0, .bool false, .slice none 0 0, .int .i64 0], .int .i64 zk]) (by simp [results, Tryz.results23, go_sem, z0, z1, z2, z3, z4, z5]) rfl (by rw [HL.out]; exact ⟨none, 0, 0, none, 0, 0, rfl, Rd.nil _ _ _ _ (by omega), Rd.nil _ _ _ _ (by omega), HB3⟩)
       subst hz
       have HE := Lib.hid (show quoO S p false a b = .ok z from by rw [← HO.out, HZ.out.1]; exact okc_ok HC.out HZ.out.2.symm)
       have HPN := Lib.hid (pre_step HP.out hi HAB.out.1 HAB.out.2 HE.out)
       clear HO HC HZ HE
       have lg9 : Hid (W0.heap.size ≠ g9) := Lib.hid (by have := lga.out; omega)
       obtain ⟨p0, p1, p2⟩ := p9.held
       by_cases hi0 : i = 0
       rotate_left
       ·have d1 : ((i : Int) == 0) = false := by simp; exact hi0
        have hL : L ≠ [] := by intro h; have := HP.out.1; rw [h] at this; exact hi0 this.symm
        obtain ⟨ql, hql⟩ : ∃ l, l = leastQ S.K m2 z := ⟨_, rfl⟩
        have HQL := Lib.hid hql
        have HV := Lib.hid (show ql = leaL S (L ++ [z]) from by rw [hql, (lea_snoc S (z := z) hL).1, HM.out.1])
        clear hL hql
        go_upto_region 20 with fail
        have b : Below W2.heap.size W2 (World.drew W2) := below_drewN (Below.refl _ _) 1
        replace BB := bnx BB b rfl rfl rfl rfl
        have G := mv b rfl (J11 qx3 qy3 r3 xr3 q3 q4 p9 h9 p0 p1 p2)
        clear b qx3 qy3 r3 xr3 q3 q4 p9 h9 p0 p1 p2
        obtain ⟨qx3, qy3, r3, xr3, q3, q4, p9, h9, p0, p1, p2⟩ := G
        obtain ⟨k0, k1, k2, k3, k4, k5⟩ := xr3.held
        refine wp_region_held_drew (S := fun w' => w'.cell? ⟨g9, 0, none⟩ = some (.bool z.s) ∧ w'.cell? ⟨g9, 1, none⟩ = some (.slice A9 n9 c9) ∧ w'.cell? ⟨g9, 2, none⟩ = some (.int .i64 z.e)) (by kernel_rfl) (by exact ⟨p0, p1, p2⟩) (fun hHeldk00 => ?_)
        generalize World.drew W2 = wd at *
        refine tlLn 0 ?_
        refine tlLn 1 ?_
        refine tlLn 2 ?_
        refine tlLn 4 ?_
        refine rdy 3 fun K hK => ?_
        go_simp
        refine hK.out _ _ (by exact ⟨p0, p1, p2⟩) (fun hHeldk01 => ?_)
        clear hK K hHeldk00
        try simp only [Act.put]
        refine rdy 5 fun K hK => ?_
        go_simp
        refine (show Calls _ _ _ _ (GivQ ql _) from by rw [HQL.out]; exact rleast_any (K := S.K) S.big q3 h9).mono ?_
        rintro en x_2 ⟨A10, n10, c10, rfl, h10, b⟩
        replace BB := bnx BB b rfl rfl rfl rfl
        have G := mv b rfl (J17 qx3 qy3 r3 xr3 q3 q4 p9 h9 p0 p1 p2 k0 k1 k2 k3 k4 k5)
        clear b qx3 qy3 r3 xr3 q3 q4 p9 h9 p0 p1 p2 k0 k1 k2 k3 k4 k5
        obtain ⟨qx3, qy3, r3, xr3, q3, q4, p9, h9, p0, p1, p2, k0, k1, k2, k3, k4, k5⟩ := G
        refine hK.out _ _ (by exact ⟨p0, p1, p2⟩) (fun hHeldk02 => ?_)
        clear hK K hHeldk01
        try simp only [Act.put]
        refine tlLn 6 ?_
        refine rdy 7 fun K hK => ?_
        obtain ⟨f0, f1, f2, f3, f4, f5⟩ := xr3.open
        go_simp
        clear k0 k1 k2 k3 k4 k5 f0 f1 f2 f3 f4 f5
        replace qx3 := qs_off3 qx3 xr3.no (by have := lgxy.out; omega) 0 1 2 (.bool ql.s) (.slice A10 n10 c10) (.int .i64 ql.e)
        replace qy3 := qs_off3 qy3 xr3.no (by have := lgxy.out; omega) 0 1 2 (.bool ql.s) (.slice A10 n10 c10) (.int .i64 ql.e)
        replace r3 := ibx_off3 (g := W0.heap.size) r3 (by have := lr_.out; omega) 0 1 2 (.bool ql.s) (.slice A10 n10 c10) (.int .i64 ql.e)
        replace q3 := rd_off3 q3 xr3.no 0 1 2 (.bool ql.s) (.slice A10 n10 c10) (.int .i64 ql.e)
        replace q4 := rd_off3 q4 xr3.no 0 1 2 (.bool ql.s) (.slice A10 n10 c10) (.int .i64 ql.e)
        replace h10 := rd_off3 h10 xr3.no 0 1 2 (.bool ql.s) (.slice A10 n10 c10) (.int .i64 ql.e)
        replace p0 := cell_off3 (g := W0.heap.size) p0 lg9.out.symm 0 1 2 (.bool ql.s) (.slice A10 n10 c10) (.int .i64 ql.e)
        replace p1 := cell_off3 (g := W0.heap.size) p1 lg9.out.symm 0 1 2 (.bool ql.s) (.slice A10 n10 c10) (.int .i64 ql.e)
        replace p2 := cell_off3 (g := W0.heap.size) p2 lg9.out.symm 0 1 2 (.bool ql.s) (.slice A10 n10 c10) (.int .i64 ql.e)
        replace BB := below_off3 (g := W0.heap.size) BB (by have := lgw.out; omega) 0 1 2 (.bool ql.s) (.slice A10 n10 c10) (.int .i64 ql.e)
        replace xr3 := xr3.put0 ql.s A10 n10 c10 ql.e
        generalize ((x_2.setCell ⟨W0.heap.size, 0, none⟩ (.bool ql.s)).setCell ⟨W0.heap.size, 1, none⟩ (.slice A10 n10 c10)).setCell ⟨W0.heap.size, 2, none⟩ (.int .i64 ql.e) = x_3 at *
        refine hK.out _ _ (by exact ⟨p0, p1, p2⟩) (fun hHeldk03 => ?_)
        clear hK K hHeldk02
        try simp only [Act.put]
        refine wpAnyH_done (by kernel_rfl) ?_ _
        go_wp2
        go_roundg (G1 - 1)
        case measure => have := HG2.out; omega
        case rel => exact ⟨i + 1, L ++ [z], by have := HG2.out; omega, by go_num, HPN.out, BB, qx3, qy3, r3, ql, M2, A10, n10, c10, A4, n4, c4, HV.out, HM.out.2, xr3, h10, q4⟩
       subst hi0
       have hL : L = [] := List.eq_nil_of_length_eq_zero HP.out.1
       have HV := Lib.hid (show z = leaL S (L ++ [z]) from by rw [hL]; rfl)
       clear hL
       obtain ⟨f0, f1, f2, f3, f4, f5⟩ := xr3.open
       obtain ⟨k0, k1, k2, k3, k4, k5⟩ := xr3.held
       go_wp2
       clear f0 f1 f2 f3 f4 f5 k0 k1 k2 k3 k4 k5
       replace qx3 := qs_off3 qx3 xr3.no (by have := lgxy.out; omega) 0 1 2 (.bool z.s) (.slice A9 n9 c9) (.int .i64 z.e)
       replace qy3 := qs_off3 qy3 xr3.no (by have := lgxy.out; omega) 0 1 2 (.bool z.s) (.slice A9 n9 c9) (.int .i64 z.e)
       replace r3 := ibx_off3 (g := W0.heap.size) r3 (by have := lr_.out; omega) 0 1 2 (.bool z.s) (.slice A9 n9 c9) (.int .i64 z.e)
       replace q3 := rd_off3 q3 xr3.no 0 1 2 (.bool z.s) (.slice A9 n9 c9) (.int .i64 z.e)
       replace q4 := rd_off3 q4 xr3.no 0 1 2 (.bool z.s) (.slice A9 n9 c9) (.int .i64 z.e)
       replace h9 := rd_off3 h9 xr3.no 0 1 2 (.bool z.s) (.slice A9 n9 c9) (.int .i64 z.e)
       replace p0 := cell_off3 (g := W0.heap.size) p0 lg9.out.symm 0 1 2 (.bool z.s) (.slice A9 n9 c9) (.int .i64 z.e)
       replace p1 := cell_off3 (g := W0.heap.size) p1 lg9.out.symm 0 1 2 (.bool z.s) (.slice A9 n9 c9) (.int .i64 z.e)
       replace p2 := cell_off3 (g := W0.heap.size) p2 lg9.out.symm 0 1 2 (.bool z.s) (.slice A9 n9 c9) (.int .i64 z.e)
       replace BB := below_off3 (g := W0.heap.size) BB (by have := lgw.out; omega) 0 1 2 (.bool z.s) (.slice A9 n9 c9) (.int .i64 z.e)
       replace xr3 := xr3.put0 z.s A9 n9 c9 z.e
       go_roundg (G1 - 1)
       case measure => have := HG2.out; omega
       case rel => exact ⟨0 + 1, L ++ [z], by have := HG2.out; omega, by go_num, HPN.out, BB, qx3, qy3, r3, z, M2, A9, n9, c9, A4, n4, c4, HV.out, HM.out.2, xr3, h9, q4⟩
     ·have hi4 : i = 4 := by have := HG2.out; omega
      subst hi4
      have HDN := Lib.hid (pre_done (HP.out : Pre (quoO S p false) x y (2 * 2) L))
      go_wp2
      go_roundg (G0 - 1)
      case measure => have := HG.out; omega
      case rel => exact ⟨0 + 1, by have := HG.out; omega, by go_num, BB, qx3, qy3, r3, m2, M2, A3, n3, c3, A4, n4, c4, .inr (.inl ⟨rfl, ⟨L, HDN.out, HM.out.1⟩, HM.out.2⟩), xr3, q3, q4⟩
   ·have HMM := Lib.hid (And.intro hm hM)
    clear hm hM
    generalize gk = G0 at *
    go_wp2
    go_loopg [12] 4 (fun q v wr => ∃ (i : Nat) (L : List Rw), i + q = 4 ∧ v = .int .i64 i ∧ Pre (quoO S p true) x y i L ∧ Below w.heap.size w wr ∧ Qs wr gx [x.lo, x.lo, x.hi, x.hi] ∧ Qs wr gy [y.lo, y.hi, y.lo, y.hi] ∧ Ibx wr (w.heap.size + 2) false none 0 0 0 false none 0 0 0 ∧ ∃ (m' M : Rw) (A : Option Addr) (n c : Nat) (B : Option Addr) (k d : Nat), m' = m ∧ M = greL S L ∧ Arr wr W0.heap.size m'.s A n c m'.e M.s B k d M.e ∧ Rd wr .u64 Go.Proofs.YtcbkhmejlaaieaaGreatDoor.W A n c m'.l ∧ Rd wr .u64 Go.Proofs.YtcbkhmejlaaieaaGreatDoor.W B k d M.l)
    case atStart => exact ⟨0, [], by omega, rfl, pre_nil, BB, qx2, qy2, r2, m, M, A5, n5, c5, A6, n6, c6, rfl, HMM.out.2, xr2, q5, q6⟩
    case round =>
     obtain ⟨i, L, hg, rfl, hpre, BB3, qx3, qy3, r3, m2, M2, A3, n3, c3, A4, n4, c4, hm2, hM2, xr3, q3, q4⟩ := hrel
     clear BB qx2 qy2 r2 xr2 q5 q6
     have BB := BB3
     clear BB3
     have HG2 := Lib.hid hg
     have HP := Lib.hid hpre
     have HM := Lib.hid (And.intro hm2 hM2)
     clear hg hpre hm2 hM2
     by_cases hi : i < 4
     ·obtain ⟨A7, n7, c7, ⟨y0, y1, y2⟩, q7⟩ := qx3 i (by simpa using hi)
      obtain ⟨A8, n8, c8, ⟨u0, u1, u2⟩, q8⟩ := qy3 i (by simpa using hi)
      obtain ⟨a, ha⟩ : ∃ a, a = [x.lo, x.lo, x.hi, x.hi].getD i Rw.zero := ⟨_, rfl⟩
      rw [← ha] at y0 y2 q7
      obtain ⟨b, hb⟩ : ∃ b, b = [y.lo, y.hi, y.lo, y.hi].getD i Rw.zero := ⟨_, rfl⟩
      rw [← hb] at u0 u2 q8
      have HAB := Lib.hid (And.intro ha hb)
      clear ha hb
      have hp2 : (i : Int) < 4 := by omega
      have hp3 : (0 : Int) ≤ i := by omega
      have lga : Hid (W0.heap.size < wr.heap.size) := Lib.hid xr3.gl
      generalize wr = W1 at *
      generalize gk = G1 at *
      obtain ⟨oz, ho⟩ : ∃ o, o = quoO S p true a b := ⟨_, rfl⟩
      have HO := Lib.hid ho
      have HC : Hid (Cod oz) := Lib.hid (by rw [ho]; exact quoO_cod)
      clear ho
      obtain ⟨z, hz⟩ : ∃ z, z = orw oz := ⟨_, rfl⟩
      obtain ⟨zk, hzk⟩ : ∃ z, z = okc oz := ⟨_, rfl⟩
      have HZ := Lib.hid (And.intro hz hzk)
      clear hz hzk
      go_upto_region 13 with fail
      go_cut [13, 14] (fun v13 v14 wx => ∃ (g : Nat) (A : Option Addr) (n c : Nat), v13 = .pointer (some ⟨g, 0, none⟩) ∧ v14 = .int .i64 zk ∧ W1.heap.size ≤ g ∧ Box wx g z.s A n c z.e ∧ Rd wx .u64 Go.Proofs.YtcbkhmejlaaieaaGreatDoor.W A n c z.l ∧ Below W1.heap.size W1 wx)
      case first =>
       have B1 := Below.refl W1.heap.size W1
       clear BB
       have BB := B1
       clear B1
       have b : Below W1.heap.size W1 (World.drew W1) := below_drewN (Below.refl _ _) 1
       replace BB := bnx BB b rfl rfl rfl rfl
       have G := mv b rfl (J8 q7 q8 y0 y1 y2 u0 u1 u2)
       clear b q7 q8 y0 y1 y2 u0 u1 u2
       obtain ⟨q7, q8, y0, y1, y2, u0, u1, u2⟩ := G
       refine wp_region_held_drew (S := fun w' => w'.cell? ⟨gx, i * 3, none⟩ = some (.bool a.s) ∧ w'.cell? ⟨gx, i * 3 + 1, none⟩ = some (.slice A7 n7 c7) ∧ w'.cell? ⟨gx, i * 3 + 2, none⟩ = some (.int .i64 a.e) ∧ w'.cell? ⟨gy, i * 3, none⟩ = some (.bool b.s) ∧ w'.cell? ⟨gy, i * 3 + 1, none⟩ = some (.slice A8 n8 c8) ∧ w'.cell? ⟨gy, i * 3 + 2, none⟩ = some (.int .i64 b.e)) (by kernel_rfl) (by exact ⟨y0, y1, y2, u0, u1, u2⟩) (fun hHeldr10 => ?_)
       generalize World.drew W1 = wd at *
       refine tlLn 0 ?_
       refine tlLn 1 ?_
       refine tlLn 2 ?_
       refine tlLn 3 ?_
       refine tlLn 4 ?_
       refine tlLn 5 ?_
       refine tlLn 6 ?_
       refine tlLn 7 ?_
       refine tlLn 8 ?_
       refine tlLn 9 ?_
       refine tlLn 10 ?_
       refine wpAnyH_ready (rs := [11, 15]) (by kernel_rfl) (by simp) ?_
       refine AllReadyH.cons (o := _) rfl (fun K hK => ?_) (AllReadyH.cons (o := _) rfl (fun K hK => ?_) (AllReadyH.nil))
       ·go_simp
        refine (show Calls _ _ _ _ (TellQ oz _) from by rw [HO.out]; exact rquot_tell S (up := true) q7 q8 hp).mono ?_
        rintro en u_1 ⟨A9, n9, c9, hen, h9, b⟩
        rw [← HZ.out.1, ← HZ.out.2] at hen
        rw [← HZ.out.1] at h9
        subst hen
        clear q7 q8
        replace BB := bnx BB b rfl rfl rfl rfl
        have G := mv b rfl (J6 y0 y1 y2 u0 u1 u2)
        clear b y0 y1 y2 u0 u1 u2
        obtain ⟨y0, y1, y2, u0, u1, u2⟩ := G
        refine hK.out _ _ (by exact ⟨y0, y1, y2, u0, u1, u2⟩) (fun hHeldr11 => ?_)
        clear hK K hHeldr10
        try simp only [Act.put]
        refine tlLn 12 ?_
        refine tlLn 13 ?_
        refine tlLn 14 ?_
        refine rdy 15 fun K hK => ?_
        go_simp
        have gl9 : W1.heap.size ≤ u_1.heap.size := BB.size
        have gx9 : gx < u_1.heap.size := World.block_lt_of_cell? _ _ y0
        have gy9 : gy < u_1.heap.size := World.block_lt_of_cell? _ _ u0
        have p9 := Box.new u_1 false none 0 0 0
        have b := below_alloc u_1 (.cells #[.bool false, .slice none 0 0, .int .i64 0] 24)
        replace BB := bnx BB b rfl rfl rfl rfl
        have G := mv b rfl (J7 y0 y1 y2 u0 u1 u2 h9)
        clear b y0 y1 y2 u0 u1 u2 h9
        obtain ⟨y0, y1, y2, u0, u1, u2, h9⟩ := G
        generalize u_1.alloc (.cells #[.bool false, .slice none 0 0, .int .i64 0] 24) = u_2 at *
        generalize u_1.heap.size = g9 at *
        refine hK.out _ _ (by exact ⟨y0, y1, y2, u0, u1, u2⟩) (fun hHeldr12 => ?_)
        clear hK K hHeldr11
        try simp only [Act.put]
        refine rdy 16 fun K hK => ?_
        obtain ⟨f0, f1, f2⟩ := p9.open
        obtain ⟨z0, z1, z2⟩ := p9.held
        go_simp
        replace y0 := cell_oth3 (g := g9) y0 (by omega) (.bool z.s) (.slice A9 n9 c9) (.int .i64 z.e)
        replace y1 := cell_oth3 (g := g9) y1 (by omega) (.bool z.s) (.slice A9 n9 c9) (.int .i64 z.e)
        replace y2 := cell_oth3 (g := g9) y2 (by omega) (.bool z.s) (.slice A9 n9 c9) (.int .i64 z.e)
        replace u0 := cell_oth3 (g := g9) u0 (by omega) (.bool z.s) (.slice A9 n9 c9) (.int .i64 z.e)
        replace u1 := cell_oth3 (g := g9) u1 (by omega) (.bool z.s) (.slice A9 n9 c9) (.int .i64 z.e)
        replace u2 := cell_oth3 (g := g9) u2 (by omega) (.bool z.s) (.slice A9 n9 c9) (.int .i64 z.e)
        replace h9 := h9.put3 p9 (.bool z.s) (.slice A9 n9 c9) (.int .i64 z.e)
        replace BB := below_put3 (g := g9) BB gl9 (.bool z.s) (.slice A9 n9 c9) (.int .i64 z.e)
        replace p9 := p9.put z.s A9 n9 c9 z.e
        clear f0 f1 f2 z0 z1 z2
        generalize ((u_2.setCell ⟨g9, 0, none⟩ (.bool z.s)).setCell ⟨g9, 1, none⟩ (.slice A9 n9 c9)).setCell ⟨g9, 2, none⟩ (.int .i64 z.e) = u_3 at *
        refine hK.out _ _ (by exact ⟨y0, y1, y2, u0, u1, u2⟩) (fun hHeldr13 => ?_)
        clear hK K hHeldr12
        try simp only [Act.put]
        refine tlLn 17 ?_
        refine wpAnyH_done (by kernel_rfl) ?_ _
        go_wp2_with fail
        go_meet
        case rel => exact ⟨g9, A9, n9, c9, rfl, rfl, gl9, p9, h9, BB⟩
       ·go_simp
        have gl9 : W1.heap.size ≤ wd.heap.size := BB.size
        have gx9 : gx < wd.heap.size := World.block_lt_of_cell? _ _ y0
        have gy9 : gy < wd.heap.size := World.block_lt_of_cell? _ _ u0
        have p9 := Box.new wd false none 0 0 0
        have b := below_alloc wd (.cells #[.bool false, .slice none 0 0, .int .i64 0] 24)
        replace BB := bnx BB b rfl rfl rfl rfl
        have G := mv b rfl (J8 q7 q8 y0 y1 y2 u0 u1 u2)
        clear b q7 q8 y0 y1 y2 u0 u1 u2
        obtain ⟨q7, q8, y0, y1, y2, u0, u1, u2⟩ := G
        generalize wd.alloc (.cells #[.bool false, .slice none 0 0, .int .i64 0] 24) = u_1 at *
        generalize wd.heap.size = g9 at *
        refine hK.out _ _ (by exact ⟨y0, y1, y2, u0, u1, u2⟩) (fun hHeldr11 => ?_)
        clear hK K hHeldr10
        try simp only [Act.put]
        refine rdy 11 fun K hK => ?_
        go_simp
        refine (show Calls _ _ _ _ (TellQ oz _) from by rw [HO.out]; exact rquot_tell S (up := true) q7 q8 hp).mono ?_
        rintro en u_2 ⟨A9, n9, c9, hen, h9, b⟩
        rw [← HZ.out.1, ← HZ.out.2] at hen
        rw [← HZ.out.1] at h9
        subst hen
        clear q7 q8
        replace BB := bnx BB b rfl rfl rfl rfl
        have G := mv b rfl (J7 y0 y1 y2 u0 u1 u2 p9)
        clear b y0 y1 y2 u0 u1 u2 p9
        obtain ⟨y0, y1, y2, u0, u1, u2, p9⟩ := G
        refine hK.out _ _ (by exact ⟨y0, y1, y2, u0, u1, u2⟩) (fun hHeldr12 => ?_)
        clear hK K hHeldr11
        try simp only [Act.put]
        refine tlLn 12 ?_
        refine tlLn 13 ?_
        refine tlLn 14 ?_
        refine rdy 16 fun K hK => ?_
        obtain ⟨f0, f1, f2⟩ := p9.open
        obtain ⟨z0, z1, z2⟩ := p9.held
        go_simp
        replace y0 := cell_oth3 (g := g9) y0 (by omega) (.bool z.s) (.slice A9 n9 c9) (.int .i64 z.e)
        replace y1 := cell_oth3 (g := g9) y1 (by omega) (.bool z.s) (.slice A9 n9 c9) (.int .i64 z.e)
        replace y2 := cell_oth3 (g := g9) y2 (by omega) (.bool z.s) (.slice A9 n9 c9) (.int .i64 z.e)
        replace u0 := cell_oth3 (g := g9) u0 (by omega) (.bool z.s) (.slice A9 n9 c9) (.int .i64 z.e)
        replace u1 := cell_oth3 (g := g9) u1 (by omega) (.bool z.s) (.slice A9 n9 c9) (.int .i64 z.e)
        replace u2 := cell_oth3 (g := g9) u2 (by omega) (.bool z.s) (.slice A9 n9 c9) (.int .i64 z.e)
        replace h9 := h9.put3 p9 (.bool z.s) (.slice A9 n9 c9) (.int .i64 z.e)
        replace BB := below_put3 (g := g9) BB gl9 (.bool z.s) (.slice A9 n9 c9) (.int .i64 z.e)
        replace p9 := p9.put z.s A9 n9 c9 z.e
        clear f0 f1 f2 z0 z1 z2
        generalize ((u_2.setCell ⟨g9, 0, none⟩ (.bool z.s)).setCell ⟨g9, 1, none⟩ (.slice A9 n9 c9)).setCell ⟨g9, 2, none⟩ (.int .i64 z.e) = u_3 at *
        refine hK.out _ _ (by exact ⟨y0, y1, y2, u0, u1, u2⟩) (fun hHeldr13 => ?_)
        clear hK K hHeldr12
        try simp only [Act.put]
        refine tlLn 17 ?_
        refine wpAnyH_done (by kernel_rfl) ?_ _
        go_wp2_with fail
        go_meet
        case rel => exact ⟨g9, A9, n9, c9, rfl, rfl, gl9, p9, h9, BB⟩
      case rest =>
       obtain ⟨g9, A9, n9, c9, rfl, rfl, gl9, p9, h9, b⟩ := hcut
       generalize wc = W2 at *
       clear q7 q8 y0 y1 y2 u0 u1 u2
       replace BB := bnx BB b rfl rfl rfl rfl
       have G := mv b rfl (J6 qx3 qy3 r3 xr3 q3 q4)
       clear b qx3 qy3 r3 xr3 q3 q4
       obtain ⟨qx3, qy3, r3, xr3, q3, q4⟩ := G
       by_cases hz : zk = 0
       rotate_left
       ·have HKK := Lib.hid hz
        have g1 : (zk != 0) = true := by simp; exact hz
        have g2 : (zk == 0) = false := by simp; exact hz
        clear hz
        have HE := Lib.hid (show quoO S p true a b = .error zk from by rw [← HO.out, HZ.out.2]; exact okc_err (by rw [← HZ.out.2]; exact HKK.out))
        have HL := Lib.hid (show q = .error zk from HD.out.trans (by obtain ⟨L1, hL1, _⟩ := HMM.out.1; rw [hL1]; show thn (corO (quoO S p true) x y) _ = _; rw [pre_stop HP.out hi HAB.out.1 HAB.out.2 HE.out]; rfl))
        have r := r3
        obtain ⟨f0, f1, f2, f3, f4, f5⟩ := r.open
        obtain ⟨z0, z1, z2, z3, z4, z5⟩ := r.held
        go_wp2
        have qq := r.put false none 0 0 0 false none 0 0 0
        have HB3 := below_put6 (g := w.heap.size + 2) BB (by omega) (.bool false) (.slice none 0 0) (.int .i64 0) (.bool false) (.slice none 0 0) (.int .i64 0)
        obtain ⟨z0, z1, z2, z3, z4, z5⟩ := qq.held
        first | rw [Exit.noGoto_ret] | skip
        exact bodyPost_ret (v := .tuple #[.agg #[.bool false, .slice none 0 0, .int .i64 0, .bool false, .slice none 0 0, .int .i64 0], .int .i64 zk]) (by simp [results, Tryz.results23, go_sem, z0, z1, z2, z3, z4, z5]) rfl (by rw [HL.out]; exact ⟨none, 0, 0, none, 0, 0, rfl, Rd.nil _ _ _ _ (by omega), Rd.nil _ _ _ _ (by omega), HB3⟩)
       subst hz
       have HE := Lib.hid (show quoO S p true a b = .ok z from by rw [← HO.out, HZ.out.1]; exact okc_ok HC.out HZ.out.2.symm)
       have HPN := Lib.hid (pre_step HP.out hi HAB.out.1 HAB.out.2 HE.out)
       clear HO HC HZ HE
       have lg9 : Hid (W0.heap.size ≠ g9) := Lib.hid (by have := lga.out; omega)
       obtain ⟨p0, p1, p2⟩ := p9.held
       by_cases hi0 : i = 0
       rotate_left
       ·have d1 : ((i : Int) == 0) = false := by simp; exact hi0
        have hL : L ≠ [] := by intro h; have := HP.out.1; rw [h] at this; exact hi0 this.symm
        obtain ⟨ql, hql⟩ : ∃ l, l = greatQ S.K M2 z := ⟨_, rfl⟩
        have HQL := Lib.hid hql
        have HV := Lib.hid (show ql = greL S (L ++ [z]) from by rw [hql, (lea_snoc S (z := z) hL).2, HM.out.2])
        clear hL hql
        go_upto_region 16 with fail
        have b : Below W2.heap.size W2 (World.drew W2) := below_drewN (Below.refl _ _) 1
        replace BB := bnx BB b rfl rfl rfl rfl
        have G := mv b rfl (J11 qx3 qy3 r3 xr3 q3 q4 p9 h9 p0 p1 p2)
        clear b qx3 qy3 r3 xr3 q3 q4 p9 h9 p0 p1 p2
        obtain ⟨qx3, qy3, r3, xr3, q3, q4, p9, h9, p0, p1, p2⟩ := G
        obtain ⟨k0, k1, k2, k3, k4, k5⟩ := xr3.held
        refine wp_region_held_drew (S := fun w' => w'.cell? ⟨g9, 0, none⟩ = some (.bool z.s) ∧ w'.cell? ⟨g9, 1, none⟩ = some (.slice A9 n9 c9) ∧ w'.cell? ⟨g9, 2, none⟩ = some (.int .i64 z.e)) (by kernel_rfl) (by exact ⟨p0, p1, p2⟩) (fun hHeldk10 => ?_)
        generalize World.drew W2 = wd at *
        refine tlLn 0 ?_
        refine tlLn 1 ?_
        refine tlLn 2 ?_
        refine tlLn 4 ?_
        refine rdy 3 fun K hK => ?_
        go_simp
        refine hK.out _ _ (by exact ⟨p0, p1, p2⟩) (fun hHeldk11 => ?_)
        clear hK K hHeldk10
        try simp only [Act.put]
        refine rdy 5 fun K hK => ?_
        go_simp
        refine (show Calls _ _ _ _ (GivQ ql _) from by rw [HQL.out]; exact rgreatest_any (K := S.K) S.big q4 h9).mono ?_
        rintro en x_2 ⟨A10, n10, c10, rfl, h10, b⟩
        replace BB := bnx BB b rfl rfl rfl rfl
        have G := mv b rfl (J17 qx3 qy3 r3 xr3 q3 q4 p9 h9 p0 p1 p2 k0 k1 k2 k3 k4 k5)
        clear b qx3 qy3 r3 xr3 q3 q4 p9 h9 p0 p1 p2 k0 k1 k2 k3 k4 k5
        obtain ⟨qx3, qy3, r3, xr3, q3, q4, p9, h9, p0, p1, p2, k0, k1, k2, k3, k4, k5⟩ := G
        refine hK.out _ _ (by exact ⟨p0, p1, p2⟩) (fun hHeldk12 => ?_)
        clear hK K hHeldk11
        try simp only [Act.put]
        refine tlLn 6 ?_
        refine rdy 7 fun K hK => ?_
        obtain ⟨f0, f1, f2, f3, f4, f5⟩ := xr3.open
        go_simp
        clear k0 k1 k2 k3 k4 k5 f0 f1 f2 f3 f4 f5
        replace qx3 := qs_off3 qx3 xr3.no (by have := lgxy.out; omega) 3 4 5 (.bool ql.s) (.slice A10 n10 c10) (.int .i64 ql.e)
        replace qy3 := qs_off3 qy3 xr3.no (by have := lgxy.out; omega) 3 4 5 (.bool ql.s) (.slice A10 n10 c10) (.int .i64 ql.e)
        replace r3 := ibx_off3 (g := W0.heap.size) r3 (by have := lr_.out; omega) 3 4 5 (.bool ql.s) (.slice A10 n10 c10) (.int .i64 ql.e)
        replace q3 := rd_off3 q3 xr3.no 3 4 5 (.bool ql.s) (.slice A10 n10 c10) (.int .i64 ql.e)
        replace q4 := rd_off3 q4 xr3.no 3 4 5 (.bool ql.s) (.slice A10 n10 c10) (.int .i64 ql.e)
        replace h10 := rd_off3 h10 xr3.no 3 4 5 (.bool ql.s) (.slice A10 n10 c10) (.int .i64 ql.e)
        replace p0 := cell_off3 (g := W0.heap.size) p0 lg9.out.symm 3 4 5 (.bool ql.s) (.slice A10 n10 c10) (.int .i64 ql.e)
        replace p1 := cell_off3 (g := W0.heap.size) p1 lg9.out.symm 3 4 5 (.bool ql.s) (.slice A10 n10 c10) (.int .i64 ql.e)
        replace p2 := cell_off3 (g := W0.heap.size) p2 lg9.out.symm 3 4 5 (.bool ql.s) (.slice A10 n10 c10) (.int .i64 ql.e)
        replace BB := below_off3 (g := W0.heap.size) BB (by have := lgw.out; omega) 3 4 5 (.bool ql.s) (.slice A10 n10 c10) (.int .i64 ql.e)
        replace xr3 := xr3.put1 ql.s A10 n10 c10 ql.e
        generalize ((x_2.setCell ⟨W0.heap.size, 3, none⟩ (.bool ql.s)).setCell ⟨W0.heap.size, 4, none⟩ (.slice A10 n10 c10)).setCell ⟨W0.heap.size, 5, none⟩ (.int .i64 ql.e) = x_3 at *
        refine hK.out _ _ (by exact ⟨p0, p1, p2⟩) (fun hHeldk13 => ?_)
        clear hK K hHeldk12
        try simp only [Act.put]
        refine wpAnyH_done (by kernel_rfl) ?_ _
        go_wp2
        go_roundg (G1 - 1)
        case measure => have := HG2.out; omega
        case rel => exact ⟨i + 1, L ++ [z], by have := HG2.out; omega, by go_num, HPN.out, BB, qx3, qy3, r3, m2, ql, A3, n3, c3, A10, n10, c10, HM.out.1, HV.out, xr3, q3, h10⟩
       subst hi0
       have hL : L = [] := List.eq_nil_of_length_eq_zero HP.out.1
       have HV := Lib.hid (show z = greL S (L ++ [z]) from by rw [hL]; rfl)
       clear hL
       obtain ⟨f0, f1, f2, f3, f4, f5⟩ := xr3.open
       obtain ⟨k0, k1, k2, k3, k4, k5⟩ := xr3.held
       go_wp2
       clear f0 f1 f2 f3 f4 f5 k0 k1 k2 k3 k4 k5
       replace qx3 := qs_off3 qx3 xr3.no (by have := lgxy.out; omega) 3 4 5 (.bool z.s) (.slice A9 n9 c9) (.int .i64 z.e)
       replace qy3 := qs_off3 qy3 xr3.no (by have := lgxy.out; omega) 3 4 5 (.bool z.s) (.slice A9 n9 c9) (.int .i64 z.e)
       replace r3 := ibx_off3 (g := W0.heap.size) r3 (by have := lr_.out; omega) 3 4 5 (.bool z.s) (.slice A9 n9 c9) (.int .i64 z.e)
       replace q3 := rd_off3 q3 xr3.no 3 4 5 (.bool z.s) (.slice A9 n9 c9) (.int .i64 z.e)
       replace q4 := rd_off3 q4 xr3.no 3 4 5 (.bool z.s) (.slice A9 n9 c9) (.int .i64 z.e)
       replace h9 := rd_off3 h9 xr3.no 3 4 5 (.bool z.s) (.slice A9 n9 c9) (.int .i64 z.e)
       replace p0 := cell_off3 (g := W0.heap.size) p0 lg9.out.symm 3 4 5 (.bool z.s) (.slice A9 n9 c9) (.int .i64 z.e)
       replace p1 := cell_off3 (g := W0.heap.size) p1 lg9.out.symm 3 4 5 (.bool z.s) (.slice A9 n9 c9) (.int .i64 z.e)
       replace p2 := cell_off3 (g := W0.heap.size) p2 lg9.out.symm 3 4 5 (.bool z.s) (.slice A9 n9 c9) (.int .i64 z.e)
       replace BB := below_off3 (g := W0.heap.size) BB (by have := lgw.out; omega) 3 4 5 (.bool z.s) (.slice A9 n9 c9) (.int .i64 z.e)
       replace xr3 := xr3.put1 z.s A9 n9 c9 z.e
       go_roundg (G1 - 1)
       case measure => have := HG2.out; omega
       case rel => exact ⟨0 + 1, L ++ [z], by have := HG2.out; omega, by go_num, HPN.out, BB, qx3, qy3, r3, m2, z, A3, n3, c3, A9, n9, c9, HM.out.1, HV.out, xr3, q3, h9⟩
     ·have hi4 : i = 4 := by have := HG2.out; omega
      subst hi4
      have HDN := Lib.hid (pre_done (HP.out : Pre (quoO S p true) x y (2 * 2) L))
      go_wp2
      go_roundg (G0 - 1)
      case measure => have := HG.out; omega
      case rel => exact ⟨1 + 1, by have := HG.out; omega, by go_num, BB, qx3, qy3, r3, m2, M2, A3, n3, c3, A4, n4, c4, .inr (.inr ⟨rfl, by rw [HM.out.1]; exact HMM.out.1, L, HDN.out, HM.out.2⟩), xr3, q3, q4⟩
   ·obtain ⟨L1, hL1, hm⟩ := hm
    obtain ⟨L2, hL2, hM⟩ := hM
    have HL0 := Lib.hid (show q = .ok ⟨m, M⟩ from HD.out.trans (by rw [hL1, hm, hM]; show thn (corO (quoO S p true) x y) _ = _; rw [hL2]; rfl))
    clear hL1 hL2 hm hM qx2 qy2
    obtain ⟨k0, k1, k2, k3, k4, k5⟩ := xr2.held
    have r := r2
    obtain ⟨f0, f1, f2, f3, f4, f5⟩ := r.open
    obtain ⟨z0, z1, z2, z3, z4, z5⟩ := r.held
    go_wp2
    have qq := r.put m.s A5 n5 c5 m.e M.s A6 n6 c6 M.e
    have hN := q5.put6 r (.bool m.s) (.slice A5 n5 c5) (.int .i64 m.e) (.bool M.s) (.slice A6 n6 c6) (.int .i64 M.e)
    have hM := q6.put6 r (.bool m.s) (.slice A5 n5 c5) (.int .i64 m.e) (.bool M.s) (.slice A6 n6 c6) (.int .i64 M.e)
    have HB3 := below_put6 (g := w.heap.size + 2) BB (by omega) (.bool m.s) (.slice A5 n5 c5) (.int .i64 m.e) (.bool M.s) (.slice A6 n6 c6) (.int .i64 M.e)
    obtain ⟨z0, z1, z2, z3, z4, z5⟩ := qq.held
    exact bodyPost_ret (v := .tuple #[.agg #[.bool m.s, .slice A5 n5 c5, .int .i64 m.e, .bool M.s, .slice A6 n6 c6, .int .i64 M.e], .int .i64 0]) (by simp [results, Tryz.results23, go_sem, z0, z1, z2, z3, z4, z5]) rfl (by rw [HL0.out]; exact ⟨_, _, _, _, _, _, rfl, hN, hM, HB3⟩)

end Go.Proofs.YtcbkhmejlaaieaaGreatDoor
