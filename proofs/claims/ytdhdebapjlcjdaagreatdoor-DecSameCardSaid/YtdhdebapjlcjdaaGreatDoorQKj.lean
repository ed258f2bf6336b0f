/-
 Contract of dec's Lit at its face, at this translation. Condition: the two errors of strconv are interfaces, or nil; the table of math/bits reads as its text lays it.
-/
import Derived.Test.YtdhdebapjlcjdaaGreatDoorQKi
set_option maxHeartbeats 8000000
set_option maxRecDepth 100000
namespace Go.Proofs.YtdhdebapjlcjdaaGreatDoor
open Go.RowKit

theorem lit_face {w : World} {s : ByteArray} {p k : Int} {x : Iv} (hE : Errs w) (hT : Tab w) (hc : ∀ W2 : World, Errs W2 → Tab W2 → W2.cell? ⟨w.heap.size, 0, none⟩ = some (.string s) → Cel W2 (w.heap.size + 1) p → Calls Tryz.prog 18 #[.func (Fn.func 19) #[] #[.pointer (some ⟨w.heap.size, 0, none⟩), .pointer (some ⟨w.heap.size + 1, 0, none⟩)]] W2 (TellI k x W2)) :
  Calls Tryz.prog 6 #[.string s, .int .i64 p] w (TellI k x w) := by
 have hmf := make_func
 have HC := Lib.hid hc
 clear hc
 have BB := three_below w (.cells #[.string s] 9) (.cells #[.int .i64 p] 3) (.cells #[.bool false, .slice none 0 0, .int .i64 0, .bool false, .slice none 0 0, .int .i64 0] 27)
 have hs : (w.alloc (.cells #[.string s] 9)).cell? ⟨w.heap.size, 0, none⟩ = some (.string s) := cell_of_row _ _ 0 _ 9 (0, 0) (heap_alloc_new w _)
 replace hs := mv (below_alloc (w.alloc (.cells #[.string s] 9)) (.cells #[.int .i64 p] 3)) rfl hs
 have hp := Cel.new1 w (.cells #[.string s] 9) p
 have r := Ibx.new ((w.alloc (.cells #[.string s] 9)).alloc (.cells #[.int .i64 p] 3)) false none 0 0 0 false none 0 0 0
 have e2 : ((w.alloc (.cells #[.string s] 9)).alloc (.cells #[.int .i64 p] 3)).heap.size = w.heap.size + 2 := by simp
 rw [e2] at r
 clear e2
 have G := mv (below_alloc ((w.alloc (.cells #[.string s] 9)).alloc (.cells #[.int .i64 p] 3)) (.cells #[.bool false, .slice none 0 0, .int .i64 0, .bool false, .slice none 0 0, .int .i64 0] 27)) rfl <| And.intro hs <| hp
 clear hs hp
 obtain ⟨hs, hp⟩ := G
 have G := mv BB rfl <| And.intro hE <| hT
 clear hE hT
 obtain ⟨hE, hT⟩ := G
 go_enter Tryz.func6, Tryz.ntmps6
 go_wp2_with fail
 refine (HC.out _ hE hT hs hp).mono ?_
 rintro en w5 ⟨A1, n1, c1, A2, n2, c2, rfl, h1, h2, b⟩
 clear hE hT hs hp HC
 replace BB := bnx BB b
 replace r := mv b rfl r
 clear b
 obtain ⟨y0, y1, y2, y3, y4, y5⟩ := r.open
 obtain ⟨z0, z1, z2, z3, z4, z5⟩ := r.held
 go_wp2
 have qq := r.put x.lo.s A1 n1 c1 x.lo.e x.hi.s A2 n2 c2 x.hi.e
 have hN := h1.put6 r (.bool x.lo.s) (.slice A1 n1 c1) (.int .i64 x.lo.e) (.bool x.hi.s) (.slice A2 n2 c2) (.int .i64 x.hi.e)
 have hM := h2.put6 r (.bool x.lo.s) (.slice A1 n1 c1) (.int .i64 x.lo.e) (.bool x.hi.s) (.slice A2 n2 c2) (.int .i64 x.hi.e)
 have HB3 := below_put6 (g := w.heap.size + 2) BB (by omega) (.bool x.lo.s) (.slice A1 n1 c1) (.int .i64 x.lo.e) (.bool x.hi.s) (.slice A2 n2 c2) (.int .i64 x.hi.e)
 obtain ⟨z0, z1, z2, z3, z4, z5⟩ := qq.held
 exact bodyPost_ret (v := .tuple #[.agg #[.bool x.lo.s, .slice A1 n1 c1, .int .i64 x.lo.e, .bool x.hi.s, .slice A2 n2 c2, .int .i64 x.hi.e], .int .i64 k]) (by simp [results, Tryz.results6, go_sem, z0, z1, z2, z3, z4, z5]) rfl ⟨_, _, _, _, _, _, rfl, hN, hM, HB3⟩
theorem okd_blen {s : Bool} {m : Nat} {e : Int} (h : OkD s m e) : blen m ≤ 4096 := by
 rcases h with ⟨rfl, _⟩ | ⟨_, h, _⟩
 ·rw [blen_zero]; omega
 ·have := (blen_le m (64 * 64)).2 (Nat.lt_of_lt_of_eq h W64_pow)
  omega
/-- the one forms of a literal's two naturals -/
theorem lit_norms {d : List UInt8} {t : Int} (hd : Digs d) (hl : d.length ≤ 60) (h1 : -160 ≤ t) (h2 : t ≤ 100) : ∃ s1 v1 f1 s2 v2 f2, Nm false (numV d * 5 ^ t.toNat) t 0 s1 v1 f1 ∧ Nm false (5 ^ (-t).toNat) 0 0 s2 v2 f2 ∧ v2 ≠ 0 ∧ blen v1 ≤ 4096 ∧ blen v2 ≤ 4096 ∧ -10000 ≤ f1 ∧ f1 ≤ 10000 ∧ -10000 ≤ f2 ∧ f2 ≤ 10000 := by
 have b1 : blen (numV d * 5 ^ t.toNat) ≤ 4096 := by
  have := (blen_le _ (64 * 64)).2 (Nat.lt_of_lt_of_eq (ratio_lt (n := t.toNat) hd hl (by omega)) W64_pow)
  omega
 have b2 : blen (5 ^ (-t).toNat) ≤ 4096 := by
  have := (blen_le _ (64 * 64)).2 (Nat.lt_of_lt_of_eq (base_lt (b := 5) (i := (-t).toNat) (by omega) (by omega)) W64_pow)
  omega
 have hY : 5 ^ (-t).toNat ≠ 0 := Nat.ne_of_gt (Nat.pow_pos (by omega))
 generalize numV d * 5 ^ t.toNat = X at *
 generalize 5 ^ (-t).toNat = Y at *
 obtain ⟨k1, s1, v1, f1, n1⟩ := nm_total false X t
 obtain ⟨k2, s2, v2, f2, n2⟩ := nm_total false Y 0
 obtain rfl := nm_good n1 b1 (by omega) (by omega)
 obtain rfl := nm_good n2 b2 (by omega) (by omega)
 have o1 := okd_blen (nm_okd n1)
 have o2 := okd_blen (nm_okd n2)
 refine ⟨s1, v1, f1, s2, v2, f2, n1, n2, ?_, by omega, by omega, ?_⟩
 ·rcases nm_exp n2 with ⟨h, _⟩ | ⟨_, h, _⟩
  ·exact absurd h hY
  ·exact h
 ·have e1 := nm_exp n1
  have e2 := nm_exp n2
  omega
/-- what Lit tells of a literal: the two quotients, rounded -/
def LitQ (d : List UInt8) (t : Int) (p : Nat) (x : Iv) : Prop := ∃ s1 v1 f1 s2 v2 f2 s3 v3 f3 s4 v4 f4, Nm false (numV d * 5 ^ t.toNat) t 0 s1 v1 f1 ∧ Nm false (5 ^ (-t).toNat) 0 0 s2 v2 f2 ∧ QuTold s1 v1 f1 s2 v2 f2 p false 0 s3 v3 f3 ∧ QuTold s1 v1 f1 s2 v2 f2 p true 0 s4 v4 f4 ∧ x = ⟨rwOf s3 v3 f3, rwOf s4 v4 f4⟩
theorem dlit_ok {w : World} {s : ByteArray} {p : Nat} {d : List UInt8} {t : Int} (hE : Errs w) (hT : Tab w) (ho : readD s.data.toList = some (d, t)) (hp1 : 1 ≤ p) (hp2 : p ≤ 2000) :
  ∃ x, LitQ d t p x ∧ Calls Tryz.prog 6 #[.string s, .int .i64 (p : Int)] w (TellI 0 x w) := by
 obtain ⟨hd, hl, t1, t2⟩ := read_some ho
 obtain ⟨s1, v1, f1, s2, v2, f2, n1, n2, hv, b1, b2, r1, r2, r3, r4⟩ := lit_norms hd hl t1 t2
 have hq : ∀ up, ∃ s3 v3 f3, QuTold s1 v1 f1 s2 v2 f2 p up 0 s3 v3 f3 := fun up => by
  obtain ⟨k, s3, v3, f3, h⟩ : ∃ k s3 v3 f3, QuTold s1 v1 f1 s2 v2 f2 p up k s3 v3 f3 := nm_total _ _ _
  obtain rfl := quot_good h hp2 b1 b2 r1 r2 r3 r4
  exact ⟨_, _, _, h⟩
 obtain ⟨s3, v3, f3, q1⟩ := hq false
 obtain ⟨s4, v4, f4, q2⟩ := hq true
 exact ⟨_, ⟨_, _, _, _, _, _, _, _, _, _, _, _, n1, n2, q1, q2, rfl⟩, lit_face hE hT fun _ e t a c => itold_ok (fun _ => by kernel_rfl) fun _ b => lit1_ok (mv b rfl e) (mv b rfl t) (mv b rfl a) (mv b rfl c) ho n1 n2 rfl hp1 hp2 hv q1 q2⟩
end Go.Proofs.YtdhdebapjlcjdaaGreatDoor
