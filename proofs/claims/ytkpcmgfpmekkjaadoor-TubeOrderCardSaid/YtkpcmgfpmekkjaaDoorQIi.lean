/-
  Contracts of ival's Meet, at this translation. Condition: the slices read as limbs, the table of math/bits reads as its text lays it.
-/
import Derived.Test.YtkpcmgfpmekkjaaDoorQIg
namespace Go.Proofs.YtkpcmgfpmekkjaaDoor
open Go.RowKit

theorem may_len {K : Nat} {x : Iv} (h : mayI K x = true) : x.lo.l.length ≤ 10000000000000 ∧ x.hi.l.length ≤ 10000000000000 := by
  obtain ⟨h1, h2, _⟩ := mayI_iff.1 h
  have key : ∀ a : Rw, a.may = true → a.l.length ≤ 10000000000000 := fun a ha => by
    have := (mayD_of a.lt ha).1
    unfold mayB at this
    simp only [Bool.and_eq_true, decide_eq_true_eq] at this
    omega
  exact ⟨key _ h1, key _ h2⟩
theorem fur_len {K : Nat} {a b : Rw} {up : Bool} (ha : a.l.length ≤ 10000000000000) (hb : b.l.length ≤ 10000000000000) : (furQ K a b up).l.length ≤ 10000000000000 := by
  unfold furQ
  split
  · exact hb
  · exact ha
theorem two_may {K : Nat} {x y : Iv} : (∀ i, i < 2 → mayI K (if i = 0 then x else y) = true) ↔ (mayI K x = true ∧ mayI K y = true) := by
  constructor
  · exact fun h => ⟨h 0 (by omega), h 1 (by omega)⟩
  · rintro ⟨h1, h2⟩ i hi
    rcases (show i = 0 ∨ i = 1 by omega) with rfl | rfl
    · exact h1
    · exact h2
theorem one_may {K : Nat} {x : Iv} : (∀ i, i < 1 → mayI K x = true) ↔ mayI K x = true := ⟨fun h => h 0 (by omega), fun h _ _ => h⟩
theorem up3 (w : World) (o o' o'' : Obj) : (((w.alloc o).alloc o').alloc o'').heap.size = w.heap.size + 3 := by simp
theorem ibx_one (w : World) (o : Obj) (s : Bool) (A : Option Addr) (n c : Nat) (e : Int) (t : Bool) (B : Option Addr) (m d : Nat) (f : Int) : Ibx ((w.alloc o).alloc (.cells #[.bool s, .slice A n c, .int .i64 e, .bool t, .slice B m d, .int .i64 f] 35)) (w.heap.size + 1) s A n c e t B m d f := by
  have := Ibx.new (w.alloc o) s A n c e t B m d f
  simpa using this
theorem rows_one {w : World} {g : Nat} (hg : w.heap.size = g) {x : Iv} {A1 : Option Addr} {n1 c1 : Nat} {A2 : Option Addr} {n2 c2 : Nat} (h1 : Rd w .u64 Go.Proofs.YtkpcmgfpmekkjaaDoor.W A1 n1 c1 x.lo.l) (h2 : Rd w .u64 Go.Proofs.YtkpcmgfpmekkjaaDoor.W A2 n2 c2 x.hi.l) : Ivs (w.alloc (.cells #[.bool x.lo.s, .slice A1 n1 c1, .int .i64 x.lo.e, .bool x.hi.s, .slice A2 n2 c2, .int .i64 x.hi.e] 35)) g 0 1 (fun _ => x) := by
  subst hg
  exact ivs_one w h1 h2
theorem rows_two {w : World} {g : Nat} (hg : w.heap.size = g) {x y : Iv} {A1 : Option Addr} {n1 c1 : Nat} {A2 : Option Addr} {n2 c2 : Nat} {A3 : Option Addr} {n3 c3 : Nat} {A4 : Option Addr} {n4 c4 : Nat} (h1 : Rd w .u64 Go.Proofs.YtkpcmgfpmekkjaaDoor.W A1 n1 c1 x.lo.l) (h2 : Rd w .u64 Go.Proofs.YtkpcmgfpmekkjaaDoor.W A2 n2 c2 x.hi.l) (h3 : Rd w .u64 Go.Proofs.YtkpcmgfpmekkjaaDoor.W A3 n3 c3 y.lo.l) (h4 : Rd w .u64 Go.Proofs.YtkpcmgfpmekkjaaDoor.W A4 n4 c4 y.hi.l) : Ivs (w.alloc (.cells #[.bool x.lo.s, .slice A1 n1 c1, .int .i64 x.lo.e, .bool x.hi.s, .slice A2 n2 c2, .int .i64 x.hi.e, .bool y.lo.s, .slice A3 n3 c3, .int .i64 y.lo.e, .bool y.hi.s, .slice A4 n4 c4, .int .i64 y.hi.e] 35)) g 0 2 (fun i => if i = 0 then x else y) := by
  subst hg
  exact ivs_two w h1 h2 h3 h4

set_option maxRecDepth 100000 in
set_option maxHeartbeats 8000000 in
theorem iof_any {w : World} {a : Rw} {A1 : Option Addr} {n1 c1 : Nat} (h1 : Rd w .u64 Go.Proofs.YtkpcmgfpmekkjaaDoor.W A1 n1 c1 a.l) (hn : n1 ≤ 10000000000000) :
    Calls Tryd.prog 24 #[.agg #[.bool a.s, .slice A1 n1 c1, .int .i64 a.e]] w (GivI ⟨a, a⟩ w) := by
  have BB := two_below w (.cells #[.bool a.s, .slice A1 n1 c1, .int .i64 a.e] 28) (.cells #[.bool false, .slice none 0 0, .int .i64 0, .bool false, .slice none 0 0, .int .i64 0] 35)
  have xa := (Box.new w a.s A1 n1 c1 a.e).alloc (.cells #[.bool false, .slice none 0 0, .int .i64 0, .bool false, .slice none 0 0, .int .i64 0] 35)
  have r := ibx_one w (.cells #[.bool a.s, .slice A1 n1 c1, .int .i64 a.e] 28) false none 0 0 0 false none 0 0 0
  have hmf := make_func
  have HN := Lib.hid hn
  clear hn
  replace h1 := mv BB rfl h1
  go_enter Tryd.func24, Tryd.ntmps24
  go_wp2_with fail
  refine (ends1_ok (x := ⟨a, a⟩) (fun _ _ => by kernel_rfl) (by rw [h1.len]; exact HN.out) (fun W2 b2 => of1_any (hi := false) (mv b2 rfl h1) (mv b2 rfl xa)) (by rw [h1.len]; exact HN.out) (fun W2 b2 => of1_any (hi := true) (mv b2 rfl h1) (mv b2 rfl xa))).mono ?_
  rintro en w1 ⟨A3, n3, c3, A4, n4, c4, rfl, h3, h4, b⟩
  clear h1 xa
  replace BB := bnx BB b rfl rfl rfl rfl
  replace r := mv b rfl r
  clear b
  replace h3 : Rd w1 .u64 Go.Proofs.YtkpcmgfpmekkjaaDoor.W A3 n3 c3 a.l := h3
  replace h4 : Rd w1 .u64 Go.Proofs.YtkpcmgfpmekkjaaDoor.W A4 n4 c4 a.l := h4
  obtain ⟨f0, f1, f2, f3, f4, f5⟩ := r.open
  obtain ⟨z0, z1, z2, z3, z4, z5⟩ := r.held
  go_wp2
  have qq := r.put a.s A3 n3 c3 a.e a.s A4 n4 c4 a.e
  have hN := h3.put6 r (.bool a.s) (.slice A3 n3 c3) (.int .i64 a.e) (.bool a.s) (.slice A4 n4 c4) (.int .i64 a.e)
  have hM := h4.put6 r (.bool a.s) (.slice A3 n3 c3) (.int .i64 a.e) (.bool a.s) (.slice A4 n4 c4) (.int .i64 a.e)
  have HB3 := below_put6 (g := w.heap.size + 1) BB (by omega) (.bool a.s) (.slice A3 n3 c3) (.int .i64 a.e) (.bool a.s) (.slice A4 n4 c4) (.int .i64 a.e)
  obtain ⟨z0, z1, z2, z3, z4, z5⟩ := qq.held
  exact bodyPost_ret (v := .agg #[.bool a.s, .slice A3 n3 c3, .int .i64 a.e, .bool a.s, .slice A4 n4 c4, .int .i64 a.e]) (by simp [results, Tryd.results24, go_sem, z0, z1, z2, z3, z4, z5]) rfl ⟨_, _, _, _, _, _, rfl, hN, hM, HB3⟩

set_option maxRecDepth 100000 in
set_option maxHeartbeats 8000000 in
theorem ihull_ok {w : World} {K : Nat} {x y : Iv} {A1 : Option Addr} {n1 c1 : Nat} {A2 : Option Addr} {n2 c2 : Nat} {A3 : Option Addr} {n3 c3 : Nat} {A4 : Option Addr} {n4 c4 : Nat} (hK : 4194304 ≤ K) (hT : Tab w) (h1 : Rd w .u64 Go.Proofs.YtkpcmgfpmekkjaaDoor.W A1 n1 c1 x.lo.l) (h2 : Rd w .u64 Go.Proofs.YtkpcmgfpmekkjaaDoor.W A2 n2 c2 x.hi.l) (h3 : Rd w .u64 Go.Proofs.YtkpcmgfpmekkjaaDoor.W A3 n3 c3 y.lo.l) (h4 : Rd w .u64 Go.Proofs.YtkpcmgfpmekkjaaDoor.W A4 n4 c4 y.hi.l) (hx : mayI K x = true) (hy : mayI K y = true) :
    Calls Tryd.prog 52 #[.agg #[.bool x.lo.s, .slice A1 n1 c1, .int .i64 x.lo.e, .bool x.hi.s, .slice A2 n2 c2, .int .i64 x.hi.e], .agg #[.bool y.lo.s, .slice A3 n3 c3, .int .i64 y.lo.e, .bool y.hi.s, .slice A4 n4 c4, .int .i64 y.hi.e]] w (TellI 0 (hullQ K x y) w) := by
  have BB := three_below w (.cells #[.bool x.lo.s, .slice A1 n1 c1, .int .i64 x.lo.e, .bool x.hi.s, .slice A2 n2 c2, .int .i64 x.hi.e] 35) (.cells #[.bool y.lo.s, .slice A3 n3 c3, .int .i64 y.lo.e, .bool y.hi.s, .slice A4 n4 c4, .int .i64 y.hi.e] 35) (.cells #[.bool false, .slice none 0 0, .int .i64 0, .bool false, .slice none 0 0, .int .i64 0] 35)
  obtain ⟨_, xa, xb⟩ := two_ivl w (x := x) (y := y) (A1 := A1) (n1 := n1) (c1 := c1) (A2 := A2) (n2 := n2) (c2 := c2) (A3 := A3) (n3 := n3) (c3 := c3) (A4 := A4) (n4 := n4) (c4 := c4) 
  replace xa := xa.alloc (.cells #[.bool false, .slice none 0 0, .int .i64 0, .bool false, .slice none 0 0, .int .i64 0] 35)
  replace xb := xb.alloc (.cells #[.bool false, .slice none 0 0, .int .i64 0, .bool false, .slice none 0 0, .int .i64 0] 35)
  have r := ibx_two w (.cells #[.bool x.lo.s, .slice A1 n1 c1, .int .i64 x.lo.e, .bool x.hi.s, .slice A2 n2 c2, .int .i64 x.hi.e] 35) (.cells #[.bool y.lo.s, .slice A3 n3 c3, .int .i64 y.lo.e, .bool y.hi.s, .slice A4 n4 c4, .int .i64 y.hi.e] 35) false none 0 0 0 false none 0 0 0
  have hmf := make_func
  obtain ⟨a0, a1, a2, a3, a4, a5⟩ := xa.held
  obtain ⟨b0, b1, b2, b3, b4, b5⟩ := xb.held
  have G := mv BB rfl (J5 hT h1 h2 h3 h4)
  clear hT h1 h2 h3 h4
  obtain ⟨hT, h1, h2, h3, h4⟩ := G
  have rw1 := rows_two (up3 w (.cells #[.bool x.lo.s, .slice A1 n1 c1, .int .i64 x.lo.e, .bool x.hi.s, .slice A2 n2 c2, .int .i64 x.hi.e] 35) (.cells #[.bool y.lo.s, .slice A3 n3 c3, .int .i64 y.lo.e, .bool y.hi.s, .slice A4 n4 c4, .int .i64 y.hi.e] 35) (.cells #[.bool false, .slice none 0 0, .int .i64 0, .bool false, .slice none 0 0, .int .i64 0] 35)) h1 h2 h3 h4
  have b := below_alloc (((w.alloc (.cells #[.bool x.lo.s, .slice A1 n1 c1, .int .i64 x.lo.e, .bool x.hi.s, .slice A2 n2 c2, .int .i64 x.hi.e] 35)).alloc (.cells #[.bool y.lo.s, .slice A3 n3 c3, .int .i64 y.lo.e, .bool y.hi.s, .slice A4 n4 c4, .int .i64 y.hi.e] 35)).alloc (.cells #[.bool false, .slice none 0 0, .int .i64 0, .bool false, .slice none 0 0, .int .i64 0] 35)) (.cells #[.bool x.lo.s, .slice A1 n1 c1, .int .i64 x.lo.e, .bool x.hi.s, .slice A2 n2 c2, .int .i64 x.hi.e, .bool y.lo.s, .slice A3 n3 c3, .int .i64 y.lo.e, .bool y.hi.s, .slice A4 n4 c4, .int .i64 y.hi.e] 35)
  replace BB := bnx BB b rfl rfl rfl rfl
  have G := mv b rfl (J8 hT h1 h2 h3 h4 r xa xb)
  clear b hT h1 h2 h3 h4 r xa xb
  obtain ⟨hT, h1, h2, h3, h4, r, xa, xb⟩ := G
  obtain ⟨q, hq⟩ : ∃ q, q = hullQ K x y := ⟨_, rfl⟩
  rw [← hq]
  have HQ := Lib.hid hq
  clear hq
  go_enter Tryd.func52, Tryd.ntmps52
  go_wp2_with fail
  refine (asked_ok (x := q) hK hT rw1 (by omega) (two_may.2 ⟨hx, hy⟩) (fun W2 b2 => by rw [HQ.out]; exact ends2_ok (x := hullQ K x y) (fun _ _ => by kernel_rfl) (fur_len (may_len hx).1 (may_len hy).1) (fun W3 b3 => hull1_any (hi := false) hK (mv (b2.trans (b3.mono b2.size)) rfl hT) (mv (b2.trans (b3.mono b2.size)) rfl h1) (mv (b2.trans (b3.mono b2.size)) rfl h2) (mv (b2.trans (b3.mono b2.size)) rfl h3) (mv (b2.trans (b3.mono b2.size)) rfl h4) (mv (b2.trans (b3.mono b2.size)) rfl xa) (mv (b2.trans (b3.mono b2.size)) rfl xb)) (fur_len (may_len hx).2 (may_len hy).2) (fun W3 b3 => hull1_any (hi := true) hK (mv (b2.trans (b3.mono b2.size)) rfl hT) (mv (b2.trans (b3.mono b2.size)) rfl h1) (mv (b2.trans (b3.mono b2.size)) rfl h2) (mv (b2.trans (b3.mono b2.size)) rfl h3) (mv (b2.trans (b3.mono b2.size)) rfl h4) (mv (b2.trans (b3.mono b2.size)) rfl xa) (mv (b2.trans (b3.mono b2.size)) rfl xb)))).mono ?_
  rintro en w5 ⟨A5, n5, c5, A6, n6, c6, rfl, h5, h6, b⟩
  clear hT h1 h2 h3 h4 xa xb rw1
  replace BB := bnx BB b rfl rfl rfl rfl
  replace r := mv b rfl r
  clear b
  obtain ⟨f0, f1, f2, f3, f4, f5⟩ := r.open
  obtain ⟨z0, z1, z2, z3, z4, z5⟩ := r.held
  go_wp2
  have qq := r.put q.lo.s A5 n5 c5 q.lo.e q.hi.s A6 n6 c6 q.hi.e
  have hN := h5.put6 r (.bool q.lo.s) (.slice A5 n5 c5) (.int .i64 q.lo.e) (.bool q.hi.s) (.slice A6 n6 c6) (.int .i64 q.hi.e)
  have hM := h6.put6 r (.bool q.lo.s) (.slice A5 n5 c5) (.int .i64 q.lo.e) (.bool q.hi.s) (.slice A6 n6 c6) (.int .i64 q.hi.e)
  have HB3 := below_put6 (g := w.heap.size + 2) BB (by omega) (.bool q.lo.s) (.slice A5 n5 c5) (.int .i64 q.lo.e) (.bool q.hi.s) (.slice A6 n6 c6) (.int .i64 q.hi.e)
  obtain ⟨z0, z1, z2, z3, z4, z5⟩ := qq.held
  exact bodyPost_ret (v := .tuple #[.agg #[.bool q.lo.s, .slice A5 n5 c5, .int .i64 q.lo.e, .bool q.hi.s, .slice A6 n6 c6, .int .i64 q.hi.e], .int .i64 0]) (by simp [results, Tryd.results52, go_sem, z0, z1, z2, z3, z4, z5]) rfl ⟨_, _, _, _, _, _, rfl, hN, hM, HB3⟩

set_option maxRecDepth 100000 in
set_option maxHeartbeats 8000000 in
theorem ihull_no {w : World} {K : Nat} {x y : Iv} {A1 : Option Addr} {n1 c1 : Nat} {A2 : Option Addr} {n2 c2 : Nat} {A3 : Option Addr} {n3 c3 : Nat} {A4 : Option Addr} {n4 c4 : Nat} (hK : 4194304 ≤ K) (hT : Tab w) (h1 : Rd w .u64 Go.Proofs.YtkpcmgfpmekkjaaDoor.W A1 n1 c1 x.lo.l) (h2 : Rd w .u64 Go.Proofs.YtkpcmgfpmekkjaaDoor.W A2 n2 c2 x.hi.l) (h3 : Rd w .u64 Go.Proofs.YtkpcmgfpmekkjaaDoor.W A3 n3 c3 y.lo.l) (h4 : Rd w .u64 Go.Proofs.YtkpcmgfpmekkjaaDoor.W A4 n4 c4 y.hi.l) (hm : ¬ (mayI K x = true ∧ mayI K y = true)) :
    Calls Tryd.prog 52 #[.agg #[.bool x.lo.s, .slice A1 n1 c1, .int .i64 x.lo.e, .bool x.hi.s, .slice A2 n2 c2, .int .i64 x.hi.e], .agg #[.bool y.lo.s, .slice A3 n3 c3, .int .i64 y.lo.e, .bool y.hi.s, .slice A4 n4 c4, .int .i64 y.hi.e]] w (TellI 1 Iv.zero w) := by
  have BB := three_below w (.cells #[.bool x.lo.s, .slice A1 n1 c1, .int .i64 x.lo.e, .bool x.hi.s, .slice A2 n2 c2, .int .i64 x.hi.e] 35) (.cells #[.bool y.lo.s, .slice A3 n3 c3, .int .i64 y.lo.e, .bool y.hi.s, .slice A4 n4 c4, .int .i64 y.hi.e] 35) (.cells #[.bool false, .slice none 0 0, .int .i64 0, .bool false, .slice none 0 0, .int .i64 0] 35)
  obtain ⟨_, xa, xb⟩ := two_ivl w (x := x) (y := y) (A1 := A1) (n1 := n1) (c1 := c1) (A2 := A2) (n2 := n2) (c2 := c2) (A3 := A3) (n3 := n3) (c3 := c3) (A4 := A4) (n4 := n4) (c4 := c4) 
  replace xa := xa.alloc (.cells #[.bool false, .slice none 0 0, .int .i64 0, .bool false, .slice none 0 0, .int .i64 0] 35)
  replace xb := xb.alloc (.cells #[.bool false, .slice none 0 0, .int .i64 0, .bool false, .slice none 0 0, .int .i64 0] 35)
  have r := ibx_two w (.cells #[.bool x.lo.s, .slice A1 n1 c1, .int .i64 x.lo.e, .bool x.hi.s, .slice A2 n2 c2, .int .i64 x.hi.e] 35) (.cells #[.bool y.lo.s, .slice A3 n3 c3, .int .i64 y.lo.e, .bool y.hi.s, .slice A4 n4 c4, .int .i64 y.hi.e] 35) false none 0 0 0 false none 0 0 0
  have hmf := make_func
  obtain ⟨a0, a1, a2, a3, a4, a5⟩ := xa.held
  obtain ⟨b0, b1, b2, b3, b4, b5⟩ := xb.held
  have G := mv BB rfl (J5 hT h1 h2 h3 h4)
  clear hT h1 h2 h3 h4
  obtain ⟨hT, h1, h2, h3, h4⟩ := G
  have rw1 := rows_two (up3 w (.cells #[.bool x.lo.s, .slice A1 n1 c1, .int .i64 x.lo.e, .bool x.hi.s, .slice A2 n2 c2, .int .i64 x.hi.e] 35) (.cells #[.bool y.lo.s, .slice A3 n3 c3, .int .i64 y.lo.e, .bool y.hi.s, .slice A4 n4 c4, .int .i64 y.hi.e] 35) (.cells #[.bool false, .slice none 0 0, .int .i64 0, .bool false, .slice none 0 0, .int .i64 0] 35)) h1 h2 h3 h4
  have b := below_alloc (((w.alloc (.cells #[.bool x.lo.s, .slice A1 n1 c1, .int .i64 x.lo.e, .bool x.hi.s, .slice A2 n2 c2, .int .i64 x.hi.e] 35)).alloc (.cells #[.bool y.lo.s, .slice A3 n3 c3, .int .i64 y.lo.e, .bool y.hi.s, .slice A4 n4 c4, .int .i64 y.hi.e] 35)).alloc (.cells #[.bool false, .slice none 0 0, .int .i64 0, .bool false, .slice none 0 0, .int .i64 0] 35)) (.cells #[.bool x.lo.s, .slice A1 n1 c1, .int .i64 x.lo.e, .bool x.hi.s, .slice A2 n2 c2, .int .i64 x.hi.e, .bool y.lo.s, .slice A3 n3 c3, .int .i64 y.lo.e, .bool y.hi.s, .slice A4 n4 c4, .int .i64 y.hi.e] 35)
  replace BB := bnx BB b rfl rfl rfl rfl
  have G := mv b rfl (J8 hT h1 h2 h3 h4 r xa xb)
  clear b hT h1 h2 h3 h4 r xa xb
  obtain ⟨hT, h1, h2, h3, h4, r, xa, xb⟩ := G
  obtain ⟨q, hq⟩ : ∃ q, q = Iv.zero := ⟨_, rfl⟩
  rw [← hq]
  have HQ := Lib.hid hq
  clear hq
  go_enter Tryd.func52, Tryd.ntmps52
  go_wp2_with fail
  refine (asked_no hK hT rw1 (by omega) (fun h => hm (two_may.1 h))).mono ?_
  rw [← HQ.out]
  rintro en w5 ⟨A5, n5, c5, A6, n6, c6, rfl, h5, h6, b⟩
  clear hT h1 h2 h3 h4 xa xb rw1
  replace BB := bnx BB b rfl rfl rfl rfl
  replace r := mv b rfl r
  clear b
  obtain ⟨f0, f1, f2, f3, f4, f5⟩ := r.open
  obtain ⟨z0, z1, z2, z3, z4, z5⟩ := r.held
  go_wp2
  have qq := r.put q.lo.s A5 n5 c5 q.lo.e q.hi.s A6 n6 c6 q.hi.e
  have hN := h5.put6 r (.bool q.lo.s) (.slice A5 n5 c5) (.int .i64 q.lo.e) (.bool q.hi.s) (.slice A6 n6 c6) (.int .i64 q.hi.e)
  have hM := h6.put6 r (.bool q.lo.s) (.slice A5 n5 c5) (.int .i64 q.lo.e) (.bool q.hi.s) (.slice A6 n6 c6) (.int .i64 q.hi.e)
  have HB3 := below_put6 (g := w.heap.size + 2) BB (by omega) (.bool q.lo.s) (.slice A5 n5 c5) (.int .i64 q.lo.e) (.bool q.hi.s) (.slice A6 n6 c6) (.int .i64 q.hi.e)
  obtain ⟨z0, z1, z2, z3, z4, z5⟩ := qq.held
  exact bodyPost_ret (v := .tuple #[.agg #[.bool q.lo.s, .slice A5 n5 c5, .int .i64 q.lo.e, .bool q.hi.s, .slice A6 n6 c6, .int .i64 q.hi.e], .int .i64 1]) (by simp [results, Tryd.results52, go_sem, z0, z1, z2, z3, z4, z5]) rfl ⟨_, _, _, _, _, _, rfl, hN, hM, HB3⟩

theorem ihull_any {w : World} {K : Nat} {x y : Iv} {A1 : Option Addr} {n1 c1 : Nat} {A2 : Option Addr} {n2 c2 : Nat} {A3 : Option Addr} {n3 c3 : Nat} {A4 : Option Addr} {n4 c4 : Nat} (hK : 4194304 ≤ K) (hT : Tab w) (h1 : Rd w .u64 Go.Proofs.YtkpcmgfpmekkjaaDoor.W A1 n1 c1 x.lo.l) (h2 : Rd w .u64 Go.Proofs.YtkpcmgfpmekkjaaDoor.W A2 n2 c2 x.hi.l) (h3 : Rd w .u64 Go.Proofs.YtkpcmgfpmekkjaaDoor.W A3 n3 c3 y.lo.l) (h4 : Rd w .u64 Go.Proofs.YtkpcmgfpmekkjaaDoor.W A4 n4 c4 y.hi.l) :
    Calls Tryd.prog 52 #[.agg #[.bool x.lo.s, .slice A1 n1 c1, .int .i64 x.lo.e, .bool x.hi.s, .slice A2 n2 c2, .int .i64 x.hi.e], .agg #[.bool y.lo.s, .slice A3 n3 c3, .int .i64 y.lo.e, .bool y.hi.s, .slice A4 n4 c4, .int .i64 y.hi.e]] w (TellI (hullK K x y) (hullI K x y) w) := by
  unfold hullK hullI
  by_cases hm : mayI K x = true ∧ mayI K y = true
  · rw [if_pos hm, if_pos hm]; exact ihull_ok hK hT h1 h2 h3 h4 hm.1 hm.2
  · rw [if_neg hm, if_neg hm]; exact ihull_no hK hT h1 h2 h3 h4 hm

end Go.Proofs.YtkpcmgfpmekkjaaDoor

namespace Go.Proofs.YtkpcmgfpmekkjaaDoor
open Go.RowKit

end Go.Proofs.YtkpcmgfpmekkjaaDoor
