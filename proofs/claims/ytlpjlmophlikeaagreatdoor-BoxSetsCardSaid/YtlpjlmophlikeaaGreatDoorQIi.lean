/-
 Contracts of ival's Meet, at this translation. Condition: the slices read as limbs, the table of math/bits reads as its text lays it.
-/
import Derived.Test.YtlpjlmophlikeaaGreatDoorQIg
set_option maxHeartbeats 8000000
set_option maxRecDepth 100000
namespace Go.Proofs.YtlpjlmophlikeaaGreatDoor
open Go.RowKit

theorem may_len {K : Nat} {x : Iv} (h : mayI K x = true) : x.lo.l.length ≤ 10000000000000 ∧ x.hi.l.length ≤ 10000000000000 := by
 obtain ⟨h1, h2, _⟩ := mayI_iff.1 h
 have key : ∀ a : Rw, a.may = true → a.l.length ≤ 10000000000000 := fun a ha => by
  have := (mayD_of a.lt ha).1
  unfold mayB at this
  simp only [Bool.and_eq_true, decide_eq_true_eq] at this
  omega
 exact ⟨key _ h1, key _ h2⟩
theorem fur_len {K : Nat} {a b : Rw} {up : Bool} (ha : a.l.length ≤ 10000000000000) (hb : b.l.length ≤ 10000000000000) : (furQ K a b up).l.length ≤ 10000000000000 := by
 unfold furQ
 split
 ·exact hb
 ·exact ha
theorem two_may {K : Nat} {x y : Iv} : (∀ i, i < 2 → mayI K (if i = 0 then x else y) = true) ↔ (mayI K x = true ∧ mayI K y = true) := by
 constructor
 ·exact fun h => ⟨h 0 (by omega), h 1 (by omega)⟩
 ·rintro ⟨h1, h2⟩ i hi
  rcases (show i = 0 ∨ i = 1 by omega) with rfl | rfl
  ·exact h1
  ·exact h2
theorem one_may {K : Nat} {x : Iv} : (∀ i, i < 1 → mayI K x = true) ↔ mayI K x = true := ⟨fun h => h 0 (by omega), fun h _ _ => h⟩
theorem up3 (w : World) (o o' o'' : Obj) : (((w.alloc o).alloc o').alloc o'').heap.size = w.heap.size + 3 := by simp
theorem ibx_one (w : World) (o : Obj) (s : Bool) (A : Option Addr) (n c : Nat) (e : Int) (t : Bool) (B : Option Addr) (m d : Nat) (f : Int) : Ibx ((w.alloc o).alloc (.cells #[.bool s, .slice A n c, .int .i64 e, .bool t, .slice B m d, .int .i64 f] 29)) (w.heap.size + 1) s A n c e t B m d f := by
 have := Ibx.new (w.alloc o) s A n c e t B m d f
 simpa using this
theorem rows_one {w : World} {g : Nat} (hg : w.heap.size = g) {x : Iv} {A1 : Option Addr} {n1 c1 : Nat} {A2 : Option Addr} {n2 c2 : Nat} (h1 : Rd w .u64 Go.Proofs.YtlpjlmophlikeaaGreatDoor.W A1 n1 c1 x.lo.l) (h2 : Rd w .u64 Go.Proofs.YtlpjlmophlikeaaGreatDoor.W A2 n2 c2 x.hi.l) : Ivs (w.alloc (.cells #[.bool x.lo.s, .slice A1 n1 c1, .int .i64 x.lo.e, .bool x.hi.s, .slice A2 n2 c2, .int .i64 x.hi.e] 29)) g 0 1 (fun _ => x) := by
 subst hg
 exact ivs_one w h1 h2
theorem rows_two {w : World} {g : Nat} (hg : w.heap.size = g) {x y : Iv} {A1 : Option Addr} {n1 c1 : Nat} {A2 : Option Addr} {n2 c2 : Nat} {A3 : Option Addr} {n3 c3 : Nat} {A4 : Option Addr} {n4 c4 : Nat} (h1 : Rd w .u64 Go.Proofs.YtlpjlmophlikeaaGreatDoor.W A1 n1 c1 x.lo.l) (h2 : Rd w .u64 Go.Proofs.YtlpjlmophlikeaaGreatDoor.W A2 n2 c2 x.hi.l) (h3 : Rd w .u64 Go.Proofs.YtlpjlmophlikeaaGreatDoor.W A3 n3 c3 y.lo.l) (h4 : Rd w .u64 Go.Proofs.YtlpjlmophlikeaaGreatDoor.W A4 n4 c4 y.hi.l) : Ivs (w.alloc (.cells #[.bool x.lo.s, .slice A1 n1 c1, .int .i64 x.lo.e, .bool x.hi.s, .slice A2 n2 c2, .int .i64 x.hi.e, .bool y.lo.s, .slice A3 n3 c3, .int .i64 y.lo.e, .bool y.hi.s, .slice A4 n4 c4, .int .i64 y.hi.e] 29)) g 0 2 (fun i => if i = 0 then x else y) := by
 subst hg
 exact ivs_two w h1 h2 h3 h4

theorem iof_any {w : World} {a : Rw} {A1 : Option Addr} {n1 c1 : Nat} (h1 : Rd w .u64 Go.Proofs.YtlpjlmophlikeaaGreatDoor.W A1 n1 c1 a.l) (hn : n1 ≤ 10000000000000) :
  Calls Tryz.prog 8 #[.agg #[.bool a.s, .slice A1 n1 c1, .int .i64 a.e]] w (GivI ⟨a, a⟩ w) := by
 have BB := two_below w (.cells #[.bool a.s, .slice A1 n1 c1, .int .i64 a.e] 27) (.cells #[.bool false, .slice none 0 0, .int .i64 0, .bool false, .slice none 0 0, .int .i64 0] 29)
 have xa := (Box.new w a.s A1 n1 c1 a.e).alloc (.cells #[.bool false, .slice none 0 0, .int .i64 0, .bool false, .slice none 0 0, .int .i64 0] 29)
 have r := ibx_one w (.cells #[.bool a.s, .slice A1 n1 c1, .int .i64 a.e] 27) false none 0 0 0 false none 0 0 0
 have hmf := make_func
 have HN := Lib.hid hn
 clear hn
 replace h1 := mv BB rfl h1
 go_enter Tryz.func8, Tryz.ntmps8
 go_wp2_with fail
 refine (ends1_ok (x := ⟨a, a⟩) (fun _ _ => by kernel_rfl) (by rw [h1.len]; exact HN.out) (fun W2 b2 => of1_any (hi := false) (mv b2 rfl h1) (mv b2 rfl xa)) (by rw [h1.len]; exact HN.out) (fun W2 b2 => of1_any (hi := true) (mv b2 rfl h1) (mv b2 rfl xa))).mono ?_
 rintro en w1 ⟨A3, n3, c3, A4, n4, c4, rfl, h3, h4, b⟩
 clear h1 xa
 replace BB := bnx BB b
 replace r := mv b rfl r
 clear b
 replace h3 : Rd w1 .u64 Go.Proofs.YtlpjlmophlikeaaGreatDoor.W A3 n3 c3 a.l := h3
 replace h4 : Rd w1 .u64 Go.Proofs.YtlpjlmophlikeaaGreatDoor.W A4 n4 c4 a.l := h4
 obtain ⟨f0, f1, f2, f3, f4, f5⟩ := r.open
 obtain ⟨z0, z1, z2, z3, z4, z5⟩ := r.held
 go_wp2
 have qq := r.put a.s A3 n3 c3 a.e a.s A4 n4 c4 a.e
 have hN := h3.put6 r (.bool a.s) (.slice A3 n3 c3) (.int .i64 a.e) (.bool a.s) (.slice A4 n4 c4) (.int .i64 a.e)
 have hM := h4.put6 r (.bool a.s) (.slice A3 n3 c3) (.int .i64 a.e) (.bool a.s) (.slice A4 n4 c4) (.int .i64 a.e)
 have HB3 := below_put6 (g := w.heap.size + 1) BB (by omega) (.bool a.s) (.slice A3 n3 c3) (.int .i64 a.e) (.bool a.s) (.slice A4 n4 c4) (.int .i64 a.e)
 obtain ⟨z0, z1, z2, z3, z4, z5⟩ := qq.held
 exact bodyPost_ret (v := .agg #[.bool a.s, .slice A3 n3 c3, .int .i64 a.e, .bool a.s, .slice A4 n4 c4, .int .i64 a.e]) (by simp [results, Tryz.results8, go_sem, z0, z1, z2, z3, z4, z5]) rfl ⟨_, _, _, _, _, _, rfl, hN, hM, HB3⟩

theorem ihull_ok {w : World} {K : Nat} {x y : Iv} {A1 : Option Addr} {n1 c1 : Nat} {A2 : Option Addr} {n2 c2 : Nat} {A3 : Option Addr} {n3 c3 : Nat} {A4 : Option Addr} {n4 c4 : Nat} (hK : 4194304 ≤ K) (hT : Tab w) (h1 : Rd w .u64 Go.Proofs.YtlpjlmophlikeaaGreatDoor.W A1 n1 c1 x.lo.l) (h2 : Rd w .u64 Go.Proofs.YtlpjlmophlikeaaGreatDoor.W A2 n2 c2 x.hi.l) (h3 : Rd w .u64 Go.Proofs.YtlpjlmophlikeaaGreatDoor.W A3 n3 c3 y.lo.l) (h4 : Rd w .u64 Go.Proofs.YtlpjlmophlikeaaGreatDoor.W A4 n4 c4 y.hi.l) (hx : mayI K x = true) (hy : mayI K y = true) :
  Calls Tryz.prog 57 #[.agg #[.bool x.lo.s, .slice A1 n1 c1, .int .i64 x.lo.e, .bool x.hi.s, .slice A2 n2 c2, .int .i64 x.hi.e], .agg #[.bool y.lo.s, .slice A3 n3 c3, .int .i64 y.lo.e, .bool y.hi.s, .slice A4 n4 c4, .int .i64 y.hi.e]] w (TellI 0 (hullQ K x y) w) := by
 have BB := three_below w (.cells #[.bool x.lo.s, .slice A1 n1 c1, .int .i64 x.lo.e, .bool x.hi.s, .slice A2 n2 c2, .int .i64 x.hi.e] 29) (.cells #[.bool y.lo.s, .slice A3 n3 c3, .int .i64 y.lo.e, .bool y.hi.s, .slice A4 n4 c4, .int .i64 y.hi.e] 29) (.cells #[.bool false, .slice none 0 0, .int .i64 0, .bool false, .slice none 0 0, .int .i64 0] 29)
 obtain ⟨_, xa, xb⟩ := two_ivl w (x := x) (y := y) (A1 := A1) (n1 := n1) (c1 := c1) (A2 := A2) (n2 := n2) (c2 := c2) (A3 := A3) (n3 := n3) (c3 := c3) (A4 := A4) (n4 := n4) (c4 := c4) 
 replace xa := xa.alloc (.cells #[.bool false, .slice none 0 0, .int .i64 0, .bool false, .slice none 0 0, .int .i64 0] 29)
 replace xb := xb.alloc (.cells #[.bool false, .slice none 0 0, .int .i64 0, .bool false, .slice none 0 0, .int .i64 0] 29)
 have r := ibx_two w (.cells #[.bool x.lo.s, .slice A1 n1 c1, .int .i64 x.lo.e, .bool x.hi.s, .slice A2 n2 c2, .int .i64 x.hi.e] 29) (.cells #[.bool y.lo.s, .slice A3 n3 c3, .int .i64 y.lo.e, .bool y.hi.s, .slice A4 n4 c4, .int .i64 y.hi.e] 29) false none 0 0 0 false none 0 0 0
 have hmf := make_func
 obtain ⟨a0, a1, a2, a3, a4, a5⟩ := xa.held
 obtain ⟨b0, b1, b2, b3, b4, b5⟩ := xb.held
 have G := mv BB rfl (J5 hT h1 h2 h3 h4)
 clear hT h1 h2 h3 h4
 obtain ⟨hT, h1, h2, h3, h4⟩ := G
 have rw1 := rows_two (up3 w (.cells #[.bool x.lo.s, .slice A1 n1 c1, .int .i64 x.lo.e, .bool x.hi.s, .slice A2 n2 c2, .int .i64 x.hi.e] 29) (.cells #[.bool y.lo.s, .slice A3 n3 c3, .int .i64 y.lo.e, .bool y.hi.s, .slice A4 n4 c4, .int .i64 y.hi.e] 29) (.cells #[.bool false, .slice none 0 0, .int .i64 0, .bool false, .slice none 0 0, .int .i64 0] 29)) h1 h2 h3 h4
 have b := below_alloc (((w.alloc (.cells #[.bool x.lo.s, .slice A1 n1 c1, .int .i64 x.lo.e, .bool x.hi.s, .slice A2 n2 c2, .int .i64 x.hi.e] 29)).alloc (.cells #[.bool y.lo.s, .slice A3 n3 c3, .int .i64 y.lo.e, .bool y.hi.s, .slice A4 n4 c4, .int .i64 y.hi.e] 29)).alloc (.cells #[.bool false, .slice none 0 0, .int .i64 0, .bool false, .slice none 0 0, .int .i64 0] 29)) (.cells #[.bool x.lo.s, .slice A1 n1 c1, .int .i64 x.lo.e, .bool x.hi.s, .slice A2 n2 c2, .int .i64 x.hi.e, .bool y.lo.s, .slice A3 n3 c3, .int .i64 y.lo.e, .bool y.hi.s, .slice A4 n4 c4, .int .i64 y.hi.e] 29)
 replace BB := bnx BB b
 have G := mv b rfl (J8 hT h1 h2 h3 h4 r xa xb)
 clear b hT h1 h2 h3 h4 r xa xb
 obtain ⟨hT, h1, h2, h3, h4, r, xa, xb⟩ := G
 obtain ⟨q, hq⟩ : ∃ q, q = hullQ K x y := ⟨_, rfl⟩
 rw [← hq]
 have HQ := Lib.hid hq
 clear hq
 go_enter Tryz.func57, Tryz.ntmps57
 go_wp2_with fail
 refine (asked_ok (x := q) hK hT rw1 (by omega) (two_may.2 ⟨hx, hy⟩) (fun W2 b2 => by rw [HQ.out]; exact ends2_ok (x := hullQ K x y) (fun _ _ => by kernel_rfl) (fur_len (may_len hx).1 (may_len hy).1) (fun W3 b3 => hull1_any (hi := false) hK (mv (b2.trans (b3.mono b2.size)) rfl hT) (mv (b2.trans (b3.mono b2.size)) rfl h1) (mv (b2.trans (b3.mono b2.size)) rfl h2) (mv (b2.trans (b3.mono b2.size)) rfl h3) (mv (b2.trans (b3.mono b2.size)) rfl h4) (mv (b2.trans (b3.mono b2.size)) rfl xa) (mv (b2.trans (b3.mono b2.size)) rfl xb)) (fur_len (may_len hx).2 (may_len hy).2) (fun W3 b3 => hull1_any (hi := true) hK (mv (b2.trans (b3.mono b2.size)) rfl hT) (mv (b2.trans (b3.mono b2.size)) rfl h1) (mv (b2.trans (b3.mono b2.size)) rfl h2) (mv (b2.trans (b3.mono b2.size)) rfl h3) (mv (b2.trans (b3.mono b2.size)) rfl h4) (mv (b2.trans (b3.mono b2.size)) rfl xa) (mv (b2.trans (b3.mono b2.size)) rfl xb)))).mono ?_
 rintro en w5 ⟨A5, n5, c5, A6, n6, c6, rfl, h5, h6, b⟩
 clear hT h1 h2 h3 h4 xa xb rw1
 replace BB := bnx BB b
 replace r := mv b rfl r
 clear b
 obtain ⟨f0, f1, f2, f3, f4, f5⟩ := r.open
 obtain ⟨z0, z1, z2, z3, z4, z5⟩ := r.held
 go_wp2
 have qq := r.put q.lo.s A5 n5 c5 q.lo.e q.hi.s A6 n6 c6 q.hi.e
 have hN := h5.put6 r (.bool q.lo.s) (.slice A5 n5 c5) (.int .i64 q.lo.e) (.bool q.hi.s) (.slice A6 n6 c6) (.int .i64 q.hi.e)
 have hM := h6.put6 r (.bool q.lo.s) (.slice A5 n5 c5) (.int .i64 q.lo.e) (.bool q.hi.s) (.slice A6 n6 c6) (.int .i64 q.hi.e)
 have HB3 := below_put6 (g := w.heap.size + 2) BB (by omega) (.bool q.lo.s) (.slice A5 n5 c5) (.int .i64 q.lo.e) (.bool q.hi.s) (.slice A6 n6 c6) (.int .i64 q.hi.e)
 obtain ⟨z0, z1, z2, z3, z4, z5⟩ := qq.held
 exact bodyPost_ret (v := .tuple #[.agg #[.bool q.lo.s, .slice A5 n5 c5, .int .i64 q.lo.e, .bool q.hi.s, .slice A6 n6 c6, .int .i64 q.hi.e], .int .i64 0]) (by simp [results, Tryz.results57, go_sem, z0, z1, z2, z3, z4, z5]) rfl ⟨_, _, _, _, _, _, rfl, hN, hM, HB3⟩

theorem ihull_no {w : World} {K : Nat} {x y : Iv} {A1 : Option Addr} {n1 c1 : Nat} {A2 : Option Addr} {n2 c2 : Nat} {A3 : Option Addr} {n3 c3 : Nat} {A4 : Option Addr} {n4 c4 : Nat} (hK : 4194304 ≤ K) (hT : Tab w) (h1 : Rd w .u64 Go.Proofs.YtlpjlmophlikeaaGreatDoor.W A1 n1 c1 x.lo.l) (h2 : Rd w .u64 Go.Proofs.YtlpjlmophlikeaaGreatDoor.W A2 n2 c2 x.hi.l) (h3 : Rd w .u64 Go.Proofs.YtlpjlmophlikeaaGreatDoor.W A3 n3 c3 y.lo.l) (h4 : Rd w .u64 Go.Proofs.YtlpjlmophlikeaaGreatDoor.W A4 n4 c4 y.hi.l) (hm : ¬ (mayI K x = true ∧ mayI K y = true)) :
  Calls Tryz.prog 57 #[.agg #[.bool x.lo.s, .slice A1 n1 c1, .int .i64 x.lo.e, .bool x.hi.s, .slice A2 n2 c2, .int .i64 x.hi.e], .agg #[.bool y.lo.s, .slice A3 n3 c3, .int .i64 y.lo.e, .bool y.hi.s, .slice A4 n4 c4, .int .i64 y.hi.e]] w (TellI 1 Iv.zero w) := by
 have BB := three_below w (.cells #[.bool x.lo.s, .slice A1 n1 c1, .int .i64 x.lo.e, .bool x.hi.s, .slice A2 n2 c2, .int .i64 x.hi.e] 29) (.cells #[.bool y.lo.s, .slice A3 n3 c3, .int .i64 y.lo.e, .bool y.hi.s, .slice A4 n4 c4, .int .i64 y.hi.e] 29) (.cells #[.bool false, .slice none 0 0, .int .i64 0, .bool false, .slice none 0 0, .int .i64 0] 29)
 obtain ⟨_, xa, xb⟩ := two_ivl w (x := x) (y := y) (A1 := A1) (n1 := n1) (c1 := c1) (A2 := A2) (n2 := n2) (c2 := c2) (A3 := A3) (n3 := n3) (c3 := c3) (A4 := A4) (n4 := n4) (c4 := c4) 
 replace xa := xa.alloc (.cells #[.bool false, .slice none 0 0, .int .i64 0, .bool false, .slice none 0 0, .int .i64 0] 29)
 replace xb := xb.alloc (.cells #[.bool false, .slice none 0 0, .int .i64 0, .bool false, .slice none 0 0, .int .i64 0] 29)
 have r := ibx_two w (.cells #[.bool x.lo.s, .slice A1 n1 c1, .int .i64 x.lo.e, .bool x.hi.s, .slice A2 n2 c2, .int .i64 x.hi.e] 29) (.cells #[.bool y.lo.s, .slice A3 n3 c3, .int .i64 y.lo.e, .bool y.hi.s, .slice A4 n4 c4, .int .i64 y.hi.e] 29) false none 0 0 0 false none 0 0 0
 have hmf := make_func
 obtain ⟨a0, a1, a2, a3, a4, a5⟩ := xa.held
 obtain ⟨b0, b1, b2, b3, b4, b5⟩ := xb.held
 have G := mv BB rfl (J5 hT h1 h2 h3 h4)
 clear hT h1 h2 h3 h4
 obtain ⟨hT, h1, h2, h3, h4⟩ := G
 have rw1 := rows_two (up3 w (.cells #[.bool x.lo.s, .slice A1 n1 c1, .int .i64 x.lo.e, .bool x.hi.s, .slice A2 n2 c2, .int .i64 x.hi.e] 29) (.cells #[.bool y.lo.s, .slice A3 n3 c3, .int .i64 y.lo.e, .bool y.hi.s, .slice A4 n4 c4, .int .i64 y.hi.e] 29) (.cells #[.bool false, .slice none 0 0, .int .i64 0, .bool false, .slice none 0 0, .int .i64 0] 29)) h1 h2 h3 h4
 have b := below_alloc (((w.alloc (.cells #[.bool x.lo.s, .slice A1 n1 c1, .int .i64 x.lo.e, .bool x.hi.s, .slice A2 n2 c2, .int .i64 x.hi.e] 29)).alloc (.cells #[.bool y.lo.s, .slice A3 n3 c3, .int .i64 y.lo.e, .bool y.hi.s, .slice A4 n4 c4, .int .i64 y.hi.e] 29)).alloc (.cells #[.bool false, .slice none 0 0, .int .i64 0, .bool false, .slice none 0 0, .int .i64 0] 29)) (.cells #[.bool x.lo.s, .slice A1 n1 c1, .int .i64 x.lo.e, .bool x.hi.s, .slice A2 n2 c2, .int .i64 x.hi.e, .bool y.lo.s, .slice A3 n3 c3, .int .i64 y.lo.e, .bool y.hi.s, .slice A4 n4 c4, .int .i64 y.hi.e] 29)
 replace BB := bnx BB b
 have G := mv b rfl (J8 hT h1 h2 h3 h4 r xa xb)
 clear b hT h1 h2 h3 h4 r xa xb
 obtain ⟨hT, h1, h2, h3, h4, r, xa, xb⟩ := G
 obtain ⟨q, hq⟩ : ∃ q, q = Iv.zero := ⟨_, rfl⟩
 rw [← hq]
 have HQ := Lib.hid hq
 clear hq
 go_enter Tryz.func57, Tryz.ntmps57
 go_wp2_with fail
 refine (asked_no hK hT rw1 (by omega) (fun h => hm (two_may.1 h))).mono ?_
 rw [← HQ.out]
 rintro en w5 ⟨A5, n5, c5, A6, n6, c6, rfl, h5, h6, b⟩
 clear hT h1 h2 h3 h4 xa xb rw1
 replace BB := bnx BB b
 replace r := mv b rfl r
 clear b
 obtain ⟨f0, f1, f2, f3, f4, f5⟩ := r.open
 obtain ⟨z0, z1, z2, z3, z4, z5⟩ := r.held
 go_wp2
 have qq := r.put q.lo.s A5 n5 c5 q.lo.e q.hi.s A6 n6 c6 q.hi.e
 have hN := h5.put6 r (.bool q.lo.s) (.slice A5 n5 c5) (.int .i64 q.lo.e) (.bool q.hi.s) (.slice A6 n6 c6) (.int .i64 q.hi.e)
 have hM := h6.put6 r (.bool q.lo.s) (.slice A5 n5 c5) (.int .i64 q.lo.e) (.bool q.hi.s) (.slice A6 n6 c6) (.int .i64 q.hi.e)
 have HB3 := below_put6 (g := w.heap.size + 2) BB (by omega) (.bool q.lo.s) (.slice A5 n5 c5) (.int .i64 q.lo.e) (.bool q.hi.s) (.slice A6 n6 c6) (.int .i64 q.hi.e)
 obtain ⟨z0, z1, z2, z3, z4, z5⟩ := qq.held
 exact bodyPost_ret (v := .tuple #[.agg #[.bool q.lo.s, .slice A5 n5 c5, .int .i64 q.lo.e, .bool q.hi.s, .slice A6 n6 c6, .int .i64 q.hi.e], .int .i64 1]) (by simp [results, Tryz.results57, go_sem, z0, z1, z2, z3, z4, z5]) rfl ⟨_, _, _, _, _, _, rfl, hN, hM, HB3⟩

theorem ihull_any {w : World} {K : Nat} {x y : Iv} {A1 : Option Addr} {n1 c1 : Nat} {A2 : Option Addr} {n2 c2 : Nat} {A3 : Option Addr} {n3 c3 : Nat} {A4 : Option Addr} {n4 c4 : Nat} (hK : 4194304 ≤ K) (hT : Tab w) (h1 : Rd w .u64 Go.Proofs.YtlpjlmophlikeaaGreatDoor.W A1 n1 c1 x.lo.l) (h2 : Rd w .u64 Go.Proofs.YtlpjlmophlikeaaGreatDoor.W A2 n2 c2 x.hi.l) (h3 : Rd w .u64 Go.Proofs.YtlpjlmophlikeaaGreatDoor.W A3 n3 c3 y.lo.l) (h4 : Rd w .u64 Go.Proofs.YtlpjlmophlikeaaGreatDoor.W A4 n4 c4 y.hi.l) :
  Calls Tryz.prog 57 #[.agg #[.bool x.lo.s, .slice A1 n1 c1, .int .i64 x.lo.e, .bool x.hi.s, .slice A2 n2 c2, .int .i64 x.hi.e], .agg #[.bool y.lo.s, .slice A3 n3 c3, .int .i64 y.lo.e, .bool y.hi.s, .slice A4 n4 c4, .int .i64 y.hi.e]] w (TellI (hullK K x y) (hullI K x y) w) := by
 unfold hullK hullI
 by_cases hm : mayI K x = true ∧ mayI K y = true
 ·rw [if_pos hm, if_pos hm]; exact ihull_ok hK hT h1 h2 h3 h4 hm.1 hm.2
 ·rw [if_neg hm, if_neg hm]; exact ihull_no hK hT h1 h2 h3 h4 hm

end Go.Proofs.YtlpjlmophlikeaaGreatDoor

namespace Go.Proofs.YtlpjlmophlikeaaGreatDoor
open Go.RowKit

theorem meet1_ok {w : World} {K g g2 : Nat} {x y : Iv} {A1 : Option Addr} {n1 c1 : Nat} {A2 : Option Addr} {n2 c2 : Nat} {A3 : Option Addr} {n3 c3 : Nat} {A4 : Option Addr} {n4 c4 : Nat} (hK : 4194304 ≤ K) (hT : Tab w) (h1 : Rd w .u64 Go.Proofs.YtlpjlmophlikeaaGreatDoor.W A1 n1 c1 x.lo.l) (h2 : Rd w .u64 Go.Proofs.YtlpjlmophlikeaaGreatDoor.W A2 n2 c2 x.hi.l) (h3 : Rd w .u64 Go.Proofs.YtlpjlmophlikeaaGreatDoor.W A3 n3 c3 y.lo.l) (h4 : Rd w .u64 Go.Proofs.YtlpjlmophlikeaaGreatDoor.W A4 n4 c4 y.hi.l) (xa : Ibx w g x.lo.s A1 n1 c1 x.lo.e x.hi.s A2 n2 c2 x.hi.e) (xb : Ibx w g2 y.lo.s A3 n3 c3 y.lo.e y.hi.s A4 n4 c4 y.hi.e) (hx : mayI K x = true) (hy : mayI K y = true) (hm : mayI K (meetQ K x y) = true) :
  Calls Tryz.prog 65 #[.pointer (some ⟨g, 0, none⟩), .pointer (some ⟨g2, 0, none⟩)] w (GivI (meetQ K x y) w) := by
 have BB := below_alloc w (.cells #[.bool false, .slice none 0 0, .int .i64 0, .bool false, .slice none 0 0, .int .i64 0] 29)
 have la := xa.gl
 have lb := xb.gl
 have hmf := make_func
 have r := Ibx.new w false none 0 0 0 false none 0 0 0
 have G := mv BB rfl (J7 hT h1 h2 h3 h4 xa xb)
 clear hT h1 h2 h3 h4 xa xb
 obtain ⟨hT, h1, h2, h3, h4, xa, xb⟩ := G
 obtain ⟨a0, a1, a2, a3, a4, a5⟩ := xa.held
 obtain ⟨b0, b1, b2, b3, b4, b5⟩ := xb.held
 have rw1 := rows_two (w := (w.alloc (.cells #[.bool false, .slice none 0 0, .int .i64 0, .bool false, .slice none 0 0, .int .i64 0] 29))) (g := w.heap.size + 1) (by simp) h1 h2 h3 h4
 have b := below_alloc (w.alloc (.cells #[.bool false, .slice none 0 0, .int .i64 0, .bool false, .slice none 0 0, .int .i64 0] 29)) (.cells #[.bool x.lo.s, .slice A1 n1 c1, .int .i64 x.lo.e, .bool x.hi.s, .slice A2 n2 c2, .int .i64 x.hi.e, .bool y.lo.s, .slice A3 n3 c3, .int .i64 y.lo.e, .bool y.hi.s, .slice A4 n4 c4, .int .i64 y.hi.e] 29)
 replace BB := bnx BB b
 have G := mv b rfl (J8 hT h1 h2 h3 h4 xa xb r)
 clear b hT h1 h2 h3 h4 xa xb r
 obtain ⟨hT, h1, h2, h3, h4, xa, xb, r⟩ := G
 obtain ⟨q, hq⟩ : ∃ q, q = meetQ K x y := ⟨_, rfl⟩
 rw [← hq] at hm ⊢
 have HQ := Lib.hid hq
 have HM := Lib.hid hm
 clear hq hm
 go_enter Tryz.func65, Tryz.ntmps65
 go_wp2_with fail
 refine (icheck_all hK hT rw1 (by omega) (two_may.2 ⟨hx, hy⟩)).mono ?_
 rintro en w1 ⟨rfl, b⟩
 clear rw1
 clear a0 a1 a2 a3 a4 a5 b0 b1 b2 b3 b4 b5
 replace BB := bnx BB b
 have G := mv b rfl (J8 hT h1 h2 h3 h4 xa xb r)
 clear b hT h1 h2 h3 h4 xa xb r
 obtain ⟨hT, h1, h2, h3, h4, xa, xb, r⟩ := G
 go_wp2_with fail
 refine (show Calls _ _ _ _ (GivI q _) from by rw [HQ.out]; exact ends2_ok (x := meetQ K x y) (fun _ _ => by kernel_rfl) (fur_len (may_len hx).1 (may_len hy).1) (fun W3 b3 => meet11_any (hi := false) hK (mv b3 rfl hT) (mv b3 rfl h1) (mv b3 rfl h2) (mv b3 rfl h3) (mv b3 rfl h4) (mv b3 rfl xa) (mv b3 rfl xb)) (fur_len (may_len hx).2 (may_len hy).2) (fun W3 b3 => meet11_any (hi := true) hK (mv b3 rfl hT) (mv b3 rfl h1) (mv b3 rfl h2) (mv b3 rfl h3) (mv b3 rfl h4) (mv b3 rfl xa) (mv b3 rfl xb))).mono ?_
 rintro en w2 ⟨A5, n5, c5, A6, n6, c6, rfl, h5, h6, b⟩
 clear h1 h2 h3 h4 xa xb
 replace BB := bnx BB b
 have G := mv b rfl <| And.intro hT <| r
 clear b hT r
 obtain ⟨hT, r⟩ := G
 obtain ⟨y_0, y_1, y_2, y_3, y_4, y_5⟩ := (Ibx.new w2 q.lo.s A5 n5 c5 q.lo.e q.hi.s A6 n6 c6 q.hi.e).held
 have b := below_alloc w2 (.cells #[.bool q.lo.s, .slice A5 n5 c5, .int .i64 q.lo.e, .bool q.hi.s, .slice A6 n6 c6, .int .i64 q.hi.e] 29)
 replace BB := bnx BB b
 have G := mv b rfl (J4 hT r h5 h6)
 clear b hT r h5 h6
 obtain ⟨hT, r, h5, h6⟩ := G
 clear HQ
 go_wp2_with fail
 refine (imay_any (x := q) hK hT h5 h6).mono ?_
 rintro en w3 ⟨rfl, b⟩
 rw [HM.out]
 replace BB := bnx BB b
 have G := mv b rfl (J10 hT r h5 h6 y_0 y_1 y_2 y_3 y_4 y_5)
 clear b hT r h5 h6 y_0 y_1 y_2 y_3 y_4 y_5
 obtain ⟨hT, r, h5, h6, y_0, y_1, y_2, y_3, y_4, y_5⟩ := G
 obtain ⟨f0, f1, f2, f3, f4, f5⟩ := r.open
 obtain ⟨z0, z1, z2, z3, z4, z5⟩ := r.held
 go_wp2
 have qq := r.put q.lo.s A5 n5 c5 q.lo.e q.hi.s A6 n6 c6 q.hi.e
 have hN := h5.put6 r (.bool q.lo.s) (.slice A5 n5 c5) (.int .i64 q.lo.e) (.bool q.hi.s) (.slice A6 n6 c6) (.int .i64 q.hi.e)
 have hM := h6.put6 r (.bool q.lo.s) (.slice A5 n5 c5) (.int .i64 q.lo.e) (.bool q.hi.s) (.slice A6 n6 c6) (.int .i64 q.hi.e)
 have HB3 := below_put6 (g := w.heap.size) BB (by omega) (.bool q.lo.s) (.slice A5 n5 c5) (.int .i64 q.lo.e) (.bool q.hi.s) (.slice A6 n6 c6) (.int .i64 q.hi.e)
 obtain ⟨z0, z1, z2, z3, z4, z5⟩ := qq.held
 exact bodyPost_ret (v := .agg #[.bool q.lo.s, .slice A5 n5 c5, .int .i64 q.lo.e, .bool q.hi.s, .slice A6 n6 c6, .int .i64 q.hi.e]) (by simp [results, Tryz.results65, go_sem, z0, z1, z2, z3, z4, z5]) rfl ⟨_, _, _, _, _, _, rfl, hN, hM, HB3⟩

theorem meet1_none {w : World} {K g g2 : Nat} {x y : Iv} {A1 : Option Addr} {n1 c1 : Nat} {A2 : Option Addr} {n2 c2 : Nat} {A3 : Option Addr} {n3 c3 : Nat} {A4 : Option Addr} {n4 c4 : Nat} (hK : 4194304 ≤ K) (hT : Tab w) (h1 : Rd w .u64 Go.Proofs.YtlpjlmophlikeaaGreatDoor.W A1 n1 c1 x.lo.l) (h2 : Rd w .u64 Go.Proofs.YtlpjlmophlikeaaGreatDoor.W A2 n2 c2 x.hi.l) (h3 : Rd w .u64 Go.Proofs.YtlpjlmophlikeaaGreatDoor.W A3 n3 c3 y.lo.l) (h4 : Rd w .u64 Go.Proofs.YtlpjlmophlikeaaGreatDoor.W A4 n4 c4 y.hi.l) (xa : Ibx w g x.lo.s A1 n1 c1 x.lo.e x.hi.s A2 n2 c2 x.hi.e) (xb : Ibx w g2 y.lo.s A3 n3 c3 y.lo.e y.hi.s A4 n4 c4 y.hi.e) (hx : mayI K x = true) (hy : mayI K y = true) (hm : mayI K (meetQ K x y) = false) :
  Calls Tryz.prog 65 #[.pointer (some ⟨g, 0, none⟩), .pointer (some ⟨g2, 0, none⟩)] w (Faults 5 w) := by
 have BB := below_alloc w (.cells #[.bool false, .slice none 0 0, .int .i64 0, .bool false, .slice none 0 0, .int .i64 0] 29)
 have la := xa.gl
 have lb := xb.gl
 have hmf := make_func
 have G := mv BB rfl (J7 hT h1 h2 h3 h4 xa xb)
 clear hT h1 h2 h3 h4 xa xb
 obtain ⟨hT, h1, h2, h3, h4, xa, xb⟩ := G
 obtain ⟨a0, a1, a2, a3, a4, a5⟩ := xa.held
 obtain ⟨b0, b1, b2, b3, b4, b5⟩ := xb.held
 have rw1 := rows_two (w := (w.alloc (.cells #[.bool false, .slice none 0 0, .int .i64 0, .bool false, .slice none 0 0, .int .i64 0] 29))) (g := w.heap.size + 1) (by simp) h1 h2 h3 h4
 have b := below_alloc (w.alloc (.cells #[.bool false, .slice none 0 0, .int .i64 0, .bool false, .slice none 0 0, .int .i64 0] 29)) (.cells #[.bool x.lo.s, .slice A1 n1 c1, .int .i64 x.lo.e, .bool x.hi.s, .slice A2 n2 c2, .int .i64 x.hi.e, .bool y.lo.s, .slice A3 n3 c3, .int .i64 y.lo.e, .bool y.hi.s, .slice A4 n4 c4, .int .i64 y.hi.e] 29)
 replace BB := bnx BB b
 have G := mv b rfl (J7 hT h1 h2 h3 h4 xa xb)
 clear b hT h1 h2 h3 h4 xa xb
 obtain ⟨hT, h1, h2, h3, h4, xa, xb⟩ := G
 obtain ⟨q, hq⟩ : ∃ q, q = meetQ K x y := ⟨_, rfl⟩
 rw [← hq] at hm
 have HQ := Lib.hid hq
 have HM := Lib.hid hm
 clear hq hm
 go_enter Tryz.func65, Tryz.ntmps65
 go_wp2_with fail
 refine (icheck_all hK hT rw1 (by omega) (two_may.2 ⟨hx, hy⟩)).mono ?_
 rintro en w1 ⟨rfl, b⟩
 clear rw1
 clear a0 a1 a2 a3 a4 a5 b0 b1 b2 b3 b4 b5
 replace BB := bnx BB b
 have G := mv b rfl (J7 hT h1 h2 h3 h4 xa xb)
 clear b hT h1 h2 h3 h4 xa xb
 obtain ⟨hT, h1, h2, h3, h4, xa, xb⟩ := G
 go_wp2_with fail
 refine (show Calls _ _ _ _ (GivI q _) from by rw [HQ.out]; exact ends2_ok (x := meetQ K x y) (fun _ _ => by kernel_rfl) (fur_len (may_len hx).1 (may_len hy).1) (fun W3 b3 => meet11_any (hi := false) hK (mv b3 rfl hT) (mv b3 rfl h1) (mv b3 rfl h2) (mv b3 rfl h3) (mv b3 rfl h4) (mv b3 rfl xa) (mv b3 rfl xb)) (fur_len (may_len hx).2 (may_len hy).2) (fun W3 b3 => meet11_any (hi := true) hK (mv b3 rfl hT) (mv b3 rfl h1) (mv b3 rfl h2) (mv b3 rfl h3) (mv b3 rfl h4) (mv b3 rfl xa) (mv b3 rfl xb))).mono ?_
 rintro en w2 ⟨A5, n5, c5, A6, n6, c6, rfl, h5, h6, b⟩
 clear h1 h2 h3 h4 xa xb
 replace BB := bnx BB b
 replace hT := mv b rfl hT
 clear b
 obtain ⟨y_0, y_1, y_2, y_3, y_4, y_5⟩ := (Ibx.new w2 q.lo.s A5 n5 c5 q.lo.e q.hi.s A6 n6 c6 q.hi.e).held
 have b := below_alloc w2 (.cells #[.bool q.lo.s, .slice A5 n5 c5, .int .i64 q.lo.e, .bool q.hi.s, .slice A6 n6 c6, .int .i64 q.hi.e] 29)
 replace BB := bnx BB b
 have G := mv b rfl (J3 hT h5 h6)
 clear b hT h5 h6
 obtain ⟨hT, h5, h6⟩ := G
 clear HQ
 go_wp2_with fail
 refine (imay_any (x := q) hK hT h5 h6).mono ?_
 rintro en w3 ⟨rfl, b⟩
 rw [HM.out]
 replace BB := bnx BB b
 have G := mv b rfl (J9 hT h5 h6 y_0 y_1 y_2 y_3 y_4 y_5)
 clear b hT h5 h6 y_0 y_1 y_2 y_3 y_4 y_5
 obtain ⟨hT, h5, h6, y_0, y_1, y_2, y_3, y_4, y_5⟩ := G
 go_wp2
 exact ⟨rfl, rfl, BB⟩

theorem meet1_no {w : World} {K g g2 : Nat} {x y : Iv} {A1 : Option Addr} {n1 c1 : Nat} {A2 : Option Addr} {n2 c2 : Nat} {A3 : Option Addr} {n3 c3 : Nat} {A4 : Option Addr} {n4 c4 : Nat} (hK : 4194304 ≤ K) (hT : Tab w) (h1 : Rd w .u64 Go.Proofs.YtlpjlmophlikeaaGreatDoor.W A1 n1 c1 x.lo.l) (h2 : Rd w .u64 Go.Proofs.YtlpjlmophlikeaaGreatDoor.W A2 n2 c2 x.hi.l) (h3 : Rd w .u64 Go.Proofs.YtlpjlmophlikeaaGreatDoor.W A3 n3 c3 y.lo.l) (h4 : Rd w .u64 Go.Proofs.YtlpjlmophlikeaaGreatDoor.W A4 n4 c4 y.hi.l) (xa : Ibx w g x.lo.s A1 n1 c1 x.lo.e x.hi.s A2 n2 c2 x.hi.e) (xb : Ibx w g2 y.lo.s A3 n3 c3 y.lo.e y.hi.s A4 n4 c4 y.hi.e) (hm : ¬ (mayI K x = true ∧ mayI K y = true)) :
  Calls Tryz.prog 65 #[.pointer (some ⟨g, 0, none⟩), .pointer (some ⟨g2, 0, none⟩)] w (Faults 1 w) := by
 have BB := below_alloc w (.cells #[.bool false, .slice none 0 0, .int .i64 0, .bool false, .slice none 0 0, .int .i64 0] 29)
 have la := xa.gl
 have lb := xb.gl
 have hmf := make_func
 have G := mv BB rfl (J7 hT h1 h2 h3 h4 xa xb)
 clear hT h1 h2 h3 h4 xa xb
 obtain ⟨hT, h1, h2, h3, h4, xa, xb⟩ := G
 obtain ⟨a0, a1, a2, a3, a4, a5⟩ := xa.held
 obtain ⟨b0, b1, b2, b3, b4, b5⟩ := xb.held
 have rw1 := rows_two (w := (w.alloc (.cells #[.bool false, .slice none 0 0, .int .i64 0, .bool false, .slice none 0 0, .int .i64 0] 29))) (g := w.heap.size + 1) (by simp) h1 h2 h3 h4
 have b := below_alloc (w.alloc (.cells #[.bool false, .slice none 0 0, .int .i64 0, .bool false, .slice none 0 0, .int .i64 0] 29)) (.cells #[.bool x.lo.s, .slice A1 n1 c1, .int .i64 x.lo.e, .bool x.hi.s, .slice A2 n2 c2, .int .i64 x.hi.e, .bool y.lo.s, .slice A3 n3 c3, .int .i64 y.lo.e, .bool y.hi.s, .slice A4 n4 c4, .int .i64 y.hi.e] 29)
 replace BB := bnx BB b
 have G := mv b rfl (J7 hT h1 h2 h3 h4 xa xb)
 clear b hT h1 h2 h3 h4 xa xb
 obtain ⟨hT, h1, h2, h3, h4, xa, xb⟩ := G
 go_enter Tryz.func65, Tryz.ntmps65
 go_wp2_with fail
 refine (icheck_no hK hT rw1 (by omega) (fun h => hm (two_may.1 h))).mono ?_
 rintro en w1 ⟨rfl, b⟩
 replace BB := bnx BB b
 clear b
 go_wp2
 exact ⟨rfl, rfl, BB⟩

theorem imeet_ok {w : World} {K : Nat} {x y : Iv} {A1 : Option Addr} {n1 c1 : Nat} {A2 : Option Addr} {n2 c2 : Nat} {A3 : Option Addr} {n3 c3 : Nat} {A4 : Option Addr} {n4 c4 : Nat} (hK : 4194304 ≤ K) (hT : Tab w) (h1 : Rd w .u64 Go.Proofs.YtlpjlmophlikeaaGreatDoor.W A1 n1 c1 x.lo.l) (h2 : Rd w .u64 Go.Proofs.YtlpjlmophlikeaaGreatDoor.W A2 n2 c2 x.hi.l) (h3 : Rd w .u64 Go.Proofs.YtlpjlmophlikeaaGreatDoor.W A3 n3 c3 y.lo.l) (h4 : Rd w .u64 Go.Proofs.YtlpjlmophlikeaaGreatDoor.W A4 n4 c4 y.hi.l) (hx : mayI K x = true) (hy : mayI K y = true) (hm : mayI K (meetQ K x y) = true) :
  Calls Tryz.prog 24 #[.agg #[.bool x.lo.s, .slice A1 n1 c1, .int .i64 x.lo.e, .bool x.hi.s, .slice A2 n2 c2, .int .i64 x.hi.e], .agg #[.bool y.lo.s, .slice A3 n3 c3, .int .i64 y.lo.e, .bool y.hi.s, .slice A4 n4 c4, .int .i64 y.hi.e]] w (TellI 0 (meetQ K x y) w) := by
 have BB := three_below w (.cells #[.bool x.lo.s, .slice A1 n1 c1, .int .i64 x.lo.e, .bool x.hi.s, .slice A2 n2 c2, .int .i64 x.hi.e] 29) (.cells #[.bool y.lo.s, .slice A3 n3 c3, .int .i64 y.lo.e, .bool y.hi.s, .slice A4 n4 c4, .int .i64 y.hi.e] 29) (.cells #[.bool false, .slice none 0 0, .int .i64 0, .bool false, .slice none 0 0, .int .i64 0] 29)
 obtain ⟨_, xa, xb⟩ := two_ivl w (x := x) (y := y) (A1 := A1) (n1 := n1) (c1 := c1) (A2 := A2) (n2 := n2) (c2 := c2) (A3 := A3) (n3 := n3) (c3 := c3) (A4 := A4) (n4 := n4) (c4 := c4) 
 replace xa := xa.alloc (.cells #[.bool false, .slice none 0 0, .int .i64 0, .bool false, .slice none 0 0, .int .i64 0] 29)
 replace xb := xb.alloc (.cells #[.bool false, .slice none 0 0, .int .i64 0, .bool false, .slice none 0 0, .int .i64 0] 29)
 have r := ibx_two w (.cells #[.bool x.lo.s, .slice A1 n1 c1, .int .i64 x.lo.e, .bool x.hi.s, .slice A2 n2 c2, .int .i64 x.hi.e] 29) (.cells #[.bool y.lo.s, .slice A3 n3 c3, .int .i64 y.lo.e, .bool y.hi.s, .slice A4 n4 c4, .int .i64 y.hi.e] 29) false none 0 0 0 false none 0 0 0
 have hmf := make_func
 have G := mv BB rfl (J5 hT h1 h2 h3 h4)
 clear hT h1 h2 h3 h4
 obtain ⟨hT, h1, h2, h3, h4⟩ := G
 obtain ⟨q, hq⟩ : ∃ q, q = meetQ K x y := ⟨_, rfl⟩
 rw [← hq]
 have HQ := Lib.hid hq
 clear hq
 go_enter Tryz.func24, Tryz.ntmps24
 go_wp2_with fail
 refine (itold_ok (x := q) (fun _ => by kernel_rfl) (fun W2 b2 => by rw [HQ.out]; exact meet1_ok hK (mv b2 rfl hT) (mv b2 rfl h1) (mv b2 rfl h2) (mv b2 rfl h3) (mv b2 rfl h4) (mv b2 rfl xa) (mv b2 rfl xb) hx hy hm)).mono ?_
 rintro en w5 ⟨A5, n5, c5, A6, n6, c6, rfl, h5, h6, b⟩
 clear hT h1 h2 h3 h4 xa xb
 replace BB := bnx BB b
 replace r := mv b rfl r
 clear b
 obtain ⟨f0, f1, f2, f3, f4, f5⟩ := r.open
 obtain ⟨z0, z1, z2, z3, z4, z5⟩ := r.held
 go_wp2
 have qq := r.put q.lo.s A5 n5 c5 q.lo.e q.hi.s A6 n6 c6 q.hi.e
 have hN := h5.put6 r (.bool q.lo.s) (.slice A5 n5 c5) (.int .i64 q.lo.e) (.bool q.hi.s) (.slice A6 n6 c6) (.int .i64 q.hi.e)
 have hM := h6.put6 r (.bool q.lo.s) (.slice A5 n5 c5) (.int .i64 q.lo.e) (.bool q.hi.s) (.slice A6 n6 c6) (.int .i64 q.hi.e)
 have HB3 := below_put6 (g := w.heap.size + 2) BB (by omega) (.bool q.lo.s) (.slice A5 n5 c5) (.int .i64 q.lo.e) (.bool q.hi.s) (.slice A6 n6 c6) (.int .i64 q.hi.e)
 obtain ⟨z0, z1, z2, z3, z4, z5⟩ := qq.held
 exact bodyPost_ret (v := .tuple #[.agg #[.bool q.lo.s, .slice A5 n5 c5, .int .i64 q.lo.e, .bool q.hi.s, .slice A6 n6 c6, .int .i64 q.hi.e], .int .i64 0]) (by simp [results, Tryz.results24, go_sem, z0, z1, z2, z3, z4, z5]) rfl ⟨_, _, _, _, _, _, rfl, hN, hM, HB3⟩

theorem imeet_none {w : World} {K : Nat} {x y : Iv} {A1 : Option Addr} {n1 c1 : Nat} {A2 : Option Addr} {n2 c2 : Nat} {A3 : Option Addr} {n3 c3 : Nat} {A4 : Option Addr} {n4 c4 : Nat} (hK : 4194304 ≤ K) (hT : Tab w) (h1 : Rd w .u64 Go.Proofs.YtlpjlmophlikeaaGreatDoor.W A1 n1 c1 x.lo.l) (h2 : Rd w .u64 Go.Proofs.YtlpjlmophlikeaaGreatDoor.W A2 n2 c2 x.hi.l) (h3 : Rd w .u64 Go.Proofs.YtlpjlmophlikeaaGreatDoor.W A3 n3 c3 y.lo.l) (h4 : Rd w .u64 Go.Proofs.YtlpjlmophlikeaaGreatDoor.W A4 n4 c4 y.hi.l) (hx : mayI K x = true) (hy : mayI K y = true) (hm : mayI K (meetQ K x y) = false) :
  Calls Tryz.prog 24 #[.agg #[.bool x.lo.s, .slice A1 n1 c1, .int .i64 x.lo.e, .bool x.hi.s, .slice A2 n2 c2, .int .i64 x.hi.e], .agg #[.bool y.lo.s, .slice A3 n3 c3, .int .i64 y.lo.e, .bool y.hi.s, .slice A4 n4 c4, .int .i64 y.hi.e]] w (TellI 5 Iv.zero w) := by
 have BB := three_below w (.cells #[.bool x.lo.s, .slice A1 n1 c1, .int .i64 x.lo.e, .bool x.hi.s, .slice A2 n2 c2, .int .i64 x.hi.e] 29) (.cells #[.bool y.lo.s, .slice A3 n3 c3, .int .i64 y.lo.e, .bool y.hi.s, .slice A4 n4 c4, .int .i64 y.hi.e] 29) (.cells #[.bool false, .slice none 0 0, .int .i64 0, .bool false, .slice none 0 0, .int .i64 0] 29)
 obtain ⟨_, xa, xb⟩ := two_ivl w (x := x) (y := y) (A1 := A1) (n1 := n1) (c1 := c1) (A2 := A2) (n2 := n2) (c2 := c2) (A3 := A3) (n3 := n3) (c3 := c3) (A4 := A4) (n4 := n4) (c4 := c4) 
 replace xa := xa.alloc (.cells #[.bool false, .slice none 0 0, .int .i64 0, .bool false, .slice none 0 0, .int .i64 0] 29)
 replace xb := xb.alloc (.cells #[.bool false, .slice none 0 0, .int .i64 0, .bool false, .slice none 0 0, .int .i64 0] 29)
 have r := ibx_two w (.cells #[.bool x.lo.s, .slice A1 n1 c1, .int .i64 x.lo.e, .bool x.hi.s, .slice A2 n2 c2, .int .i64 x.hi.e] 29) (.cells #[.bool y.lo.s, .slice A3 n3 c3, .int .i64 y.lo.e, .bool y.hi.s, .slice A4 n4 c4, .int .i64 y.hi.e] 29) false none 0 0 0 false none 0 0 0
 have hmf := make_func
 have G := mv BB rfl (J5 hT h1 h2 h3 h4)
 clear hT h1 h2 h3 h4
 obtain ⟨hT, h1, h2, h3, h4⟩ := G
 obtain ⟨q, hq⟩ : ∃ q, q = Iv.zero := ⟨_, rfl⟩
 rw [← hq]
 have HQ := Lib.hid hq
 clear hq
 go_enter Tryz.func24, Tryz.ntmps24
 go_wp2_with fail
 refine (itold_no (k := 5) (fun _ => by kernel_rfl) (fun W2 b2 => meet1_none hK (mv b2 rfl hT) (mv b2 rfl h1) (mv b2 rfl h2) (mv b2 rfl h3) (mv b2 rfl h4) (mv b2 rfl xa) (mv b2 rfl xb) hx hy hm)).mono ?_
 rw [← HQ.out]
 rintro en w5 ⟨A5, n5, c5, A6, n6, c6, rfl, h5, h6, b⟩
 clear hT h1 h2 h3 h4 xa xb
 replace BB := bnx BB b
 replace r := mv b rfl r
 clear b
 obtain ⟨f0, f1, f2, f3, f4, f5⟩ := r.open
 obtain ⟨z0, z1, z2, z3, z4, z5⟩ := r.held
 go_wp2
 have qq := r.put q.lo.s A5 n5 c5 q.lo.e q.hi.s A6 n6 c6 q.hi.e
 have hN := h5.put6 r (.bool q.lo.s) (.slice A5 n5 c5) (.int .i64 q.lo.e) (.bool q.hi.s) (.slice A6 n6 c6) (.int .i64 q.hi.e)
 have hM := h6.put6 r (.bool q.lo.s) (.slice A5 n5 c5) (.int .i64 q.lo.e) (.bool q.hi.s) (.slice A6 n6 c6) (.int .i64 q.hi.e)
 have HB3 := below_put6 (g := w.heap.size + 2) BB (by omega) (.bool q.lo.s) (.slice A5 n5 c5) (.int .i64 q.lo.e) (.bool q.hi.s) (.slice A6 n6 c6) (.int .i64 q.hi.e)
 obtain ⟨z0, z1, z2, z3, z4, z5⟩ := qq.held
 exact bodyPost_ret (v := .tuple #[.agg #[.bool q.lo.s, .slice A5 n5 c5, .int .i64 q.lo.e, .bool q.hi.s, .slice A6 n6 c6, .int .i64 q.hi.e], .int .i64 5]) (by simp [results, Tryz.results24, go_sem, z0, z1, z2, z3, z4, z5]) rfl ⟨_, _, _, _, _, _, rfl, hN, hM, HB3⟩

theorem imeet_no {w : World} {K : Nat} {x y : Iv} {A1 : Option Addr} {n1 c1 : Nat} {A2 : Option Addr} {n2 c2 : Nat} {A3 : Option Addr} {n3 c3 : Nat} {A4 : Option Addr} {n4 c4 : Nat} (hK : 4194304 ≤ K) (hT : Tab w) (h1 : Rd w .u64 Go.Proofs.YtlpjlmophlikeaaGreatDoor.W A1 n1 c1 x.lo.l) (h2 : Rd w .u64 Go.Proofs.YtlpjlmophlikeaaGreatDoor.W A2 n2 c2 x.hi.l) (h3 : Rd w .u64 Go.Proofs.YtlpjlmophlikeaaGreatDoor.W A3 n3 c3 y.lo.l) (h4 : Rd w .u64 Go.Proofs.YtlpjlmophlikeaaGreatDoor.W A4 n4 c4 y.hi.l) (hm : ¬ (mayI K x = true ∧ mayI K y = true)) :
  Calls Tryz.prog 24 #[.agg #[.bool x.lo.s, .slice A1 n1 c1, .int .i64 x.lo.e, .bool x.hi.s, .slice A2 n2 c2, .int .i64 x.hi.e], .agg #[.bool y.lo.s, .slice A3 n3 c3, .int .i64 y.lo.e, .bool y.hi.s, .slice A4 n4 c4, .int .i64 y.hi.e]] w (TellI 1 Iv.zero w) := by
 have BB := three_below w (.cells #[.bool x.lo.s, .slice A1 n1 c1, .int .i64 x.lo.e, .bool x.hi.s, .slice A2 n2 c2, .int .i64 x.hi.e] 29) (.cells #[.bool y.lo.s, .slice A3 n3 c3, .int .i64 y.lo.e, .bool y.hi.s, .slice A4 n4 c4, .int .i64 y.hi.e] 29) (.cells #[.bool false, .slice none 0 0, .int .i64 0, .bool false, .slice none 0 0, .int .i64 0] 29)
 obtain ⟨_, xa, xb⟩ := two_ivl w (x := x) (y := y) (A1 := A1) (n1 := n1) (c1 := c1) (A2 := A2) (n2 := n2) (c2 := c2) (A3 := A3) (n3 := n3) (c3 := c3) (A4 := A4) (n4 := n4) (c4 := c4) 
 replace xa := xa.alloc (.cells #[.bool false, .slice none 0 0, .int .i64 0, .bool false, .slice none 0 0, .int .i64 0] 29)
 replace xb := xb.alloc (.cells #[.bool false, .slice none 0 0, .int .i64 0, .bool false, .slice none 0 0, .int .i64 0] 29)
 have r := ibx_two w (.cells #[.bool x.lo.s, .slice A1 n1 c1, .int .i64 x.lo.e, .bool x.hi.s, .slice A2 n2 c2, .int .i64 x.hi.e] 29) (.cells #[.bool y.lo.s, .slice A3 n3 c3, .int .i64 y.lo.e, .bool y.hi.s, .slice A4 n4 c4, .int .i64 y.hi.e] 29) false none 0 0 0 false none 0 0 0
 have hmf := make_func
 have G := mv BB rfl (J5 hT h1 h2 h3 h4)
 clear hT h1 h2 h3 h4
 obtain ⟨hT, h1, h2, h3, h4⟩ := G
 obtain ⟨q, hq⟩ : ∃ q, q = Iv.zero := ⟨_, rfl⟩
 rw [← hq]
 have HQ := Lib.hid hq
 clear hq
 go_enter Tryz.func24, Tryz.ntmps24
 go_wp2_with fail
 refine (itold_no (k := 1) (fun _ => by kernel_rfl) (fun W2 b2 => meet1_no hK (mv b2 rfl hT) (mv b2 rfl h1) (mv b2 rfl h2) (mv b2 rfl h3) (mv b2 rfl h4) (mv b2 rfl xa) (mv b2 rfl xb) hm)).mono ?_
 rw [← HQ.out]
 rintro en w5 ⟨A5, n5, c5, A6, n6, c6, rfl, h5, h6, b⟩
 clear hT h1 h2 h3 h4 xa xb
 replace BB := bnx BB b
 replace r := mv b rfl r
 clear b
 obtain ⟨f0, f1, f2, f3, f4, f5⟩ := r.open
 obtain ⟨z0, z1, z2, z3, z4, z5⟩ := r.held
 go_wp2
 have qq := r.put q.lo.s A5 n5 c5 q.lo.e q.hi.s A6 n6 c6 q.hi.e
 have hN := h5.put6 r (.bool q.lo.s) (.slice A5 n5 c5) (.int .i64 q.lo.e) (.bool q.hi.s) (.slice A6 n6 c6) (.int .i64 q.hi.e)
 have hM := h6.put6 r (.bool q.lo.s) (.slice A5 n5 c5) (.int .i64 q.lo.e) (.bool q.hi.s) (.slice A6 n6 c6) (.int .i64 q.hi.e)
 have HB3 := below_put6 (g := w.heap.size + 2) BB (by omega) (.bool q.lo.s) (.slice A5 n5 c5) (.int .i64 q.lo.e) (.bool q.hi.s) (.slice A6 n6 c6) (.int .i64 q.hi.e)
 obtain ⟨z0, z1, z2, z3, z4, z5⟩ := qq.held
 exact bodyPost_ret (v := .tuple #[.agg #[.bool q.lo.s, .slice A5 n5 c5, .int .i64 q.lo.e, .bool q.hi.s, .slice A6 n6 c6, .int .i64 q.hi.e], .int .i64 1]) (by simp [results, Tryz.results24, go_sem, z0, z1, z2, z3, z4, z5]) rfl ⟨_, _, _, _, _, _, rfl, hN, hM, HB3⟩

theorem imeet_any {w : World} {K : Nat} {x y : Iv} {A1 : Option Addr} {n1 c1 : Nat} {A2 : Option Addr} {n2 c2 : Nat} {A3 : Option Addr} {n3 c3 : Nat} {A4 : Option Addr} {n4 c4 : Nat} (hK : 4194304 ≤ K) (hT : Tab w) (h1 : Rd w .u64 Go.Proofs.YtlpjlmophlikeaaGreatDoor.W A1 n1 c1 x.lo.l) (h2 : Rd w .u64 Go.Proofs.YtlpjlmophlikeaaGreatDoor.W A2 n2 c2 x.hi.l) (h3 : Rd w .u64 Go.Proofs.YtlpjlmophlikeaaGreatDoor.W A3 n3 c3 y.lo.l) (h4 : Rd w .u64 Go.Proofs.YtlpjlmophlikeaaGreatDoor.W A4 n4 c4 y.hi.l) :
  Calls Tryz.prog 24 #[.agg #[.bool x.lo.s, .slice A1 n1 c1, .int .i64 x.lo.e, .bool x.hi.s, .slice A2 n2 c2, .int .i64 x.hi.e], .agg #[.bool y.lo.s, .slice A3 n3 c3, .int .i64 y.lo.e, .bool y.hi.s, .slice A4 n4 c4, .int .i64 y.hi.e]] w (TellI (meetK K x y) (meetI K x y) w) := by
 unfold meetK meetI
 by_cases hm : mayI K x = true ∧ mayI K y = true
 ·by_cases hq : mayI K (meetQ K x y) = true
  ·rw [if_pos hm, if_pos hq, if_pos ⟨hm, hq⟩]; exact imeet_ok hK hT h1 h2 h3 h4 hm.1 hm.2 hq
  ·rw [if_pos hm, if_neg hq, if_neg (fun h => hq h.2)]; exact imeet_none hK hT h1 h2 h3 h4 hm.1 hm.2 (Bool.eq_false_iff.2 hq)
 ·rw [if_neg hm, if_neg (fun h => hm h.1)]; exact imeet_no hK hT h1 h2 h3 h4 hm

end Go.Proofs.YtlpjlmophlikeaaGreatDoor
