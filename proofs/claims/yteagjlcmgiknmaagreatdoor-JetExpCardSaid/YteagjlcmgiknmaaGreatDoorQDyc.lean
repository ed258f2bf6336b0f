/-
 Contracts of dyad's Norm, Of, Cmp, Same at this translation. Condition: the slices read as limbs, the table of math/bits reads as its text lays it.
-/
import Derived.Test.YteagjlcmgiknmaaGreatDoorQDy9
set_option maxHeartbeats 1000000
set_option maxRecDepth 100000
namespace Go.Proofs.YteagjlcmgiknmaaGreatDoor
open Go.RowKit

theorem make_func (fn : Fn) (first cap : Array Value) (w : World) : (Instr.makeFunc fn first cap).run Tryz.prog w = .ok (.func fn first cap) w := rfl
theorem four_below {w : World} {o o' o'' o3 o4 : Obj} : Below w.heap.size w (((((w.alloc o).alloc o').alloc o'').alloc o3).alloc o4) := (three_below w o o' o'').trans ((two_below _ o3 o4).mono (by simp; omega))

theorem face_add {P : Int → Bool → Nat → Int → Prop} {w : World} {A B : Option Addr} {n c m d : Nat} {s t : Bool} {e f : Int}
  (hc : ∀ W2 : World, Below w.heap.size w W2 → Two W2 w.heap.size s t A B n c m d e f → Calls Tryz.prog 173 #[.pointer (some ⟨w.heap.size, 0, none⟩), .pointer (some ⟨w.heap.size + 1, 0, none⟩)] W2 (Ran P W2)) :
  Calls Tryz.prog 162 #[.agg #[.bool s, .slice A n c, .int .i64 e], .agg #[.bool t, .slice B m d, .int .i64 f]] w (Tells P w) := by
 have HC := Lib.hid hc
 clear hc
 have hmf := make_func
 have BB := three_below w (.cells #[.bool s, .slice A n c, .int .i64 e] 25) (.cells #[.bool t, .slice B m d, .int .i64 f] 25) (.cells #[.bool false, .slice none 0 0, .int .i64 0] 25)
 have g := (two_new w s t A B n c m d e f).alloc (.cells #[.bool false, .slice none 0 0, .int .i64 0] 25)
 have r := box_two w (.cells #[.bool s, .slice A n c, .int .i64 e] 25) (.cells #[.bool t, .slice B m d, .int .i64 f] 25) false none 0 0 0
 go_enter Tryz.func162, Tryz.ntmps162
 go_wp2_with fail
 refine (told_any2 (P := P) (fun _ => by kernel_rfl) (fun W2 h2 => ?_)).mono ?_
 ·subst h2
  exact HC.out _ four_below ((g.alloc _).alloc _)
 rintro en w5 ⟨k, s', A5, n5, c5, m', e', rfl, hP, h5, b⟩
 have HP := Lib.hid hP
 replace r := r.next b rfl
 replace BB := bnx BB b
 obtain ⟨f0, f1, f2⟩ := r.open
 obtain ⟨z0, z1, z2⟩ := r.held
 clear b hP g HC
 go_wp2
 have p := r.put s' A5 n5 c5 e'
 have hN5 := h5.put3 r (.bool s') (.slice A5 n5 c5) (.int .i64 e')
 have HB3 := below_put3 (g := w.heap.size + 2) BB (by omega) (.bool s') (.slice A5 n5 c5) (.int .i64 e')
 obtain ⟨z0, z1, z2⟩ := p.held
 exact bodyPost_ret (v := .tuple #[.agg #[.bool s', .slice A5 n5 c5, .int .i64 e'], .int .i64 k]) (by simp [results, Tryz.results162, go_sem, z0, z1, z2]) rfl ⟨_, _, _, _, _, _, _, rfl, HP.out, hN5, HB3⟩
end Go.Proofs.YteagjlcmgiknmaaGreatDoor

namespace Go.Proofs.YteagjlcmgiknmaaGreatDoor
open Go.RowKit

theorem face_mul {P : Int → Bool → Nat → Int → Prop} {w : World} {A B : Option Addr} {n c m d : Nat} {s t : Bool} {e f : Int}
  (hc : ∀ W2 : World, Below w.heap.size w W2 → Two W2 w.heap.size s t A B n c m d e f → Calls Tryz.prog 27 #[.pointer (some ⟨w.heap.size, 0, none⟩), .pointer (some ⟨w.heap.size + 1, 0, none⟩)] W2 (Ran P W2)) :
  Calls Tryz.prog 9 #[.agg #[.bool s, .slice A n c, .int .i64 e], .agg #[.bool t, .slice B m d, .int .i64 f]] w (Tells P w) := by
 have HC := Lib.hid hc
 clear hc
 have hmf := make_func
 have BB := three_below w (.cells #[.bool s, .slice A n c, .int .i64 e] 25) (.cells #[.bool t, .slice B m d, .int .i64 f] 25) (.cells #[.bool false, .slice none 0 0, .int .i64 0] 25)
 have g := (two_new w s t A B n c m d e f).alloc (.cells #[.bool false, .slice none 0 0, .int .i64 0] 25)
 have r := box_two w (.cells #[.bool s, .slice A n c, .int .i64 e] 25) (.cells #[.bool t, .slice B m d, .int .i64 f] 25) false none 0 0 0
 go_enter Tryz.func9, Tryz.ntmps9
 go_wp2_with fail
 refine (told_any2 (P := P) (fun _ => by kernel_rfl) (fun W2 h2 => ?_)).mono ?_
 ·subst h2
  exact HC.out _ four_below ((g.alloc _).alloc _)
 rintro en w5 ⟨k, s', A5, n5, c5, m', e', rfl, hP, h5, b⟩
 have HP := Lib.hid hP
 replace r := r.next b rfl
 replace BB := bnx BB b
 obtain ⟨f0, f1, f2⟩ := r.open
 obtain ⟨z0, z1, z2⟩ := r.held
 clear b hP g HC
 go_wp2
 have p := r.put s' A5 n5 c5 e'
 have hN5 := h5.put3 r (.bool s') (.slice A5 n5 c5) (.int .i64 e')
 have HB3 := below_put3 (g := w.heap.size + 2) BB (by omega) (.bool s') (.slice A5 n5 c5) (.int .i64 e')
 obtain ⟨z0, z1, z2⟩ := p.held
 exact bodyPost_ret (v := .tuple #[.agg #[.bool s', .slice A5 n5 c5, .int .i64 e'], .int .i64 k]) (by simp [results, Tryz.results9, go_sem, z0, z1, z2]) rfl ⟨_, _, _, _, _, _, _, rfl, HP.out, hN5, HB3⟩

theorem mul1_good {w : World} {v : Nat} {A B : Option Addr} {n c m d : Nat} {s t : Bool} {e f : Int} (g : Two w v s t A B n c m d e f) {x y : Nat} (hT : Tab w) (h : Nt w A n c x) (h' : Nt w B m d y) (hd : OkD s x e) (hd' : OkD t y f) (hr : -1048576 ≤ e ∧ e ≤ 1048576 ∧ -1048576 ≤ f ∧ f ≤ 1048576) (hlt : x * y < W ^ 64) {s' : Bool} {m' : Nat} {e' k : Int} (hN : Nm (s != t) (x * y) (e + f) k s' m' e') (hk : k = 0) :
  Calls Tryz.prog 27 #[.pointer (some ⟨v, 0, none⟩), .pointer (some ⟨v + 1, 0, none⟩)] w (Goods s' m' e' w) := by
 have HD := Lib.hid hd
 have HD2 := Lib.hid hd'
 have HS := Lib.hid hlt
 have HN := Lib.hid hN
 have HKK := Lib.hid hk
 clear hlt hN hk hd hd'
 have hs : IntKind.i64.wrap (e + f) = e + f := IntWalk.i64_in _ (by omega)
 have BB := below_alloc w (.cells #[.bool false, .slice none 0 0, .int .i64 0] 25)
 have vl := g.b.gl
 have ne1 : ¬ w.heap.size = v := by omega
 have ne2 : ¬ v = w.heap.size := by omega
 have ne3 : ¬ w.heap.size = v + 1 := by omega
 have ne4 : ¬ v + 1 = w.heap.size := by omega
 replace g := g.alloc (.cells #[.bool false, .slice none 0 0, .int .i64 0] 25)
 have r := Box.new w false none 0 0 0
 obtain ⟨p0, p1, p2, p3, p4, p5⟩ := g.held
 have h1 := h.below BB
 have h2 := h'.below BB
 have hT1 := hT.below BB
 clear h h' hT
 go_enter Tryz.func27, Tryz.ntmps27
 go_wp2_with fail
 refine (checked_ok hT1 h1 HD.out).mono ?_
 rintro en w8 ⟨rfl, b⟩
 replace h1 := h1.next b rfl
 replace h2 := h2.next b rfl
 replace hT1 := hT1.next b rfl
 replace g := g.next b rfl
 replace r := r.next b rfl
 replace BB := bnx BB b
 clear b
 obtain ⟨p0, p1, p2, p3, p4, p5⟩ := g.held
 go_wp2_with fail
 refine (checked_ok hT1 h2 HD2.out).mono ?_
 rintro en w9 ⟨rfl, b⟩
 replace h1 := h1.next b rfl
 replace h2 := h2.next b rfl
 replace hT1 := hT1.next b rfl
 replace g := g.next b rfl
 replace r := r.next b rfl
 replace BB := bnx BB b
 clear b
 obtain ⟨p0, p1, p2, p3, p4, p5⟩ := g.held
 go_wp2_with fail
 refine rgn (fun w' => w'.cell? ⟨v, 0, none⟩ = some (.bool s) ∧ w'.cell? ⟨v, 1, none⟩ = some (.slice A n c) ∧ w'.cell? ⟨v, 2, none⟩ = some (.int .i64 e) ∧ w'.cell? ⟨v + 1, 0, none⟩ = some (.bool t) ∧ w'.cell? ⟨v + 1, 1, none⟩ = some (.slice B m d) ∧ w'.cell? ⟨v + 1, 2, none⟩ = some (.int .i64 f)) fun hHeld => ?_
 refine tl 0 ?_
 refine tl 1 ?_
 refine tl 2 ?_
 refine tl 3 ?_
 refine tl 4 ?_
 refine tl 5 ?_
 refine tl 6 ?_
 refine tl 7 ?_
 refine tl 8 ?_
 refine tl 13 ?_
 refine tl 14 ?_
 refine tl 15 ?_
 refine tl 16 ?_
 refine tl 17 ?_
 refine rdy 9 fun K hK => ?_
 go_simp
 refine (mul_ok (h1.heap (by rfl)) (h2.heap (by rfl)) HS.out).mono ?_
 rintro en w1 ⟨A4, n4, c4, rfl, h4, b⟩
 replace hT1 := hT1.next b (by rfl)
 replace g := g.next b (by rfl)
 replace r := r.next b (by rfl)
 replace BB := below_next BB BB.size b (by rfl) (by rfl) (by rfl) (by rfl)
 clear b h1 h2
 obtain ⟨q0, q1, q2, q3, q4, q5⟩ := g.held
 refine bk hK fun hHeld => ?_
 clear hK K
 try simp only [Act.put]
 refine tl 10 ?_
 refine tl 11 ?_
 refine rdy 12 fun K hK => ?_
 go_simp
 refine (natural_ok).mono ?_
 rintro en w' ⟨rfl, rfl⟩
 refine bk hK fun hHeld => ?_
 clear hK K
 try simp only [Act.put]
 refine rdy 18 fun K hK => ?_
 go_simp
 refine (normal_good (hT1.heap (by rfl)) (h4.heap (by rfl)) (by rw [HKK.out] at HN; exact HN.out)).mono ?_
 rintro en w2 ⟨A5, n5, c5, rfl, h5, b⟩
 replace hT1 := hT1.next b (by rfl)
 replace g := g.next b (by rfl)
 replace r := r.next b (by rfl)
 replace h4 := h4.next b (by rfl)
 replace BB := below_next BB BB.size b (by rfl) (by rfl) (by rfl) (by rfl)
 clear b
 obtain ⟨q0, q1, q2, q3, q4, q5⟩ := g.held
 obtain ⟨f0, f1, f2⟩ := r.open
 obtain ⟨z0, z1, z2⟩ := r.held
 refine bk hK fun hHeld => ?_
 clear hK K
 try simp only [Act.put]
 refine rdy 19 fun K hK => ?_
 go_simp
 refine bk hK fun hHeld => ?_
 clear hK K
 try simp only [Act.put]
 refine wpAnyH_done (by kernel_rfl) ?_ _
 go_wp2
 have p := r.put s' A5 n5 c5 e'
 have hN5 := h5.put3 r (.bool s') (.slice A5 n5 c5) (.int .i64 e')
 have HB3 := below_put3 (g := w.heap.size) BB (Nat.le_refl _) (.bool s') (.slice A5 n5 c5) (.int .i64 e')
 obtain ⟨z0, z1, z2⟩ := p.held
 exact bodyPost_ret (v := .agg #[.bool s', .slice A5 n5 c5, .int .i64 e']) (by simp [results, Tryz.results27, go_sem, z0, z1, z2]) rfl ⟨_, _, _, rfl, hN5, HB3⟩

theorem mul1_fault {w : World} {v : Nat} {A B : Option Addr} {n c m d : Nat} {s t : Bool} {e f : Int} (g : Two w v s t A B n c m d e f) {x y : Nat} (hT : Tab w) (h : Nt w A n c x) (h' : Nt w B m d y) (hd : OkD s x e) (hd' : OkD t y f) (hr : -1048576 ≤ e ∧ e ≤ 1048576 ∧ -1048576 ≤ f ∧ f ≤ 1048576) (hlt : x * y < W ^ 64) {s' : Bool} {m' : Nat} {e' k : Int} (hN : Nm (s != t) (x * y) (e + f) k s' m' e') (hk : k ≠ 0) :
  Calls Tryz.prog 27 #[.pointer (some ⟨v, 0, none⟩), .pointer (some ⟨v + 1, 0, none⟩)] w (Faults k w) := by
 have HD := Lib.hid hd
 have HD2 := Lib.hid hd'
 have HS := Lib.hid hlt
 have HN := Lib.hid hN
 have HKK := Lib.hid hk
 clear hlt hN hk hd hd'
 have hs : IntKind.i64.wrap (e + f) = e + f := IntWalk.i64_in _ (by omega)
 have BB := below_alloc w (.cells #[.bool false, .slice none 0 0, .int .i64 0] 25)
 have vl := g.b.gl
 have ne1 : ¬ w.heap.size = v := by omega
 have ne2 : ¬ v = w.heap.size := by omega
 have ne3 : ¬ w.heap.size = v + 1 := by omega
 have ne4 : ¬ v + 1 = w.heap.size := by omega
 replace g := g.alloc (.cells #[.bool false, .slice none 0 0, .int .i64 0] 25)
 have r := Box.new w false none 0 0 0
 obtain ⟨p0, p1, p2, p3, p4, p5⟩ := g.held
 have h1 := h.below BB
 have h2 := h'.below BB
 have hT1 := hT.below BB
 clear h h' hT
 go_enter Tryz.func27, Tryz.ntmps27
 go_wp2_with fail
 refine (checked_ok hT1 h1 HD.out).mono ?_
 rintro en w8 ⟨rfl, b⟩
 replace h1 := h1.next b rfl
 replace h2 := h2.next b rfl
 replace hT1 := hT1.next b rfl
 replace g := g.next b rfl
 replace r := r.next b rfl
 replace BB := bnx BB b
 clear b
 obtain ⟨p0, p1, p2, p3, p4, p5⟩ := g.held
 go_wp2_with fail
 refine (checked_ok hT1 h2 HD2.out).mono ?_
 rintro en w9 ⟨rfl, b⟩
 replace h1 := h1.next b rfl
 replace h2 := h2.next b rfl
 replace hT1 := hT1.next b rfl
 replace g := g.next b rfl
 replace r := r.next b rfl
 replace BB := bnx BB b
 clear b
 obtain ⟨p0, p1, p2, p3, p4, p5⟩ := g.held
 go_wp2_with fail
 refine rgn (fun w' => w'.cell? ⟨v, 0, none⟩ = some (.bool s) ∧ w'.cell? ⟨v, 1, none⟩ = some (.slice A n c) ∧ w'.cell? ⟨v, 2, none⟩ = some (.int .i64 e) ∧ w'.cell? ⟨v + 1, 0, none⟩ = some (.bool t) ∧ w'.cell? ⟨v + 1, 1, none⟩ = some (.slice B m d) ∧ w'.cell? ⟨v + 1, 2, none⟩ = some (.int .i64 f)) fun hHeld => ?_
 refine tl 0 ?_
 refine tl 1 ?_
 refine tl 2 ?_
 refine tl 3 ?_
 refine tl 4 ?_
 refine tl 5 ?_
 refine tl 6 ?_
 refine tl 7 ?_
 refine tl 8 ?_
 refine tl 13 ?_
 refine tl 14 ?_
 refine tl 15 ?_
 refine tl 16 ?_
 refine tl 17 ?_
 refine rdy 9 fun K hK => ?_
 go_simp
 refine (mul_ok (h1.heap (by rfl)) (h2.heap (by rfl)) HS.out).mono ?_
 rintro en w1 ⟨A4, n4, c4, rfl, h4, b⟩
 replace hT1 := hT1.next b (by rfl)
 replace g := g.next b (by rfl)
 replace r := r.next b (by rfl)
 replace BB := below_next BB BB.size b (by rfl) (by rfl) (by rfl) (by rfl)
 clear b h1 h2
 obtain ⟨q0, q1, q2, q3, q4, q5⟩ := g.held
 refine bk hK fun hHeld => ?_
 clear hK K
 try simp only [Act.put]
 refine tl 10 ?_
 refine tl 11 ?_
 refine rdy 12 fun K hK => ?_
 go_simp
 refine (natural_ok).mono ?_
 rintro en w' ⟨rfl, rfl⟩
 refine bk hK fun hHeld => ?_
 clear hK K
 try simp only [Act.put]
 refine rdy 18 fun K hK => ?_
 go_simp
 refine (normal_fault (hT1.heap (by rfl)) (h4.heap (by rfl)) HN.out HKK.out).mono ?_
 rintro en w9 ⟨rfl, b⟩
 exact ⟨rfl, rfl, below_next BB BB.size b (by rfl) (by rfl) (by rfl) (by rfl)⟩

theorem mul1_over {w : World} {v : Nat} {A B : Option Addr} {n c m d : Nat} {s t : Bool} {e f : Int} (g : Two w v s t A B n c m d e f) {x y : Nat} (hT : Tab w) (h : Nt w A n c x) (h' : Nt w B m d y) (hd : OkD s x e) (hd' : OkD t y f) (hr : -1048576 ≤ e ∧ e ≤ 1048576 ∧ -1048576 ≤ f ∧ f ≤ 1048576) (hov : W ^ 64 ≤ x * y) :
  Calls Tryz.prog 27 #[.pointer (some ⟨v, 0, none⟩), .pointer (some ⟨v + 1, 0, none⟩)] w (Faults 2 w) := by
 have HD := Lib.hid hd
 have HD2 := Lib.hid hd'
 have HS := Lib.hid hov
 clear hov hd hd'
 have hs : IntKind.i64.wrap (e + f) = e + f := IntWalk.i64_in _ (by omega)
 have BB := below_alloc w (.cells #[.bool false, .slice none 0 0, .int .i64 0] 25)
 have vl := g.b.gl
 have ne1 : ¬ w.heap.size = v := by omega
 have ne2 : ¬ v = w.heap.size := by omega
 have ne3 : ¬ w.heap.size = v + 1 := by omega
 have ne4 : ¬ v + 1 = w.heap.size := by omega
 replace g := g.alloc (.cells #[.bool false, .slice none 0 0, .int .i64 0] 25)
 have r := Box.new w false none 0 0 0
 obtain ⟨p0, p1, p2, p3, p4, p5⟩ := g.held
 have h1 := h.below BB
 have h2 := h'.below BB
 have hT1 := hT.below BB
 clear h h' hT
 go_enter Tryz.func27, Tryz.ntmps27
 go_wp2_with fail
 refine (checked_ok hT1 h1 HD.out).mono ?_
 rintro en w8 ⟨rfl, b⟩
 replace h1 := h1.next b rfl
 replace h2 := h2.next b rfl
 replace hT1 := hT1.next b rfl
 replace g := g.next b rfl
 replace r := r.next b rfl
 replace BB := bnx BB b
 clear b
 obtain ⟨p0, p1, p2, p3, p4, p5⟩ := g.held
 go_wp2_with fail
 refine (checked_ok hT1 h2 HD2.out).mono ?_
 rintro en w9 ⟨rfl, b⟩
 replace h1 := h1.next b rfl
 replace h2 := h2.next b rfl
 replace hT1 := hT1.next b rfl
 replace g := g.next b rfl
 replace r := r.next b rfl
 replace BB := bnx BB b
 clear b
 obtain ⟨p0, p1, p2, p3, p4, p5⟩ := g.held
 go_wp2_with fail
 refine rgn (fun w' => w'.cell? ⟨v, 0, none⟩ = some (.bool s) ∧ w'.cell? ⟨v, 1, none⟩ = some (.slice A n c) ∧ w'.cell? ⟨v, 2, none⟩ = some (.int .i64 e) ∧ w'.cell? ⟨v + 1, 0, none⟩ = some (.bool t) ∧ w'.cell? ⟨v + 1, 1, none⟩ = some (.slice B m d) ∧ w'.cell? ⟨v + 1, 2, none⟩ = some (.int .i64 f)) fun hHeld => ?_
 refine tl 0 ?_
 refine tl 1 ?_
 refine tl 2 ?_
 refine tl 3 ?_
 refine tl 4 ?_
 refine tl 5 ?_
 refine tl 6 ?_
 refine tl 7 ?_
 refine tl 8 ?_
 refine tl 13 ?_
 refine tl 14 ?_
 refine tl 15 ?_
 refine tl 16 ?_
 refine tl 17 ?_
 refine rdy 9 fun K hK => ?_
 go_simp
 refine (mul_over (h1.heap (by rfl)) (h2.heap (by rfl)) HS.out).mono ?_
 rintro en w1 ⟨rfl, b⟩
 replace h1 := h1.next b (by rfl)
 replace h2 := h2.next b (by rfl)
 replace hT1 := hT1.next b (by rfl)
 replace g := g.next b (by rfl)
 replace r := r.next b (by rfl)
 replace BB := below_next BB BB.size b (by rfl) (by rfl) (by rfl) (by rfl)
 clear b
 obtain ⟨q0, q1, q2, q3, q4, q5⟩ := g.held
 refine bk hK fun hHeld => ?_
 clear hK K
 try simp only [Act.put]
 refine tl 10 ?_
 refine tl 11 ?_
 refine rdy 12 fun K hK => ?_
 go_simp
 refine (natural_bad (k := 2) (by decide)).mono ?_
 rintro en w' ⟨rfl, rfl⟩
 exact ⟨rfl, rfl, BB⟩

theorem odd_mul {x y : Nat} (hx : x % 2 = 1) (hy : y % 2 = 1) : x * y % 2 = 1 := by rw [Nat.mul_mod, hx, hy]
theorem mul1_any {w : World} {v : Nat} {A B : Option Addr} {n c m d : Nat} {s t : Bool} {e f : Int} (g : Two w v s t A B n c m d e f) {x y : Nat} (hT : Tab w) (h : Nt w A n c x) (h' : Nt w B m d y) (hd : OkD s x e) (hd' : OkD t y f) :
  Calls Tryz.prog 27 #[.pointer (some ⟨v, 0, none⟩), .pointer (some ⟨v + 1, 0, none⟩)] w (Ran (Nm (s != t) (x * y) (e + f)) w) := by
 have r1 := okd_ge (K := 4194304) (Nat.le_refl _) hd
 have r2 := okd_ge (K := 4194304) (Nat.le_refl _) hd'
 have hr : -1048576 ≤ e ∧ e ≤ 1048576 ∧ -1048576 ≤ f ∧ f ≤ 1048576 := ⟨r1.1, r1.2.1, r2.1, r2.2.1⟩
 rcases Nat.lt_or_ge (x * y) (W ^ 64) with hlt | hov
 ·obtain ⟨k, s', m', e', hN⟩ := nm_total (s != t) (x * y) (e + f)
  by_cases hk : k = 0
  ·exact (mul1_good g hT h h' hd hd' hr hlt hN hk).mono fun _ _ hg => ran_good hg (by rw [← hk]; exact hN)
  ·refine (mul1_fault g hT h h' hd hd' hr hlt hN hk).mono fun _ _ hg => ran_fault hg hk ?_
   obtain ⟨_, rfl, rfl, rfl⟩ := (nm_code hN).resolve_left hk
   exact hN
 ·refine (mul1_over g hT h h' hd hd' hr hov).mono fun _ _ hg => ran_fault hg (by decide) (nm_big ?_ hov)
  have hp : 0 < W ^ 64 := Nat.pow_pos (by rw [W_eq]; omega)
  refine odd_mul ?_ ?_
  ·rcases hd with ⟨h0, _⟩ | ⟨h0, _⟩
   ·rw [h0, Nat.zero_mul] at hov; omega
   ·exact h0
  ·rcases hd' with ⟨h0, _⟩ | ⟨h0, _⟩
   ·rw [h0, Nat.mul_zero] at hov; omega
   ·exact h0

theorem mul1_no1 {w : World} {v : Nat} {A B : Option Addr} {n c m d : Nat} {s t : Bool} {e f : Int} (g : Two w v s t A B n c m d e f) {l : List Nat} (hT : Tab w) (h : Rd w .u64 W A n c l) (hd : mayD s l e = false) :
  Calls Tryz.prog 27 #[.pointer (some ⟨v, 0, none⟩), .pointer (some ⟨v + 1, 0, none⟩)] w (Faults 1 w) := by
 have HD := Lib.hid hd
 clear hd
 have BB := below_alloc w (.cells #[.bool false, .slice none 0 0, .int .i64 0] 25)
 have vl := g.b.gl
 have ne1 : ¬ w.heap.size = v := by omega
 have ne2 : ¬ v = w.heap.size := by omega
 have ne3 : ¬ w.heap.size = v + 1 := by omega
 have ne4 : ¬ v + 1 = w.heap.size := by omega
 replace g := g.alloc (.cells #[.bool false, .slice none 0 0, .int .i64 0] 25)
 have r := Box.new w false none 0 0 0
 obtain ⟨p0, p1, p2, p3, p4, p5⟩ := g.held
 have h1 := h.below BB
 have hT1 := hT.below BB
 clear h hT
 go_enter Tryz.func27, Tryz.ntmps27
 go_wp2_with fail
 refine (checked_no hT1 h1 HD.out).mono ?_
 rintro en w9 ⟨rfl, b⟩
 replace BB := bnx BB b
 clear b
 go_wp2
 exact ⟨rfl, rfl, BB⟩

theorem mul1_no2 {w : World} {v : Nat} {A B : Option Addr} {n c m d : Nat} {s t : Bool} {e f : Int} (g : Two w v s t A B n c m d e f) {x : Nat} {rr : List Nat} (hT : Tab w) (h : Nt w A n c x) (hd : OkD s x e) (h' : Rd w .u64 W B m d rr) (hd' : mayD t rr f = false) :
  Calls Tryz.prog 27 #[.pointer (some ⟨v, 0, none⟩), .pointer (some ⟨v + 1, 0, none⟩)] w (Faults 1 w) := by
 have HD := Lib.hid hd
 have HD2 := Lib.hid hd'
 clear hd hd'
 have BB := below_alloc w (.cells #[.bool false, .slice none 0 0, .int .i64 0] 25)
 have vl := g.b.gl
 have ne1 : ¬ w.heap.size = v := by omega
 have ne2 : ¬ v = w.heap.size := by omega
 have ne3 : ¬ w.heap.size = v + 1 := by omega
 have ne4 : ¬ v + 1 = w.heap.size := by omega
 replace g := g.alloc (.cells #[.bool false, .slice none 0 0, .int .i64 0] 25)
 have r := Box.new w false none 0 0 0
 obtain ⟨p0, p1, p2, p3, p4, p5⟩ := g.held
 have h1 := h.below BB
 have h2 := h'.below BB
 have hT1 := hT.below BB
 clear h h' hT
 go_enter Tryz.func27, Tryz.ntmps27
 go_wp2_with fail
 refine (checked_ok hT1 h1 HD.out).mono ?_
 rintro en w8 ⟨rfl, b⟩
 replace h2 := h2.next b rfl
 replace hT1 := hT1.next b rfl
 replace g := g.next b rfl
 replace r := r.next b rfl
 replace BB := bnx BB b
 clear b
 obtain ⟨p0, p1, p2, p3, p4, p5⟩ := g.held
 go_wp2_with fail
 refine (checked_no hT1 h2 HD2.out).mono ?_
 rintro en w9 ⟨rfl, b⟩
 replace BB := bnx BB b
 clear b
 go_wp2
 exact ⟨rfl, rfl, BB⟩

/-- what is told of what may not be -/
def Wrong (k : Int) (s : Bool) (m : Nat) (e : Int) : Prop := k = 1 ∧ s = false ∧ m = 0 ∧ e = 0
theorem dadd_ok {w : World} {A B : Option Addr} {n c m d : Nat} {s t : Bool} {e f : Int} {x y K : Nat} (hK : 4194304 ≤ K) (hT : Tab w) (h : Nt w A n c x) (h' : Nt w B m d y) (hd : OkD s x e) (hd' : OkD t y f) :
  Calls Tryz.prog 162 #[.agg #[.bool s, .slice A n c, .int .i64 e], .agg #[.bool t, .slice B m d, .int .i64 f]] w (Tells (NmV K (vz K s x e + vz K t y f)) w) :=
 face_add fun _ b g => add1_any g hK (hT.below b) (h.below b) (h'.below b) hd hd'
theorem dadd_no {w : World} {A B : Option Addr} {n c m d : Nat} {s t : Bool} {e f : Int} {l rr : List Nat} (hT : Tab w) (h : Rd w .u64 W A n c l) (h' : Rd w .u64 W B m d rr) (hd : (mayD s l e && mayD t rr f) = false) :
  Calls Tryz.prog 162 #[.agg #[.bool s, .slice A n c, .int .i64 e], .agg #[.bool t, .slice B m d, .int .i64 f]] w (Tells Wrong w) := by
 refine face_add fun W2 b g => ?_
 cases h1 : mayD s l e
 ·exact (add1_no1 g (hT.below b) (h.below b) h1).mono fun _ _ hg => ran_fault hg (by decide) ⟨rfl, rfl, rfl, rfl⟩
 ·obtain ⟨m1, m2⟩ := mayD_of h.lt h1
  exact (add1_no2 g (hT.below b) ((nt_of h m1).1.below b) m2 (h'.below b) (by simpa [h1] using hd)).mono fun _ _ hg => ran_fault hg (by decide) ⟨rfl, rfl, rfl, rfl⟩
theorem dmul_ok {w : World} {A B : Option Addr} {n c m d : Nat} {s t : Bool} {e f : Int} {x y : Nat} (hT : Tab w) (h : Nt w A n c x) (h' : Nt w B m d y) (hd : OkD s x e) (hd' : OkD t y f) :
  Calls Tryz.prog 9 #[.agg #[.bool s, .slice A n c, .int .i64 e], .agg #[.bool t, .slice B m d, .int .i64 f]] w (Tells (Nm (s != t) (x * y) (e + f)) w) :=
 face_mul fun _ b g => mul1_any g (hT.below b) (h.below b) (h'.below b) hd hd'
theorem dmul_no {w : World} {A B : Option Addr} {n c m d : Nat} {s t : Bool} {e f : Int} {l rr : List Nat} (hT : Tab w) (h : Rd w .u64 W A n c l) (h' : Rd w .u64 W B m d rr) (hd : (mayD s l e && mayD t rr f) = false) :
  Calls Tryz.prog 9 #[.agg #[.bool s, .slice A n c, .int .i64 e], .agg #[.bool t, .slice B m d, .int .i64 f]] w (Tells Wrong w) := by
 refine face_mul fun W2 b g => ?_
 cases h1 : mayD s l e
 ·exact (mul1_no1 g (hT.below b) (h.below b) h1).mono fun _ _ hg => ran_fault hg (by decide) ⟨rfl, rfl, rfl, rfl⟩
 ·obtain ⟨m1, m2⟩ := mayD_of h.lt h1
  exact (mul1_no2 g (hT.below b) ((nt_of h m1).1.below b) m2 (h'.below b) (by simpa [h1] using hd)).mono fun _ _ hg => ran_fault hg (by decide) ⟨rfl, rfl, rfl, rfl⟩
end Go.Proofs.YteagjlcmgiknmaaGreatDoor

namespace Go.Proofs.YteagjlcmgiknmaaGreatDoor
open Go.RowKit

/-- the blocks of Norm's three arguments -/
structure Tri (w : World) (v : Nat) (s : Bool) (A : Option Addr) (n c : Nat) (e : Int) : Prop where
 a : w.heap[v]? = some (.cells #[.bool s] 4 (0, 0))
 b : w.heap[v + 1]? = some (.cells #[.slice A n c] 23 (0, 0))
 c : w.heap[v + 2]? = some (.cells #[.int .i64 e] 3 (0, 0))
section
variable {w w' : World} {v : Nat} {s : Bool} {A : Option Addr} {n c : Nat} {e : Int}
theorem Tri.gl (h : Tri w v s A n c e) : v + 2 < w.heap.size := by
 rcases Nat.lt_or_ge (v + 2) w.heap.size with hlt | hge
 ·exact hlt
 ·have := h.c; rw [Array.getElem?_eq_none hge] at this; cases this
theorem Tri.below {b0 : Nat} (h : Tri w v s A n c e) (hb : Below b0 w w') (hg : v + 2 < b0) : Tri w' v s A n c e := ⟨(hb.block _ (by omega)).trans h.a, (hb.block _ (by omega)).trans h.b, (hb.block _ hg).trans h.c⟩
theorem Tri.alloc (h : Tri w v s A n c e) (o : Obj) : Tri (w.alloc o) v s A n c e := h.below (below_alloc w o) h.gl
theorem Tri.held (h : Tri w v s A n c e) : w.cell? ⟨v, 0, none⟩ = some (.bool s) ∧ w.cell? ⟨v + 1, 0, none⟩ = some (.slice A n c) ∧ w.cell? ⟨v + 2, 0, none⟩ = some (.int .i64 e) :=
 ⟨cell_of_row w v 0 _ _ (0, 0) h.a, cell_of_row w (v + 1) 0 _ _ (0, 0) h.b, cell_of_row w (v + 2) 0 _ _ (0, 0) h.c⟩
theorem tri_new (w : World) (s : Bool) (A : Option Addr) (n c : Nat) (e : Int) : Tri (((w.alloc (.cells #[.bool s] 4)).alloc (.cells #[.slice A n c] 23)).alloc (.cells #[.int .i64 e] 3)) w.heap.size s A n c e := by
 have h1 := heap_alloc_new w (.cells #[.bool s] 4)
 have h2 := heap_alloc_new (w.alloc (.cells #[.bool s] 4)) (.cells #[.slice A n c] 23)
 have h3 := heap_alloc_new ((w.alloc (.cells #[.bool s] 4)).alloc (.cells #[.slice A n c] 23)) (.cells #[.int .i64 e] 3)
 have s1 : (w.alloc (.cells #[.bool s] 4)).heap.size = w.heap.size + 1 := by simp
 have s2 : ((w.alloc (.cells #[.bool s] 4)).alloc (.cells #[.slice A n c] 23)).heap.size = w.heap.size + 2 := by simp
 rw [s1] at h2
 rw [s2] at h3
 refine ⟨?_, ?_, h3⟩
 ·rw [(two_below (w.alloc (.cells #[.bool s] 4)) _ _).block _ (by rw [s1]; omega)]; exact h1
 ·rw [(below_alloc _ _).block _ (by rw [s2]; omega)]; exact h2
end

theorem norm1_any {w : World} {v : Nat} {A : Option Addr} {n c m : Nat} {s : Bool} {e : Int} (g : Tri w v s A n c e) (hT : Tab w) (h : Nt w A n c m) :
  Calls Tryz.prog 37 #[.pointer (some ⟨v, 0, none⟩), .pointer (some ⟨v + 1, 0, none⟩), .pointer (some ⟨v + 2, 0, none⟩)] w (Ran (Nm s m e) w) := by
 have BB := below_alloc w (.cells #[.bool false, .slice none 0 0, .int .i64 0] 25)
 have r := Box.new w false none 0 0 0
 obtain ⟨p0, p1, p2⟩ := (g.alloc (.cells #[.bool false, .slice none 0 0, .int .i64 0] 25)).held
 have h1 := h.below BB
 have hT1 := hT.below BB
 clear h hT g
 go_enter Tryz.func37, Tryz.ntmps37
 go_wp2_with fail
 refine (normal_any (s := s) (e := e) hT1 h1).mono ?_
 rintro en w2 (⟨s5, A5, n5, c5, m5, e5, rfl, hP, h5, b⟩ | ⟨k, rfl, hk, hP, b⟩)
 ·have HP := Lib.hid hP
  replace r := r.next b rfl
  replace BB := bnx BB b
  obtain ⟨f5, f6, f7⟩ := r.open
  obtain ⟨z0, z1, z2⟩ := r.held
  clear b hP
  go_wp2
  have p := r.put s5 A5 n5 c5 e5
  have hN5 := h5.put3 r (.bool s5) (.slice A5 n5 c5) (.int .i64 e5)
  have HB3 := below_put3 (g := w.heap.size) BB (Nat.le_refl _) (.bool s5) (.slice A5 n5 c5) (.int .i64 e5)
  obtain ⟨z0, z1, z2⟩ := p.held
  exact bodyPost_ret (v := .agg #[.bool s5, .slice A5 n5 c5, .int .i64 e5]) (by simp [results, Tryz.results37, go_sem, z0, z1, z2]) rfl (.inl ⟨_, _, _, _, _, _, rfl, HP.out, hN5, HB3⟩)
 ·replace BB := bnx BB b
  have HP := Lib.hid hP
  have HK := Lib.hid hk
  clear b hP hk
  go_wp2
  exact ⟨rfl, .inr ⟨k, rfl, HK.out, HP.out, BB⟩⟩
theorem face_norm {P : Int → Bool → Nat → Int → Prop} {w : World} {A : Option Addr} {n c : Nat} {s : Bool} {e : Int}
  (hc : ∀ W2 : World, Below w.heap.size w W2 → Tri W2 w.heap.size s A n c e → Calls Tryz.prog 37 #[.pointer (some ⟨w.heap.size, 0, none⟩), .pointer (some ⟨w.heap.size + 1, 0, none⟩), .pointer (some ⟨w.heap.size + 2, 0, none⟩)] W2 (Ran P W2)) :
  Calls Tryz.prog 12 #[.bool s, .slice A n c, .int .i64 e] w (Tells P w) := by
 have HC := Lib.hid hc
 clear hc
 have hmf := make_func
 have BB := (three_below w (.cells #[.bool s] 4) (.cells #[.slice A n c] 23) (.cells #[.int .i64 e] 3)).trans ((below_alloc _ (.cells #[.bool false, .slice none 0 0, .int .i64 0] 25)).mono (by simp; omega))
 have g := (tri_new w s A n c e).alloc (.cells #[.bool false, .slice none 0 0, .int .i64 0] 25)
 have r := Box.new (((w.alloc (.cells #[.bool s] 4)).alloc (.cells #[.slice A n c] 23)).alloc (.cells #[.int .i64 e] 3)) false none 0 0 0
 have e3 : (((w.alloc (.cells #[.bool s] 4)).alloc (.cells #[.slice A n c] 23)).alloc (.cells #[.int .i64 e] 3)).heap.size = w.heap.size + 3 := by simp
 rw [e3] at r
 clear e3
 go_enter Tryz.func12, Tryz.ntmps12
 go_wp2_with fail
 refine (told_any3 (P := P) (fun _ => by kernel_rfl) (fun W2 h2 => ?_)).mono ?_
 ·subst h2
  exact HC.out _ (BB.trans ((two_below _ _ _).mono BB.size)) ((g.alloc _).alloc _)
 rintro en w5 ⟨k, s', A5, n5, c5, m', e', rfl, hP, h5, b⟩
 have HP := Lib.hid hP
 replace r := r.next b rfl
 replace BB := bnx BB b
 obtain ⟨f0, f1, f2⟩ := r.open
 obtain ⟨z0, z1, z2⟩ := r.held
 clear b hP g HC
 go_wp2
 have p := r.put s' A5 n5 c5 e'
 have hN5 := h5.put3 r (.bool s') (.slice A5 n5 c5) (.int .i64 e')
 have HB3 := below_put3 (g := w.heap.size + 3) BB (by omega) (.bool s') (.slice A5 n5 c5) (.int .i64 e')
 obtain ⟨z0, z1, z2⟩ := p.held
 exact bodyPost_ret (v := .tuple #[.agg #[.bool s', .slice A5 n5 c5, .int .i64 e'], .int .i64 k]) (by simp [results, Tryz.results12, go_sem, z0, z1, z2]) rfl ⟨_, _, _, _, _, _, _, rfl, HP.out, hN5, HB3⟩
theorem dnorm_ok {w : World} {A : Option Addr} {n c m : Nat} {s : Bool} {e : Int} (hT : Tab w) (h : Nt w A n c m) :
  Calls Tryz.prog 12 #[.bool s, .slice A n c, .int .i64 e] w (Tells (Nm s m e) w) :=
 face_norm fun _ b g => norm1_any g (hT.below b) (h.below b)
theorem of_pos {w : World} {a : Nat} {e : Int} (hT : Tab w) (ha : a < 9223372036854775808) :
  Calls Tryz.prog 5 #[.int .i64 (a : Int), .int .i64 e] w (Tells (Nm false a e) w) := by
 have d0 : decide ((a : Int) < 0) = false := decide_eq_false (by omega)
 have ha0 : (0 : Int) ≤ (a : Int) := by omega
 have ha1 : (a : Int) ≤ 9223372036854775807 := by omega
 have haW : a < W := by rw [W_eq]; omega
 have BB := two_below w (.cells #[.bool false, .slice none 0 0, .int .i64 0] 25) (.cells #[.int .u64 (a : Int)] 46)
 have r := (Box.new w false none 0 0 0).alloc (.cells #[.int .u64 (a : Int)] 46)
 have hr : Rd ((w.alloc (.cells #[.bool false, .slice none 0 0, .int .i64 0] 25)).alloc (.cells #[.int .u64 (a : Int)] 46)) .u64 W (some ⟨w.heap.size + 1, 0, none⟩) 1 1 [a] := by
  have e1 : (w.alloc (.cells #[.bool false, .slice none 0 0, .int .i64 0] 25)).heap.size = w.heap.size + 1 := by simp
  have h9 : Rd ((w.alloc (.cells #[.bool false, .slice none 0 0, .int .i64 0] 25)).alloc (.cells #[.int .u64 (a : Int)] 46)) .u64 W (some ⟨(w.alloc (.cells #[.bool false, .slice none 0 0, .int .i64 0] 25)).heap.size, 0, none⟩) 1 1 [a] :=
   (row_lit (w.alloc (.cells #[.bool false, .slice none 0 0, .int .i64 0] 25)) [a]).rd' (Lt.cons haW Lt.nil) rfl (Nat.le_refl _) (by decide)
  rw [e1] at h9
  exact h9
 have hT1 := hT.below BB
 clear hT haW
 go_enter Tryz.func5, Tryz.ntmps5
 go_wp2_with fail
 refine (norm_any hr (by omega)).mono ?_
 rintro en w3 ⟨A3, n3, c3, rfl, ht, b⟩
 have hv : val W [a] = a := by rw [val_cons, val_nil]; omega
 rw [hv] at ht
 have hN : Nt w3 A3 n3 c3 a := ⟨ht, Nat.lt_of_lt_of_le (show a < W by rw [W_eq]; omega) (Nat.le_self_pow (by omega) W)⟩
 replace r := r.next b rfl
 replace hT1 := hT1.next b rfl
 replace BB := bnx BB b
 clear b hr ht hv
 go_wp2_with fail
 refine (dnorm_ok (s := false) (e := e) hT1 hN).mono ?_
 rintro en w5 ⟨k, s', A5, n5, c5, m', e', rfl, hP, h5, b⟩
 have HP := Lib.hid hP
 replace r := r.next b rfl
 replace BB := bnx BB b
 obtain ⟨f0, f1, f2⟩ := r.open
 obtain ⟨z0, z1, z2⟩ := r.held
 clear b hP hT1 hN
 go_wp2
 have p := r.put s' A5 n5 c5 e'
 have hN5 := h5.put3 r (.bool s') (.slice A5 n5 c5) (.int .i64 e')
 have HB3 := below_put3 (g := w.heap.size) BB (Nat.le_refl _) (.bool s') (.slice A5 n5 c5) (.int .i64 e')
 obtain ⟨z0, z1, z2⟩ := p.held
 exact bodyPost_ret (v := .tuple #[.agg #[.bool s', .slice A5 n5 c5, .int .i64 e'], .int .i64 k]) (by simp [results, Tryz.results5, go_sem, z0, z1, z2]) rfl ⟨_, _, _, _, _, _, _, rfl, HP.out, hN5, HB3⟩
theorem of_neg {w : World} {a : Nat} {e : Int} (hT : Tab w) (ha0 : 0 < a) (ha : a ≤ 9223372036854775808) :
  Calls Tryz.prog 5 #[.int .i64 (-(a : Int)), .int .i64 e] w (Tells (Nm true a e) w) := by
 have d0 : decide (-(a : Int) < 0) = true := decide_eq_true (by omega)
 have u1 : IntKind.u64.wrap (-(a : Int)) = 18446744073709551616 - (a : Int) := by rw [IntKind.wrap_u64]; omega
 have u2 : IntKind.u64.wrap (-(18446744073709551616 - (a : Int))) = (a : Int) := by rw [IntKind.wrap_u64]; omega
 have haW : a < W := by rw [W_eq]; omega
 have BB := two_below w (.cells #[.bool false, .slice none 0 0, .int .i64 0] 25) (.cells #[.int .u64 (a : Int)] 46)
 have r := (Box.new w false none 0 0 0).alloc (.cells #[.int .u64 (a : Int)] 46)
 have hr : Rd ((w.alloc (.cells #[.bool false, .slice none 0 0, .int .i64 0] 25)).alloc (.cells #[.int .u64 (a : Int)] 46)) .u64 W (some ⟨w.heap.size + 1, 0, none⟩) 1 1 [a] := by
  have e1 : (w.alloc (.cells #[.bool false, .slice none 0 0, .int .i64 0] 25)).heap.size = w.heap.size + 1 := by simp
  have h9 : Rd ((w.alloc (.cells #[.bool false, .slice none 0 0, .int .i64 0] 25)).alloc (.cells #[.int .u64 (a : Int)] 46)) .u64 W (some ⟨(w.alloc (.cells #[.bool false, .slice none 0 0, .int .i64 0] 25)).heap.size, 0, none⟩) 1 1 [a] :=
   (row_lit (w.alloc (.cells #[.bool false, .slice none 0 0, .int .i64 0] 25)) [a]).rd' (Lt.cons haW Lt.nil) rfl (Nat.le_refl _) (by decide)
  rw [e1] at h9
  exact h9
 have hT1 := hT.below BB
 clear hT haW
 go_enter Tryz.func5, Tryz.ntmps5
 go_wp2_with fail
 refine (norm_any hr (by omega)).mono ?_
 rintro en w3 ⟨A3, n3, c3, rfl, ht, b⟩
 have hv : val W [a] = a := by rw [val_cons, val_nil]; omega
 rw [hv] at ht
 have hN : Nt w3 A3 n3 c3 a := ⟨ht, Nat.lt_of_lt_of_le (show a < W by rw [W_eq]; omega) (Nat.le_self_pow (by omega) W)⟩
 replace r := r.next b rfl
 replace hT1 := hT1.next b rfl
 replace BB := bnx BB b
 clear b hr ht hv
 go_wp2_with fail
 refine (dnorm_ok (s := true) (e := e) hT1 hN).mono ?_
 rintro en w5 ⟨k, s', A5, n5, c5, m', e', rfl, hP, h5, b⟩
 have HP := Lib.hid hP
 replace r := r.next b rfl
 replace BB := bnx BB b
 obtain ⟨f0, f1, f2⟩ := r.open
 obtain ⟨z0, z1, z2⟩ := r.held
 clear b hP hT1 hN
 go_wp2
 have p := r.put s' A5 n5 c5 e'
 have hN5 := h5.put3 r (.bool s') (.slice A5 n5 c5) (.int .i64 e')
 have HB3 := below_put3 (g := w.heap.size) BB (Nat.le_refl _) (.bool s') (.slice A5 n5 c5) (.int .i64 e')
 obtain ⟨z0, z1, z2⟩ := p.held
 exact bodyPost_ret (v := .tuple #[.agg #[.bool s', .slice A5 n5 c5, .int .i64 e'], .int .i64 k]) (by simp [results, Tryz.results5, go_sem, z0, z1, z2]) rfl ⟨_, _, _, _, _, _, _, rfl, HP.out, hN5, HB3⟩
end Go.Proofs.YteagjlcmgiknmaaGreatDoor
