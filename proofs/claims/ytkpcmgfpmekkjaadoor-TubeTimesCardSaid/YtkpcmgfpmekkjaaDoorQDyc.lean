/-
  Contracts of dyad's Norm, Of, Cmp, Same at this translation. Condition: the slices read as limbs, the table of math/bits reads as its text lays it.
-/
import Derived.Test.YtkpcmgfpmekkjaaDoorQDy9
namespace Go.Proofs.YtkpcmgfpmekkjaaDoor
open Go.RowKit

theorem make_func (fn : Fn) (first cap : Array Value) (w : World) : (Instr.makeFunc fn first cap).run Tryd.prog w = .ok (.func fn first cap) w := rfl
theorem four_below {w : World} {o o' o'' o3 o4 : Obj} : Below w.heap.size w (((((w.alloc o).alloc o').alloc o'').alloc o3).alloc o4) := (three_below w o o' o'').trans ((two_below _ o3 o4).mono (by simp; omega))

set_option maxRecDepth 100000 in
set_option maxHeartbeats 1000000 in
theorem face_add {P : Int → Bool → Nat → Int → Prop} {w : World} {A B : Option Addr} {n c m d : Nat} {s t : Bool} {e f : Int}
    (hc : ∀ W2 : World, Below w.heap.size w W2 → Two W2 w.heap.size s t A B n c m d e f → Calls Tryd.prog 73 #[.pointer (some ⟨w.heap.size, 0, none⟩), .pointer (some ⟨w.heap.size + 1, 0, none⟩)] W2 (Ran P W2)) :
    Calls Tryd.prog 60 #[.agg #[.bool s, .slice A n c, .int .i64 e], .agg #[.bool t, .slice B m d, .int .i64 f]] w (Tells P w) := by
  have HC := Lib.hid hc
  clear hc
  have hmf := make_func
  have BB := three_below w (.cells #[.bool s, .slice A n c, .int .i64 e] 28) (.cells #[.bool t, .slice B m d, .int .i64 f] 28) (.cells #[.bool false, .slice none 0 0, .int .i64 0] 28)
  have g := (two_new w s t A B n c m d e f).alloc (.cells #[.bool false, .slice none 0 0, .int .i64 0] 28)
  have r := box_two w (.cells #[.bool s, .slice A n c, .int .i64 e] 28) (.cells #[.bool t, .slice B m d, .int .i64 f] 28) false none 0 0 0
  go_enter Tryd.func60, Tryd.ntmps60
  go_wp2_with fail
  refine (told_any2 (P := P) (fun _ => by kernel_rfl) (fun W2 h2 => ?_)).mono ?_
  · subst h2
    exact HC.out _ four_below ((g.alloc _).alloc _)
  rintro en w5 ⟨k, s', A5, n5, c5, m', e', rfl, hP, h5, b⟩
  have HP := Lib.hid hP
  replace r := r.next b rfl
  replace BB := bnx BB b rfl rfl rfl rfl
  obtain ⟨f0, f1, f2⟩ := r.open
  obtain ⟨z0, z1, z2⟩ := r.held
  clear b hP g HC
  go_wp2
  have p := r.put s' A5 n5 c5 e'
  have hN5 := h5.put3 r (.bool s') (.slice A5 n5 c5) (.int .i64 e')
  have HB3 := below_put3 (g := w.heap.size + 2) BB (by omega) (.bool s') (.slice A5 n5 c5) (.int .i64 e')
  obtain ⟨z0, z1, z2⟩ := p.held
  exact bodyPost_ret (v := .tuple #[.agg #[.bool s', .slice A5 n5 c5, .int .i64 e'], .int .i64 k]) (by simp [results, Tryd.results60, go_sem, z0, z1, z2]) rfl ⟨_, _, _, _, _, _, _, rfl, HP.out, hN5, HB3⟩
end Go.Proofs.YtkpcmgfpmekkjaaDoor

namespace Go.Proofs.YtkpcmgfpmekkjaaDoor
open Go.RowKit

/-- what is told of what may not be -/
def Wrong (k : Int) (s : Bool) (m : Nat) (e : Int) : Prop := k = 1 ∧ s = false ∧ m = 0 ∧ e = 0
theorem dadd_ok {w : World} {A B : Option Addr} {n c m d : Nat} {s t : Bool} {e f : Int} {x y K : Nat} (hK : 4194304 ≤ K) (hT : Tab w) (h : Nt w A n c x) (h' : Nt w B m d y) (hd : OkD s x e) (hd' : OkD t y f) :
    Calls Tryd.prog 60 #[.agg #[.bool s, .slice A n c, .int .i64 e], .agg #[.bool t, .slice B m d, .int .i64 f]] w (Tells (NmV K (vz K s x e + vz K t y f)) w) :=
  face_add fun _ b g => add1_any g hK (hT.below b) (h.below b) (h'.below b) hd hd'
theorem dadd_no {w : World} {A B : Option Addr} {n c m d : Nat} {s t : Bool} {e f : Int} {l rr : List Nat} (hT : Tab w) (h : Rd w .u64 W A n c l) (h' : Rd w .u64 W B m d rr) (hd : (mayD s l e && mayD t rr f) = false) :
    Calls Tryd.prog 60 #[.agg #[.bool s, .slice A n c, .int .i64 e], .agg #[.bool t, .slice B m d, .int .i64 f]] w (Tells Wrong w) := by
  refine face_add fun W2 b g => ?_
  cases h1 : mayD s l e
  · exact (add1_no1 g (hT.below b) (h.below b) h1).mono fun _ _ hg => ran_fault hg (by decide) ⟨rfl, rfl, rfl, rfl⟩
  · obtain ⟨m1, m2⟩ := mayD_of h.lt h1
    exact (add1_no2 g (hT.below b) ((nt_of h m1).1.below b) m2 (h'.below b) (by simpa [h1] using hd)).mono fun _ _ hg => ran_fault hg (by decide) ⟨rfl, rfl, rfl, rfl⟩
end Go.Proofs.YtkpcmgfpmekkjaaDoor

namespace Go.Proofs.YtkpcmgfpmekkjaaDoor
open Go.RowKit

/-- the blocks of Norm's three arguments -/
structure Tri (w : World) (v : Nat) (s : Bool) (A : Option Addr) (n c : Nat) (e : Int) : Prop where
  a : w.heap[v]? = some (.cells #[.bool s] 4 (0, 0))
  b : w.heap[v + 1]? = some (.cells #[.slice A n c] 26 (0, 0))
  c : w.heap[v + 2]? = some (.cells #[.int .i64 e] 3 (0, 0))
section
variable {w w' : World} {v : Nat} {s : Bool} {A : Option Addr} {n c : Nat} {e : Int}
theorem Tri.gl (h : Tri w v s A n c e) : v + 2 < w.heap.size := by
  rcases Nat.lt_or_ge (v + 2) w.heap.size with hlt | hge
  · exact hlt
  · have := h.c; rw [Array.getElem?_eq_none hge] at this; cases this
theorem Tri.below {b0 : Nat} (h : Tri w v s A n c e) (hb : Below b0 w w') (hg : v + 2 < b0) : Tri w' v s A n c e := ⟨(hb.block _ (by omega)).trans h.a, (hb.block _ (by omega)).trans h.b, (hb.block _ hg).trans h.c⟩
theorem Tri.alloc (h : Tri w v s A n c e) (o : Obj) : Tri (w.alloc o) v s A n c e := h.below (below_alloc w o) h.gl
theorem Tri.held (h : Tri w v s A n c e) : w.cell? ⟨v, 0, none⟩ = some (.bool s) ∧ w.cell? ⟨v + 1, 0, none⟩ = some (.slice A n c) ∧ w.cell? ⟨v + 2, 0, none⟩ = some (.int .i64 e) :=
  ⟨cell_of_row w v 0 _ _ (0, 0) h.a, cell_of_row w (v + 1) 0 _ _ (0, 0) h.b, cell_of_row w (v + 2) 0 _ _ (0, 0) h.c⟩
end

end Go.Proofs.YtkpcmgfpmekkjaaDoor
