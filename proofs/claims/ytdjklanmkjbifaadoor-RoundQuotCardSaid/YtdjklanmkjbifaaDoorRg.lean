/-
  Contracts of round's Quot and Root, at this translation. Condition: the slices read as limbs, the table of math/bits reads as its text lays it.
-/
import Derived.Test.YtdjklanmkjbifaaDoorRq
namespace Go.Proofs.YtdjklanmkjbifaaDoor
open Go.RowKit

theorem new_cell_at {w : World} {g : Nat} (hg : w.heap.size = g) (cs : Array Value) (t : TypeId) (i : Nat) : (w.alloc (.cells cs t)).cell? ⟨g, i, none⟩ = cs[i]? := by
  subst hg
  exact new_cell w cs t i
theorem box_at {w : World} {g : Nat} (hg : w.heap.size = g) (s : Bool) (A : Option Addr) (n c : Nat) (e : Int) : Box (w.alloc (.cells #[.bool s, .slice A n c, .int .i64 e] 24)) g s A n c e := by
  subst hg
  exact Box.new w s A n c e
theorem sizes_up {w : World} {o : Obj} {g : Nat} (h : w.heap.size = g) : (w.alloc o).heap.size = g + 1 := by rw [size_one, h]
theorem rquot_start (w : World) {p : Int} {up : Bool} {A1 : Option Addr} {n1 c1 : Nat} {s1 : Bool} {e1 : Int} {A2 : Option Addr} {n2 c2 : Nat} {s2 : Bool} {e2 : Int} : Below w.heap.size w (((((w.alloc (.cells #[.bool s1, .slice A1 n1 c1, .int .i64 e1] 24)).alloc (.cells #[.bool s2, .slice A2 n2 c2, .int .i64 e2] 24)).alloc (.cells #[.int .i64 p] 3)).alloc (.cells #[.bool up] 4)).alloc (.cells #[.bool false, .slice none 0 0, .int .i64 0] 24)) ∧ ((((((w.alloc (.cells #[.bool s1, .slice A1 n1 c1, .int .i64 e1] 24)).alloc (.cells #[.bool s2, .slice A2 n2 c2, .int .i64 e2] 24)).alloc (.cells #[.int .i64 p] 3)).alloc (.cells #[.bool up] 4)).alloc (.cells #[.bool false, .slice none 0 0, .int .i64 0] 24)).cell? ⟨w.heap.size, 0, none⟩ = some (.bool s1) ∧ (((((w.alloc (.cells #[.bool s1, .slice A1 n1 c1, .int .i64 e1] 24)).alloc (.cells #[.bool s2, .slice A2 n2 c2, .int .i64 e2] 24)).alloc (.cells #[.int .i64 p] 3)).alloc (.cells #[.bool up] 4)).alloc (.cells #[.bool false, .slice none 0 0, .int .i64 0] 24)).cell? ⟨w.heap.size, 1, none⟩ = some (.slice A1 n1 c1) ∧ (((((w.alloc (.cells #[.bool s1, .slice A1 n1 c1, .int .i64 e1] 24)).alloc (.cells #[.bool s2, .slice A2 n2 c2, .int .i64 e2] 24)).alloc (.cells #[.int .i64 p] 3)).alloc (.cells #[.bool up] 4)).alloc (.cells #[.bool false, .slice none 0 0, .int .i64 0] 24)).cell? ⟨w.heap.size, 2, none⟩ = some (.int .i64 e1)) ∧ ((((((w.alloc (.cells #[.bool s1, .slice A1 n1 c1, .int .i64 e1] 24)).alloc (.cells #[.bool s2, .slice A2 n2 c2, .int .i64 e2] 24)).alloc (.cells #[.int .i64 p] 3)).alloc (.cells #[.bool up] 4)).alloc (.cells #[.bool false, .slice none 0 0, .int .i64 0] 24)).cell? ⟨(w.heap.size + 1), 0, none⟩ = some (.bool s2) ∧ (((((w.alloc (.cells #[.bool s1, .slice A1 n1 c1, .int .i64 e1] 24)).alloc (.cells #[.bool s2, .slice A2 n2 c2, .int .i64 e2] 24)).alloc (.cells #[.int .i64 p] 3)).alloc (.cells #[.bool up] 4)).alloc (.cells #[.bool false, .slice none 0 0, .int .i64 0] 24)).cell? ⟨(w.heap.size + 1), 1, none⟩ = some (.slice A2 n2 c2) ∧ (((((w.alloc (.cells #[.bool s1, .slice A1 n1 c1, .int .i64 e1] 24)).alloc (.cells #[.bool s2, .slice A2 n2 c2, .int .i64 e2] 24)).alloc (.cells #[.int .i64 p] 3)).alloc (.cells #[.bool up] 4)).alloc (.cells #[.bool false, .slice none 0 0, .int .i64 0] 24)).cell? ⟨(w.heap.size + 1), 2, none⟩ = some (.int .i64 e2)) ∧ ((((((w.alloc (.cells #[.bool s1, .slice A1 n1 c1, .int .i64 e1] 24)).alloc (.cells #[.bool s2, .slice A2 n2 c2, .int .i64 e2] 24)).alloc (.cells #[.int .i64 p] 3)).alloc (.cells #[.bool up] 4)).alloc (.cells #[.bool false, .slice none 0 0, .int .i64 0] 24)).cell? ⟨w.heap.size + 2, 0, none⟩ = some (.int .i64 p)) ∧ ((((((w.alloc (.cells #[.bool s1, .slice A1 n1 c1, .int .i64 e1] 24)).alloc (.cells #[.bool s2, .slice A2 n2 c2, .int .i64 e2] 24)).alloc (.cells #[.int .i64 p] 3)).alloc (.cells #[.bool up] 4)).alloc (.cells #[.bool false, .slice none 0 0, .int .i64 0] 24)).cell? ⟨w.heap.size + 3, 0, none⟩ = some (.bool up)) ∧ (Box (((((w.alloc (.cells #[.bool s1, .slice A1 n1 c1, .int .i64 e1] 24)).alloc (.cells #[.bool s2, .slice A2 n2 c2, .int .i64 e2] 24)).alloc (.cells #[.int .i64 p] 3)).alloc (.cells #[.bool up] 4)).alloc (.cells #[.bool false, .slice none 0 0, .int .i64 0] 24)) (w.heap.size + 4) false none 0 0 0) := by
  have z0 : w.heap.size = w.heap.size := rfl
  have b := below_alloc w (.cells #[.bool s1, .slice A1 n1 c1, .int .i64 e1] 24)
  have a10 : (w.alloc (.cells #[.bool s1, .slice A1 n1 c1, .int .i64 e1] 24)).cell? ⟨w.heap.size, 0, none⟩ = some (.bool s1) := new_cell_at z0 _ _ 0
  have a11 : (w.alloc (.cells #[.bool s1, .slice A1 n1 c1, .int .i64 e1] 24)).cell? ⟨w.heap.size, 1, none⟩ = some (.slice A1 n1 c1) := new_cell_at z0 _ _ 1
  have a12 : (w.alloc (.cells #[.bool s1, .slice A1 n1 c1, .int .i64 e1] 24)).cell? ⟨w.heap.size, 2, none⟩ = some (.int .i64 e1) := new_cell_at z0 _ _ 2
  have z1 := sizes_up (o := (.cells #[.bool s1, .slice A1 n1 c1, .int .i64 e1] 24)) z0
  have BB := b
  clear b
  have b := below_alloc (w.alloc (.cells #[.bool s1, .slice A1 n1 c1, .int .i64 e1] 24)) (.cells #[.bool s2, .slice A2 n2 c2, .int .i64 e2] 24)
  have a20 : ((w.alloc (.cells #[.bool s1, .slice A1 n1 c1, .int .i64 e1] 24)).alloc (.cells #[.bool s2, .slice A2 n2 c2, .int .i64 e2] 24)).cell? ⟨w.heap.size + 1, 0, none⟩ = some (.bool s2) := new_cell_at z1 _ _ 0
  have a21 : ((w.alloc (.cells #[.bool s1, .slice A1 n1 c1, .int .i64 e1] 24)).alloc (.cells #[.bool s2, .slice A2 n2 c2, .int .i64 e2] 24)).cell? ⟨w.heap.size + 1, 1, none⟩ = some (.slice A2 n2 c2) := new_cell_at z1 _ _ 1
  have a22 : ((w.alloc (.cells #[.bool s1, .slice A1 n1 c1, .int .i64 e1] 24)).alloc (.cells #[.bool s2, .slice A2 n2 c2, .int .i64 e2] 24)).cell? ⟨w.heap.size + 1, 2, none⟩ = some (.int .i64 e2) := new_cell_at z1 _ _ 2
  have z2 := sizes_up (o := (.cells #[.bool s2, .slice A2 n2 c2, .int .i64 e2] 24)) z1
  replace BB := BB.trans (b.mono (by omega))
  have G := mv b rfl <| And.intro a10 <| And.intro a11 <| a12
  clear a10 a11 a12
  obtain ⟨a10, a11, a12⟩ := G
  clear b
  have b := below_alloc ((w.alloc (.cells #[.bool s1, .slice A1 n1 c1, .int .i64 e1] 24)).alloc (.cells #[.bool s2, .slice A2 n2 c2, .int .i64 e2] 24)) (.cells #[.int .i64 p] 3)
  have gp : (((w.alloc (.cells #[.bool s1, .slice A1 n1 c1, .int .i64 e1] 24)).alloc (.cells #[.bool s2, .slice A2 n2 c2, .int .i64 e2] 24)).alloc (.cells #[.int .i64 p] 3)).cell? ⟨w.heap.size + 2, 0, none⟩ = some (.int .i64 p) := new_cell_at z2 _ _ 0
  have z3 := sizes_up (o := (.cells #[.int .i64 p] 3)) z2
  replace BB := BB.trans (b.mono (by omega))
  have G := mv b rfl <| And.intro a10 <| And.intro a11 <| And.intro a12 <| And.intro a20 <| And.intro a21 <| a22
  clear a10 a11 a12 a20 a21 a22
  obtain ⟨a10, a11, a12, a20, a21, a22⟩ := G
  clear b
  have b := below_alloc (((w.alloc (.cells #[.bool s1, .slice A1 n1 c1, .int .i64 e1] 24)).alloc (.cells #[.bool s2, .slice A2 n2 c2, .int .i64 e2] 24)).alloc (.cells #[.int .i64 p] 3)) (.cells #[.bool up] 4)
  have gu : ((((w.alloc (.cells #[.bool s1, .slice A1 n1 c1, .int .i64 e1] 24)).alloc (.cells #[.bool s2, .slice A2 n2 c2, .int .i64 e2] 24)).alloc (.cells #[.int .i64 p] 3)).alloc (.cells #[.bool up] 4)).cell? ⟨w.heap.size + 3, 0, none⟩ = some (.bool up) := new_cell_at z3 _ _ 0
  have z4 := sizes_up (o := (.cells #[.bool up] 4)) z3
  replace BB := BB.trans (b.mono (by omega))
  have G := mv b rfl <| And.intro a10 <| And.intro a11 <| And.intro a12 <| And.intro a20 <| And.intro a21 <| And.intro a22 <| gp
  clear a10 a11 a12 a20 a21 a22 gp
  obtain ⟨a10, a11, a12, a20, a21, a22, gp⟩ := G
  clear b
  have b := below_alloc ((((w.alloc (.cells #[.bool s1, .slice A1 n1 c1, .int .i64 e1] 24)).alloc (.cells #[.bool s2, .slice A2 n2 c2, .int .i64 e2] 24)).alloc (.cells #[.int .i64 p] 3)).alloc (.cells #[.bool up] 4)) (.cells #[.bool false, .slice none 0 0, .int .i64 0] 24)
  have r := box_at z4 false none 0 0 0
  have z5 := sizes_up (o := (.cells #[.bool false, .slice none 0 0, .int .i64 0] 24)) z4
  replace BB := BB.trans (b.mono (by omega))
  have G := mv b rfl <| And.intro a10 <| And.intro a11 <| And.intro a12 <| And.intro a20 <| And.intro a21 <| And.intro a22 <| And.intro gp <| gu
  clear a10 a11 a12 a20 a21 a22 gp gu
  obtain ⟨a10, a11, a12, a20, a21, a22, gp, gu⟩ := G
  clear b
  exact ⟨BB, ⟨a10, a11, a12⟩, ⟨a20, a21, a22⟩, gp, gu, r⟩
theorem rroot_start (w : World) {p : Int} {up : Bool} {A1 : Option Addr} {n1 c1 : Nat} {s1 : Bool} {e1 : Int} : Below w.heap.size w ((((w.alloc (.cells #[.bool s1, .slice A1 n1 c1, .int .i64 e1] 24)).alloc (.cells #[.int .i64 p] 3)).alloc (.cells #[.bool up] 4)).alloc (.cells #[.bool false, .slice none 0 0, .int .i64 0] 24)) ∧ (((((w.alloc (.cells #[.bool s1, .slice A1 n1 c1, .int .i64 e1] 24)).alloc (.cells #[.int .i64 p] 3)).alloc (.cells #[.bool up] 4)).alloc (.cells #[.bool false, .slice none 0 0, .int .i64 0] 24)).cell? ⟨w.heap.size, 0, none⟩ = some (.bool s1) ∧ ((((w.alloc (.cells #[.bool s1, .slice A1 n1 c1, .int .i64 e1] 24)).alloc (.cells #[.int .i64 p] 3)).alloc (.cells #[.bool up] 4)).alloc (.cells #[.bool false, .slice none 0 0, .int .i64 0] 24)).cell? ⟨w.heap.size, 1, none⟩ = some (.slice A1 n1 c1) ∧ ((((w.alloc (.cells #[.bool s1, .slice A1 n1 c1, .int .i64 e1] 24)).alloc (.cells #[.int .i64 p] 3)).alloc (.cells #[.bool up] 4)).alloc (.cells #[.bool false, .slice none 0 0, .int .i64 0] 24)).cell? ⟨w.heap.size, 2, none⟩ = some (.int .i64 e1)) ∧ (((((w.alloc (.cells #[.bool s1, .slice A1 n1 c1, .int .i64 e1] 24)).alloc (.cells #[.int .i64 p] 3)).alloc (.cells #[.bool up] 4)).alloc (.cells #[.bool false, .slice none 0 0, .int .i64 0] 24)).cell? ⟨w.heap.size + 1, 0, none⟩ = some (.int .i64 p)) ∧ (((((w.alloc (.cells #[.bool s1, .slice A1 n1 c1, .int .i64 e1] 24)).alloc (.cells #[.int .i64 p] 3)).alloc (.cells #[.bool up] 4)).alloc (.cells #[.bool false, .slice none 0 0, .int .i64 0] 24)).cell? ⟨w.heap.size + 2, 0, none⟩ = some (.bool up)) ∧ (Box ((((w.alloc (.cells #[.bool s1, .slice A1 n1 c1, .int .i64 e1] 24)).alloc (.cells #[.int .i64 p] 3)).alloc (.cells #[.bool up] 4)).alloc (.cells #[.bool false, .slice none 0 0, .int .i64 0] 24)) (w.heap.size + 3) false none 0 0 0) := by
  have z0 : w.heap.size = w.heap.size := rfl
  have b := below_alloc w (.cells #[.bool s1, .slice A1 n1 c1, .int .i64 e1] 24)
  have a10 : (w.alloc (.cells #[.bool s1, .slice A1 n1 c1, .int .i64 e1] 24)).cell? ⟨w.heap.size, 0, none⟩ = some (.bool s1) := new_cell_at z0 _ _ 0
  have a11 : (w.alloc (.cells #[.bool s1, .slice A1 n1 c1, .int .i64 e1] 24)).cell? ⟨w.heap.size, 1, none⟩ = some (.slice A1 n1 c1) := new_cell_at z0 _ _ 1
  have a12 : (w.alloc (.cells #[.bool s1, .slice A1 n1 c1, .int .i64 e1] 24)).cell? ⟨w.heap.size, 2, none⟩ = some (.int .i64 e1) := new_cell_at z0 _ _ 2
  have z1 := sizes_up (o := (.cells #[.bool s1, .slice A1 n1 c1, .int .i64 e1] 24)) z0
  have BB := b
  clear b
  have b := below_alloc (w.alloc (.cells #[.bool s1, .slice A1 n1 c1, .int .i64 e1] 24)) (.cells #[.int .i64 p] 3)
  have gp : ((w.alloc (.cells #[.bool s1, .slice A1 n1 c1, .int .i64 e1] 24)).alloc (.cells #[.int .i64 p] 3)).cell? ⟨w.heap.size + 1, 0, none⟩ = some (.int .i64 p) := new_cell_at z1 _ _ 0
  have z2 := sizes_up (o := (.cells #[.int .i64 p] 3)) z1
  replace BB := BB.trans (b.mono (by omega))
  have G := mv b rfl <| And.intro a10 <| And.intro a11 <| a12
  clear a10 a11 a12
  obtain ⟨a10, a11, a12⟩ := G
  clear b
  have b := below_alloc ((w.alloc (.cells #[.bool s1, .slice A1 n1 c1, .int .i64 e1] 24)).alloc (.cells #[.int .i64 p] 3)) (.cells #[.bool up] 4)
  have gu : (((w.alloc (.cells #[.bool s1, .slice A1 n1 c1, .int .i64 e1] 24)).alloc (.cells #[.int .i64 p] 3)).alloc (.cells #[.bool up] 4)).cell? ⟨w.heap.size + 2, 0, none⟩ = some (.bool up) := new_cell_at z2 _ _ 0
  have z3 := sizes_up (o := (.cells #[.bool up] 4)) z2
  replace BB := BB.trans (b.mono (by omega))
  have G := mv b rfl <| And.intro a10 <| And.intro a11 <| And.intro a12 <| gp
  clear a10 a11 a12 gp
  obtain ⟨a10, a11, a12, gp⟩ := G
  clear b
  have b := below_alloc (((w.alloc (.cells #[.bool s1, .slice A1 n1 c1, .int .i64 e1] 24)).alloc (.cells #[.int .i64 p] 3)).alloc (.cells #[.bool up] 4)) (.cells #[.bool false, .slice none 0 0, .int .i64 0] 24)
  have r := box_at z3 false none 0 0 0
  have z4 := sizes_up (o := (.cells #[.bool false, .slice none 0 0, .int .i64 0] 24)) z3
  replace BB := BB.trans (b.mono (by omega))
  have G := mv b rfl <| And.intro a10 <| And.intro a11 <| And.intro a12 <| And.intro gp <| gu
  clear a10 a11 a12 gp gu
  obtain ⟨a10, a11, a12, gp, gu⟩ := G
  clear b
  exact ⟨BB, ⟨a10, a11, a12⟩, gp, gu, r⟩
set_option maxRecDepth 100000 in
set_option maxHeartbeats 8000000 in
theorem face_quot {P : Int → Bool → Nat → Int → Prop} {w : World} {p : Int} {up : Bool} {A1 : Option Addr} {n1 c1 : Nat} {s1 : Bool} {e1 : Int} {A2 : Option Addr} {n2 c2 : Nat} {s2 : Bool} {e2 : Int}
    (hc : ∀ W2 : World, Below w.heap.size w W2 → (W2.cell? ⟨w.heap.size, 0, none⟩ = some (.bool s1) ∧ W2.cell? ⟨w.heap.size, 1, none⟩ = some (.slice A1 n1 c1) ∧ W2.cell? ⟨w.heap.size, 2, none⟩ = some (.int .i64 e1)) → (W2.cell? ⟨(w.heap.size + 1), 0, none⟩ = some (.bool s2) ∧ W2.cell? ⟨(w.heap.size + 1), 1, none⟩ = some (.slice A2 n2 c2) ∧ W2.cell? ⟨(w.heap.size + 1), 2, none⟩ = some (.int .i64 e2)) → W2.cell? ⟨w.heap.size + 2, 0, none⟩ = some (.int .i64 p) → W2.cell? ⟨w.heap.size + 3, 0, none⟩ = some (.bool up) → Calls Tryd.prog 60 #[.pointer (some ⟨w.heap.size + 2, 0, none⟩), .pointer (some ⟨w.heap.size, 0, none⟩), .pointer (some ⟨w.heap.size + 1, 0, none⟩), .pointer (some ⟨w.heap.size + 3, 0, none⟩)] W2 (Ran P W2)) :
    Calls Tryd.prog 26 #[.agg #[.bool s1, .slice A1 n1 c1, .int .i64 e1], .agg #[.bool s2, .slice A2 n2 c2, .int .i64 e2], .int .i64 p, .bool up] w (Tells P w) := by
  have HC := Lib.hid hc
  clear hc
  have hmf := make_func
  obtain ⟨BB, ⟨a10, a11, a12⟩, ⟨a20, a21, a22⟩, gp, gu, r⟩ := rquot_start w (p := p) (up := up) (s1 := s1) (A1 := A1) (n1 := n1) (c1 := c1) (e1 := e1) (s2 := s2) (A2 := A2) (n2 := n2) (c2 := c2) (e2 := e2)
  go_enter Tryd.func26, Tryd.ntmps26
  go_wp2_with fail
  refine (told_face (P := P) (fun _ => by kernel_rfl) (fun W2 h2 => ?_)).mono ?_
  · subst h2
    have b := two_below (((((w.alloc (.cells #[.bool s1, .slice A1 n1 c1, .int .i64 e1] 24)).alloc (.cells #[.bool s2, .slice A2 n2 c2, .int .i64 e2] 24)).alloc (.cells #[.int .i64 p] 3)).alloc (.cells #[.bool up] 4)).alloc (.cells #[.bool false, .slice none 0 0, .int .i64 0] 24)) (.cells #[.bool false, .slice none 0 0, .int .i64 0] 24) (.cells #[.int .i64 0] 3)
    have B2 := below_next BB BB.size b rfl rfl rfl rfl
    have G := mv b rfl <| And.intro a10 <| And.intro a11 <| And.intro a12 <| And.intro a20 <| And.intro a21 <| And.intro a22 <| And.intro gp <| And.intro gu <| r
    clear a10 a11 a12 a20 a21 a22 gp gu r
    obtain ⟨a10, a11, a12, a20, a21, a22, gp, gu, r⟩ := G
    exact HC.out _ B2 ⟨a10, a11, a12⟩ ⟨a20, a21, a22⟩ gp gu
  rintro en w5 ⟨k, s', A5, n5, c5, m', e', rfl, hP, h5, b⟩
  have HP := Lib.hid hP
  replace r := r.next b rfl
  replace BB := below_next BB BB.size b rfl rfl rfl rfl
  obtain ⟨f0, f1, f2⟩ := r.open
  obtain ⟨z0, z1, z2⟩ := r.held
  clear b hP HC a10 a11 a12 a20 a21 a22 gp gu
  go_wp2
  have q := r.put s' A5 n5 c5 e'
  have hN5 := h5.put3 r (.bool s') (.slice A5 n5 c5) (.int .i64 e')
  have HB3 := below_put3 (g := w.heap.size + 4) BB (by omega) (.bool s') (.slice A5 n5 c5) (.int .i64 e')
  obtain ⟨z0, z1, z2⟩ := q.held
  exact bodyPost_ret (v := .tuple #[.agg #[.bool s', .slice A5 n5 c5, .int .i64 e'], .int .i64 k]) (by simp [results, Tryd.results26, go_sem, z0, z1, z2]) rfl ⟨_, _, _, _, _, _, _, rfl, HP.out, hN5, HB3⟩

set_option maxRecDepth 100000 in
set_option maxHeartbeats 8000000 in
theorem face_root {P : Int → Bool → Nat → Int → Prop} {w : World} {p : Int} {up : Bool} {A1 : Option Addr} {n1 c1 : Nat} {s1 : Bool} {e1 : Int}
    (hc : ∀ W2 : World, Below w.heap.size w W2 → (W2.cell? ⟨w.heap.size, 0, none⟩ = some (.bool s1) ∧ W2.cell? ⟨w.heap.size, 1, none⟩ = some (.slice A1 n1 c1) ∧ W2.cell? ⟨w.heap.size, 2, none⟩ = some (.int .i64 e1)) → W2.cell? ⟨w.heap.size + 1, 0, none⟩ = some (.int .i64 p) → W2.cell? ⟨w.heap.size + 2, 0, none⟩ = some (.bool up) → Calls Tryd.prog 66 #[.pointer (some ⟨w.heap.size + 1, 0, none⟩), .pointer (some ⟨w.heap.size, 0, none⟩), .pointer (some ⟨w.heap.size + 2, 0, none⟩)] W2 (Ran P W2)) :
    Calls Tryd.prog 29 #[.agg #[.bool s1, .slice A1 n1 c1, .int .i64 e1], .int .i64 p, .bool up] w (Tells P w) := by
  have HC := Lib.hid hc
  clear hc
  have hmf := make_func
  obtain ⟨BB, ⟨a10, a11, a12⟩, gp, gu, r⟩ := rroot_start w (p := p) (up := up) (s1 := s1) (A1 := A1) (n1 := n1) (c1 := c1) (e1 := e1)
  go_enter Tryd.func29, Tryd.ntmps29
  go_wp2_with fail
  refine (told_face (P := P) (fun _ => by kernel_rfl) (fun W2 h2 => ?_)).mono ?_
  · subst h2
    have b := two_below ((((w.alloc (.cells #[.bool s1, .slice A1 n1 c1, .int .i64 e1] 24)).alloc (.cells #[.int .i64 p] 3)).alloc (.cells #[.bool up] 4)).alloc (.cells #[.bool false, .slice none 0 0, .int .i64 0] 24)) (.cells #[.bool false, .slice none 0 0, .int .i64 0] 24) (.cells #[.int .i64 0] 3)
    have B2 := below_next BB BB.size b rfl rfl rfl rfl
    have G := mv b rfl <| And.intro a10 <| And.intro a11 <| And.intro a12 <| And.intro gp <| And.intro gu <| r
    clear a10 a11 a12 gp gu r
    obtain ⟨a10, a11, a12, gp, gu, r⟩ := G
    exact HC.out _ B2 ⟨a10, a11, a12⟩ gp gu
  rintro en w5 ⟨k, s', A5, n5, c5, m', e', rfl, hP, h5, b⟩
  have HP := Lib.hid hP
  replace r := r.next b rfl
  replace BB := below_next BB BB.size b rfl rfl rfl rfl
  obtain ⟨f0, f1, f2⟩ := r.open
  obtain ⟨z0, z1, z2⟩ := r.held
  clear b hP HC a10 a11 a12 gp gu
  go_wp2
  have q := r.put s' A5 n5 c5 e'
  have hN5 := h5.put3 r (.bool s') (.slice A5 n5 c5) (.int .i64 e')
  have HB3 := below_put3 (g := w.heap.size + 3) BB (by omega) (.bool s') (.slice A5 n5 c5) (.int .i64 e')
  obtain ⟨z0, z1, z2⟩ := q.held
  exact bodyPost_ret (v := .tuple #[.agg #[.bool s', .slice A5 n5 c5, .int .i64 e'], .int .i64 k]) (by simp [results, Tryd.results29, go_sem, z0, z1, z2]) rfl ⟨_, _, _, _, _, _, _, rfl, HP.out, hN5, HB3⟩

theorem rquot_ok {w : World} {x y p : Nat} {up : Bool} {A1 : Option Addr} {n1 c1 : Nat} {s1 : Bool} {e1 : Int} {A2 : Option Addr} {n2 c2 : Nat} {s2 : Bool} {e2 : Int} (hT : Tab w) (h1 : Nt w A1 n1 c1 x) (h2 : Nt w A2 n2 c2 y) (hd1 : OkD s1 x e1) (hd2 : OkD s2 y e2) (hp1 : 1 ≤ p) (hp : p ≤ 2000) (hy : y ≠ 0) : Calls Tryd.prog 26 #[.agg #[.bool s1, .slice A1 n1 c1, .int .i64 e1], .agg #[.bool s2, .slice A2 n2 c2, .int .i64 e2], .int .i64 (p : Int), .bool up] w (Tells (QuTold s1 x e1 s2 y e2 p up) w) :=
  face_quot fun _ b ga gb gp gu => quot1_some ga gb gp gu (hT.below b) (h1.below b) (h2.below b) hd1 hd2 hp1 hp hy
theorem rquot_zero {w : World} {x y p : Nat} {up : Bool} {A1 : Option Addr} {n1 c1 : Nat} {s1 : Bool} {e1 : Int} {A2 : Option Addr} {n2 c2 : Nat} {s2 : Bool} {e2 : Int} (hT : Tab w) (h1 : Nt w A1 n1 c1 x) (h2 : Nt w A2 n2 c2 y) (hd1 : OkD s1 x e1) (hd2 : OkD s2 y e2) (hp1 : 1 ≤ p) (hp : p ≤ 2000) (hy : y = 0) : Calls Tryd.prog 26 #[.agg #[.bool s1, .slice A1 n1 c1, .int .i64 e1], .agg #[.bool s2, .slice A2 n2 c2, .int .i64 e2], .int .i64 (p : Int), .bool up] w (Tells Outside w) :=
  face_quot fun _ b ga gb gp gu => (quot1_zero ga gb gp gu (hT.below b) (h1.below b) (h2.below b) hd1 hd2 hp1 hp hy).mono fun _ _ hg => ran_fault hg (by decide) ⟨rfl, rfl, rfl, rfl⟩
theorem rquot_no {w : World} {p : Int} {up : Bool} {l1 l2 : List Nat} {A1 : Option Addr} {n1 c1 : Nat} {s1 : Bool} {e1 : Int} {A2 : Option Addr} {n2 c2 : Nat} {s2 : Bool} {e2 : Int} (hT : Tab w) (h1 : Rd w .u64 W A1 n1 c1 l1) (h2 : Rd w .u64 W A2 n2 c2 l2) (hd : p < 1 ∨ 2000 < p ∨ (mayD s1 l1 e1 && mayD s2 l2 e2) = false) : Calls Tryd.prog 26 #[.agg #[.bool s1, .slice A1 n1 c1, .int .i64 e1], .agg #[.bool s2, .slice A2 n2 c2, .int .i64 e2], .int .i64 p, .bool up] w (Tells Wrong w) :=
  face_quot fun _ b ga gb gp gu => (quot1_no ga gb gp gu (hT.below b) (h1.below b) (h2.below b) hd).mono fun _ _ hg => ran_fault hg (by decide) ⟨rfl, rfl, rfl, rfl⟩
theorem rroot_ok {w : World} {x p : Nat} {up : Bool} {A1 : Option Addr} {n1 c1 : Nat} {s1 : Bool} {e1 : Int} (hT : Tab w) (h1 : Nt w A1 n1 c1 x) (hd1 : OkD s1 x e1) (hp1 : 1 ≤ p) (hp : p ≤ 2000) (hs : s1 = false) : Calls Tryd.prog 29 #[.agg #[.bool s1, .slice A1 n1 c1, .int .i64 e1], .int .i64 (p : Int), .bool up] w (Tells (RoTold x e1 p up) w) :=
  face_root fun _ b ga gp gu => root1_some ga gp gu (hT.below b) (h1.below b) hd1 hp1 hp hs
theorem rroot_neg {w : World} {x p : Nat} {up : Bool} {A1 : Option Addr} {n1 c1 : Nat} {s1 : Bool} {e1 : Int} (hT : Tab w) (h1 : Nt w A1 n1 c1 x) (hd1 : OkD s1 x e1) (hp1 : 1 ≤ p) (hp : p ≤ 2000) (hs : s1 = true) : Calls Tryd.prog 29 #[.agg #[.bool s1, .slice A1 n1 c1, .int .i64 e1], .int .i64 (p : Int), .bool up] w (Tells Outside w) :=
  face_root fun _ b ga gp gu => (root1_neg ga gp gu (hT.below b) (h1.below b) hd1 hp1 hp hs).mono fun _ _ hg => ran_fault hg (by decide) ⟨rfl, rfl, rfl, rfl⟩
theorem rroot_no {w : World} {p : Int} {up : Bool} {l1 : List Nat} {A1 : Option Addr} {n1 c1 : Nat} {s1 : Bool} {e1 : Int} (hT : Tab w) (h1 : Rd w .u64 W A1 n1 c1 l1) (hd : p < 1 ∨ 2000 < p ∨ mayD s1 l1 e1 = false) : Calls Tryd.prog 29 #[.agg #[.bool s1, .slice A1 n1 c1, .int .i64 e1], .int .i64 p, .bool up] w (Tells Wrong w) :=
  face_root fun _ b ga gp gu => (root1_no ga gp gu (hT.below b) (h1.below b) hd).mono fun _ _ hg => ran_fault hg (by decide) ⟨rfl, rfl, rfl, rfl⟩
end Go.Proofs.YtdjklanmkjbifaaDoor
