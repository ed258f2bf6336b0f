/-
  Contract of the statements' own told of layer 3, at this translation: it returns true. Condition: the table of math/bits reads as its text lays it.
-/
import Derived.Test.YtijflbnfikiaaaaGreatDoorRf
import Derived.Test.YtijflbnfikiaaaaGreatDoorMw
namespace Go.Proofs.YtijflbnfikiaaaaGreatDoor
open Go.RowKit

/-- what is told of a quotient that is rounded to p bits -/
def QuTold (s1 : Bool) (x : Nat) (e1 : Int) (s2 : Bool) (y : Nat) (e2 : Int) (p : Nat) (up : Bool) : Int → Bool → Nat → Int → Prop :=
  Nm (s1 != s2) (cutR p (x * 2 ^ kUp p x y / (y * 2 ^ kDn p x y)) (!decide (x * 2 ^ kUp p x y % (y * 2 ^ kDn p x y) = 0)) (up != (s1 != s2))) (e1 - e2 - ((p : Int) + (blen y : Int) - (blen x : Int)) + ((blen (x * 2 ^ kUp p x y / (y * 2 ^ kDn p x y)) - p : Nat) : Int))
/-- what is told of a root that is rounded to p bits -/
def RoTold (x : Nat) (e : Int) (p : Nat) (up : Bool) (k : Int) (s' : Bool) (m' : Nat) (e' : Int) : Prop :=
  ∃ (i j r : Nat) (f : Int), ((i = 0 ∨ j = 0) ∧ e - ((i : Int) - (j : Int)) = 2 * f ∧ blen x + i ≤ 2 * p + j ∧ 2 * p + j ≤ blen x + i + 1 ∧
    r * r ≤ x * 2 ^ i / 2 ^ j ∧ x * 2 ^ i / 2 ^ j < (r + 1) * (r + 1)) ∧ Nm false (cutR p r (!decide (r * r * 2 ^ j = x * 2 ^ i)) (up != false)) (f + ((blen r - p : Nat) : Int)) k s' m' e'
def Outside (k : Int) (s : Bool) (m : Nat) (e : Int) : Prop := k = 4 ∧ s = false ∧ m = 0 ∧ e = 0
theorem check_no2 {w : World} {g : Nat} {p : Int} {s1 s2 : Bool} {A1 A2 : Option Addr} {n1 c1 n2 c2 : Nat} {e1 e2 : Int} {l1 l2 : List Nat} (hT : Tab w)
    (h : Dys w g 2 (fun i => if i = 0 then s1 else s2) (fun i => if i = 0 then A1 else A2) (fun i => if i = 0 then n1 else n2) (fun i => if i = 0 then c1 else c2) (fun i => if i = 0 then e1 else e2) (fun i => if i = 0 then l1 else l2)) (hd : p < 1 ∨ 2000 < p ∨ (mayD s1 l1 e1 && mayD s2 l2 e2) = false) :
    Calls Tryz.prog 97 #[.int .i64 p, .slice (some ⟨g, 0, none⟩) 2 2] w (Faults 1 w) := by
  by_cases hp : p < 1 ∨ 2000 < p
  · exact check_p (k := 2) hp
  · obtain ⟨q, rfl⟩ := Int.eq_ofNat_of_zero_le (show 0 ≤ p by omega)
    have hm : (mayD s1 l1 e1 && mayD s2 l2 e2) = false := by rcases hd with h1 | h1 | h1 <;> first | exact h1 | (exfalso; omega)
    cases h1 : mayD s1 l1 e1
    · exact check_some hT h (by omega) (by omega) (by omega) (j := 0) (by omega) (fun i hi => absurd hi (by omega)) h1
    · refine check_some hT h (by omega) (by omega) (by omega) (j := 1) (by omega) (fun i hi => ?_) (by simpa [h1] using hm)
      obtain rfl : i = 0 := by omega
      exact h1
theorem dys_two_at {w : World} {g : Nat} {s1 s2 : Bool} {A1 A2 : Option Addr} {n1 c1 n2 c2 : Nat} {e1 e2 : Int} {l1 l2 : List Nat} (hg : w.heap.size = g) (h1 : Rd w .u64 W A1 n1 c1 l1) (h2 : Rd w .u64 W A2 n2 c2 l2) :
    Dys (w.alloc (.cells #[.bool s1, .slice A1 n1 c1, .int .i64 e1, .bool s2, .slice A2 n2 c2, .int .i64 e2] 24)) g 2 (fun i => if i = 0 then s1 else s2) (fun i => if i = 0 then A1 else A2) (fun i => if i = 0 then n1 else n2) (fun i => if i = 0 then c1 else c2) (fun i => if i = 0 then e1 else e2) (fun i => if i = 0 then l1 else l2) := by
  subst hg
  exact dys_two h1 h2
theorem size_one (w : World) (o : Obj) : (w.alloc o).heap.size = w.heap.size + 1 := by simp

end Go.Proofs.YtijflbnfikiaaaaGreatDoor

namespace Go.Proofs.YtijflbnfikiaaaaGreatDoor
open Go.RowKit

theorem new_cell_at {w : World} {g : Nat} (hg : w.heap.size = g) (cs : Array Value) (t : TypeId) (i : Nat) : (w.alloc (.cells cs t)).cell? ⟨g, i, none⟩ = cs[i]? := by
  subst hg
  exact new_cell w cs t i
theorem box_at {w : World} {g : Nat} (hg : w.heap.size = g) (s : Bool) (A : Option Addr) (n c : Nat) (e : Int) : Box (w.alloc (.cells #[.bool s, .slice A n c, .int .i64 e] 24)) g s A n c e := by
  subst hg
  exact Box.new w s A n c e
theorem sizes_up {w : World} {o : Obj} {g : Nat} (h : w.heap.size = g) : (w.alloc o).heap.size = g + 1 := by rw [size_one, h]
theorem rquot_start (w : World) {p : Int} {up : Bool} {A1 : Option Addr} {n1 c1 : Nat} {s1 : Bool} {e1 : Int} {A2 : Option Addr} {n2 c2 : Nat} {s2 : Bool} {e2 : Int} : Below w.heap.size w (((((w.alloc (.cells #[.bool s1, .slice A1 n1 c1, .int .i64 e1] 24)).alloc (.cells #[.bool s2, .slice A2 n2 c2, .int .i64 e2] 24)).alloc (.cells #[.int .i64 p] 3)).alloc (.cells #[.bool up] 4)).alloc (.cells #[.bool false, .slice none 0 0, .int .i64 0] 24)) ∧ ((((((w.alloc (.cells #[.bool s1, .slice A1 n1 c1, .int .i64 e1] 24)).alloc (.cells #[.bool s2, .slice A2 n2 c2, .int .i64 e2] 24)).alloc (.cells #[.int .i64 p] 3)).alloc (.cells #[.bool up] 4)).alloc (.cells #[.bool false, .slice none 0 0, .int .i64 0] 24)).cell? ⟨w.heap.size, 0, none⟩ = some (.bool s1) ∧ (((((w.alloc (.cells #[.bool s1, .slice A1 n1 c1, .int .i64 e1] 24)).alloc (.cells #[.bool s2, .slice A2 n2 c2, .int .i64 e2] 24)).alloc (.cells #[.int .i64 p] 3)).alloc (.cells #[.bool up] 4)).alloc (.cells #[.bool false, .slice none 0 0, .int .i64 0] 24)).cell? ⟨w.heap.size, 1, none⟩ = some (.slice A1 n1 c1) ∧ (((((w.alloc (.cells #[.bool s1, .slice A1 n1 c1, .int .i64 e1] 24)).alloc (.cells #[.bool s2, .slice A2 n2 c2, .int .i64 e2] 24)).alloc (.cells #[.int .i64 p] 3)).alloc (.cells #[.bool up] 4)).alloc (.cells #[.bool false, .slice none 0 0, .int .i64 0] 24)).cell? ⟨w.heap.size, 2, none⟩ = some (.int .i64 e1)) ∧ ((((((w.alloc (.cells #[.bool s1, .slice A1 n1 c1, .int .i64 e1] 24)).alloc (.cells #[.bool s2, .slice A2 n2 c2, .int .i64 e2] 24)).alloc (.cells #[.int .i64 p] 3)).alloc (.cells #[.bool up] 4)).alloc (.cells #[.bool false, .slice none 0 0, .int .i64 0] 24)).cell? ⟨(w.heap.size + 1), 0, none⟩ = some (.bool s2) ∧ (((((w.alloc (.cells #[.bool s1, .slice A1 n1 c1, .int .i64 e1] 24)).alloc (.cells #[.bool s2, .slice A2 n2 c2, .int .i64 e2] 24)).alloc (.cells #[.int .i64 p] 3)).alloc (.cells #[.bool up] 4)).alloc (.cells #[.bool false, .slice none 0 0, .int .i64 0] 24)).cell? ⟨(w.heap.size + 1), 1, none⟩ = some (.slice A2 n2 c2) ∧ (((((w.alloc (.cells #[.bool s1, .slice A1 n1 c1, .int .i64 e1] 24)).alloc (.cells #[.bool s2, .slice A2 n2 c2, .int .i64 e2] 24)).alloc (.cells #[.int .i64 p] 3)).alloc (.cells #[.bool up] 4)).alloc (.cells #[.bool false, .slice none 0 0, .int .i64 0] 24)).cell? ⟨(w.heap.size + 1), 2, none⟩ = some (.int .i64 e2)) ∧ ((((((w.alloc (.cells #[.bool s1, .slice A1 n1 c1, .int .i64 e1] 24)).alloc (.cells #[.bool s2, .slice A2 n2 c2, .int .i64 e2] 24)).alloc (.cells #[.int .i64 p] 3)).alloc (.cells #[.bool up] 4)).alloc (.cells #[.bool false, .slice none 0 0, .int .i64 0] 24)).cell? ⟨w.heap.size + 2, 0, none⟩ = some (.int .i64 p)) ∧ ((((((w.alloc (.cells #[.bool s1, .slice A1 n1 c1, .int .i64 e1] 24)).alloc (.cells #[.bool s2, .slice A2 n2 c2, .int .i64 e2] 24)).alloc (.cells #[.int .i64 p] 3)).alloc (.cells #[.bool up] 4)).alloc (.cells #[.bool false, .slice none 0 0, .int .i64 0] 24)).cell? ⟨w.heap.size + 3, 0, none⟩ = some (.bool up)) ∧ (Box (((((w.alloc (.cells #[.bool s1, .slice A1 n1 c1, .int .i64 e1] 24)).alloc (.cells #[.bool s2, .slice A2 n2 c2, .int .i64 e2] 24)).alloc (.cells #[.int .i64 p] 3)).alloc (.cells #[.bool up] 4)).alloc (.cells #[.bool false, .slice none 0 0, .int .i64 0] 24)) (w.heap.size + 4) false none 0 0 0) := by
  have z0 : w.heap.size = w.heap.size := rfl
  have b := below_alloc w (.cells #[.bool s1, .slice A1 n1 c1, .int .i64 e1] 24)
  have a10 : (w.alloc (.cells #[.bool s1, .slice A1 n1 c1, .int .i64 e1] 24)).cell? ⟨w.heap.size, 0, none⟩ = some (.bool s1) := new_cell_at z0 _ _ 0
  have a11 : (w.alloc (.cells #[.bool s1, .slice A1 n1 c1, .int .i64 e1] 24)).cell? ⟨w.heap.size, 1, none⟩ = some (.slice A1 n1 c1) := new_cell_at z0 _ _ 1
  have a12 : (w.alloc (.cells #[.bool s1, .slice A1 n1 c1, .int .i64 e1] 24)).cell? ⟨w.heap.size, 2, none⟩ = some (.int .i64 e1) := new_cell_at z0 _ _ 2
  have z1 := sizes_up (o := (.cells #[.bool s1, .slice A1 n1 c1, .int .i64 e1] 24)) z0
  have BB := b
  clear b
  have b := below_alloc (w.alloc (.cells #[.bool s1, .slice A1 n1 c1, .int .i64 e1] 24)) (.cells #[.bool s2, .slice A2 n2 c2, .int .i64 e2] 24)
  have a20 : ((w.alloc (.cells #[.bool s1, .slice A1 n1 c1, .int .i64 e1] 24)).alloc (.cells #[.bool s2, .slice A2 n2 c2, .int .i64 e2] 24)).cell? ⟨w.heap.size + 1, 0, none⟩ = some (.bool s2) := new_cell_at z1 _ _ 0
  have a21 : ((w.alloc (.cells #[.bool s1, .slice A1 n1 c1, .int .i64 e1] 24)).alloc (.cells #[.bool s2, .slice A2 n2 c2, .int .i64 e2] 24)).cell? ⟨w.heap.size + 1, 1, none⟩ = some (.slice A2 n2 c2) := new_cell_at z1 _ _ 1
  have a22 : ((w.alloc (.cells #[.bool s1, .slice A1 n1 c1, .int .i64 e1] 24)).alloc (.cells #[.bool s2, .slice A2 n2 c2, .int .i64 e2] 24)).cell? ⟨w.heap.size + 1, 2, none⟩ = some (.int .i64 e2) := new_cell_at z1 _ _ 2
  have z2 := sizes_up (o := (.cells #[.bool s2, .slice A2 n2 c2, .int .i64 e2] 24)) z1
  replace BB := BB.trans (b.mono (by omega))
  have G := mv b rfl <| And.intro a10 <| And.intro a11 <| a12
  clear a10 a11 a12
  obtain ⟨a10, a11, a12⟩ := G
  clear b
  have b := below_alloc ((w.alloc (.cells #[.bool s1, .slice A1 n1 c1, .int .i64 e1] 24)).alloc (.cells #[.bool s2, .slice A2 n2 c2, .int .i64 e2] 24)) (.cells #[.int .i64 p] 3)
  have gp : (((w.alloc (.cells #[.bool s1, .slice A1 n1 c1, .int .i64 e1] 24)).alloc (.cells #[.bool s2, .slice A2 n2 c2, .int .i64 e2] 24)).alloc (.cells #[.int .i64 p] 3)).cell? ⟨w.heap.size + 2, 0, none⟩ = some (.int .i64 p) := new_cell_at z2 _ _ 0
  have z3 := sizes_up (o := (.cells #[.int .i64 p] 3)) z2
  replace BB := BB.trans (b.mono (by omega))
  have G := mv b rfl <| And.intro a10 <| And.intro a11 <| And.intro a12 <| And.intro a20 <| And.intro a21 <| a22
  clear a10 a11 a12 a20 a21 a22
  obtain ⟨a10, a11, a12, a20, a21, a22⟩ := G
  clear b
  have b := below_alloc (((w.alloc (.cells #[.bool s1, .slice A1 n1 c1, .int .i64 e1] 24)).alloc (.cells #[.bool s2, .slice A2 n2 c2, .int .i64 e2] 24)).alloc (.cells #[.int .i64 p] 3)) (.cells #[.bool up] 4)
  have gu : ((((w.alloc (.cells #[.bool s1, .slice A1 n1 c1, .int .i64 e1] 24)).alloc (.cells #[.bool s2, .slice A2 n2 c2, .int .i64 e2] 24)).alloc (.cells #[.int .i64 p] 3)).alloc (.cells #[.bool up] 4)).cell? ⟨w.heap.size + 3, 0, none⟩ = some (.bool up) := new_cell_at z3 _ _ 0
  have z4 := sizes_up (o := (.cells #[.bool up] 4)) z3
  replace BB := BB.trans (b.mono (by omega))
  have G := mv b rfl <| And.intro a10 <| And.intro a11 <| And.intro a12 <| And.intro a20 <| And.intro a21 <| And.intro a22 <| gp
  clear a10 a11 a12 a20 a21 a22 gp
  obtain ⟨a10, a11, a12, a20, a21, a22, gp⟩ := G
  clear b
  have b := below_alloc ((((w.alloc (.cells #[.bool s1, .slice A1 n1 c1, .int .i64 e1] 24)).alloc (.cells #[.bool s2, .slice A2 n2 c2, .int .i64 e2] 24)).alloc (.cells #[.int .i64 p] 3)).alloc (.cells #[.bool up] 4)) (.cells #[.bool false, .slice none 0 0, .int .i64 0] 24)
  have r := box_at z4 false none 0 0 0
  have z5 := sizes_up (o := (.cells #[.bool false, .slice none 0 0, .int .i64 0] 24)) z4
  replace BB := BB.trans (b.mono (by omega))
  have G := mv b rfl <| And.intro a10 <| And.intro a11 <| And.intro a12 <| And.intro a20 <| And.intro a21 <| And.intro a22 <| And.intro gp <| gu
  clear a10 a11 a12 a20 a21 a22 gp gu
  obtain ⟨a10, a11, a12, a20, a21, a22, gp, gu⟩ := G
  clear b
  exact ⟨BB, ⟨a10, a11, a12⟩, ⟨a20, a21, a22⟩, gp, gu, r⟩
theorem rroot_start (w : World) {p : Int} {up : Bool} {A1 : Option Addr} {n1 c1 : Nat} {s1 : Bool} {e1 : Int} : Below w.heap.size w ((((w.alloc (.cells #[.bool s1, .slice A1 n1 c1, .int .i64 e1] 24)).alloc (.cells #[.int .i64 p] 3)).alloc (.cells #[.bool up] 4)).alloc (.cells #[.bool false, .slice none 0 0, .int .i64 0] 24)) ∧ (((((w.alloc (.cells #[.bool s1, .slice A1 n1 c1, .int .i64 e1] 24)).alloc (.cells #[.int .i64 p] 3)).alloc (.cells #[.bool up] 4)).alloc (.cells #[.bool false, .slice none 0 0, .int .i64 0] 24)).cell? ⟨w.heap.size, 0, none⟩ = some (.bool s1) ∧ ((((w.alloc (.cells #[.bool s1, .slice A1 n1 c1, .int .i64 e1] 24)).alloc (.cells #[.int .i64 p] 3)).alloc (.cells #[.bool up] 4)).alloc (.cells #[.bool false, .slice none 0 0, .int .i64 0] 24)).cell? ⟨w.heap.size, 1, none⟩ = some (.slice A1 n1 c1) ∧ ((((w.alloc (.cells #[.bool s1, .slice A1 n1 c1, .int .i64 e1] 24)).alloc (.cells #[.int .i64 p] 3)).alloc (.cells #[.bool up] 4)).alloc (.cells #[.bool false, .slice none 0 0, .int .i64 0] 24)).cell? ⟨w.heap.size, 2, none⟩ = some (.int .i64 e1)) ∧ (((((w.alloc (.cells #[.bool s1, .slice A1 n1 c1, .int .i64 e1] 24)).alloc (.cells #[.int .i64 p] 3)).alloc (.cells #[.bool up] 4)).alloc (.cells #[.bool false, .slice none 0 0, .int .i64 0] 24)).cell? ⟨w.heap.size + 1, 0, none⟩ = some (.int .i64 p)) ∧ (((((w.alloc (.cells #[.bool s1, .slice A1 n1 c1, .int .i64 e1] 24)).alloc (.cells #[.int .i64 p] 3)).alloc (.cells #[.bool up] 4)).alloc (.cells #[.bool false, .slice none 0 0, .int .i64 0] 24)).cell? ⟨w.heap.size + 2, 0, none⟩ = some (.bool up)) ∧ (Box ((((w.alloc (.cells #[.bool s1, .slice A1 n1 c1, .int .i64 e1] 24)).alloc (.cells #[.int .i64 p] 3)).alloc (.cells #[.bool up] 4)).alloc (.cells #[.bool false, .slice none 0 0, .int .i64 0] 24)) (w.heap.size + 3) false none 0 0 0) := by
  have z0 : w.heap.size = w.heap.size := rfl
  have b := below_alloc w (.cells #[.bool s1, .slice A1 n1 c1, .int .i64 e1] 24)
  have a10 : (w.alloc (.cells #[.bool s1, .slice A1 n1 c1, .int .i64 e1] 24)).cell? ⟨w.heap.size, 0, none⟩ = some (.bool s1) := new_cell_at z0 _ _ 0
  have a11 : (w.alloc (.cells #[.bool s1, .slice A1 n1 c1, .int .i64 e1] 24)).cell? ⟨w.heap.size, 1, none⟩ = some (.slice A1 n1 c1) := new_cell_at z0 _ _ 1
  have a12 : (w.alloc (.cells #[.bool s1, .slice A1 n1 c1, .int .i64 e1] 24)).cell? ⟨w.heap.size, 2, none⟩ = some (.int .i64 e1) := new_cell_at z0 _ _ 2
  have z1 := sizes_up (o := (.cells #[.bool s1, .slice A1 n1 c1, .int .i64 e1] 24)) z0
  have BB := b
  clear b
  have b := below_alloc (w.alloc (.cells #[.bool s1, .slice A1 n1 c1, .int .i64 e1] 24)) (.cells #[.int .i64 p] 3)
  have gp : ((w.alloc (.cells #[.bool s1, .slice A1 n1 c1, .int .i64 e1] 24)).alloc (.cells #[.int .i64 p] 3)).cell? ⟨w.heap.size + 1, 0, none⟩ = some (.int .i64 p) := new_cell_at z1 _ _ 0
  have z2 := sizes_up (o := (.cells #[.int .i64 p] 3)) z1
  replace BB := BB.trans (b.mono (by omega))
  have G := mv b rfl <| And.intro a10 <| And.intro a11 <| a12
  clear a10 a11 a12
  obtain ⟨a10, a11, a12⟩ := G
  clear b
  have b := below_alloc ((w.alloc (.cells #[.bool s1, .slice A1 n1 c1, .int .i64 e1] 24)).alloc (.cells #[.int .i64 p] 3)) (.cells #[.bool up] 4)
  have gu : (((w.alloc (.cells #[.bool s1, .slice A1 n1 c1, .int .i64 e1] 24)).alloc (.cells #[.int .i64 p] 3)).alloc (.cells #[.bool up] 4)).cell? ⟨w.heap.size + 2, 0, none⟩ = some (.bool up) := new_cell_at z2 _ _ 0
  have z3 := sizes_up (o := (.cells #[.bool up] 4)) z2
  replace BB := BB.trans (b.mono (by omega))
  have G := mv b rfl <| And.intro a10 <| And.intro a11 <| And.intro a12 <| gp
  clear a10 a11 a12 gp
  obtain ⟨a10, a11, a12, gp⟩ := G
  clear b
  have b := below_alloc (((w.alloc (.cells #[.bool s1, .slice A1 n1 c1, .int .i64 e1] 24)).alloc (.cells #[.int .i64 p] 3)).alloc (.cells #[.bool up] 4)) (.cells #[.bool false, .slice none 0 0, .int .i64 0] 24)
  have r := box_at z3 false none 0 0 0
  have z4 := sizes_up (o := (.cells #[.bool false, .slice none 0 0, .int .i64 0] 24)) z3
  replace BB := BB.trans (b.mono (by omega))
  have G := mv b rfl <| And.intro a10 <| And.intro a11 <| And.intro a12 <| And.intro gp <| gu
  clear a10 a11 a12 gp gu
  obtain ⟨a10, a11, a12, gp, gu⟩ := G
  clear b
  exact ⟨BB, ⟨a10, a11, a12⟩, gp, gu, r⟩
end Go.Proofs.YtijflbnfikiaaaaGreatDoor

namespace Go.Proofs.YtijflbnfikiaaaaGreatDoor
open Go.RowKit

theorem nt_one_at {w : World} {g v : Nat} (hg : w.heap.size = g) (h0 : v ≠ 0) (hv : v < 100) : Nt (w.alloc (.cells #[.int .u64 (v : Int)] 43)) (some ⟨g, 0, none⟩) 1 1 v := by
  subst hg
  exact nt_one w h0 (small_W hv)
theorem okd_small {m : Nat} {e : Int} (h1 : m % 2 = 1) (h2 : m < 100) (h3 : -1048576 ≤ e) (h4 : e ≤ 1048576) : OkD false m e := .inr ⟨h1, small64 h2, h3, h4⟩
theorem nm_small {q k : Nat} {e f : Int} (hq : 2 * q + 1 < 100) (he : e + (k : Int) = f) (h3 : -1048576 ≤ f) (h4 : f ≤ 1048576) : Nm false (2 ^ k * (2 * q + 1)) e 0 false (2 * q + 1) f :=
  .inr ⟨k, q, rfl, .inr (.inr ⟨small64 hq, by omega, rfl, rfl, rfl, he.symm⟩)⟩
theorem down_five {w : World} {A : Option Addr} {n c : Nat} (hT : Tab w) (h : Nt w A n c 5) : Calls Tryz.prog 55 #[.agg #[.bool false, .slice A n c, .int .i64 0], .int .i64 2] w (ToldIs false 1 2 0 w) :=
  (rdown_ok (p := 2) hT h (okd_small rfl (by omega) (by decide) (by decide)) (by omega) (by omega)).mono fun _ _ h => told_is h fun _ _ _ _ hp => by
    have hb : blen 5 = 3 := blen_eq (k := 2) (by decide) (by decide)
    have e1 : rdN 2 5 (false != false) = 2 ^ 2 * (2 * 0 + 1) := by unfold rdN cutN; rw [hb]; rfl
    unfold RdTold at hp
    rw [e1] at hp
    exact nm_fun hp (nm_small (by omega) (by decide) (by decide) (by decide))
theorem up_five {w : World} {A : Option Addr} {n c : Nat} (hT : Tab w) (h : Nt w A n c 5) : Calls Tryz.prog 54 #[.agg #[.bool false, .slice A n c, .int .i64 0], .int .i64 2] w (ToldIs false 3 1 0 w) :=
  (rup_ok (p := 2) hT h (okd_small rfl (by omega) (by decide) (by decide)) (by omega) (by omega)).mono fun _ _ h => told_is h fun _ _ _ _ hp => by
    have hb : blen 5 = 3 := blen_eq (k := 2) (by decide) (by decide)
    have e1 : rdN 2 5 (true != false) = 2 ^ 1 * (2 * 1 + 1) := by unfold rdN cutN; rw [hb]; rfl
    unfold RdTold at hp
    rw [e1] at hp
    exact nm_fun hp (nm_small (by omega) (by decide) (by decide) (by decide))
theorem down_none {w : World} {A : Option Addr} {n c : Nat} (hT : Tab w) (h : Nt w A n c 5) : Calls Tryz.prog 55 #[.agg #[.bool false, .slice A n c, .int .i64 0], .int .i64 0] w (ToldIs false 0 0 1 w) :=
  (rdown_no (p := 0) hT h.rd (.inl (by decide))).mono fun _ _ h => told_is h fun _ _ _ _ hp => hp
theorem bits_five {w : World} {A : Option Addr} {n c : Nat} (hT : Tab w) (h : Nt w A n c 5) : Calls Tryz.prog 26 #[.agg #[.bool false, .slice A n c, .int .i64 0]] w (Ints 3 w) := by
  have hb : blen 5 = 3 := blen_eq (k := 2) (by decide) (by decide)
  have := bits_ok hT h (okd_small (m := 5) (e := 0) rfl (by omega) (by decide) (by decide))
  rwa [hb] at this

end Go.Proofs.YtijflbnfikiaaaaGreatDoor
