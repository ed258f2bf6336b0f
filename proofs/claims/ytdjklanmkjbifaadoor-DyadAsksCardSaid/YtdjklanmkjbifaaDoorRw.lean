/-
  Contracts of the reference's Shift and Small, and of layer 2's same, at this translation. Condition: the slices read as limbs, or as digits of sixteen bits.
-/
import Derived.Test.YtdjklanmkjbifaaDoorRu
namespace Go.Proofs.YtdjklanmkjbifaaDoor
open Go.RowKit

theorem row_single {w : World} {u : Nat} (hu : u < 18446744073709551616) : Rd (w.alloc (.cells #[.int .u64 (u : Int)] 39)) .u64 Go.Proofs.YtdjklanmkjbifaaDoor.W (some ⟨w.heap.size, 0, none⟩) 1 1 [u] :=
  (row_lit w [u]).rd' (Lt.cons (by rw [W_eq]; exact hu) Lt.nil) rfl (Nat.le_refl _) (by omega)
set_option maxRecDepth 100000 in
set_option maxHeartbeats 8000000 in
theorem same2_self {w : World} {A1 A2 : Option Addr} {n1 c1 n2 c2 x : Nat} {s : Bool} {e k : Int} (h1 : Nt w A1 n1 c1 x) (h2 : Nt w A2 n2 c2 x) :
    Calls Tryd.prog 16 #[.agg #[.bool s, .slice A1 n1 c1, .int .i64 e], .int .i64 k, .agg #[.bool s, .slice A2 n2 c2, .int .i64 e], .int .i64 k] w fun en w' => en = .returned (.bool true) ∧ Below w.heap.size w w' := by
  have BB := two_below w (.cells #[.bool s, .slice A1 n1 c1, .int .i64 e] 24) (.cells #[.bool s, .slice A2 n2 c2, .int .i64 e] 24)
  obtain ⟨a10, a11, a12, a20, a21, a22⟩ := (two_new w s s A1 A2 n1 c1 n2 c2 e e).held
  have fk : (k == k) = true := by simp
  have G := mv BB rfl <| And.intro h1 <| h2
  clear h1 h2
  obtain ⟨h1, h2⟩ := G
  go_enter Tryd.func16, Tryd.ntmps16
  go_wp2_with fail
  refine (rsame_self (s := s) (e := e) h1 h2).mono ?_
  rintro en w1 ⟨rfl, b⟩
  replace BB := below_next BB BB.size b rfl rfl rfl rfl
  clear b
  go_wp2
  go_ret
  exact ⟨rfl, BB⟩
end Go.Proofs.YtdjklanmkjbifaaDoor
