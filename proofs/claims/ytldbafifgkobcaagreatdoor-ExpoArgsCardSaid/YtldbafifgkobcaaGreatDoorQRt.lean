/-
 Plain facts on values of dyadic numbers, and dyad's contracts of one Dyad or two with an answer that is known. Condition: the slices read as naturals, the table of math/bits reads as its text lays it.
-/
import Derived.Test.YtldbafifgkobcaaGreatDoorQMv
import Derived.Test.YtldbafifgkobcaaGreatDoorQRf
namespace Go.Proofs.YtldbafifgkobcaaGreatDoor
open Go.RowKit

theorem dcmp_is {w : World} {A B : Option Addr} {n c m d x y K : Nat} {s t : Bool} {e f z : Int} (hK : 4194304 ≤ K) (hT : Tab w) (h : Nt w A n c x) (h' : Nt w B m d y) (hd : OkD s x e) (hd' : OkD t y f) (hz : cmpV (vz K s x e) (vz K t y f) = z) :
  Calls Tryz.prog 20 #[.agg #[.bool s, .slice A n c, .int .i64 e], .agg #[.bool t, .slice B m d, .int .i64 f]] w (Ints z w) := by
 have := dcmp_ok hK hT h h' hd hd'
 rwa [hz] at this
theorem sign_is {w : World} {A : Option Addr} {n c m : Nat} {s : Bool} {e z : Int} (hT : Tab w) (h : Nt w A n c m) (hd : OkD s m e) (hz : signD s m = z) :
  Calls Tryz.prog 21 #[.agg #[.bool s, .slice A n c, .int .i64 e]] w (Ints z w) := by
 have := sign_ok hT h hd
 rwa [hz] at this
end Go.Proofs.YtldbafifgkobcaaGreatDoor
namespace Go.Proofs.YtldbafifgkobcaaGreatDoor
open Go.RowKit

theorem size_one (w : World) (o : Obj) : (w.alloc o).heap.size = w.heap.size + 1 := by simp

end Go.Proofs.YtldbafifgkobcaaGreatDoor

namespace Go.Proofs.YtldbafifgkobcaaGreatDoor
open Go.RowKit

theorem box_at {w : World} {g : Nat} (hg : w.heap.size = g) (s : Bool) (A : Option Addr) (n c : Nat) (e : Int) : Box (w.alloc (.cells #[.bool s, .slice A n c, .int .i64 e] 24)) g s A n c e := by
 subst hg
 exact Box.new w s A n c e
theorem sizes_up {w : World} {o : Obj} {g : Nat} (h : w.heap.size = g) : (w.alloc o).heap.size = g + 1 := by rw [size_one, h]
end Go.Proofs.YtldbafifgkobcaaGreatDoor

namespace Go.Proofs.YtldbafifgkobcaaGreatDoor
open Go.RowKit

theorem nt_one_at {w : World} {g v : Nat} (hg : w.heap.size = g) (h0 : v ≠ 0) (hv : v < 100) : Nt (w.alloc (.cells #[.int .u64 (v : Int)] 34)) (some ⟨g, 0, none⟩) 1 1 v := by
 subst hg
 exact nt_one w h0 (small_W hv)
theorem okd_small {m : Nat} {e : Int} (h1 : m % 2 = 1) (h2 : m < 100) (h3 : -1048576 ≤ e) (h4 : e ≤ 1048576) : OkD false m e := .inr ⟨h1, small64 h2, h3, h4⟩
end Go.Proofs.YtldbafifgkobcaaGreatDoor
