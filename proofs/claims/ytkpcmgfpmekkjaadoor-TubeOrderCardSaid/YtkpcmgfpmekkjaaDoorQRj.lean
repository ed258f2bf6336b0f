/-
  Plain facts on rounding of naturals to so many bits, down and up. No condition; nothing of the program is named here.
-/
import Derived.Test.YtkpcmgfpmekkjaaDoorQDn
import Derived.Test.YtkpcmgfpmekkjaaDoorQMv
import Derived.Test.YtkpcmgfpmekkjaaDoorQDy3
import Derived.Test.YtkpcmgfpmekkjaaDoorQCaps
import Derived.Test.YtkpcmgfpmekkjaaDoorQRRoot
namespace Go.Proofs.YtkpcmgfpmekkjaaDoor

/-- has x at most p bits, its noughts at the end left out? -/
def Fits (p x : Nat) : Prop := ∃ a k, x = a * 2 ^ k ∧ a < 2 ^ p
theorem pow_pos2 (k : Nat) : 0 < 2 ^ k := Nat.pow_pos (by omega)
end Go.Proofs.YtkpcmgfpmekkjaaDoor
namespace Go.Proofs.YtkpcmgfpmekkjaaDoor
open Go.RowKit

theorem Dg.heap32 {w w2 : World} {A : Option Addr} {n c x : Nat} (h : Dg w A n c x) (e : w2.heap = w.heap) : Dg w2 A n c x := Rd.next' h e

end Go.Proofs.YtkpcmgfpmekkjaaDoor
namespace Go.Proofs.YtkpcmgfpmekkjaaDoor
open Go.RowKit

theorem new_cell (w : World) (cs : Array Value) (t : TypeId) (i : Nat) : (w.alloc (.cells cs t)).cell? ⟨w.heap.size, i, none⟩ = cs[i]? := cell_of_row _ _ i _ t (0, 0) (heap_alloc_new w _)

theorem must_ok {w : World} {A : Option Addr} {n c m : Nat} {s : Bool} {e : Int} (h : Nt w A n c m) :
    Calls Tryd.prog 61 #[.agg #[.bool s, .slice A n c, .int .i64 e], .int .i64 0] w (Goods s m e w) := by
  have BB := two_below w (.cells #[.bool s, .slice A n c, .int .i64 e] 28) (.cells #[.bool s, .slice A n c, .int .i64 e] 28)
  have h1 := h.below BB
  go_enter Tryd.func61, Tryd.ntmps61
  go_wp2_with fail
  refine check_ok.mono ?_
  rintro e' w' ⟨rfl, rfl⟩
  go_wp2
  exact bodyPost_ret (v := .agg #[.bool s, .slice A n c, .int .i64 e]) (by simp [results, Tryd.results61, go_sem]) rfl ⟨_, _, _, rfl, h1, BB⟩
end Go.Proofs.YtkpcmgfpmekkjaaDoor
namespace Go.Proofs.YtkpcmgfpmekkjaaDoor
open Go.RowKit

/-- the Dyads that a slice holds -/
structure Dys (w : World) (g k : Nat) (S : Nat → Bool) (A : Nat → Option Addr) (N C : Nat → Nat) (E : Nat → Int) (L : Nat → List Nat) : Prop where
  c0 : ∀ i, i < k → w.cell? ⟨g, i * 3, none⟩ = some (.bool (S i))
  c1 : ∀ i, i < k → w.cell? ⟨g, i * 3 + 1, none⟩ = some (.slice (A i) (N i) (C i))
  c2 : ∀ i, i < k → w.cell? ⟨g, i * 3 + 2, none⟩ = some (.int .i64 (E i))
  rd : ∀ i, i < k → Rd w .u64 W (A i) (N i) (C i) (L i)
theorem Dys.next {w X w2 : World} {g k : Nat} {S : Nat → Bool} {A : Nat → Option Addr} {N C : Nat → Nat} {E : Nat → Int} {L : Nat → List Nat} (h : Dys w g k S A N C E L) (b : Below X.heap.size X w2) (e : X.heap = w.heap) : Dys w2 g k S A N C E L := by
  have key : ∀ (x : Addr) (v : Value), w.cell? x = some v → w2.cell? x = some v := fun x v h => by
    have h1 : X.cell? x = some v := by rw [← h]; unfold World.cell?; rw [e]
    exact (b.cell (World.block_lt_of_cell? X _ h1)).trans h1
  exact ⟨fun i hi => key _ _ (h.c0 i hi), fun i hi => key _ _ (h.c1 i hi), fun i hi => key _ _ (h.c2 i hi), fun i hi => (h.rd i hi).next b e⟩

end Go.Proofs.YtkpcmgfpmekkjaaDoor
namespace Go.Proofs.YtkpcmgfpmekkjaaDoor
open Go.RowKit

theorem box_one (w : World) (o : Obj) (s : Bool) (A : Option Addr) (n c : Nat) (e : Int) : Box ((w.alloc o).alloc (.cells #[.bool s, .slice A n c, .int .i64 e] 28)) (w.heap.size + 1) s A n c e := by
  have := Box.new (w.alloc o) s A n c e
  simpa using this
end Go.Proofs.YtkpcmgfpmekkjaaDoor
namespace Go.Proofs.YtkpcmgfpmekkjaaDoor
open Go.RowKit

end Go.Proofs.YtkpcmgfpmekkjaaDoor

namespace Go.Proofs.YtkpcmgfpmekkjaaDoor
open Go.RowKit

end Go.Proofs.YtkpcmgfpmekkjaaDoor

namespace Go.Proofs.YtkpcmgfpmekkjaaDoor
open Go.RowKit

theorem nt_one_at {w : World} {g v : Nat} (hg : w.heap.size = g) (h0 : v ≠ 0) (hv : v < 100) : Nt (w.alloc (.cells #[.int .u64 (v : Int)] 52)) (some ⟨g, 0, none⟩) 1 1 v := by
  subst hg
  exact nt_one w h0 (small_W hv)
theorem okd_small {m : Nat} {e : Int} (h1 : m % 2 = 1) (h2 : m < 100) (h3 : -1048576 ≤ e) (h4 : e ≤ 1048576) : OkD false m e := .inr ⟨h1, small64 h2, h3, h4⟩
end Go.Proofs.YtkpcmgfpmekkjaaDoor
namespace Go.Proofs.YtkpcmgfpmekkjaaDoor
open Go.RowKit

/-- what is told of any two, raw ones too -/
def sameB (s t : Bool) (l r : List Nat) (e f : Int) : Bool := decide (s = t ∧ e = f ∧ l = r)
def cmpR (K : Nat) (s : Bool) (l : List Nat) (e : Int) (t : Bool) (r : List Nat) (f : Int) : Int := if mayD s l e = true ∧ mayD t r f = true then cmpV (vz K s (val Go.Proofs.YtkpcmgfpmekkjaaDoor.W l) e) (vz K t (val Go.Proofs.YtkpcmgfpmekkjaaDoor.W r) f) else 0
def addR (K : Nat) (s : Bool) (l : List Nat) (e : Int) (t : Bool) (r : List Nat) (f : Int) : Int → Bool → Nat → Int → Prop := if mayD s l e = true ∧ mayD t r f = true then NmV K (vz K s (val Go.Proofs.YtkpcmgfpmekkjaaDoor.W l) e + vz K t (val Go.Proofs.YtkpcmgfpmekkjaaDoor.W r) f) else Wrong
/-- the reading of a slice whose Dyad may be -/
theorem rd_okd {w : World} {A1 : Option Addr} {n1 c1 : Nat} {l1 : List Nat} {s1 : Bool} {e1 : Int} (h1 : Rd w .u64 Go.Proofs.YtkpcmgfpmekkjaaDoor.W A1 n1 c1 l1) (hd : mayD s1 l1 e1 = true) : Nt w A1 n1 c1 (val Go.Proofs.YtkpcmgfpmekkjaaDoor.W l1) ∧ OkD s1 (val Go.Proofs.YtkpcmgfpmekkjaaDoor.W l1) e1 ∧ dig Go.Proofs.YtkpcmgfpmekkjaaDoor.W (val Go.Proofs.YtkpcmgfpmekkjaaDoor.W l1) = l1 := by
  obtain ⟨hm, hok⟩ := mayD_of h1.lt hd
  obtain ⟨hN, hC, _⟩ := nt_of h1 hm
  refine ⟨hN, hok, ?_⟩
  have h2 := hN.rd
  have h3 : (dig Go.Proofs.YtkpcmgfpmekkjaaDoor.W (val Go.Proofs.YtkpcmgfpmekkjaaDoor.W l1)) = l1 := dig_val W_two hC
  exact h3
theorem dsame_raw {w : World} {A B : Option Addr} {n c m d : Nat} {l r : List Nat} {s t : Bool} {e f : Int} (h : Rd w .u64 Go.Proofs.YtkpcmgfpmekkjaaDoor.W A n c l) (h' : Rd w .u64 Go.Proofs.YtkpcmgfpmekkjaaDoor.W B m d r) :
    Calls Tryd.prog 19 #[.agg #[.bool s, .slice A n c, .int .i64 e], .agg #[.bool t, .slice B m d, .int .i64 f]] w fun en w' => en = .returned (.bool (sameB s t l r e f)) ∧ Below w.heap.size w w' := by
  by_cases h1 : s = t ∧ e = f
  · obtain ⟨rfl, rfl⟩ := h1
    rw [show sameB s s l r e e = decide (l = r) from decide_eq_decide.2 ⟨fun h => h.2.2, fun h => ⟨rfl, rfl, h⟩⟩]
    exact dsame_eq h h'
  · rw [show sameB s t l r e f = false from decide_eq_false fun h => h1 ⟨h.1, h.2.1⟩]
    refine dsame_no ?_
    by_cases h2 : s = t
    · exact .inr fun h3 => h1 ⟨h2, h3⟩
    · exact .inl h2
end Go.Proofs.YtkpcmgfpmekkjaaDoor
namespace Go.Proofs.YtkpcmgfpmekkjaaDoor
open Go.RowKit

set_option maxRecDepth 100000 in
set_option maxHeartbeats 8000000 in
theorem dcmp_no {w : World} {A1 : Option Addr} {n1 c1 : Nat} {l1 : List Nat} {s1 : Bool} {e1 : Int} {A2 : Option Addr} {n2 c2 : Nat} {l2 : List Nat} {s2 : Bool} {e2 : Int} (hT : Tab w) (h1 : Rd w .u64 Go.Proofs.YtkpcmgfpmekkjaaDoor.W A1 n1 c1 l1) (h2 : Rd w .u64 Go.Proofs.YtkpcmgfpmekkjaaDoor.W A2 n2 c2 l2) (hd : ¬ (mayD s1 l1 e1 = true ∧ mayD s2 l2 e2 = true)) :
    Calls Tryd.prog 10 #[.agg #[.bool s1, .slice A1 n1 c1, .int .i64 e1], .agg #[.bool s2, .slice A2 n2 c2, .int .i64 e2]] w (Ints 0 w) := by
  have BB := two_below w (.cells #[.bool s1, .slice A1 n1 c1, .int .i64 e1] 28) (.cells #[.bool s2, .slice A2 n2 c2, .int .i64 e2] 28)
  obtain ⟨a10, a11, a12, a20, a21, a22⟩ := (two_new w s1 s2 A1 A2 n1 c1 n2 c2 e1 e2).held
  have G := mv BB rfl (J3 hT h1 h2)
  clear hT h1 h2
  obtain ⟨hT, h1, h2⟩ := G
  have HD := Lib.hid hd
  clear hd
  go_enter Tryd.func10, Tryd.ntmps10
  go_wp2_with fail
  refine (dmay_any (s := s1) (e := e1) hT h1).mono ?_
  rintro en w1 ⟨rfl, b⟩
  replace BB := bnx BB b rfl rfl rfl rfl
  have G := mv b rfl (J9 a10 a11 a12 a20 a21 a22 hT h1 h2)
  clear b a10 a11 a12 a20 a21 a22 hT h1 h2
  obtain ⟨a10, a11, a12, a20, a21, a22, hT, h1, h2⟩ := G
  cases q1 : mayD s1 l1 e1
  · clear q1
    go_wp2
    go_ret
    exact ⟨rfl, BB⟩
  go_wp2_with fail
  refine (dmay_any (s := s2) (e := e2) hT h2).mono ?_
  rintro en w2 ⟨rfl, b⟩
  replace BB := bnx BB b rfl rfl rfl rfl
  have G := mv b rfl (J9 a10 a11 a12 a20 a21 a22 hT h1 h2)
  clear b a10 a11 a12 a20 a21 a22 hT h1 h2
  obtain ⟨a10, a11, a12, a20, a21, a22, hT, h1, h2⟩ := G
  have q2 : mayD s2 l2 e2 = false := by
    cases q : mayD s2 l2 e2
    · rfl
    · exact absurd ⟨q1, q⟩ HD.out
  rw [q2]
  clear q1 q2
  go_wp2
  go_ret
  exact ⟨rfl, BB⟩

theorem dcmp_raw {w : World} {K : Nat} {A1 : Option Addr} {n1 c1 : Nat} {l1 : List Nat} {s1 : Bool} {e1 : Int} {A2 : Option Addr} {n2 c2 : Nat} {l2 : List Nat} {s2 : Bool} {e2 : Int} (hK : 4194304 ≤ K) (hT : Tab w) (h1 : Rd w .u64 Go.Proofs.YtkpcmgfpmekkjaaDoor.W A1 n1 c1 l1) (h2 : Rd w .u64 Go.Proofs.YtkpcmgfpmekkjaaDoor.W A2 n2 c2 l2) :
    Calls Tryd.prog 10 #[.agg #[.bool s1, .slice A1 n1 c1, .int .i64 e1], .agg #[.bool s2, .slice A2 n2 c2, .int .i64 e2]] w (Ints (cmpR K s1 l1 e1 s2 l2 e2) w) := by
  unfold cmpR
  by_cases hd : mayD s1 l1 e1 = true ∧ mayD s2 l2 e2 = true
  · rw [if_pos hd]
    obtain ⟨hN, hok, _⟩ := rd_okd h1 hd.1
    obtain ⟨hN', hok', _⟩ := rd_okd h2 hd.2
    exact dcmp_ok hK hT hN hN' hok hok'
  · rw [if_neg hd]
    exact dcmp_no hT h1 h2 hd
theorem dadd_raw {w : World} {K : Nat} {A1 : Option Addr} {n1 c1 : Nat} {l1 : List Nat} {s1 : Bool} {e1 : Int} {A2 : Option Addr} {n2 c2 : Nat} {l2 : List Nat} {s2 : Bool} {e2 : Int} (hK : 4194304 ≤ K) (hT : Tab w) (h1 : Rd w .u64 Go.Proofs.YtkpcmgfpmekkjaaDoor.W A1 n1 c1 l1) (h2 : Rd w .u64 Go.Proofs.YtkpcmgfpmekkjaaDoor.W A2 n2 c2 l2) :
    Calls Tryd.prog 60 #[.agg #[.bool s1, .slice A1 n1 c1, .int .i64 e1], .agg #[.bool s2, .slice A2 n2 c2, .int .i64 e2]] w (Tells (addR K s1 l1 e1 s2 l2 e2) w) := by
  unfold addR
  by_cases hd : mayD s1 l1 e1 = true ∧ mayD s2 l2 e2 = true
  · rw [if_pos hd]
    obtain ⟨hN, hok, _⟩ := rd_okd h1 hd.1
    obtain ⟨hN', hok', _⟩ := rd_okd h2 hd.2
    exact dadd_ok hK hT hN hN' hok hok'
  · rw [if_neg hd]
    exact dadd_no hT h1 h2 (by cases q : mayD s1 l1 e1 <;> cases q' : mayD s2 l2 e2 <;> first | rfl | exact absurd ⟨q, q'⟩ hd)
end Go.Proofs.YtkpcmgfpmekkjaaDoor
