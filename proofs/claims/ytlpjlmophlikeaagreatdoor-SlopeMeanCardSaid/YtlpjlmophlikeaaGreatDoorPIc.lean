/-
 Contracts of the reference's dyadic numbers, at this translation: what may be, what is made of a natural and an exponent, whether two are the same. Condition: the slices read as limbs, or as digits of sixteen bits.
-/
import Derived.Test.YtlpjlmophlikeaaGreatDoorPRm
import Derived.Test.YtlpjlmophlikeaaGreatDoorPRf
import Derived.Test.YtlpjlmophlikeaaGreatDoorPDn
namespace Go.Proofs.YtlpjlmophlikeaaGreatDoor
open Go.RowKit

theorem Dg.heap32 {w w2 : World} {A : Option Addr} {n c x : Nat} (h : Dg w A n c x) (e : w2.heap = w.heap) : Dg w2 A n c x := Rd.next' h e

end Go.Proofs.YtlpjlmophlikeaaGreatDoor
namespace Go.Proofs.YtlpjlmophlikeaaGreatDoor
open Go.RowKit

/-- what is told of any two, raw ones too -/
def sameB (s t : Bool) (l r : List Nat) (e f : Int) : Bool := decide (s = t ∧ e = f ∧ l = r)
def signR (s : Bool) (l : List Nat) (e : Int) : Int := if mayD s l e = true then signD s (val Go.Proofs.YtlpjlmophlikeaaGreatDoor.W l) else 0
def negR (s : Bool) (l : List Nat) (e : Int) : Bool := if mayD s l e = true ∧ val Go.Proofs.YtlpjlmophlikeaaGreatDoor.W l ≠ 0 then !s else s
def cmpR (K : Nat) (s : Bool) (l : List Nat) (e : Int) (t : Bool) (r : List Nat) (f : Int) : Int := if mayD s l e = true ∧ mayD t r f = true then cmpV (vz K s (val Go.Proofs.YtlpjlmophlikeaaGreatDoor.W l) e) (vz K t (val Go.Proofs.YtlpjlmophlikeaaGreatDoor.W r) f) else 0
def addR (K : Nat) (s : Bool) (l : List Nat) (e : Int) (t : Bool) (r : List Nat) (f : Int) : Int → Bool → Nat → Int → Prop := if mayD s l e = true ∧ mayD t r f = true then NmV K (vz K s (val Go.Proofs.YtlpjlmophlikeaaGreatDoor.W l) e + vz K t (val Go.Proofs.YtlpjlmophlikeaaGreatDoor.W r) f) else Wrong
def subR (K : Nat) (s : Bool) (l : List Nat) (e : Int) (t : Bool) (r : List Nat) (f : Int) : Int → Bool → Nat → Int → Prop := if mayD s l e = true ∧ mayD t r f = true then NmV K (vz K s (val Go.Proofs.YtlpjlmophlikeaaGreatDoor.W l) e - vz K t (val Go.Proofs.YtlpjlmophlikeaaGreatDoor.W r) f) else Wrong
def mulR (s : Bool) (l : List Nat) (e : Int) (t : Bool) (r : List Nat) (f : Int) : Int → Bool → Nat → Int → Prop := if mayD s l e = true ∧ mayD t r f = true then Nm (s != t) (val Go.Proofs.YtlpjlmophlikeaaGreatDoor.W l * val Go.Proofs.YtlpjlmophlikeaaGreatDoor.W r) (e + f) else Wrong
theorem wrong_fun {k k2 : Int} {s1 s2 : Bool} {m1 m2 : Nat} {e1 e2 : Int} (h : Wrong k s1 m1 e1) (h' : Wrong k2 s2 m2 e2) : k = k2 ∧ s1 = s2 ∧ m1 = m2 ∧ e1 = e2 := by
 obtain ⟨rfl, rfl, rfl, rfl⟩ := h
 obtain ⟨rfl, rfl, rfl, rfl⟩ := h'
 exact ⟨rfl, rfl, rfl, rfl⟩
theorem addR_fun {K : Nat} {s : Bool} {l : List Nat} {e : Int} {t : Bool} {r : List Nat} {f k k2 : Int} {s1 s2 : Bool} {m1 m2 : Nat} {e1 e2 : Int} (h : addR K s l e t r f k s1 m1 e1) (h' : addR K s l e t r f k2 s2 m2 e2) : k = k2 ∧ s1 = s2 ∧ m1 = m2 ∧ e1 = e2 := by
 unfold addR at h h'
 split at h
 ·rw [if_pos (by assumption)] at h'; exact nmv_fun h h'
 ·rw [if_neg (by assumption)] at h'; exact wrong_fun h h'
theorem mulR_fun {s : Bool} {l : List Nat} {e : Int} {t : Bool} {r : List Nat} {f k k2 : Int} {s1 s2 : Bool} {m1 m2 : Nat} {e1 e2 : Int} (h : mulR s l e t r f k s1 m1 e1) (h' : mulR s l e t r f k2 s2 m2 e2) : k = k2 ∧ s1 = s2 ∧ m1 = m2 ∧ e1 = e2 := by
 unfold mulR at h h'
 split at h
 ·rw [if_pos (by assumption)] at h'; exact nm_fun h h'
 ·rw [if_neg (by assumption)] at h'; exact wrong_fun h h'
/-- the reading of a slice whose Dyad may be -/
theorem rd_okd {w : World} {A1 : Option Addr} {n1 c1 : Nat} {l1 : List Nat} {s1 : Bool} {e1 : Int} (h1 : Rd w .u64 Go.Proofs.YtlpjlmophlikeaaGreatDoor.W A1 n1 c1 l1) (hd : mayD s1 l1 e1 = true) : Nt w A1 n1 c1 (val Go.Proofs.YtlpjlmophlikeaaGreatDoor.W l1) ∧ OkD s1 (val Go.Proofs.YtlpjlmophlikeaaGreatDoor.W l1) e1 ∧ dig Go.Proofs.YtlpjlmophlikeaaGreatDoor.W (val Go.Proofs.YtlpjlmophlikeaaGreatDoor.W l1) = l1 := by
 obtain ⟨hm, hok⟩ := mayD_of h1.lt hd
 obtain ⟨hN, hC, _⟩ := nt_of h1 hm
 refine ⟨hN, hok, ?_⟩
 have h2 := hN.rd
 have h3 : (dig Go.Proofs.YtlpjlmophlikeaaGreatDoor.W (val Go.Proofs.YtlpjlmophlikeaaGreatDoor.W l1)) = l1 := dig_val W_two hC
 exact h3
theorem dsame_raw {w : World} {A B : Option Addr} {n c m d : Nat} {l r : List Nat} {s t : Bool} {e f : Int} (h : Rd w .u64 Go.Proofs.YtlpjlmophlikeaaGreatDoor.W A n c l) (h' : Rd w .u64 Go.Proofs.YtlpjlmophlikeaaGreatDoor.W B m d r) :
  Calls Tryz.prog 26 #[.agg #[.bool s, .slice A n c, .int .i64 e], .agg #[.bool t, .slice B m d, .int .i64 f]] w fun en w' => en = .returned (.bool (sameB s t l r e f)) ∧ Below w.heap.size w w' := by
 by_cases h1 : s = t ∧ e = f
 ·obtain ⟨rfl, rfl⟩ := h1
  rw [show sameB s s l r e e = decide (l = r) from decide_eq_decide.2 ⟨fun h => h.2.2, fun h => ⟨rfl, rfl, h⟩⟩]
  exact dsame_eq h h'
 ·rw [show sameB s t l r e f = false from decide_eq_false fun h => h1 ⟨h.1, h.2.1⟩]
  refine dsame_no ?_
  by_cases h2 : s = t
  ·exact .inr fun h3 => h1 ⟨h2, h3⟩
  ·exact .inl h2
end Go.Proofs.YtlpjlmophlikeaaGreatDoor
set_option maxHeartbeats 8000000
set_option maxRecDepth 100000
namespace Go.Proofs.YtlpjlmophlikeaaGreatDoor
open Go.RowKit

theorem dneg_raw {w : World} {A1 : Option Addr} {n1 c1 : Nat} {l1 : List Nat} {s1 : Bool} {e1 : Int} (hT : Tab w) (h1 : Rd w .u64 Go.Proofs.YtlpjlmophlikeaaGreatDoor.W A1 n1 c1 l1) (hn : n1 ≤ 10000000000000) :
  Calls Tryz.prog 44 #[.agg #[.bool s1, .slice A1 n1 c1, .int .i64 e1]] w fun en w' => ∃ A c, en = .returned (.agg #[.bool (negR s1 l1 e1), .slice A n1 c, .int .i64 e1]) ∧ Rd w' .u64 Go.Proofs.YtlpjlmophlikeaaGreatDoor.W A n1 c l1 ∧ Below w.heap.size w w' := by
 unfold negR
 by_cases hd : mayD s1 l1 e1 = true
 ·obtain ⟨hN, hok, hdig⟩ := rd_okd h1 hd
  have hg := dneg_any hT hN hok
  by_cases hz : val Go.Proofs.YtlpjlmophlikeaaGreatDoor.W l1 = 0
  ·rw [if_pos hz] at hg
   rw [if_neg (fun h => h.2 hz)]
   refine hg.mono ?_
   rintro en w' ⟨A, n, c, rfl, h2, h3⟩
   have h4 := h2.rd
   rw [hdig] at h4
   obtain rfl : n = n1 := h4.len.symm.trans h1.len
   exact ⟨A, c, rfl, h4, h3⟩
  ·rw [if_neg hz] at hg
   rw [if_pos ⟨hd, hz⟩]
   refine hg.mono ?_
   rintro en w' ⟨A, n, c, rfl, h2, h3⟩
   have h4 := h2.rd
   rw [hdig] at h4
   obtain rfl : n = n1 := h4.len.symm.trans h1.len
   exact ⟨A, c, rfl, h4, h3⟩
 ·rw [if_neg (fun h => hd h.1)]
  exact neg_keep h1 hn fun w2 b => sign_no (hT.below b) (h1.below b) (Bool.eq_false_iff.2 hd)
theorem dcmp_no {w : World} {A1 : Option Addr} {n1 c1 : Nat} {l1 : List Nat} {s1 : Bool} {e1 : Int} {A2 : Option Addr} {n2 c2 : Nat} {l2 : List Nat} {s2 : Bool} {e2 : Int} (hT : Tab w) (h1 : Rd w .u64 Go.Proofs.YtlpjlmophlikeaaGreatDoor.W A1 n1 c1 l1) (h2 : Rd w .u64 Go.Proofs.YtlpjlmophlikeaaGreatDoor.W A2 n2 c2 l2) (hd : ¬ (mayD s1 l1 e1 = true ∧ mayD s2 l2 e2 = true)) :
  Calls Tryz.prog 9 #[.agg #[.bool s1, .slice A1 n1 c1, .int .i64 e1], .agg #[.bool s2, .slice A2 n2 c2, .int .i64 e2]] w (Ints 0 w) := by
 have BB := two_below w (.cells #[.bool s1, .slice A1 n1 c1, .int .i64 e1] 27) (.cells #[.bool s2, .slice A2 n2 c2, .int .i64 e2] 27)
 obtain ⟨a10, a11, a12, a20, a21, a22⟩ := (two_new w s1 s2 A1 A2 n1 c1 n2 c2 e1 e2).held
 have G := mv BB rfl (J3 hT h1 h2)
 clear hT h1 h2
 obtain ⟨hT, h1, h2⟩ := G
 have HD := Lib.hid hd
 clear hd
 go_enter Tryz.func9, Tryz.ntmps9
 go_wp2_with fail
 refine (dmay_any (s := s1) (e := e1) hT h1).mono ?_
 rintro en w1 ⟨rfl, b⟩
 replace BB := bnx BB b
 have G := mv b rfl (J9 a10 a11 a12 a20 a21 a22 hT h1 h2)
 clear b a10 a11 a12 a20 a21 a22 hT h1 h2
 obtain ⟨a10, a11, a12, a20, a21, a22, hT, h1, h2⟩ := G
 cases q1 : mayD s1 l1 e1
 ·clear q1
  go_wp2
  go_ret
  exact ⟨rfl, BB⟩
 go_wp2_with fail
 refine (dmay_any (s := s2) (e := e2) hT h2).mono ?_
 rintro en w2 ⟨rfl, b⟩
 replace BB := bnx BB b
 have G := mv b rfl (J9 a10 a11 a12 a20 a21 a22 hT h1 h2)
 clear b a10 a11 a12 a20 a21 a22 hT h1 h2
 obtain ⟨a10, a11, a12, a20, a21, a22, hT, h1, h2⟩ := G
 have q2 : mayD s2 l2 e2 = false := by
  cases q : mayD s2 l2 e2
  ·rfl
  ·exact absurd ⟨q1, q⟩ HD.out
 rw [q2]
 clear q1 q2
 go_wp2
 go_ret
 exact ⟨rfl, BB⟩

theorem dcmp_raw {w : World} {K : Nat} {A1 : Option Addr} {n1 c1 : Nat} {l1 : List Nat} {s1 : Bool} {e1 : Int} {A2 : Option Addr} {n2 c2 : Nat} {l2 : List Nat} {s2 : Bool} {e2 : Int} (hK : 4194304 ≤ K) (hT : Tab w) (h1 : Rd w .u64 Go.Proofs.YtlpjlmophlikeaaGreatDoor.W A1 n1 c1 l1) (h2 : Rd w .u64 Go.Proofs.YtlpjlmophlikeaaGreatDoor.W A2 n2 c2 l2) :
  Calls Tryz.prog 9 #[.agg #[.bool s1, .slice A1 n1 c1, .int .i64 e1], .agg #[.bool s2, .slice A2 n2 c2, .int .i64 e2]] w (Ints (cmpR K s1 l1 e1 s2 l2 e2) w) := by
 unfold cmpR
 by_cases hd : mayD s1 l1 e1 = true ∧ mayD s2 l2 e2 = true
 ·rw [if_pos hd]
  obtain ⟨hN, hok, _⟩ := rd_okd h1 hd.1
  obtain ⟨hN', hok', _⟩ := rd_okd h2 hd.2
  exact dcmp_ok hK hT hN hN' hok hok'
 ·rw [if_neg hd]
  exact dcmp_no hT h1 h2 hd
theorem dadd_raw {w : World} {K : Nat} {A1 : Option Addr} {n1 c1 : Nat} {l1 : List Nat} {s1 : Bool} {e1 : Int} {A2 : Option Addr} {n2 c2 : Nat} {l2 : List Nat} {s2 : Bool} {e2 : Int} (hK : 4194304 ≤ K) (hT : Tab w) (h1 : Rd w .u64 Go.Proofs.YtlpjlmophlikeaaGreatDoor.W A1 n1 c1 l1) (h2 : Rd w .u64 Go.Proofs.YtlpjlmophlikeaaGreatDoor.W A2 n2 c2 l2) :
  Calls Tryz.prog 178 #[.agg #[.bool s1, .slice A1 n1 c1, .int .i64 e1], .agg #[.bool s2, .slice A2 n2 c2, .int .i64 e2]] w (Tells (addR K s1 l1 e1 s2 l2 e2) w) := by
 unfold addR
 by_cases hd : mayD s1 l1 e1 = true ∧ mayD s2 l2 e2 = true
 ·rw [if_pos hd]
  obtain ⟨hN, hok, _⟩ := rd_okd h1 hd.1
  obtain ⟨hN', hok', _⟩ := rd_okd h2 hd.2
  exact dadd_ok hK hT hN hN' hok hok'
 ·rw [if_neg hd]
  exact dadd_no hT h1 h2 (by cases q : mayD s1 l1 e1 <;> cases q' : mayD s2 l2 e2 <;> first | rfl | exact absurd ⟨q, q'⟩ hd)
theorem dsub_raw {w : World} {K : Nat} {A1 : Option Addr} {n1 c1 : Nat} {l1 : List Nat} {s1 : Bool} {e1 : Int} {A2 : Option Addr} {n2 c2 : Nat} {l2 : List Nat} {s2 : Bool} {e2 : Int} (hK : 4194304 ≤ K) (hT : Tab w) (h1 : Rd w .u64 Go.Proofs.YtlpjlmophlikeaaGreatDoor.W A1 n1 c1 l1) (h2 : Rd w .u64 Go.Proofs.YtlpjlmophlikeaaGreatDoor.W A2 n2 c2 l2) :
  Calls Tryz.prog 12 #[.agg #[.bool s1, .slice A1 n1 c1, .int .i64 e1], .agg #[.bool s2, .slice A2 n2 c2, .int .i64 e2]] w (Tells (subR K s1 l1 e1 s2 l2 e2) w) := by
 unfold subR
 by_cases hd : mayD s1 l1 e1 = true ∧ mayD s2 l2 e2 = true
 ·rw [if_pos hd]
  obtain ⟨hN, hok, _⟩ := rd_okd h1 hd.1
  obtain ⟨hN', hok', _⟩ := rd_okd h2 hd.2
  exact dsub_ok hK hT hN hN' hok hok'
 ·rw [if_neg hd]
  exact dsub_no hT h1 h2 (by cases q : mayD s1 l1 e1 <;> cases q' : mayD s2 l2 e2 <;> first | rfl | exact absurd ⟨q, q'⟩ hd)
theorem dmul_raw {w : World} {A1 : Option Addr} {n1 c1 : Nat} {l1 : List Nat} {s1 : Bool} {e1 : Int} {A2 : Option Addr} {n2 c2 : Nat} {l2 : List Nat} {s2 : Bool} {e2 : Int} (hT : Tab w) (h1 : Rd w .u64 Go.Proofs.YtlpjlmophlikeaaGreatDoor.W A1 n1 c1 l1) (h2 : Rd w .u64 Go.Proofs.YtlpjlmophlikeaaGreatDoor.W A2 n2 c2 l2) :
  Calls Tryz.prog 13 #[.agg #[.bool s1, .slice A1 n1 c1, .int .i64 e1], .agg #[.bool s2, .slice A2 n2 c2, .int .i64 e2]] w (Tells (mulR s1 l1 e1 s2 l2 e2) w) := by
 unfold mulR
 by_cases hd : mayD s1 l1 e1 = true ∧ mayD s2 l2 e2 = true
 ·rw [if_pos hd]
  obtain ⟨hN, hok, _⟩ := rd_okd h1 hd.1
  obtain ⟨hN', hok', _⟩ := rd_okd h2 hd.2
  exact dmul_ok hT hN hN' hok hok'
 ·rw [if_neg hd]
  exact dmul_no hT h1 h2 (by cases q : mayD s1 l1 e1 <;> cases q' : mayD s2 l2 e2 <;> first | rfl | exact absurd ⟨q, q'⟩ hd)
end Go.Proofs.YtlpjlmophlikeaaGreatDoor
namespace Go.Proofs.YtlpjlmophlikeaaGreatDoor
open Go.RowKit

end Go.Proofs.YtlpjlmophlikeaaGreatDoor

namespace Go.Proofs.YtlpjlmophlikeaaGreatDoor
open Go.RowKit

end Go.Proofs.YtlpjlmophlikeaaGreatDoor

namespace Go.Proofs.YtlpjlmophlikeaaGreatDoor
open Go.RowKit

theorem two_dbl (w : World) {A1 A2 : Option Addr} {n1 c1 n2 c2 : Nat} {s1 s2 : Bool} {e1 e2 : Int} : Box ((w.alloc (.cells #[.bool s1, .slice A1 n1 c1, .int .i64 e1] 27)).alloc (.cells #[.bool s2, .slice A2 n2 c2, .int .i64 e2] 27)) w.heap.size s1 A1 n1 c1 e1 ∧ Box ((w.alloc (.cells #[.bool s1, .slice A1 n1 c1, .int .i64 e1] 27)).alloc (.cells #[.bool s2, .slice A2 n2 c2, .int .i64 e2] 27)) (w.heap.size + 1) s2 A2 n2 c2 e2 :=
 ⟨(two_new w s1 s2 A1 A2 n1 c1 n2 c2 e1 e2).a, (two_new w s1 s2 A1 A2 n1 c1 n2 c2 e1 e2).b⟩
theorem three_dbl (w : World) {A1 A2 : Option Addr} {n1 c1 n2 c2 : Nat} {s1 s2 : Bool} {e1 e2 : Int} : Below w.heap.size w (((w.alloc (.cells #[.bool s1, .slice A1 n1 c1, .int .i64 e1] 27)).alloc (.cells #[.bool s2, .slice A2 n2 c2, .int .i64 e2] 27)).alloc (.cells #[.bool false, .slice none 0 0, .int .i64 0] 27)) ∧ Box (((w.alloc (.cells #[.bool s1, .slice A1 n1 c1, .int .i64 e1] 27)).alloc (.cells #[.bool s2, .slice A2 n2 c2, .int .i64 e2] 27)).alloc (.cells #[.bool false, .slice none 0 0, .int .i64 0] 27)) w.heap.size s1 A1 n1 c1 e1 ∧ Box (((w.alloc (.cells #[.bool s1, .slice A1 n1 c1, .int .i64 e1] 27)).alloc (.cells #[.bool s2, .slice A2 n2 c2, .int .i64 e2] 27)).alloc (.cells #[.bool false, .slice none 0 0, .int .i64 0] 27)) (w.heap.size + 1) s2 A2 n2 c2 e2 ∧ Box (((w.alloc (.cells #[.bool s1, .slice A1 n1 c1, .int .i64 e1] 27)).alloc (.cells #[.bool s2, .slice A2 n2 c2, .int .i64 e2] 27)).alloc (.cells #[.bool false, .slice none 0 0, .int .i64 0] 27)) (w.heap.size + 2) false none 0 0 0 := by
 obtain ⟨xa, xb⟩ := two_dbl w (s1 := s1) (A1 := A1) (n1 := n1) (c1 := c1) (e1 := e1) (s2 := s2) (A2 := A2) (n2 := n2) (c2 := c2) (e2 := e2)
 refine ⟨three_below w _ _ _, xa.alloc _, xb.alloc _, ?_⟩
 simpa using Box.new ((w.alloc (.cells #[.bool s1, .slice A1 n1 c1, .int .i64 e1] 27)).alloc (.cells #[.bool s2, .slice A2 n2 c2, .int .i64 e2] 27)) false none 0 0 0
end Go.Proofs.YtlpjlmophlikeaaGreatDoor
namespace Go.Proofs.YtlpjlmophlikeaaGreatDoor
open Go.RowKit

section
variable {w : World} {g g' k i n c x n0 c0 : Nat} {A A0 : Option Addr} {s s0 : Bool} {e e0 : Int} {v u0 u1 u2 : Value}
theorem Box.put3 (h : Box w g' s A n c e) (hne : g' ≠ g) (u0 u1 u2 : Value) : Box (((w.setCell ⟨g, 0, none⟩ u0).setCell ⟨g, 1, none⟩ u1).setCell ⟨g, 2, none⟩ u2) g' s A n c e := ((h.other hne 0 u0).other hne 1 u1).other hne 2 u2
end

end Go.Proofs.YtlpjlmophlikeaaGreatDoor
namespace Go.Proofs.YtlpjlmophlikeaaGreatDoor
open Go.RowKit

theorem negR_may {s : Bool} {l : List Nat} {e : Int} : mayD (negR s l e) l e = mayD s l e ∧ ∀ K, mayD s l e = true → vz K (negR s l e) (val Go.Proofs.YtlpjlmophlikeaaGreatDoor.W l) e = - vz K s (val Go.Proofs.YtlpjlmophlikeaaGreatDoor.W l) e := by
 unfold negR
 by_cases h : mayD s l e = true ∧ val Go.Proofs.YtlpjlmophlikeaaGreatDoor.W l ≠ 0
 ·rw [if_pos h]
  have hne : l ≠ [] := fun h0 => h.2 (by rw [h0]; rfl)
  exact ⟨by unfold mayD; rw [if_neg hne, if_neg hne], fun K _ => vz_not K s _ e⟩
 ·rw [if_neg h]
  refine ⟨rfl, fun K hm => ?_⟩
  have hz : val Go.Proofs.YtlpjlmophlikeaaGreatDoor.W l = 0 := Classical.byContradiction fun h0 => h ⟨hm, h0⟩
  rw [hz, vz_zero]
  rfl
end Go.Proofs.YtlpjlmophlikeaaGreatDoor
set_option maxHeartbeats 8000000
set_option maxRecDepth 100000
namespace Go.Proofs.YtlpjlmophlikeaaGreatDoor
open Go.RowKit

/-- a block that holds an interval's parts -/
structure Ibx (w : World) (g : Nat) (s : Bool) (A : Option Addr) (n c : Nat) (e : Int) (t : Bool) (B : Option Addr) (m d : Nat) (f : Int) : Prop where
 blk : w.heap[g]? = some (.cells #[.bool s, .slice A n c, .int .i64 e, .bool t, .slice B m d, .int .i64 f] 29 (0, 0))
section
variable {w w' : World} {g g' b0 : Nat} {s : Bool} {A : Option Addr} {n c : Nat} {e : Int} {t : Bool} {B : Option Addr} {m d : Nat} {f : Int}
theorem Ibx.gl (h : Ibx w g s A n c e t B m d f) : g < w.heap.size := by
 rcases Nat.lt_or_ge g w.heap.size with hlt | hge
 ·exact hlt
 ·have := h.blk; rw [Array.getElem?_eq_none hge] at this; cases this
theorem Ibx.at (h : Ibx w g s A n c e t B m d f) (i : Nat) : w.cell? ⟨g, i, none⟩ = (#[.bool s, .slice A n c, .int .i64 e, .bool t, .slice B m d, .int .i64 f] : Array Value)[i]? := cell_of_row w g i _ 29 (0, 0) h.blk
theorem Ibx.held (h : Ibx w g s A n c e t B m d f) : w.cell? ⟨g, 0, none⟩ = some (.bool s) ∧ w.cell? ⟨g, 1, none⟩ = some (.slice A n c) ∧ w.cell? ⟨g, 2, none⟩ = some (.int .i64 e) ∧ w.cell? ⟨g, 3, none⟩ = some (.bool t) ∧ w.cell? ⟨g, 4, none⟩ = some (.slice B m d) ∧ w.cell? ⟨g, 5, none⟩ = some (.int .i64 f) := ⟨h.at 0, h.at 1, h.at 2, h.at 3, h.at 4, h.at 5⟩
theorem Ibx.frozen (h : Ibx w g s A n c e t B m d f) (i : Nat) : w.frozen? ⟨g, i, none⟩ = false := by
 have := h.blk
 simp [World.frozen?, this]
theorem Ibx.open (h : Ibx w g s A n c e t B m d f) : w.frozen? ⟨g, 0, none⟩ = false ∧ w.frozen? ⟨g, 1, none⟩ = false ∧ w.frozen? ⟨g, 2, none⟩ = false ∧ w.frozen? ⟨g, 3, none⟩ = false ∧ w.frozen? ⟨g, 4, none⟩ = false ∧ w.frozen? ⟨g, 5, none⟩ = false := ⟨h.frozen 0, h.frozen 1, h.frozen 2, h.frozen 3, h.frozen 4, h.frozen 5⟩
theorem Ibx.below (h : Ibx w g s A n c e t B m d f) (hb : Below b0 w w') (hg : g < b0) : Ibx w' g s A n c e t B m d f := ⟨(hb.block g hg).trans h.blk⟩
theorem Ibx.heap (h : Ibx w g s A n c e t B m d f) (he : w'.heap = w.heap) : Ibx w' g s A n c e t B m d f := ⟨by rw [he]; exact h.blk⟩
theorem Ibx.next {X w2 : World} (h : Ibx w g s A n c e t B m d f) (b : Below X.heap.size X w2) (he : X.heap = w.heap) : Ibx w2 g s A n c e t B m d f := (h.heap he).below b (by rw [he]; exact h.gl)
instance {w w2 : World} {g : Nat} {s : Bool} {A : Option Addr} {n c : Nat} {e : Int} {t : Bool} {B : Option Addr} {m d : Nat} {f : Int} : Moves w w2 (Ibx w g s A n c e t B m d f) (Ibx w2 g s A n c e t B m d f) := ⟨fun _ b e h => h.next b e⟩
theorem Ibx.new (w : World) (s : Bool) (A : Option Addr) (n c : Nat) (e : Int) (t : Bool) (B : Option Addr) (m d : Nat) (f : Int) : Ibx (w.alloc (.cells #[.bool s, .slice A n c, .int .i64 e, .bool t, .slice B m d, .int .i64 f] 29)) w.heap.size s A n c e t B m d f := ⟨heap_alloc_new w _⟩
theorem Ibx.alloc (h : Ibx w g s A n c e t B m d f) (o : Obj) : Ibx (w.alloc o) g s A n c e t B m d f := h.below (below_alloc w o) h.gl
theorem Ibx.no (h : Ibx w g s A n c e t B m d f) (i x : Nat) : w.cell? ⟨g, i, none⟩ ≠ some (.int .u64 (x : Int)) := by
 rw [h.at i]
 match i with
 | 0 => simp
 | 1 => simp
 | 2 => simp
 | 3 => simp
 | 4 => simp
 | 5 => simp
 | i + 6 => simp
/-- the six parts stored anew -/
theorem Ibx.put (h : Ibx w g s A n c e t B m d f) (s' : Bool) (A' : Option Addr) (n' c' : Nat) (e' : Int) (t' : Bool) (B' : Option Addr) (m' d' : Nat) (f' : Int) : Ibx ((((((w.setCell ⟨g, 0, none⟩ (.bool s')).setCell ⟨g, 1, none⟩ (.slice A' n' c')).setCell ⟨g, 2, none⟩ (.int .i64 e')).setCell ⟨g, 3, none⟩ (.bool t')).setCell ⟨g, 4, none⟩ (.slice B' m' d')).setCell ⟨g, 5, none⟩ (.int .i64 f')) g s' A' n' c' e' t' B' m' d' f' := by
 have := h.blk
 refine ⟨?_⟩
 simp [World.setCell, Array.getElem?_modify, this]
theorem Ibx.other (h : Ibx w g s A n c e t B m d f) (hne : g ≠ g') (i : Nat) (u : Value) : Ibx (w.setCell ⟨g', i, none⟩ u) g s A n c e t B m d f := ⟨(Below.heap_setCell w _ u g hne).trans h.blk⟩
theorem Rd.put6 {Q : Nat} {C : Option Addr} {k z : Nat} {l : List Nat} (h : Rd w .u64 Q C k z l) (hb : Ibx w g s A n c e t B m d f) (u0 u1 u2 u3 u4 u5 : Value) : Rd ((((((w.setCell ⟨g, 0, none⟩ u0).setCell ⟨g, 1, none⟩ u1).setCell ⟨g, 2, none⟩ u2).setCell ⟨g, 3, none⟩ u3).setCell ⟨g, 4, none⟩ u4).setCell ⟨g, 5, none⟩ u5) .u64 Q C k z l := by
 have hne := h.off hb.no
 exact (((((h.set1 hne 0 u0).set1 hne 1 u1).set1 hne 2 u2).set1 hne 3 u3).set1 hne 4 u4).set1 hne 5 u5
theorem Nt.put6 {C : Option Addr} {k z y : Nat} (h : Nt w C k z y) (hb : Ibx w g s A n c e t B m d f) (u0 u1 u2 u3 u4 u5 : Value) : Nt ((((((w.setCell ⟨g, 0, none⟩ u0).setCell ⟨g, 1, none⟩ u1).setCell ⟨g, 2, none⟩ u2).setCell ⟨g, 3, none⟩ u3).setCell ⟨g, 4, none⟩ u4).setCell ⟨g, 5, none⟩ u5) C k z y := ⟨h.rd.put6 hb u0 u1 u2 u3 u4 u5, h.lt⟩
theorem below_put6 {w0 : World} (h : Below b0 w0 w) (hg : b0 ≤ g) (u0 u1 u2 u3 u4 u5 : Value) : Below b0 w0 ((((((w.setCell ⟨g, 0, none⟩ u0).setCell ⟨g, 1, none⟩ u1).setCell ⟨g, 2, none⟩ u2).setCell ⟨g, 3, none⟩ u3).setCell ⟨g, 4, none⟩ u4).setCell ⟨g, 5, none⟩ u5) :=
 (((((h.setCell hg u0).setCell hg u1).setCell hg u2).setCell hg u3).setCell hg u4).setCell hg u5
end
end Go.Proofs.YtlpjlmophlikeaaGreatDoor

namespace Go.Proofs.YtlpjlmophlikeaaGreatDoor

/-- a dyadic number as it lies in a program's parts -/
structure Rw where
 s : Bool
 l : List Nat
 e : Int
 lt : Lt W l
/-- an interval's two ends -/
structure Iv where
 lo : Rw
 hi : Rw
def Rw.zero : Rw := ⟨false, [], 0, fun x hx => by cases hx⟩
def Iv.zero : Iv := ⟨Rw.zero, Rw.zero⟩
def Rw.may (a : Rw) : Bool := mayD a.s a.l a.e
def Rw.v (K : Nat) (a : Rw) : Int := vz K a.s (val W a.l) a.e
def cmpQ (K : Nat) (a b : Rw) : Int := cmpR K a.s a.l a.e b.s b.l b.e
def sameQ (a b : Rw) : Bool := sameB a.s b.s a.l b.l a.e b.e
section
variable {K : Nat} {a b d : Rw}
theorem Rw.ext {a b : Rw} (h1 : a.s = b.s) (h2 : a.l = b.l) (h3 : a.e = b.e) : a = b := by
 cases a; cases b; cases h1; cases h2; cases h3; rfl
theorem cmpQ_may (ha : a.may = true) (hb : b.may = true) : cmpQ K a b = cmpV (a.v K) (b.v K) := by
 unfold cmpQ cmpR
 rw [if_pos ⟨ha, hb⟩]; rfl
theorem cmpQ_le (ha : a.may = true) (hb : b.may = true) : cmpQ K a b ≤ 0 ↔ a.v K ≤ b.v K := by
 rw [cmpQ_may ha hb]
 rcases cmpV_cases (a.v K) (b.v K) with ⟨h1, h2⟩ | ⟨h1, h2⟩ | ⟨h1, h2⟩ <;> rw [h1] <;> constructor <;> omega
theorem cmpQ_lt (ha : a.may = true) (hb : b.may = true) : cmpQ K a b < 0 ↔ a.v K < b.v K := by
 rw [cmpQ_may ha hb]
 rcases cmpV_cases (a.v K) (b.v K) with ⟨h1, h2⟩ | ⟨h1, h2⟩ | ⟨h1, h2⟩ <;> rw [h1] <;> constructor <;> omega
theorem dig_may {l : List Nat} (h : Lt W l) (hm : mayB l = true) : dig W (val W l) = l := by
 unfold mayB at hm
 simp only [Bool.and_eq_true, Bool.or_eq_true, decide_eq_true_eq] at hm
 exact dig_val W_two ⟨h, fun h0 => hm.2.resolve_left h0⟩
/-- a number has one form -/
theorem one_of_v (hK : 4194304 ≤ K) (ha : a.may = true) (hb : b.may = true) (h : a.v K = b.v K) : a = b := by
 obtain ⟨m1, o1⟩ := mayD_of a.lt ha
 obtain ⟨m2, o2⟩ := mayD_of b.lt hb
 obtain ⟨h1, h2, h3⟩ := okd_one hK o1 o2 h
 refine Rw.ext h1 ?_ h3
 rw [← dig_may a.lt m1, ← dig_may b.lt m2, h2]
theorem Rw.zero_may : Rw.zero.may = true := rfl
end
def mayI (K : Nat) (x : Iv) : Bool := x.lo.may && (x.hi.may && decide (cmpQ K x.lo x.hi ≤ 0))
def withinI (K : Nat) (x y : Iv) : Bool := mayI K x && (mayI K y && (decide (cmpQ K y.lo x.lo ≤ 0) && decide (cmpQ K x.hi y.hi ≤ 0)))
def hasI (K : Nat) (x : Iv) (d : Rw) : Bool := withinI K ⟨d, d⟩ x
def sameI (x y : Iv) : Bool := sameQ x.lo y.lo && sameQ x.hi y.hi
def leastQ (K : Nat) (a b : Rw) : Rw := if cmpQ K b a < 0 then b else a
def greatQ (K : Nat) (a b : Rw) : Rw := if cmpQ K a b < 0 then b else a
section
variable {K : Nat} {a b d : Rw} {x y z : Iv}
theorem mayI_iff : mayI K x = true ↔ x.lo.may = true ∧ x.hi.may = true ∧ x.lo.v K ≤ x.hi.v K := by
 unfold mayI
 constructor
 ·intro h
  simp only [Bool.and_eq_true, decide_eq_true_eq] at h
  exact ⟨h.1, h.2.1, (cmpQ_le h.1 h.2.1).1 h.2.2⟩
 ·rintro ⟨h1, h2, h3⟩
  simp only [Bool.and_eq_true, decide_eq_true_eq]
  exact ⟨h1, h2, (cmpQ_le h1 h2).2 h3⟩
theorem withinI_iff : withinI K x y = true ↔ mayI K x = true ∧ mayI K y = true ∧ y.lo.v K ≤ x.lo.v K ∧ x.hi.v K ≤ y.hi.v K := by
 unfold withinI
 constructor
 ·intro h
  simp only [Bool.and_eq_true, decide_eq_true_eq] at h
  obtain ⟨h1, h2, h3, h4⟩ := h
  have k1 := mayI_iff.1 h1
  have k2 := mayI_iff.1 h2
  exact ⟨h1, h2, (cmpQ_le k2.1 k1.1).1 h3, (cmpQ_le k1.2.1 k2.2.1).1 h4⟩
 ·rintro ⟨h1, h2, h3, h4⟩
  have k1 := mayI_iff.1 h1
  have k2 := mayI_iff.1 h2
  simp only [Bool.and_eq_true, decide_eq_true_eq]
  exact ⟨h1, h2, (cmpQ_le k2.1 k1.1).2 h3, (cmpQ_le k1.2.1 k2.2.1).2 h4⟩
theorem mayI_point (hd : d.may = true) : mayI K ⟨d, d⟩ = true := mayI_iff.2 ⟨hd, hd, Int.le_refl _⟩
/- the same words as the document's answer has them -/
end
end Go.Proofs.YtlpjlmophlikeaaGreatDoor

namespace Go.Proofs.YtlpjlmophlikeaaGreatDoor
open Go.RowKit

/-- how a function that tells a Dyad ends -/
def GivQ (a : Rw) (w : World) (en : Ending) (w' : World) : Prop := ∃ A n c, en = .returned (.agg #[.bool a.s, .slice A n c, .int .i64 a.e]) ∧ Rd w' .u64 Go.Proofs.YtlpjlmophlikeaaGreatDoor.W A n c a.l ∧ Below w.heap.size w w'
/-- how one that tells an interval ends -/
def GivI (x : Iv) (w : World) (en : Ending) (w' : World) : Prop := ∃ A n c B m d, en = .returned (.agg #[.bool x.lo.s, .slice A n c, .int .i64 x.lo.e, .bool x.hi.s, .slice B m d, .int .i64 x.hi.e]) ∧ Rd w' .u64 Go.Proofs.YtlpjlmophlikeaaGreatDoor.W A n c x.lo.l ∧ Rd w' .u64 Go.Proofs.YtlpjlmophlikeaaGreatDoor.W B m d x.hi.l ∧ Below w.heap.size w w'
/-- how a face ends that tells an interval and a code -/
def TellI (k : Int) (x : Iv) (w : World) (en : Ending) (w' : World) : Prop := ∃ A n c B m d, en = .returned (.tuple #[.agg #[.bool x.lo.s, .slice A n c, .int .i64 x.lo.e, .bool x.hi.s, .slice B m d, .int .i64 x.hi.e], .int .i64 k]) ∧ Rd w' .u64 Go.Proofs.YtlpjlmophlikeaaGreatDoor.W A n c x.lo.l ∧ Rd w' .u64 Go.Proofs.YtlpjlmophlikeaaGreatDoor.W B m d x.hi.l ∧ Below w.heap.size w w'
def Bools (b : Bool) (w : World) (en : Ending) (w' : World) : Prop := en = .returned (.bool b) ∧ Below w.heap.size w w'

theorem imay_any {w : World} {K : Nat} {x : Iv} {A1 : Option Addr} {n1 c1 : Nat} {A2 : Option Addr} {n2 c2 : Nat} (hK : 4194304 ≤ K) (hT : Tab w) (h1 : Rd w .u64 Go.Proofs.YtlpjlmophlikeaaGreatDoor.W A1 n1 c1 x.lo.l) (h2 : Rd w .u64 Go.Proofs.YtlpjlmophlikeaaGreatDoor.W A2 n2 c2 x.hi.l) :
  Calls Tryz.prog 51 #[.agg #[.bool x.lo.s, .slice A1 n1 c1, .int .i64 x.lo.e, .bool x.hi.s, .slice A2 n2 c2, .int .i64 x.hi.e]] w (Bools (mayI K x) w) := by
 have BB := below_alloc w (.cells #[.bool x.lo.s, .slice A1 n1 c1, .int .i64 x.lo.e, .bool x.hi.s, .slice A2 n2 c2, .int .i64 x.hi.e] 29)
 obtain ⟨a0, a1, a2, a3, a4, a5⟩ := (Ibx.new w x.lo.s A1 n1 c1 x.lo.e x.hi.s A2 n2 c2 x.hi.e).held
 have G := mv BB rfl (J3 hT h1 h2)
 clear hT h1 h2
 obtain ⟨hT, h1, h2⟩ := G
 obtain ⟨p1, hp1⟩ : ∃ p, p = x.lo.may := ⟨_, rfl⟩
 obtain ⟨p2, hp2⟩ : ∃ p, p = x.hi.may := ⟨_, rfl⟩
 obtain ⟨p3, hp3⟩ : ∃ p, p = decide (cmpQ K x.lo x.hi ≤ 0) := ⟨_, rfl⟩
 have HP1 := Lib.hid hp1
 have HP2 := Lib.hid hp2
 have HP := Lib.hid hp3
 unfold mayI
 rw [← hp1, ← hp2, ← hp3]
 clear hp1 hp2 hp3
 go_enter Tryz.func51, Tryz.ntmps51
 go_wp2_with fail
 refine (dmay_any (s := x.lo.s) (e := x.lo.e) hT h1).mono ?_
 rintro en w1 ⟨rfl, b⟩
 replace BB := bnx BB b
 have G := mv b rfl (J9 a0 a1 a2 a3 a4 a5 hT h1 h2)
 clear b a0 a1 a2 a3 a4 a5 hT h1 h2
 obtain ⟨a0, a1, a2, a3, a4, a5, hT, h1, h2⟩ := G
 have e1 : mayD x.lo.s x.lo.l x.lo.e = p1 := HP1.out.symm
 rw [e1]
 clear e1 HP1
 cases p1
 ·go_wp2
  go_ret
  exact ⟨rfl, BB⟩
 go_wp2_with fail
 refine (dmay_any (s := x.hi.s) (e := x.hi.e) hT h2).mono ?_
 rintro en w2 ⟨rfl, b⟩
 replace BB := bnx BB b
 have G := mv b rfl (J9 a0 a1 a2 a3 a4 a5 hT h1 h2)
 clear b a0 a1 a2 a3 a4 a5 hT h1 h2
 obtain ⟨a0, a1, a2, a3, a4, a5, hT, h1, h2⟩ := G
 have e1 : mayD x.hi.s x.hi.l x.hi.e = p2 := HP2.out.symm
 rw [e1]
 clear e1 HP2
 cases p2
 ·go_wp2
  go_ret
  exact ⟨rfl, BB⟩
 go_wp2_with fail
 refine (dcmp_raw (K := K) (s1 := x.lo.s) (e1 := x.lo.e) (s2 := x.hi.s) (e2 := x.hi.e) hK hT h1 h2).mono ?_
 rintro en w3 ⟨rfl, b⟩
 replace BB := bnx BB b
 have G := mv b rfl (J9 a0 a1 a2 a3 a4 a5 hT h1 h2)
 clear b a0 a1 a2 a3 a4 a5 hT h1 h2
 obtain ⟨a0, a1, a2, a3, a4, a5, hT, h1, h2⟩ := G
 have e1 : cmpR K x.lo.s x.lo.l x.lo.e x.hi.s x.hi.l x.hi.e = cmpQ K x.lo x.hi := rfl
 rw [e1]
 clear e1
 generalize cmpQ K x.lo x.hi = z at HP
 have f1 : decide (z ≤ 0) = p3 := HP.out.symm
 clear HP
 go_wp2
 go_ret
 exact ⟨by first | rfl | simp, BB⟩

theorem two_ivl (w : World) {x y : Iv} {A1 : Option Addr} {n1 c1 : Nat} {A2 : Option Addr} {n2 c2 : Nat} {A3 : Option Addr} {n3 c3 : Nat} {A4 : Option Addr} {n4 c4 : Nat} : Below w.heap.size w ((w.alloc (.cells #[.bool x.lo.s, .slice A1 n1 c1, .int .i64 x.lo.e, .bool x.hi.s, .slice A2 n2 c2, .int .i64 x.hi.e] 29)).alloc (.cells #[.bool y.lo.s, .slice A3 n3 c3, .int .i64 y.lo.e, .bool y.hi.s, .slice A4 n4 c4, .int .i64 y.hi.e] 29)) ∧ Ibx ((w.alloc (.cells #[.bool x.lo.s, .slice A1 n1 c1, .int .i64 x.lo.e, .bool x.hi.s, .slice A2 n2 c2, .int .i64 x.hi.e] 29)).alloc (.cells #[.bool y.lo.s, .slice A3 n3 c3, .int .i64 y.lo.e, .bool y.hi.s, .slice A4 n4 c4, .int .i64 y.hi.e] 29)) w.heap.size x.lo.s A1 n1 c1 x.lo.e x.hi.s A2 n2 c2 x.hi.e ∧ Ibx ((w.alloc (.cells #[.bool x.lo.s, .slice A1 n1 c1, .int .i64 x.lo.e, .bool x.hi.s, .slice A2 n2 c2, .int .i64 x.hi.e] 29)).alloc (.cells #[.bool y.lo.s, .slice A3 n3 c3, .int .i64 y.lo.e, .bool y.hi.s, .slice A4 n4 c4, .int .i64 y.hi.e] 29)) (w.heap.size + 1) y.lo.s A3 n3 c3 y.lo.e y.hi.s A4 n4 c4 y.hi.e := by
 refine ⟨two_below w _ _, (Ibx.new w x.lo.s A1 n1 c1 x.lo.e x.hi.s A2 n2 c2 x.hi.e).alloc _, ?_⟩
 have := Ibx.new (w.alloc (.cells #[.bool x.lo.s, .slice A1 n1 c1, .int .i64 x.lo.e, .bool x.hi.s, .slice A2 n2 c2, .int .i64 x.hi.e] 29)) y.lo.s A3 n3 c3 y.lo.e y.hi.s A4 n4 c4 y.hi.e
 simpa using this

theorem isame_any {w : World} {x y : Iv} {A1 : Option Addr} {n1 c1 : Nat} {A2 : Option Addr} {n2 c2 : Nat} {A3 : Option Addr} {n3 c3 : Nat} {A4 : Option Addr} {n4 c4 : Nat} (h1 : Rd w .u64 Go.Proofs.YtlpjlmophlikeaaGreatDoor.W A1 n1 c1 x.lo.l) (h2 : Rd w .u64 Go.Proofs.YtlpjlmophlikeaaGreatDoor.W A2 n2 c2 x.hi.l) (h3 : Rd w .u64 Go.Proofs.YtlpjlmophlikeaaGreatDoor.W A3 n3 c3 y.lo.l) (h4 : Rd w .u64 Go.Proofs.YtlpjlmophlikeaaGreatDoor.W A4 n4 c4 y.hi.l) :
  Calls Tryz.prog 171 #[.agg #[.bool x.lo.s, .slice A1 n1 c1, .int .i64 x.lo.e, .bool x.hi.s, .slice A2 n2 c2, .int .i64 x.hi.e], .agg #[.bool y.lo.s, .slice A3 n3 c3, .int .i64 y.lo.e, .bool y.hi.s, .slice A4 n4 c4, .int .i64 y.hi.e]] w (Bools (sameI x y) w) := by
 obtain ⟨BB, xa, xb⟩ := two_ivl w (x := x) (y := y) (A1 := A1) (n1 := n1) (c1 := c1) (A2 := A2) (n2 := n2) (c2 := c2) (A3 := A3) (n3 := n3) (c3 := c3) (A4 := A4) (n4 := n4) (c4 := c4)
 obtain ⟨a0, a1, a2, a3, a4, a5⟩ := xa.held
 obtain ⟨b0, b1, b2, b3, b4, b5⟩ := xb.held
 clear xa xb
 have G := mv BB rfl (J4 h1 h2 h3 h4)
 clear h1 h2 h3 h4
 obtain ⟨h1, h2, h3, h4⟩ := G
 obtain ⟨p1, hp1⟩ : ∃ p, p = sameQ x.lo y.lo := ⟨_, rfl⟩
 obtain ⟨p2, hp2⟩ : ∃ p, p = sameQ x.hi y.hi := ⟨_, rfl⟩
 have HP1 := Lib.hid hp1
 have HP := Lib.hid hp2
 unfold sameI
 rw [← hp1, ← hp2]
 clear hp1 hp2
 go_enter Tryz.func171, Tryz.ntmps171
 go_wp2_with fail
 refine (dsame_raw (s := x.lo.s) (t := y.lo.s) (e := x.lo.e) (f := y.lo.e) h1 h3).mono ?_
 rintro en w1 ⟨rfl, b⟩
 replace BB := bnx BB b
 have G := mv b rfl (J16 a0 a1 a2 a3 a4 a5 b0 b1 b2 b3 b4 b5 h1 h2 h3 h4)
 clear b a0 a1 a2 a3 a4 a5 b0 b1 b2 b3 b4 b5 h1 h2 h3 h4
 obtain ⟨a0, a1, a2, a3, a4, a5, b0, b1, b2, b3, b4, b5, h1, h2, h3, h4⟩ := G
 have e1 : sameB x.lo.s y.lo.s x.lo.l y.lo.l x.lo.e y.lo.e = p1 := HP1.out.symm
 rw [e1]
 clear e1 HP1
 cases p1
 ·go_wp2
  go_ret
  exact ⟨rfl, BB⟩
 go_wp2_with fail
 refine (dsame_raw (s := x.hi.s) (t := y.hi.s) (e := x.hi.e) (f := y.hi.e) h2 h4).mono ?_
 rintro en w2 ⟨rfl, b⟩
 replace BB := bnx BB b
 have G := mv b rfl (J16 a0 a1 a2 a3 a4 a5 b0 b1 b2 b3 b4 b5 h1 h2 h3 h4)
 clear b a0 a1 a2 a3 a4 a5 b0 b1 b2 b3 b4 b5 h1 h2 h3 h4
 obtain ⟨a0, a1, a2, a3, a4, a5, b0, b1, b2, b3, b4, b5, h1, h2, h3, h4⟩ := G
 have e1 : sameB x.hi.s y.hi.s x.hi.l y.hi.l x.hi.e y.hi.e = p2 := HP.out.symm
 rw [e1]
 clear e1 HP
 go_wp2
 go_ret
 exact ⟨by first | rfl | simp, BB⟩

end Go.Proofs.YtlpjlmophlikeaaGreatDoor
