/-
  Plain facts on values of dyadic numbers, and dyad's contracts of one Dyad or two with an answer that is known. Condition: the slices read as naturals, the table of math/bits reads as its text lays it.
-/
import Derived.Test.YtcbkhmejlaaieaaGreatDoorMv
import Derived.Test.YtcbkhmejlaaieaaGreatDoorRo
import Derived.Test.YtcbkhmejlaaieaaGreatDoorRf
import Derived.Test.YtcbkhmejlaaieaaGreatDoorRRoot
namespace Go.Proofs.YtcbkhmejlaaieaaGreatDoor
open Go.RowKit

theorem sign_is {w : World} {A : Option Addr} {n c m : Nat} {s : Bool} {e z : Int} (hT : Tab w) (h : Nt w A n c m) (hd : OkD s m e) (hz : signD s m = z) :
    Calls Tryz.prog 36 #[.agg #[.bool s, .slice A n c, .int .i64 e]] w (Ints z w) := by
  have := sign_ok hT h hd
  rwa [hz] at this
end Go.Proofs.YtcbkhmejlaaieaaGreatDoor
namespace Go.Proofs.YtcbkhmejlaaieaaGreatDoor
open Go.RowKit

/-- a block that holds the three parts of a reference's number -/
structure Dbx (w : World) (g : Nat) (s : Bool) (A : Option Addr) (n c : Nat) (e : Int) : Prop where
  blk : w.heap[g]? = some (.cells #[.bool s, .slice A n c, .int .i64 e] 90 (0, 0))
section
variable {w w' : World} {g : Nat} {s : Bool} {A : Option Addr} {n c : Nat} {e : Int}
theorem Dbx.gl (h : Dbx w g s A n c e) : g < w.heap.size := by
  rcases Nat.lt_or_ge g w.heap.size with hlt | hge
  · exact hlt
  · have := h.blk; rw [Array.getElem?_eq_none hge] at this; cases this
theorem Dbx.at (h : Dbx w g s A n c e) (i : Nat) : w.cell? ⟨g, i, none⟩ = #[Value.bool s, .slice A n c, .int .i64 e][i]? := cell_of_row w g i _ 90 (0, 0) h.blk
theorem Dbx.c0 (h : Dbx w g s A n c e) : w.cell? ⟨g, 0, none⟩ = some (.bool s) := h.at 0
theorem Dbx.c1 (h : Dbx w g s A n c e) : w.cell? ⟨g, 1, none⟩ = some (.slice A n c) := h.at 1
theorem Dbx.c2 (h : Dbx w g s A n c e) : w.cell? ⟨g, 2, none⟩ = some (.int .i64 e) := h.at 2
theorem Dbx.frozen (h : Dbx w g s A n c e) (i : Nat) : w.frozen? ⟨g, i, none⟩ = false := by
  have := h.blk
  simp [World.frozen?, this]
theorem Dbx.below {b0 : Nat} (h : Dbx w g s A n c e) (hb : Below b0 w w') (hg : g < b0) : Dbx w' g s A n c e := ⟨(hb.block g hg).trans h.blk⟩
theorem Dbx.drew (h : Dbx w g s A n c e) : Dbx w.drew g s A n c e := ⟨h.blk⟩
theorem Dbx.new (w : World) (s : Bool) (A : Option Addr) (n c : Nat) (e : Int) : Dbx (w.alloc (.cells #[.bool s, .slice A n c, .int .i64 e] 90)) w.heap.size s A n c e := ⟨heap_alloc_new w _⟩
theorem Dbx.alloc (h : Dbx w g s A n c e) (o : Obj) : Dbx (w.alloc o) g s A n c e := h.below (below_alloc w o) h.gl
/-- no limb lies in such a block -/
theorem Dbx.no (h : Dbx w g s A n c e) (i x : Nat) : w.cell? ⟨g, i, none⟩ ≠ some (.int .u64 (x : Int)) := by
  rw [h.at i]
  match i with
  | 0 => simp
  | 1 => simp
  | 2 => simp
  | i + 3 => simp
/-- the three parts stored anew -/
theorem Dbx.put (h : Dbx w g s A n c e) (s' : Bool) (A' : Option Addr) (n' c' : Nat) (e' : Int) : Dbx (((w.setCell ⟨g, 0, none⟩ (.bool s')).setCell ⟨g, 1, none⟩ (.slice A' n' c')).setCell ⟨g, 2, none⟩ (.int .i64 e')) g s' A' n' c' e' := by
  have := h.blk
  refine ⟨?_⟩
  simp [World.setCell, Array.getElem?_modify, this]
end
theorem Dbx.held {w : World} {g : Nat} {s : Bool} {A : Option Addr} {n c : Nat} {e : Int} (h : Dbx w g s A n c e) : w.cell? ⟨g, 0, none⟩ = some (.bool s) ∧ w.cell? ⟨g, 1, none⟩ = some (.slice A n c) ∧ w.cell? ⟨g, 2, none⟩ = some (.int .i64 e) := ⟨h.c0, h.c1, h.c2⟩
theorem Dbx.open {w : World} {g : Nat} {s : Bool} {A : Option Addr} {n c : Nat} {e : Int} (h : Dbx w g s A n c e) : w.frozen? ⟨g, 0, none⟩ = false ∧ w.frozen? ⟨g, 1, none⟩ = false ∧ w.frozen? ⟨g, 2, none⟩ = false := ⟨h.frozen 0, h.frozen 1, h.frozen 2⟩
theorem Dbx.next {w X w2 : World} {g : Nat} {s : Bool} {A : Option Addr} {n c : Nat} {e : Int} (h : Dbx w g s A n c e) (b : Below X.heap.size X w2) (he : X.heap = w.heap) : Dbx w2 g s A n c e :=
  ⟨(b.block g (by rw [he]; exact h.gl)).trans (by rw [he]; exact h.blk)⟩
instance {w w2 : World} {g : Nat} {s : Bool} {A : Option Addr} {n c : Nat} {e : Int} : Moves w w2 (Dbx w g s A n c e) (Dbx w2 g s A n c e) := ⟨fun _ b e h => h.next b e⟩
/-- digits are no limbs: what is stored into such a block does not touch them -/
theorem Dbx.no32 {w : World} {g : Nat} {s : Bool} {A : Option Addr} {n c : Nat} {e : Int} (h : Dbx w g s A n c e) (i x : Nat) : w.cell? ⟨g, i, none⟩ ≠ some (.int .u32 (x : Int)) := by
  rw [h.at i]
  match i with
  | 0 => simp
  | 1 => simp
  | 2 => simp
  | i + 3 => simp
theorem Rd.off32 {w : World} {g : Nat} {A : Option Addr} {n c : Nat} {l : List Nat} (h : Rd w .u32 H A n c l) (hg : ∀ i x : Nat, w.cell? ⟨g, i, none⟩ ≠ some (.int .u32 (x : Int))) : n ≠ 0 → ∀ a, A = some a → a.block ≠ g := by
  intro hn a ha
  obtain ⟨b, o, e, hb, hc⟩ := h.at_ hn
  rw [e] at ha
  injection ha with ha
  subst ha
  show b ≠ g
  intro hbg
  subst hbg
  exact hg _ _ (hc 0 (by omega))
theorem Dg.put3 {w : World} {g : Nat} {A : Option Addr} {n c x : Nat} {s0 : Bool} {A0 : Option Addr} {n0 c0 : Nat} {e0 : Int} (h : Dg w A n c x) (hb : Dbx w g s0 A0 n0 c0 e0) (u0 u1 u2 : Value) : Dg (((w.setCell ⟨g, 0, none⟩ u0).setCell ⟨g, 1, none⟩ u1).setCell ⟨g, 2, none⟩ u2) A n c x := by
  have hne := Rd.off32 h hb.no32
  exact ((Rd.grown (Rd.grown (Rd.grown h (grownBy_set _ _ _ _) hne) (grownBy_set _ _ _ _) hne) (grownBy_set _ _ _ _) hne))

theorem Dg.heap32 {w w2 : World} {A : Option Addr} {n c x : Nat} (h : Dg w A n c x) (e : w2.heap = w.heap) : Dg w2 A n c x := Rd.next' h e

end Go.Proofs.YtcbkhmejlaaieaaGreatDoor
namespace Go.Proofs.YtcbkhmejlaaieaaGreatDoor
open Go.RowKit

/-- what is told of any two, raw ones too -/
def sameB (s t : Bool) (l r : List Nat) (e f : Int) : Bool := decide (s = t ∧ e = f ∧ l = r)
def signR (s : Bool) (l : List Nat) (e : Int) : Int := if mayD s l e = true then signD s (val Go.Proofs.YtcbkhmejlaaieaaGreatDoor.W l) else 0
def negR (s : Bool) (l : List Nat) (e : Int) : Bool := if mayD s l e = true ∧ val Go.Proofs.YtcbkhmejlaaieaaGreatDoor.W l ≠ 0 then !s else s
def cmpR (K : Nat) (s : Bool) (l : List Nat) (e : Int) (t : Bool) (r : List Nat) (f : Int) : Int := if mayD s l e = true ∧ mayD t r f = true then cmpV (vz K s (val Go.Proofs.YtcbkhmejlaaieaaGreatDoor.W l) e) (vz K t (val Go.Proofs.YtcbkhmejlaaieaaGreatDoor.W r) f) else 0
def addR (K : Nat) (s : Bool) (l : List Nat) (e : Int) (t : Bool) (r : List Nat) (f : Int) : Int → Bool → Nat → Int → Prop := if mayD s l e = true ∧ mayD t r f = true then NmV K (vz K s (val Go.Proofs.YtcbkhmejlaaieaaGreatDoor.W l) e + vz K t (val Go.Proofs.YtcbkhmejlaaieaaGreatDoor.W r) f) else Wrong
def subR (K : Nat) (s : Bool) (l : List Nat) (e : Int) (t : Bool) (r : List Nat) (f : Int) : Int → Bool → Nat → Int → Prop := if mayD s l e = true ∧ mayD t r f = true then NmV K (vz K s (val Go.Proofs.YtcbkhmejlaaieaaGreatDoor.W l) e - vz K t (val Go.Proofs.YtcbkhmejlaaieaaGreatDoor.W r) f) else Wrong
def mulR (s : Bool) (l : List Nat) (e : Int) (t : Bool) (r : List Nat) (f : Int) : Int → Bool → Nat → Int → Prop := if mayD s l e = true ∧ mayD t r f = true then Nm (s != t) (val Go.Proofs.YtcbkhmejlaaieaaGreatDoor.W l * val Go.Proofs.YtcbkhmejlaaieaaGreatDoor.W r) (e + f) else Wrong
theorem wrong_fun {k k2 : Int} {s1 s2 : Bool} {m1 m2 : Nat} {e1 e2 : Int} (h : Wrong k s1 m1 e1) (h' : Wrong k2 s2 m2 e2) : k = k2 ∧ s1 = s2 ∧ m1 = m2 ∧ e1 = e2 := by
  obtain ⟨rfl, rfl, rfl, rfl⟩ := h
  obtain ⟨rfl, rfl, rfl, rfl⟩ := h'
  exact ⟨rfl, rfl, rfl, rfl⟩
theorem addR_fun {K : Nat} {s : Bool} {l : List Nat} {e : Int} {t : Bool} {r : List Nat} {f k k2 : Int} {s1 s2 : Bool} {m1 m2 : Nat} {e1 e2 : Int} (h : addR K s l e t r f k s1 m1 e1) (h' : addR K s l e t r f k2 s2 m2 e2) : k = k2 ∧ s1 = s2 ∧ m1 = m2 ∧ e1 = e2 := by
  unfold addR at h h'
  split at h
  · rw [if_pos (by assumption)] at h'; exact nmv_fun h h'
  · rw [if_neg (by assumption)] at h'; exact wrong_fun h h'
theorem mulR_fun {s : Bool} {l : List Nat} {e : Int} {t : Bool} {r : List Nat} {f k k2 : Int} {s1 s2 : Bool} {m1 m2 : Nat} {e1 e2 : Int} (h : mulR s l e t r f k s1 m1 e1) (h' : mulR s l e t r f k2 s2 m2 e2) : k = k2 ∧ s1 = s2 ∧ m1 = m2 ∧ e1 = e2 := by
  unfold mulR at h h'
  split at h
  · rw [if_pos (by assumption)] at h'; exact nm_fun h h'
  · rw [if_neg (by assumption)] at h'; exact wrong_fun h h'
/-- the reading of a slice whose Dyad may be -/
theorem rd_okd {w : World} {A1 : Option Addr} {n1 c1 : Nat} {l1 : List Nat} {s1 : Bool} {e1 : Int} (h1 : Rd w .u64 Go.Proofs.YtcbkhmejlaaieaaGreatDoor.W A1 n1 c1 l1) (hd : mayD s1 l1 e1 = true) : Nt w A1 n1 c1 (val Go.Proofs.YtcbkhmejlaaieaaGreatDoor.W l1) ∧ OkD s1 (val Go.Proofs.YtcbkhmejlaaieaaGreatDoor.W l1) e1 ∧ dig Go.Proofs.YtcbkhmejlaaieaaGreatDoor.W (val Go.Proofs.YtcbkhmejlaaieaaGreatDoor.W l1) = l1 := by
  obtain ⟨hm, hok⟩ := mayD_of h1.lt hd
  obtain ⟨hN, hC, _⟩ := nt_of h1 hm
  refine ⟨hN, hok, ?_⟩
  have h2 := hN.rd
  have h3 : (dig Go.Proofs.YtcbkhmejlaaieaaGreatDoor.W (val Go.Proofs.YtcbkhmejlaaieaaGreatDoor.W l1)) = l1 := dig_val W_two hC
  exact h3
theorem dsame_raw {w : World} {A B : Option Addr} {n c m d : Nat} {l r : List Nat} {s t : Bool} {e f : Int} (h : Rd w .u64 Go.Proofs.YtcbkhmejlaaieaaGreatDoor.W A n c l) (h' : Rd w .u64 Go.Proofs.YtcbkhmejlaaieaaGreatDoor.W B m d r) :
    Calls Tryz.prog 41 #[.agg #[.bool s, .slice A n c, .int .i64 e], .agg #[.bool t, .slice B m d, .int .i64 f]] w fun en w' => en = .returned (.bool (sameB s t l r e f)) ∧ Below w.heap.size w w' := by
  by_cases h1 : s = t ∧ e = f
  · obtain ⟨rfl, rfl⟩ := h1
    rw [show sameB s s l r e e = decide (l = r) from decide_eq_decide.2 ⟨fun h => h.2.2, fun h => ⟨rfl, rfl, h⟩⟩]
    exact dsame_eq h h'
  · rw [show sameB s t l r e f = false from decide_eq_false fun h => h1 ⟨h.1, h.2.1⟩]
    refine dsame_no ?_
    by_cases h2 : s = t
    · exact .inr fun h3 => h1 ⟨h2, h3⟩
    · exact .inl h2
end Go.Proofs.YtcbkhmejlaaieaaGreatDoor
namespace Go.Proofs.YtcbkhmejlaaieaaGreatDoor
open Go.RowKit

theorem dsign_raw {w : World} {A1 : Option Addr} {n1 c1 : Nat} {l1 : List Nat} {s1 : Bool} {e1 : Int} (hT : Tab w) (h1 : Rd w .u64 Go.Proofs.YtcbkhmejlaaieaaGreatDoor.W A1 n1 c1 l1) :
    Calls Tryz.prog 36 #[.agg #[.bool s1, .slice A1 n1 c1, .int .i64 e1]] w (Ints (signR s1 l1 e1) w) := by
  unfold signR
  by_cases hd : mayD s1 l1 e1 = true
  · rw [if_pos hd]
    obtain ⟨hN, hok, _⟩ := rd_okd h1 hd
    exact sign_ok hT hN hok
  · rw [if_neg hd]
    exact sign_no hT h1 (Bool.eq_false_iff.2 hd)
theorem dneg_raw {w : World} {A1 : Option Addr} {n1 c1 : Nat} {l1 : List Nat} {s1 : Bool} {e1 : Int} (hT : Tab w) (h1 : Rd w .u64 Go.Proofs.YtcbkhmejlaaieaaGreatDoor.W A1 n1 c1 l1) (hn : n1 ≤ 10000000000000) :
    Calls Tryz.prog 35 #[.agg #[.bool s1, .slice A1 n1 c1, .int .i64 e1]] w fun en w' => ∃ A c, en = .returned (.agg #[.bool (negR s1 l1 e1), .slice A n1 c, .int .i64 e1]) ∧ Rd w' .u64 Go.Proofs.YtcbkhmejlaaieaaGreatDoor.W A n1 c l1 ∧ Below w.heap.size w w' := by
  unfold negR
  by_cases hd : mayD s1 l1 e1 = true
  · obtain ⟨hN, hok, hdig⟩ := rd_okd h1 hd
    have hg := dneg_any hT hN hok
    by_cases hz : val Go.Proofs.YtcbkhmejlaaieaaGreatDoor.W l1 = 0
    · rw [if_pos hz] at hg
      rw [if_neg (fun h => h.2 hz)]
      refine hg.mono ?_
      rintro en w' ⟨A, n, c, rfl, h2, h3⟩
      have h4 := h2.rd
      rw [hdig] at h4
      obtain rfl : n = n1 := h4.len.symm.trans h1.len
      exact ⟨A, c, rfl, h4, h3⟩
    · rw [if_neg hz] at hg
      rw [if_pos ⟨hd, hz⟩]
      refine hg.mono ?_
      rintro en w' ⟨A, n, c, rfl, h2, h3⟩
      have h4 := h2.rd
      rw [hdig] at h4
      obtain rfl : n = n1 := h4.len.symm.trans h1.len
      exact ⟨A, c, rfl, h4, h3⟩
  · rw [if_neg (fun h => hd h.1)]
    exact neg_keep h1 hn fun w2 b => sign_no (hT.below b) (h1.below b) (Bool.eq_false_iff.2 hd)
set_option maxRecDepth 100000 in
set_option maxHeartbeats 8000000 in
theorem dcmp_no {w : World} {A1 : Option Addr} {n1 c1 : Nat} {l1 : List Nat} {s1 : Bool} {e1 : Int} {A2 : Option Addr} {n2 c2 : Nat} {l2 : List Nat} {s2 : Bool} {e2 : Int} (hT : Tab w) (h1 : Rd w .u64 Go.Proofs.YtcbkhmejlaaieaaGreatDoor.W A1 n1 c1 l1) (h2 : Rd w .u64 Go.Proofs.YtcbkhmejlaaieaaGreatDoor.W A2 n2 c2 l2) (hd : ¬ (mayD s1 l1 e1 = true ∧ mayD s2 l2 e2 = true)) :
    Calls Tryz.prog 40 #[.agg #[.bool s1, .slice A1 n1 c1, .int .i64 e1], .agg #[.bool s2, .slice A2 n2 c2, .int .i64 e2]] w (Ints 0 w) := by
  have BB := two_below w (.cells #[.bool s1, .slice A1 n1 c1, .int .i64 e1] 24) (.cells #[.bool s2, .slice A2 n2 c2, .int .i64 e2] 24)
  obtain ⟨a10, a11, a12, a20, a21, a22⟩ := (two_new w s1 s2 A1 A2 n1 c1 n2 c2 e1 e2).held
  have G := mv BB rfl (J3 hT h1 h2)
  clear hT h1 h2
  obtain ⟨hT, h1, h2⟩ := G
  have HD := Lib.hid hd
  clear hd
  go_enter Tryz.func40, Tryz.ntmps40
  go_wp2_with fail
  refine (dmay_any (s := s1) (e := e1) hT h1).mono ?_
  rintro en w1 ⟨rfl, b⟩
  replace BB := bnx BB b rfl rfl rfl rfl
  have G := mv b rfl (J9 a10 a11 a12 a20 a21 a22 hT h1 h2)
  clear b a10 a11 a12 a20 a21 a22 hT h1 h2
  obtain ⟨a10, a11, a12, a20, a21, a22, hT, h1, h2⟩ := G
  cases q1 : mayD s1 l1 e1
  · clear q1
    go_wp2
    go_ret
    exact ⟨rfl, BB⟩
  go_wp2_with fail
  refine (dmay_any (s := s2) (e := e2) hT h2).mono ?_
  rintro en w2 ⟨rfl, b⟩
  replace BB := bnx BB b rfl rfl rfl rfl
  have G := mv b rfl (J9 a10 a11 a12 a20 a21 a22 hT h1 h2)
  clear b a10 a11 a12 a20 a21 a22 hT h1 h2
  obtain ⟨a10, a11, a12, a20, a21, a22, hT, h1, h2⟩ := G
  have q2 : mayD s2 l2 e2 = false := by
    cases q : mayD s2 l2 e2
    · rfl
    · exact absurd ⟨q1, q⟩ HD.out
  rw [q2]
  clear q1 q2
  go_wp2
  go_ret
  exact ⟨rfl, BB⟩

theorem dcmp_raw {w : World} {K : Nat} {A1 : Option Addr} {n1 c1 : Nat} {l1 : List Nat} {s1 : Bool} {e1 : Int} {A2 : Option Addr} {n2 c2 : Nat} {l2 : List Nat} {s2 : Bool} {e2 : Int} (hK : 4194304 ≤ K) (hT : Tab w) (h1 : Rd w .u64 Go.Proofs.YtcbkhmejlaaieaaGreatDoor.W A1 n1 c1 l1) (h2 : Rd w .u64 Go.Proofs.YtcbkhmejlaaieaaGreatDoor.W A2 n2 c2 l2) :
    Calls Tryz.prog 40 #[.agg #[.bool s1, .slice A1 n1 c1, .int .i64 e1], .agg #[.bool s2, .slice A2 n2 c2, .int .i64 e2]] w (Ints (cmpR K s1 l1 e1 s2 l2 e2) w) := by
  unfold cmpR
  by_cases hd : mayD s1 l1 e1 = true ∧ mayD s2 l2 e2 = true
  · rw [if_pos hd]
    obtain ⟨hN, hok, _⟩ := rd_okd h1 hd.1
    obtain ⟨hN', hok', _⟩ := rd_okd h2 hd.2
    exact dcmp_ok hK hT hN hN' hok hok'
  · rw [if_neg hd]
    exact dcmp_no hT h1 h2 hd
theorem dadd_raw {w : World} {K : Nat} {A1 : Option Addr} {n1 c1 : Nat} {l1 : List Nat} {s1 : Bool} {e1 : Int} {A2 : Option Addr} {n2 c2 : Nat} {l2 : List Nat} {s2 : Bool} {e2 : Int} (hK : 4194304 ≤ K) (hT : Tab w) (h1 : Rd w .u64 Go.Proofs.YtcbkhmejlaaieaaGreatDoor.W A1 n1 c1 l1) (h2 : Rd w .u64 Go.Proofs.YtcbkhmejlaaieaaGreatDoor.W A2 n2 c2 l2) :
    Calls Tryz.prog 31 #[.agg #[.bool s1, .slice A1 n1 c1, .int .i64 e1], .agg #[.bool s2, .slice A2 n2 c2, .int .i64 e2]] w (Tells (addR K s1 l1 e1 s2 l2 e2) w) := by
  unfold addR
  by_cases hd : mayD s1 l1 e1 = true ∧ mayD s2 l2 e2 = true
  · rw [if_pos hd]
    obtain ⟨hN, hok, _⟩ := rd_okd h1 hd.1
    obtain ⟨hN', hok', _⟩ := rd_okd h2 hd.2
    exact dadd_ok hK hT hN hN' hok hok'
  · rw [if_neg hd]
    exact dadd_no hT h1 h2 (by cases q : mayD s1 l1 e1 <;> cases q' : mayD s2 l2 e2 <;> first | rfl | exact absurd ⟨q, q'⟩ hd)
theorem dsub_raw {w : World} {K : Nat} {A1 : Option Addr} {n1 c1 : Nat} {l1 : List Nat} {s1 : Bool} {e1 : Int} {A2 : Option Addr} {n2 c2 : Nat} {l2 : List Nat} {s2 : Bool} {e2 : Int} (hK : 4194304 ≤ K) (hT : Tab w) (h1 : Rd w .u64 Go.Proofs.YtcbkhmejlaaieaaGreatDoor.W A1 n1 c1 l1) (h2 : Rd w .u64 Go.Proofs.YtcbkhmejlaaieaaGreatDoor.W A2 n2 c2 l2) :
    Calls Tryz.prog 32 #[.agg #[.bool s1, .slice A1 n1 c1, .int .i64 e1], .agg #[.bool s2, .slice A2 n2 c2, .int .i64 e2]] w (Tells (subR K s1 l1 e1 s2 l2 e2) w) := by
  unfold subR
  by_cases hd : mayD s1 l1 e1 = true ∧ mayD s2 l2 e2 = true
  · rw [if_pos hd]
    obtain ⟨hN, hok, _⟩ := rd_okd h1 hd.1
    obtain ⟨hN', hok', _⟩ := rd_okd h2 hd.2
    exact dsub_ok hK hT hN hN' hok hok'
  · rw [if_neg hd]
    exact dsub_no hT h1 h2 (by cases q : mayD s1 l1 e1 <;> cases q' : mayD s2 l2 e2 <;> first | rfl | exact absurd ⟨q, q'⟩ hd)
theorem dmul_raw {w : World} {A1 : Option Addr} {n1 c1 : Nat} {l1 : List Nat} {s1 : Bool} {e1 : Int} {A2 : Option Addr} {n2 c2 : Nat} {l2 : List Nat} {s2 : Bool} {e2 : Int} (hT : Tab w) (h1 : Rd w .u64 Go.Proofs.YtcbkhmejlaaieaaGreatDoor.W A1 n1 c1 l1) (h2 : Rd w .u64 Go.Proofs.YtcbkhmejlaaieaaGreatDoor.W A2 n2 c2 l2) :
    Calls Tryz.prog 33 #[.agg #[.bool s1, .slice A1 n1 c1, .int .i64 e1], .agg #[.bool s2, .slice A2 n2 c2, .int .i64 e2]] w (Tells (mulR s1 l1 e1 s2 l2 e2) w) := by
  unfold mulR
  by_cases hd : mayD s1 l1 e1 = true ∧ mayD s2 l2 e2 = true
  · rw [if_pos hd]
    obtain ⟨hN, hok, _⟩ := rd_okd h1 hd.1
    obtain ⟨hN', hok', _⟩ := rd_okd h2 hd.2
    exact dmul_ok hT hN hN' hok hok'
  · rw [if_neg hd]
    exact dmul_no hT h1 h2 (by cases q : mayD s1 l1 e1 <;> cases q' : mayD s2 l2 e2 <;> first | rfl | exact absurd ⟨q, q'⟩ hd)
end Go.Proofs.YtcbkhmejlaaieaaGreatDoor
