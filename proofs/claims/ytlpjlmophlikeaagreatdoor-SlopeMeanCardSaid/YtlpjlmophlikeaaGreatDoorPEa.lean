/-
 Contracts of ival's Meet, at this translation. Condition: the slices read as limbs, the table of math/bits reads as its text lays it.
-/
import Derived.Test.YtlpjlmophlikeaaGreatDoorPIg
import Derived.Test.YtlpjlmophlikeaaGreatDoorCards
import Derived.Test.YtlpjlmophlikeaaGreatDoorTie
import Derived.Test.YtlpjlmophlikeaaGreatDoorPCaps
import Derived.WalkKit
import Derived.ProofKit
import Derived.OpenShut
import Derived.Carry
import Derived.Deep.DeepHandedRow
import Derived.Lib.LaidTab
import Derived.Lib.SmallJoins
import Derived.Test.YtlpjlmophlikeaaGreatDoorPRf
import Derived.Test.YtlpjlmophlikeaaGreatDoorPRm
import Derived.Test.YtlpjlmophlikeaaGreatDoorPIc
set_option maxHeartbeats 8000000
set_option maxRecDepth 100000
namespace Go.Proofs.YtlpjlmophlikeaaGreatDoor
open Go.RowKit

theorem may_len {K : Nat} {x : Iv} (h : mayI K x = true) : x.lo.l.length ≤ 10000000000000 ∧ x.hi.l.length ≤ 10000000000000 := by
 obtain ⟨h1, h2, _⟩ := mayI_iff.1 h
 have key : ∀ a : Rw, a.may = true → a.l.length ≤ 10000000000000 := fun a ha => by
  have := (mayD_of a.lt ha).1
  unfold mayB at this
  simp only [Bool.and_eq_true, decide_eq_true_eq] at this
  omega
 exact ⟨key _ h1, key _ h2⟩
theorem two_may {K : Nat} {x y : Iv} : (∀ i, i < 2 → mayI K (if i = 0 then x else y) = true) ↔ (mayI K x = true ∧ mayI K y = true) := by
 constructor
 ·exact fun h => ⟨h 0 (by omega), h 1 (by omega)⟩
 ·rintro ⟨h1, h2⟩ i hi
  rcases (show i = 0 ∨ i = 1 by omega) with rfl | rfl
  ·exact h1
  ·exact h2
theorem one_may {K : Nat} {x : Iv} : (∀ i, i < 1 → mayI K x = true) ↔ mayI K x = true := ⟨fun h => h 0 (by omega), fun h _ _ => h⟩
theorem up3 (w : World) (o o' o'' : Obj) : (((w.alloc o).alloc o').alloc o'').heap.size = w.heap.size + 3 := by simp
theorem ibx_one (w : World) (o : Obj) (s : Bool) (A : Option Addr) (n c : Nat) (e : Int) (t : Bool) (B : Option Addr) (m d : Nat) (f : Int) : Ibx ((w.alloc o).alloc (.cells #[.bool s, .slice A n c, .int .i64 e, .bool t, .slice B m d, .int .i64 f] 29)) (w.heap.size + 1) s A n c e t B m d f := by
 have := Ibx.new (w.alloc o) s A n c e t B m d f
 simpa using this
theorem rows_one {w : World} {g : Nat} (hg : w.heap.size = g) {x : Iv} {A1 : Option Addr} {n1 c1 : Nat} {A2 : Option Addr} {n2 c2 : Nat} (h1 : Rd w .u64 Go.Proofs.YtlpjlmophlikeaaGreatDoor.W A1 n1 c1 x.lo.l) (h2 : Rd w .u64 Go.Proofs.YtlpjlmophlikeaaGreatDoor.W A2 n2 c2 x.hi.l) : Ivs (w.alloc (.cells #[.bool x.lo.s, .slice A1 n1 c1, .int .i64 x.lo.e, .bool x.hi.s, .slice A2 n2 c2, .int .i64 x.hi.e] 29)) g 0 1 (fun _ => x) := by
 subst hg
 exact ivs_one w h1 h2
theorem rows_two {w : World} {g : Nat} (hg : w.heap.size = g) {x y : Iv} {A1 : Option Addr} {n1 c1 : Nat} {A2 : Option Addr} {n2 c2 : Nat} {A3 : Option Addr} {n3 c3 : Nat} {A4 : Option Addr} {n4 c4 : Nat} (h1 : Rd w .u64 Go.Proofs.YtlpjlmophlikeaaGreatDoor.W A1 n1 c1 x.lo.l) (h2 : Rd w .u64 Go.Proofs.YtlpjlmophlikeaaGreatDoor.W A2 n2 c2 x.hi.l) (h3 : Rd w .u64 Go.Proofs.YtlpjlmophlikeaaGreatDoor.W A3 n3 c3 y.lo.l) (h4 : Rd w .u64 Go.Proofs.YtlpjlmophlikeaaGreatDoor.W A4 n4 c4 y.hi.l) : Ivs (w.alloc (.cells #[.bool x.lo.s, .slice A1 n1 c1, .int .i64 x.lo.e, .bool x.hi.s, .slice A2 n2 c2, .int .i64 x.hi.e, .bool y.lo.s, .slice A3 n3 c3, .int .i64 y.lo.e, .bool y.hi.s, .slice A4 n4 c4, .int .i64 y.hi.e] 29)) g 0 2 (fun i => if i = 0 then x else y) := by
 subst hg
 exact ivs_two w h1 h2 h3 h4

theorem iof_any {w : World} {a : Rw} {A1 : Option Addr} {n1 c1 : Nat} (h1 : Rd w .u64 Go.Proofs.YtlpjlmophlikeaaGreatDoor.W A1 n1 c1 a.l) (hn : n1 ≤ 10000000000000) :
  Calls Tryz.prog 8 #[.agg #[.bool a.s, .slice A1 n1 c1, .int .i64 a.e]] w (GivI ⟨a, a⟩ w) := by
 have BB := two_below w (.cells #[.bool a.s, .slice A1 n1 c1, .int .i64 a.e] 27) (.cells #[.bool false, .slice none 0 0, .int .i64 0, .bool false, .slice none 0 0, .int .i64 0] 29)
 have xa := (Box.new w a.s A1 n1 c1 a.e).alloc (.cells #[.bool false, .slice none 0 0, .int .i64 0, .bool false, .slice none 0 0, .int .i64 0] 29)
 have r := ibx_one w (.cells #[.bool a.s, .slice A1 n1 c1, .int .i64 a.e] 27) false none 0 0 0 false none 0 0 0
 have hmf := make_func
 have HN := Lib.hid hn
 clear hn
 replace h1 := mv BB rfl h1
 go_enter Tryz.func8, Tryz.ntmps8
 go_wp2_with fail
 refine (ends1_ok (x := ⟨a, a⟩) (fun _ _ => by kernel_rfl) (by rw [h1.len]; exact HN.out) (fun W2 b2 => of1_any (hi := false) (mv b2 rfl h1) (mv b2 rfl xa)) (by rw [h1.len]; exact HN.out) (fun W2 b2 => of1_any (hi := true) (mv b2 rfl h1) (mv b2 rfl xa))).mono ?_
 rintro en w1 ⟨A3, n3, c3, A4, n4, c4, rfl, h3, h4, b⟩
 clear h1 xa
 replace BB := bnx BB b
 replace r := mv b rfl r
 clear b
 replace h3 : Rd w1 .u64 Go.Proofs.YtlpjlmophlikeaaGreatDoor.W A3 n3 c3 a.l := h3
 replace h4 : Rd w1 .u64 Go.Proofs.YtlpjlmophlikeaaGreatDoor.W A4 n4 c4 a.l := h4
 obtain ⟨f0, f1, f2, f3, f4, f5⟩ := r.open
 obtain ⟨z0, z1, z2, z3, z4, z5⟩ := r.held
 go_wp2
 have qq := r.put a.s A3 n3 c3 a.e a.s A4 n4 c4 a.e
 have hN := h3.put6 r (.bool a.s) (.slice A3 n3 c3) (.int .i64 a.e) (.bool a.s) (.slice A4 n4 c4) (.int .i64 a.e)
 have hM := h4.put6 r (.bool a.s) (.slice A3 n3 c3) (.int .i64 a.e) (.bool a.s) (.slice A4 n4 c4) (.int .i64 a.e)
 have HB3 := below_put6 (g := w.heap.size + 1) BB (by omega) (.bool a.s) (.slice A3 n3 c3) (.int .i64 a.e) (.bool a.s) (.slice A4 n4 c4) (.int .i64 a.e)
 obtain ⟨z0, z1, z2, z3, z4, z5⟩ := qq.held
 exact bodyPost_ret (v := .agg #[.bool a.s, .slice A3 n3 c3, .int .i64 a.e, .bool a.s, .slice A4 n4 c4, .int .i64 a.e]) (by simp [results, Tryz.results8, go_sem, z0, z1, z2, z3, z4, z5]) rfl ⟨_, _, _, _, _, _, rfl, hN, hM, HB3⟩

end Go.Proofs.YtlpjlmophlikeaaGreatDoor

namespace Go.Proofs.YtlpjlmophlikeaaGreatDoor
open Go.RowKit

end Go.Proofs.YtlpjlmophlikeaaGreatDoor
set_option maxHeartbeats 200000
set_option maxRecDepth 100000
namespace Go.Proofs.YtlpjlmophlikeaaGreatDoor
open Go.ChangeShapes Go.WideShapes Go.ChangeAt Go.RowKit

theorem own : ownKnob Tryz.prog.godebug = none := by kernel_rfl
theorem gTab : Tryz.prog.globalNamed "math/bits.deBruijn64tab" = some 0 := by kernel_rfl
theorem gTabType : (Tryz.prog.globals[0]?).map (·.type) = some 134 := by kernel_rfl
theorem cellsTab : Tryz.prog.cellsOf 134 = 64 := by kernel_rfl
theorem cellsU8 : Tryz.prog.cellsOf 5 = 1 := by kernel_rfl
theorem laidOut : laidOutB Tryz.prog = true := by kernel_rfl

def tabInts : List Int := Lib.deBruijn64tab.map (fun x : Nat => (x : Int))
theorem tab_of {W : World} (h : Lib.TabIs Tryz.prog W "math/bits.deBruijn64tab" .u8 tabInts) : Tab W := fun j hj => by
 have hl : tabInts.length = Lib.deBruijn64tab.length := by simp [tabInts]
 have := h.cell gTab j (by rw [hl]; exact hj)
 rw [this]
 congr 2
 simp only [tabInts, List.getD_eq_getElem?_getD, List.getElem?_map]
 rw [List.getElem?_eq_getElem hj]
 simp
theorem table {W : World} (h : laidMetH Tryz.prog [("math/bits.deBruijn64tab", Rows.laid_math_bits_deBruijn64tab)] W) : Tab W :=
 tab_of (Lib.tabIs_of_head (rest := []) gTab gTabType Tryz.underlying134 Tryz.underlying5 cellsU8 cellsTab h)

/-- A WORLD FOR THE WITNESS: the settled one, the table holding what its initialiser lays. -/
noncomputable def laidWorld (os : Os) : World :=
 { World.holding Tryz.prog os ⟨#[], #[], []⟩ with heap := (World.holding Tryz.prog os ⟨#[], #[], []⟩).heap.modify 0 fun
   | .cells _ t frozen => .cells (tabInts.map (Value.int .u8)).toArray t frozen
   | o => o }

/-- 'true', and each argument reads as it did: the post of every law here. -/
theorem post_true {H : Type} {enc : TypeId × Value → H} {f : Func} {s : ChangeSpec} {W W' : World} {args : Array Value} {ds gs : List (DataW H)} {before pa : List MemPlace}
  (hW : DataW.Whole enc Tryz.prog f.params.toList s.vars false W args.toList ds gs before) (hr : f.resultTypes = #[4]) (hs : (s.fn H (ds ++ gs)).results = [.lit (.bool true)]) (hv : DataW.TrodVars enc Tryz.prog W' (fun b => decide (b < W.heap.size)) s.vars (s.fn H (ds ++ gs)).vars [])
  (hargs : DataW.TrodAll enc Tryz.prog W' 0 (fun b => decide (b < W.heap.size)) true f.params.toList args.toList (s.fn H (ds ++ gs)).args pa) (hb : Below W.heap.size W W') :
  s.post enc Tryz.prog f false true false false W args (.bool true) W' := by
 refine ⟨ds, gs, before, [], pa, [], hW, ?_, hargs, hv, hb.frame _, fun h => by cases h⟩
 rw [hs, hr]
 exact trodAll_cons_mk (shut_bool Tryz.underlying4 _) trodAll_mk0
end Go.Proofs.YtlpjlmophlikeaaGreatDoor

namespace Go.Proofs.YtlpjlmophlikeaaGreatDoor
open Go.ChangeShapes Go.WideShapes Go.ChangeAt Go.RowKit

end Go.Proofs.YtlpjlmophlikeaaGreatDoor

namespace Go.Proofs.YtlpjlmophlikeaaGreatDoor
open Go.ChangeShapes Go.WideShapes Go.ChangeAt Go.RowKit

end Go.Proofs.YtlpjlmophlikeaaGreatDoor

namespace Go.Proofs.YtlpjlmophlikeaaGreatDoor
open Go.ChangeShapes Go.WideShapes Go.ChangeAt Go.RowKit

theorem cells_int : Tryz.prog.cellsOf 3 = 1 := by kernel_rfl
end Go.Proofs.YtlpjlmophlikeaaGreatDoor
namespace Go.Proofs.YtlpjlmophlikeaaGreatDoor
open Go.RowKit

/-- what is told of a quotient that is rounded to p bits -/
def QuTold (s1 : Bool) (x : Nat) (e1 : Int) (s2 : Bool) (y : Nat) (e2 : Int) (p : Nat) (up : Bool) : Int → Bool → Nat → Int → Prop :=
 Nm (s1 != s2) (cutR p (x * 2 ^ kUp p x y / (y * 2 ^ kDn p x y)) (!decide (x * 2 ^ kUp p x y % (y * 2 ^ kDn p x y) = 0)) (up != (s1 != s2))) (e1 - e2 - ((p : Int) + (blen y : Int) - (blen x : Int)) + ((blen (x * 2 ^ kUp p x y / (y * 2 ^ kDn p x y)) - p : Nat) : Int))
/-- what is told of a root that is rounded to p bits -/
def RoTold (x : Nat) (e : Int) (p : Nat) (up : Bool) (k : Int) (s' : Bool) (m' : Nat) (e' : Int) : Prop :=
 ∃ (i j r : Nat) (f : Int), ((i = 0 ∨ j = 0) ∧ e - ((i : Int) - (j : Int)) = 2 * f ∧ blen x + i ≤ 2 * p + j ∧ 2 * p + j ≤ blen x + i + 1 ∧
  r * r ≤ x * 2 ^ i / 2 ^ j ∧ x * 2 ^ i / 2 ^ j < (r + 1) * (r + 1)) ∧ Nm false (cutR p r (!decide (r * r * 2 ^ j = x * 2 ^ i)) (up != false)) (f + ((blen r - p : Nat) : Int)) k s' m' e'
def Outside (k : Int) (s : Bool) (m : Nat) (e : Int) : Prop := k = 4 ∧ s = false ∧ m = 0 ∧ e = 0
end Go.Proofs.YtlpjlmophlikeaaGreatDoor

namespace Go.Proofs.YtlpjlmophlikeaaGreatDoor
open Go.RowKit

end Go.Proofs.YtlpjlmophlikeaaGreatDoor

namespace Go.Proofs.YtlpjlmophlikeaaGreatDoor
open Go.RowKit

theorem nt_one_at {w : World} {g v : Nat} (hg : w.heap.size = g) (h0 : v ≠ 0) (hv : v < 100) : Nt (w.alloc (.cells #[.int .u64 (v : Int)] 60)) (some ⟨g, 0, none⟩) 1 1 v := by
 subst hg
 exact nt_one w h0 (small_W hv)
theorem okd_small {m : Nat} {e : Int} (h1 : m % 2 = 1) (h2 : m < 100) (h3 : -1048576 ≤ e) (h4 : e ≤ 1048576) : OkD false m e := .inr ⟨h1, small64 h2, h3, h4⟩
theorem nm_small {q k : Nat} {e f : Int} (hq : 2 * q + 1 < 100) (he : e + (k : Int) = f) (h3 : -1048576 ≤ f) (h4 : f ≤ 1048576) : Nm false (2 ^ k * (2 * q + 1)) e 0 false (2 * q + 1) f :=
 .inr ⟨k, q, rfl, .inr (.inr ⟨small64 hq, by omega, rfl, rfl, rfl, he.symm⟩)⟩
end Go.Proofs.YtlpjlmophlikeaaGreatDoor
namespace Go.Proofs.YtlpjlmophlikeaaGreatDoor
open Go.RowKit

theorem rd_fit {s : Bool} {x : Nat} {e : Int} {p : Nat} {u : Bool} {k : Int} {s' : Bool} {m' : Nat} {e' : Int} (hp : 1 ≤ p) (hd : OkD s x e) (hb : blen x ≤ p) (h : RdTold s x e p u k s' m' e') : k = 0 ∧ s' = s ∧ m' = x ∧ e' = e := by
 unfold RdTold at h
 rw [rd_self hp ((okd_fits hd).2 hb)] at h
 exact nm_fun h (nm_self hd)
end Go.Proofs.YtlpjlmophlikeaaGreatDoor
namespace Go.Proofs.YtlpjlmophlikeaaGreatDoor
open Go.RowKit

def Rw.of (s : Bool) (m : Nat) (e : Int) : Rw := ⟨s, dig Go.Proofs.YtlpjlmophlikeaaGreatDoor.W m, e, (can_dig W_two m).1⟩
theorem Rw.of_may {s : Bool} {m : Nat} {e : Int} (h : OkD s m e) : (Rw.of s m e).may = true := mayD_ok h
theorem Rw.of_v {K : Nat} {s : Bool} {m : Nat} {e : Int} : (Rw.of s m e).v K = vz K s m e := by
 unfold Rw.of Rw.v
 rw [val_dig W_two]
theorem okd_3 : OkD false 3 0 := okd_small rfl (by omega) (by decide) (by decide)
theorem vz_1 (K m : Nat) : vz K false m 0 = (m : Int) * ((2 ^ K : Nat) : Int) := by
 unfold vz sg
 have e1 : ((0 : Int) + (K : Int)).toNat = K := by omega
 rw [e1, if_neg Bool.false_ne_true, Int.one_mul, Int.natCast_mul]
theorem vz_2 (K m j : Nat) : vz K false m (j : Int) = ((m * 2 ^ j : Nat) : Int) * ((2 ^ K : Nat) : Int) := by
 have h := vz_up (K := K) (s := false) (m := m) (e := 0) (by omega) j
 rw [Int.zero_add] at h
 rw [h, vz_1]
/-- 1, 3, and the interval from 1 to 3 -/
def q1 : Rw := Rw.of false 1 0
def q3 : Rw := Rw.of false 3 0
theorem q3_may : q3.may = true := Rw.of_may okd_3
theorem told_is' {f : FuncId} {args : Array Value} {P : Int → Bool → Nat → Int → Prop} {w : World} {s : Bool} {m : Nat} {e k : Int} (h : Calls Tryz.prog f args w (Tells P w)) (hP : ∀ k1 s1 m1 e1, P k1 s1 m1 e1 → k1 = k ∧ s1 = s ∧ m1 = m ∧ e1 = e) : Calls Tryz.prog f args w (ToldIs s m e k w) := h.mono fun _ _ h => told_is h hP

end Go.Proofs.YtlpjlmophlikeaaGreatDoor
namespace Go.Proofs.YtlpjlmophlikeaaGreatDoor
open Go.ChangeShapes Go.WideShapes Go.ChangeAt Go.RowKit

/-- a slice whose elements read as intervals -/
structure RdS (w : World) (A : Option Addr) (n c : Nat) (X : Nat → Iv) : Prop where
 cap : n ≤ c
 max : c ≤ 9223372036854775807
 at_ : n ≠ 0 → ∃ b o, A = some ⟨b, o, none⟩ ∧ Ivs w b o n X
end Go.Proofs.YtlpjlmophlikeaaGreatDoor
namespace Go.Proofs.YtlpjlmophlikeaaGreatDoor
open Go.RowKit

theorem Ibx.oth6 {w : World} {g g' : Nat} {s : Bool} {A : Option Addr} {n c : Nat} {e : Int} {t : Bool} {B : Option Addr} {m d : Nat} {f : Int} (h : Ibx w g' s A n c e t B m d f) (hne : g' ≠ g) (u0 u1 u2 u3 u4 u5 : Value) : Ibx ((((((w.setCell ⟨g, 0, none⟩ u0).setCell ⟨g, 1, none⟩ u1).setCell ⟨g, 2, none⟩ u2).setCell ⟨g, 3, none⟩ u3).setCell ⟨g, 4, none⟩ u4).setCell ⟨g, 5, none⟩ u5) g' s A n c e t B m d f := (((((h.other hne 0 u0).other hne 1 u1).other hne 2 u2).other hne 3 u3).other hne 4 u4).other hne 5 u5

end Go.Proofs.YtlpjlmophlikeaaGreatDoor

namespace Go.Proofs.YtlpjlmophlikeaaGreatDoor
open Go.RowKit

end Go.Proofs.YtlpjlmophlikeaaGreatDoor

namespace Go.Proofs.YtlpjlmophlikeaaGreatDoor
open Go.RowKit

end Go.Proofs.YtlpjlmophlikeaaGreatDoor
namespace Go.Proofs.YtlpjlmophlikeaaGreatDoor
open Go.RowKit

/-- x divided by 2^n, rounded up -/
def upN (x n : Nat) : Nat := x / 2 ^ n + if x % 2 ^ n = 0 then 0 else 1
/-- the numbers that have an exp -/
def d64 : Iv := ⟨Rw.of true 1 6, Rw.of false 1 6⟩
end Go.Proofs.YtlpjlmophlikeaaGreatDoor
