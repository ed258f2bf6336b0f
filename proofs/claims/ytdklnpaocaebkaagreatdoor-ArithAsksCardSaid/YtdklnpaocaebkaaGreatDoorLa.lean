/-
 Contracts of ival's Meet, at this translation. Condition: the slices read as limbs, the table of math/bits reads as its text lays it.
-/
import Derived.Test.YtdklnpaocaebkaaGreatDoorIg
import Derived.Test.YtdklnpaocaebkaaGreatDoorRt
import Derived.Test.YtdklnpaocaebkaaGreatDoorRb
import Derived.Test.YtdklnpaocaebkaaGreatDoorRoo
set_option maxHeartbeats 8000000
set_option maxRecDepth 100000
namespace Go.Proofs.YtdklnpaocaebkaaGreatDoor
open Go.RowKit

theorem may_len {K : Nat} {x : Iv} (h : mayI K x = true) : x.lo.l.length ≤ 10000000000000 ∧ x.hi.l.length ≤ 10000000000000 := by
 obtain ⟨h1, h2, _⟩ := mayI_iff.1 h
 have key : ∀ a : Rw, a.may = true → a.l.length ≤ 10000000000000 := fun a ha => by
  have := (mayD_of a.lt ha).1
  unfold mayB at this
  simp only [Bool.and_eq_true, decide_eq_true_eq] at this
  omega
 exact ⟨key _ h1, key _ h2⟩
theorem two_may {K : Nat} {x y : Iv} : (∀ i, i < 2 → mayI K (if i = 0 then x else y) = true) ↔ (mayI K x = true ∧ mayI K y = true) := by
 constructor
 ·exact fun h => ⟨h 0 (by omega), h 1 (by omega)⟩
 ·rintro ⟨h1, h2⟩ i hi
  rcases (show i = 0 ∨ i = 1 by omega) with rfl | rfl
  ·exact h1
  ·exact h2
theorem one_may {K : Nat} {x : Iv} : (∀ i, i < 1 → mayI K x = true) ↔ mayI K x = true := ⟨fun h => h 0 (by omega), fun h _ _ => h⟩
theorem ibx_one (w : World) (o : Obj) (s : Bool) (A : Option Addr) (n c : Nat) (e : Int) (t : Bool) (B : Option Addr) (m d : Nat) (f : Int) : Ibx ((w.alloc o).alloc (.cells #[.bool s, .slice A n c, .int .i64 e, .bool t, .slice B m d, .int .i64 f] 26)) (w.heap.size + 1) s A n c e t B m d f := by
 have := Ibx.new (w.alloc o) s A n c e t B m d f
 simpa using this
theorem rows_one {w : World} {g : Nat} (hg : w.heap.size = g) {x : Iv} {A1 : Option Addr} {n1 c1 : Nat} {A2 : Option Addr} {n2 c2 : Nat} (h1 : Rd w .u64 Go.Proofs.YtdklnpaocaebkaaGreatDoor.W A1 n1 c1 x.lo.l) (h2 : Rd w .u64 Go.Proofs.YtdklnpaocaebkaaGreatDoor.W A2 n2 c2 x.hi.l) : Ivs (w.alloc (.cells #[.bool x.lo.s, .slice A1 n1 c1, .int .i64 x.lo.e, .bool x.hi.s, .slice A2 n2 c2, .int .i64 x.hi.e] 26)) g 0 1 (fun _ => x) := by
 subst hg
 exact ivs_one w h1 h2
theorem rows_two {w : World} {g : Nat} (hg : w.heap.size = g) {x y : Iv} {A1 : Option Addr} {n1 c1 : Nat} {A2 : Option Addr} {n2 c2 : Nat} {A3 : Option Addr} {n3 c3 : Nat} {A4 : Option Addr} {n4 c4 : Nat} (h1 : Rd w .u64 Go.Proofs.YtdklnpaocaebkaaGreatDoor.W A1 n1 c1 x.lo.l) (h2 : Rd w .u64 Go.Proofs.YtdklnpaocaebkaaGreatDoor.W A2 n2 c2 x.hi.l) (h3 : Rd w .u64 Go.Proofs.YtdklnpaocaebkaaGreatDoor.W A3 n3 c3 y.lo.l) (h4 : Rd w .u64 Go.Proofs.YtdklnpaocaebkaaGreatDoor.W A4 n4 c4 y.hi.l) : Ivs (w.alloc (.cells #[.bool x.lo.s, .slice A1 n1 c1, .int .i64 x.lo.e, .bool x.hi.s, .slice A2 n2 c2, .int .i64 x.hi.e, .bool y.lo.s, .slice A3 n3 c3, .int .i64 y.lo.e, .bool y.hi.s, .slice A4 n4 c4, .int .i64 y.hi.e] 26)) g 0 2 (fun i => if i = 0 then x else y) := by
 subst hg
 exact ivs_two w h1 h2 h3 h4

theorem iof_any {w : World} {a : Rw} {A1 : Option Addr} {n1 c1 : Nat} (h1 : Rd w .u64 Go.Proofs.YtdklnpaocaebkaaGreatDoor.W A1 n1 c1 a.l) (hn : n1 ≤ 10000000000000) :
  Calls Tryz.prog 19 #[.agg #[.bool a.s, .slice A1 n1 c1, .int .i64 a.e]] w (GivI ⟨a, a⟩ w) := by
 have BB := two_below w (.cells #[.bool a.s, .slice A1 n1 c1, .int .i64 a.e] 24) (.cells #[.bool false, .slice none 0 0, .int .i64 0, .bool false, .slice none 0 0, .int .i64 0] 26)
 have xa := (Box.new w a.s A1 n1 c1 a.e).alloc (.cells #[.bool false, .slice none 0 0, .int .i64 0, .bool false, .slice none 0 0, .int .i64 0] 26)
 have r := ibx_one w (.cells #[.bool a.s, .slice A1 n1 c1, .int .i64 a.e] 24) false none 0 0 0 false none 0 0 0
 have hmf := make_func
 have HN := Lib.hid hn
 clear hn
 replace h1 := mv BB rfl h1
 go_enter Tryz.func19, Tryz.ntmps19
 go_wp2_with fail
 refine (ends1_ok (x := ⟨a, a⟩) (fun _ _ => by kernel_rfl) (by rw [h1.len]; exact HN.out) (fun W2 b2 => of1_any (hi := false) (mv b2 rfl h1) (mv b2 rfl xa)) (by rw [h1.len]; exact HN.out) (fun W2 b2 => of1_any (hi := true) (mv b2 rfl h1) (mv b2 rfl xa))).mono ?_
 rintro en w1 ⟨A3, n3, c3, A4, n4, c4, rfl, h3, h4, b⟩
 clear h1 xa
 replace BB := bnx BB b
 replace r := mv b rfl r
 clear b
 replace h3 : Rd w1 .u64 Go.Proofs.YtdklnpaocaebkaaGreatDoor.W A3 n3 c3 a.l := h3
 replace h4 : Rd w1 .u64 Go.Proofs.YtdklnpaocaebkaaGreatDoor.W A4 n4 c4 a.l := h4
 obtain ⟨f0, f1, f2, f3, f4, f5⟩ := r.open
 obtain ⟨z0, z1, z2, z3, z4, z5⟩ := r.held
 go_wp2
 have qq := r.put a.s A3 n3 c3 a.e a.s A4 n4 c4 a.e
 have hN := h3.put6 r (.bool a.s) (.slice A3 n3 c3) (.int .i64 a.e) (.bool a.s) (.slice A4 n4 c4) (.int .i64 a.e)
 have hM := h4.put6 r (.bool a.s) (.slice A3 n3 c3) (.int .i64 a.e) (.bool a.s) (.slice A4 n4 c4) (.int .i64 a.e)
 have HB3 := below_put6 (g := w.heap.size + 1) BB (by omega) (.bool a.s) (.slice A3 n3 c3) (.int .i64 a.e) (.bool a.s) (.slice A4 n4 c4) (.int .i64 a.e)
 obtain ⟨z0, z1, z2, z3, z4, z5⟩ := qq.held
 exact bodyPost_ret (v := .agg #[.bool a.s, .slice A3 n3 c3, .int .i64 a.e, .bool a.s, .slice A4 n4 c4, .int .i64 a.e]) (by simp [results, Tryz.results19, go_sem, z0, z1, z2, z3, z4, z5]) rfl ⟨_, _, _, _, _, _, rfl, hN, hM, HB3⟩

end Go.Proofs.YtdklnpaocaebkaaGreatDoor

namespace Go.Proofs.YtdklnpaocaebkaaGreatDoor
open Go.RowKit

end Go.Proofs.YtdklnpaocaebkaaGreatDoor
set_option maxHeartbeats 8000000
set_option maxRecDepth 100000
namespace Go.Proofs.YtdklnpaocaebkaaGreatDoor
open Go.RowKit

def Rw.of (s : Bool) (m : Nat) (e : Int) : Rw := ⟨s, dig Go.Proofs.YtdklnpaocaebkaaGreatDoor.W m, e, (can_dig W_two m).1⟩
theorem Rw.of_may {s : Bool} {m : Nat} {e : Int} (h : OkD s m e) : (Rw.of s m e).may = true := mayD_ok h
theorem Rw.of_v {K : Nat} {s : Bool} {m : Nat} {e : Int} : (Rw.of s m e).v K = vz K s m e := by
 unfold Rw.of Rw.v
 rw [val_dig W_two]
theorem okd_1 : OkD false 1 0 := okd_small rfl (by omega) (by decide) (by decide)
theorem vz_1 (K m : Nat) : vz K false m 0 = (m : Int) * ((2 ^ K : Nat) : Int) := by
 unfold vz sg
 have e1 : ((0 : Int) + (K : Int)).toNat = K := by omega
 rw [e1, if_neg Bool.false_ne_true, Int.one_mul, Int.natCast_mul]
theorem vz_2 (K m j : Nat) : vz K false m (j : Int) = ((m * 2 ^ j : Nat) : Int) * ((2 ^ K : Nat) : Int) := by
 have h := vz_up (K := K) (s := false) (m := m) (e := 0) (by omega) j
 rw [Int.zero_add] at h
 rw [h, vz_1]
/-- 1, 3, and the interval from 1 to 3 -/
def q1 : Rw := Rw.of false 1 0
def q3 : Rw := Rw.of false 3 0
theorem q1_may : q1.may = true := Rw.of_may okd_1
theorem told_is' {f : FuncId} {args : Array Value} {P : Int → Bool → Nat → Int → Prop} {w : World} {s : Bool} {m : Nat} {e k : Int} (h : Calls Tryz.prog f args w (Tells P w)) (hP : ∀ k1 s1 m1 e1, P k1 s1 m1 e1 → k1 = k ∧ s1 = s ∧ m1 = m ∧ e1 = e) : Calls Tryz.prog f args w (ToldIs s m e k w) := h.mono fun _ _ h => told_is h hP

theorem few5_any {w : World} {x : Iv} {A1 : Option Addr} {n1 c1 : Nat} {A2 : Option Addr} {n2 c2 : Nat} (hn : n1 ≤ 9223372036854775807) (hm : n2 ≤ 9223372036854775807) :
  Calls Tryz.prog 4 #[.agg #[.bool x.lo.s, .slice A1 n1 c1, .int .i64 x.lo.e, .bool x.hi.s, .slice A2 n2 c2, .int .i64 x.hi.e]] w (Bools (decide (n1 ≤ 70) && decide (n2 ≤ 70)) w) := by
 obtain ⟨p1, hp1⟩ : ∃ p, p = decide (n1 ≤ 70) := ⟨_, rfl⟩
 obtain ⟨p2, hp2⟩ : ∃ p, p = decide (n2 ≤ 70) := ⟨_, rfl⟩
 have HP1 := Lib.hid hp1
 have HP2 := Lib.hid hp2
 rw [← hp1, ← hp2]
 clear hp1 hp2
 have BB := below_alloc w (.cells #[.bool x.lo.s, .slice A1 n1 c1, .int .i64 x.lo.e, .bool x.hi.s, .slice A2 n2 c2, .int .i64 x.hi.e] 26)
 obtain ⟨a0, a1, a2, a3, a4, a5⟩ := (Ibx.new w x.lo.s A1 n1 c1 x.lo.e x.hi.s A2 n2 c2 x.hi.e).held
 go_enter Tryz.func4, Tryz.ntmps4
 go_wp2_with fail
 refine (dfew_any (s := x.lo.s) (e := x.lo.e) hn).mono ?_
 rintro en w1 ⟨rfl, b⟩
 rw [← HP1.out]
 clear HP1
 replace BB := bnx BB b
 have G := mv b rfl (J6 a0 a1 a2 a3 a4 a5)
 clear b a0 a1 a2 a3 a4 a5
 obtain ⟨a0, a1, a2, a3, a4, a5⟩ := G
 cases p1
 ·go_wp2
  go_ret
  exact ⟨by first | rfl | simp, BB⟩
 go_wp2_with fail
 refine (dfew_any (s := x.hi.s) (e := x.hi.e) hm).mono ?_
 rintro en w2 ⟨rfl, b⟩
 rw [← HP2.out]
 clear HP2
 replace BB := bnx BB b
 have G := mv b rfl (J6 a0 a1 a2 a3 a4 a5)
 clear b a0 a1 a2 a3 a4 a5
 obtain ⟨a0, a1, a2, a3, a4, a5⟩ := G
 go_wp2
 go_ret
 exact ⟨by first | rfl | simp, BB⟩

end Go.Proofs.YtdklnpaocaebkaaGreatDoor
namespace Go.Proofs.YtdklnpaocaebkaaGreatDoor
open Go.RowKit

def x11 : Iv := ⟨q1, q1⟩
end Go.Proofs.YtdklnpaocaebkaaGreatDoor
namespace Go.Proofs.YtdklnpaocaebkaaGreatDoor
open Go.RowKit

theorem rd_fit {s : Bool} {x : Nat} {e : Int} {p : Nat} {u : Bool} {k : Int} {s' : Bool} {m' : Nat} {e' : Int} (hp : 1 ≤ p) (hd : OkD s x e) (hb : blen x ≤ p) (h : RdTold s x e p u k s' m' e') : k = 0 ∧ s' = s ∧ m' = x ∧ e' = e := by
 unfold RdTold at h
 rw [rd_self hp ((okd_fits hd).2 hb)] at h
 exact nm_fun h (nm_self hd)
end Go.Proofs.YtdklnpaocaebkaaGreatDoor
namespace Go.Proofs.YtdklnpaocaebkaaGreatDoor
open Go.RowKit

theorem GivQ.of {s : Bool} {m : Nat} {e : Int} {w w' : World} {en : Ending} (h : Goods s m e w en w') : GivQ (Rw.of s m e) w en w' := by
 obtain ⟨A, n, c, h1, h2, h3⟩ := h
 exact ⟨A, n, c, h1, h2.rd, h3⟩

end Go.Proofs.YtdklnpaocaebkaaGreatDoor
namespace Go.Proofs.YtdklnpaocaebkaaGreatDoor

def Only (P : Int → Bool → Nat → Int → Prop) : Prop := ∀ k s m e k2 s2 m2 e2, P k s m e → P k2 s2 m2 e2 → k = k2 ∧ s = s2 ∧ m = m2 ∧ e = e2
/-- where it goes wrong nought is told -/
def Null (P : Int → Bool → Nat → Int → Prop) : Prop := ∀ k s m e, P k s m e → k ≠ 0 → s = false ∧ m = 0 ∧ e = 0
def Some (P : Int → Bool → Nat → Int → Prop) : Prop := ∃ k s m e, P k s m e
/-- a scale, and a name for each answer that is the only one -/
structure Sc where
 K : Nat
 big : 4194304 ≤ K
 oc : (Int → Bool → Nat → Int → Prop) → Except Int Rw
 is : ∀ P k s m e, Only P → P k s m e → (k = 0 → oc P = .ok (Rw.of s m e)) ∧ (k ≠ 0 → oc P = .error k)
theorem sc_has : Nonempty Sc := by
 obtain ⟨K, hK⟩ := scale_has
 have key : ∀ P : Int → Bool → Nat → Int → Prop, ∃ o : Except Int Rw, ∀ k s m e, Only P → P k s m e → (k = 0 → o = .ok (Rw.of s m e)) ∧ (k ≠ 0 → o = .error k) := fun P => by
  by_cases h : ∃ s m e, P 0 s m e
  ·obtain ⟨s, m, e, h⟩ := h
   refine ⟨.ok (Rw.of s m e), fun k s' m' e' ho hp => ?_⟩
   obtain ⟨rfl, rfl, rfl, rfl⟩ := ho _ _ _ _ _ _ _ _ h hp
   exact ⟨fun _ => rfl, fun h => absurd rfl h⟩
  ·by_cases h2 : ∃ k s m e, P k s m e
   ·obtain ⟨k, s, m, e, h2⟩ := h2
    refine ⟨.error k, fun k' s' m' e' ho hp => ?_⟩
    obtain ⟨rfl, rfl, rfl, rfl⟩ := ho _ _ _ _ _ _ _ _ h2 hp
    exact ⟨fun h3 => absurd ⟨_, _, _, h3 ▸ h2⟩ h, fun _ => rfl⟩
   ·exact ⟨.error 0, fun k s m e _ hp => absurd ⟨k, s, m, e, hp⟩ h2⟩
 exact ⟨⟨K, hK, fun P => (key P).choose, fun P => (key P).choose_spec⟩⟩
theorem Sc.of_ok (S : Sc) {P : Int → Bool → Nat → Int → Prop} {a : Rw} (ho : Only P) (hs : Some P) (h : S.oc P = .ok a) : ∃ s m e, P 0 s m e ∧ a = Rw.of s m e := by
 obtain ⟨k, s, m, e, hp⟩ := hs
 have h2 := S.is P k s m e ho hp
 by_cases hk : k = 0
 ·subst hk
  have h3 := h2.1 rfl
  rw [h3] at h
  cases h
  exact ⟨s, m, e, hp, rfl⟩
 ·rw [h2.2 hk] at h
  cases h
theorem Sc.of_err (S : Sc) {P : Int → Bool → Nat → Int → Prop} {k : Int} (ho : Only P) (hs : Some P) (h : S.oc P = .error k) : k ≠ 0 ∧ ∃ s m e, P k s m e := by
 obtain ⟨k', s, m, e, hp⟩ := hs
 have h2 := S.is P k' s m e ho hp
 by_cases hk : k' = 0
 ·rw [h2.1 hk] at h; cases h
 ·rw [h2.2 hk] at h
  cases h
  exact ⟨hk, s, m, e, hp⟩
/-- one behind the other -/
def thn {α β : Type} (o : Except Int α) (f : α → Except Int β) : Except Int β := match o with
 | .ok a => f a
 | .error k => .error k
def okc {α : Type} (o : Except Int α) : Int := match o with
 | .ok _ => 0
 | .error k => k
def orw (o : Except Int Rw) : Rw := match o with
 | .ok a => a
 | .error _ => Rw.zero
def oiv (o : Except Int Iv) : Iv := match o with
 | .ok a => a
 | .error _ => Iv.zero
/-- no outcome is an error without a code -/
def Cod {α : Type} (o : Except Int α) : Prop := ∀ k, o = .error k → k ≠ 0
theorem wrong_only : Only Wrong := fun _ _ _ _ _ _ _ _ h h' => wrong_fun h h'
theorem wrong_null : Null Wrong := fun _ _ _ _ h _ => h.2
theorem wrong_some : Some Wrong := ⟨_, _, _, _, rfl, rfl, rfl, rfl⟩
theorem outside_null : Null Outside := fun _ _ _ _ h _ => h.2
theorem outside_some : Some Outside := ⟨_, _, _, _, rfl, rfl, rfl, rfl⟩
theorem nm_only (s : Bool) (m : Nat) (e : Int) : Only (Nm s m e) := fun _ _ _ _ _ _ _ _ h h' => nm_fun h h'
theorem nm_null (s : Bool) (m : Nat) (e : Int) : Null (Nm s m e) := fun _ _ _ _ h hk => by
 rcases nm_code h with h1 | ⟨_, h1⟩
 ·exact absurd h1 hk
 ·exact h1
theorem nm_some (s : Bool) (m : Nat) (e : Int) : Some (Nm s m e) := nm_total s m e
section
variable {K : Nat} {s t : Bool} {l r : List Nat} {e f p : Int} {up : Bool}
theorem addR_only : Only (addR K s l e t r f) := fun _ _ _ _ _ _ _ _ h h' => addR_fun h h'
theorem addR_null : Null (addR K s l e t r f) := by
 unfold addR
 split
 ·rintro k s m e ⟨_, _, _, _, _, h⟩ hk; exact nm_null _ _ _ _ _ _ _ h hk
 ·exact wrong_null
theorem addR_some (hK : 4194304 ≤ K) (hl : Lt W l) (hr : Lt W r) : Some (addR K s l e t r f) := by
 unfold addR
 split
 ·next h => 
  obtain ⟨_, o1⟩ := mayD_of hl h.1
  obtain ⟨_, o2⟩ := mayD_of hr h.2
  have r1 := okd_ge hK o1
  have r2 := okd_ge hK o2
  exact sum_has hK ⟨r1.1, r1.2.1⟩ ⟨r2.1, r2.2.1⟩
 ·exact wrong_some
theorem mulR_only : Only (mulR s l e t r f) := fun _ _ _ _ _ _ _ _ h h' => mulR_fun h h'
theorem mulR_null : Null (mulR s l e t r f) := by
 unfold mulR
 split
 ·exact nm_null _ _ _
 ·exact wrong_null
theorem mulR_some : Some (mulR s l e t r f) := by
 unfold mulR
 split
 ·exact nm_some _ _ _
 ·exact wrong_some
theorem quotR_only : Only (quotR s l e t r f p up) := fun _ _ _ _ _ _ _ _ h h' => quotR_fun h h'
theorem quotR_null : Null (quotR s l e t r f p up) := by
 unfold quotR
 split
 ·split
  ·exact outside_null
  ·exact nm_null _ _ _
 ·exact wrong_null
theorem quotR_some : Some (quotR s l e t r f p up) := by
 unfold quotR
 split
 ·split
  ·exact outside_some
  ·exact nm_some _ _ _
 ·exact wrong_some
theorem rootR_some : Some (rootR s l e p up) := by
 unfold rootR
 split
 ·split
  ·exact outside_some
  ·obtain ⟨q, hq⟩ : ∃ q, q = p.toNat := ⟨_, rfl⟩
   rw [← hq]
   generalize val W l = x
   obtain ⟨d, hd⟩ : ∃ d : Int, (e - d) % 2 = 0 ∧ (blen x : Int) + d ≤ 2 * q ∧ 2 * (q : Int) ≤ (blen x : Int) + d + 1 := by
    by_cases h : (e - (2 * (q : Int) - blen x)) % 2 = 0
    ·exact ⟨_, h, by omega, by omega⟩
    ·exact ⟨2 * (q : Int) - blen x - 1, by omega, by omega, by omega⟩
   obtain ⟨r, h1, h2⟩ := root_has (x * 2 ^ d.toNat / 2 ^ (-d).toNat)
   obtain ⟨k, s', m', e', hN⟩ := nm_total false (cutR q r (!decide (r * r * 2 ^ (-d).toNat = x * 2 ^ d.toNat)) (up != false)) ((e - d) / 2 + ((blen r - q : Nat) : Int))
   exact ⟨k, s', m', e', d.toNat, (-d).toNat, r, (e - d) / 2, ⟨by omega, by omega, by omega, by omega, h1, h2⟩, hN⟩
 ·exact wrong_some
theorem rootQ_some : Some (rootQ s l e p up) := by
 unfold rootQ
 split
 ·split
  ·exact outside_some
  ·split
   ·exact ⟨_, _, _, _, rfl, rfl, rfl, rfl⟩
   ·obtain ⟨q, hq⟩ : ∃ q, q = p.toNat := ⟨_, rfl⟩
    next h _ _ =>
    have hq2 : q ≤ 2000 := by omega
    rw [← hq]
    generalize val W l = x
    obtain ⟨S, hS⟩ : ∃ S : Nat, 2 * q + 6 ≤ S ∧ S ≤ 2 * q + 7 ∧ (e - (S : Int)) % 2 = 0 := by
     by_cases h : (e - ((2 * q + 6 : Nat) : Int)) % 2 = 0
     ·exact ⟨_, Nat.le_refl _, by omega, h⟩
     ·exact ⟨2 * q + 7, by omega, by omega, by omega⟩
    obtain ⟨R, h1, h2⟩ := root_has (x * 2 ^ S)
    obtain ⟨k, s', m', e', hN⟩ := nm_total false (cutN q (stickyR S x R) (up != false)) ((e - (S : Int)) / 2 - 1 + ((blen (stickyR S x R) - q : Nat) : Int))
    exact ⟨k, s', m', e', R, S, (e - (S : Int)) / 2, ⟨by omega, by omega, by omega, h1, h2⟩, hN⟩
 ·exact wrong_some
theorem rootR_only (hl : Lt W l) : Only (rootR s l e p up) := fun k s1 m1 e1 k2 s2 m2 e2 h h' => by
 obtain ⟨k3, s3, m3, e3, h3⟩ := rootQ_some (s := s) (l := l) (e := e) (p := p) (up := up)
 obtain ⟨rfl, rfl, rfl, rfl⟩ := root_agree hl h h3
 obtain ⟨rfl, rfl, rfl, rfl⟩ := root_agree hl h' h3
 exact ⟨rfl, rfl, rfl, rfl⟩
theorem rootR_null : Null (rootR s l e p up) := by
 unfold rootR
 split
 ·split
  ·exact outside_null
  ·rintro k s' m' e' ⟨_, _, _, _, _, h⟩ hk
   exact nm_null _ _ _ _ _ _ _ h hk
 ·exact wrong_null
end
/-- what rounding tells of any, raw ones too -/
def rndR (a : Rw) (p : Int) (up : Bool) : Int → Bool → Nat → Int → Prop := if (1 ≤ p ∧ p ≤ 2000) ∧ a.may = true then RdTold a.s (val W a.l) a.e p.toNat up else Wrong
theorem rndR_only {a : Rw} {p : Int} {up : Bool} : Only (rndR a p up) := by
 unfold rndR
 split
 ·exact nm_only _ _ _
 ·exact wrong_only
theorem rndR_null {a : Rw} {p : Int} {up : Bool} : Null (rndR a p up) := by
 unfold rndR
 split
 ·exact nm_null _ _ _
 ·exact wrong_null
theorem rndR_some {a : Rw} {p : Int} {up : Bool} : Some (rndR a p up) := by
 unfold rndR
 split
 ·exact nm_some _ _ _
 ·exact wrong_some
section
variable (S : Sc)
def addO (a b : Rw) : Except Int Rw := S.oc (addR S.K a.s a.l a.e b.s b.l b.e)
def mulO (a b : Rw) : Except Int Rw := S.oc (mulR a.s a.l a.e b.s b.l b.e)
def quoO (p : Int) (up : Bool) (a b : Rw) : Except Int Rw := S.oc (quotR a.s a.l a.e b.s b.l b.e p up)
def rooO (a : Rw) (p : Int) (up : Bool) : Except Int Rw := S.oc (rootR a.s a.l a.e p up)
def rndO (a : Rw) (p : Int) (up : Bool) : Except Int Rw := S.oc (rndR a p up)
def negQ (a : Rw) : Rw := ⟨negR a.s a.l a.e, a.l, a.e, a.lt⟩
def turnI (x : Iv) : Iv := ⟨negQ x.hi, negQ x.lo⟩
/-- Down of one, Up of another one -/
def outO (a b : Rw) (p : Int) : Except Int Iv := thn (rndO S a p false) fun l => thn (rndO S b p true) fun h => .ok ⟨l, h⟩
def sumO (x y : Iv) (p : Int) : Except Int Iv := thn (addO S x.lo y.lo) fun a => thn (rndO S a p false) fun l => thn (addO S x.hi y.hi) fun b => thn (rndO S b p true) fun h => .ok ⟨l, h⟩
def rooI (x : Iv) (p : Int) : Except Int Iv := thn (rooO S x.lo p false) fun l => thn (rooO S x.hi p true) fun h => .ok ⟨l, h⟩
def corO (F : Rw → Rw → Except Int Rw) (x y : Iv) : Except Int (List Rw) := thn (F x.lo y.lo) fun a => thn (F x.lo y.hi) fun b => thn (F x.hi y.lo) fun c => thn (F x.hi y.hi) fun d => .ok [a, b, c, d]
def leaL : List Rw → Rw
 | [] => Rw.zero
 | a :: l => l.foldl (leastQ S.K) a
def greL : List Rw → Rw
 | [] => Rw.zero
 | a :: l => l.foldl (greatQ S.K) a
def mulI (x y : Iv) (p : Int) : Except Int Iv := thn (corO (mulO S) x y) fun L => outO S (leaL S L) (greL S L) p
def divI (x y : Iv) (p : Int) : Except Int Iv := if hasI S.K y Rw.zero = true then .error 4 else thn (corO (quoO S p false) x y) fun L => thn (corO (quoO S p true) x y) fun M => .ok ⟨leaL S L, greL S M⟩
def sqrI (x : Iv) (p : Int) : Except Int Iv := thn (mulO S x.lo x.lo) fun a => thn (mulO S x.hi x.hi) fun b =>
 outO S (leaL S (if hasI S.K x Rw.zero = true then [a, b, Rw.zero] else [a, b])) (greL S (if hasI S.K x Rw.zero = true then [a, b, Rw.zero] else [a, b])) p
def sqtI (x : Iv) (p : Int) : Except Int Iv := if signR x.lo.s x.lo.l x.lo.e < 0 then .error 4 else rooI S x p
def negI (x : Iv) (p : Int) : Except Int Iv := outO S (turnI x).lo (turnI x).hi p
def prec (p : Int) : Bool := decide (1 ≤ p) && decide (p ≤ 2000)
/-- a face of two intervals, of one -/
def face2 (x y : Iv) (p : Int) (o : Except Int Iv) : Except Int Iv := if (mayI S.K x && mayI S.K y && prec p) = true then o else .error 1
def face1 (x : Iv) (p : Int) (o : Except Int Iv) : Except Int Iv := if (mayI S.K x && prec p) = true then o else .error 1
end
end Go.Proofs.YtdklnpaocaebkaaGreatDoor
