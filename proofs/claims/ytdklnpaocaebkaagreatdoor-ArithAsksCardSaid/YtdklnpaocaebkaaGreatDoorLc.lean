/-
 Contract of the statement DyadAsks's function at this translation: it returns true, whatever its arguments. Condition: the slices read as limbs, the table of math/bits reads as its text lays it.
-/
import Derived.Test.YtdklnpaocaebkaaGreatDoorRp
import Derived.Test.YtdklnpaocaebkaaGreatDoorRu
import Derived.Test.YtdklnpaocaebkaaGreatDoorRc
import Derived.Test.YtdklnpaocaebkaaGreatDoorLa
import Derived.Test.YtdklnpaocaebkaaGreatDoorIm
set_option maxHeartbeats 8000000
set_option maxRecDepth 100000
namespace Go.Proofs.YtdklnpaocaebkaaGreatDoor
open Go.RowKit

theorem raddd_no {w : World} {A1 : Option Addr} {n1 c1 : Nat} {l1 : List Nat} {s1 : Bool} {e1 : Int} {A2 : Option Addr} {n2 c2 : Nat} {l2 : List Nat} {s2 : Bool} {e2 : Int} (h1 : Rd w .u64 Go.Proofs.YtdklnpaocaebkaaGreatDoor.W A1 n1 c1 l1) (h2 : Rd w .u64 Go.Proofs.YtdklnpaocaebkaaGreatDoor.W A2 n2 c2 l2) (hd : ¬ (mayD s1 l1 e1 = true ∧ mayD s2 l2 e2 = true)) :
  Calls Tryz.prog 30 #[.agg #[.bool s1, .slice A1 n1 c1, .int .i64 e1], .agg #[.bool s2, .slice A2 n2 c2, .int .i64 e2]] w (Tells Wrong w) := by
 obtain ⟨BB, xa, xb, r⟩ := three_dbl w (s1 := s1) (A1 := A1) (n1 := n1) (c1 := c1) (e1 := e1) (s2 := s2) (A2 := A2) (n2 := n2) (c2 := c2) (e2 := e2)
 obtain ⟨a10, a11, a12⟩ := xa.held
 obtain ⟨a20, a21, a22⟩ := xb.held
 clear xa xb
 have ne1 : ¬ w.heap.size + 2 = w.heap.size := by omega
 have ne2 : ¬ w.heap.size = w.heap.size + 2 := by omega
 have ne3 : ¬ w.heap.size + 2 = w.heap.size + 1 := by omega
 have ne4 : ¬ w.heap.size + 1 = w.heap.size + 2 := by omega
 have G := mv BB rfl <| And.intro h1 <| h2
 clear h1 h2
 obtain ⟨h1, h2⟩ := G
 have HD := Lib.hid hd
 clear hd
 go_enter Tryz.func30, Tryz.ntmps30
 go_wp2_with fail
 refine (rmayd_any (s := s1) (e := e1) h1).mono ?_
 rintro en w1 ⟨rfl, b⟩
 replace BB := bnx BB b
 have G := mv b rfl (J9 a10 a11 a12 a20 a21 a22 h1 h2 r)
 clear b a10 a11 a12 a20 a21 a22 h1 h2 r
 obtain ⟨a10, a11, a12, a20, a21, a22, h1, h2, r⟩ := G
 cases q1 : mayD s1 l1 e1
 ·clear q1
  obtain ⟨f0, f1, f2⟩ := r.open
  obtain ⟨z0, z1, z2⟩ := r.held
  go_wp2
  have qq := r.put false none 0 0 0
  have HB3 := below_put3 (g := w.heap.size + 2) BB (by omega) (.bool false) (.slice none 0 0) (.int .i64 0)
  obtain ⟨z0, z1, z2⟩ := qq.held
  exact bodyPost_ret (v := .tuple #[.agg #[.bool false, .slice none 0 0, .int .i64 0], .int .i64 1]) (by simp [results, Tryz.results30, go_sem, z0, z1, z2]) rfl ⟨_, _, _, _, _, 0, _, rfl, ⟨rfl, rfl, rfl, rfl⟩, nt_nil _, HB3⟩
 go_wp2_with fail
 refine (rmayd_any (s := s2) (e := e2) h2).mono ?_
 rintro en w2 ⟨rfl, b⟩
 replace BB := bnx BB b
 have G := mv b rfl (J9 a10 a11 a12 a20 a21 a22 h1 h2 r)
 clear b a10 a11 a12 a20 a21 a22 h1 h2 r
 obtain ⟨a10, a11, a12, a20, a21, a22, h1, h2, r⟩ := G
 have q2 : mayD s2 l2 e2 = false := by
  cases q : mayD s2 l2 e2
  ·rfl
  ·exact absurd ⟨q1, q⟩ HD.out
 rw [q2]
 clear q1 q2
 obtain ⟨f0, f1, f2⟩ := r.open
 obtain ⟨z0, z1, z2⟩ := r.held
 go_wp2
 have qq := r.put false none 0 0 0
 have HB3 := below_put3 (g := w.heap.size + 2) BB (by omega) (.bool false) (.slice none 0 0) (.int .i64 0)
 obtain ⟨z0, z1, z2⟩ := qq.held
 exact bodyPost_ret (v := .tuple #[.agg #[.bool false, .slice none 0 0, .int .i64 0], .int .i64 1]) (by simp [results, Tryz.results30, go_sem, z0, z1, z2]) rfl ⟨_, _, _, _, _, 0, _, rfl, ⟨rfl, rfl, rfl, rfl⟩, nt_nil _, HB3⟩

theorem raddd_ok {w : World} {K : Nat} {A1 : Option Addr} {n1 c1 x1 : Nat} {s1 : Bool} {e1 : Int} {A2 : Option Addr} {n2 c2 x2 : Nat} {s2 : Bool} {e2 : Int} (hK : 4194304 ≤ K) (h1 : Nt w A1 n1 c1 x1) (d1 : OkD s1 x1 e1) (h2 : Nt w A2 n2 c2 x2) (d2 : OkD s2 x2 e2) :
  Calls Tryz.prog 30 #[.agg #[.bool s1, .slice A1 n1 c1, .int .i64 e1], .agg #[.bool s2, .slice A2 n2 c2, .int .i64 e2]] w (Tells (NmV K (vz K s1 x1 e1 + vz K s2 x2 e2)) w) := by
 have r1 := okd_ge hK d1
 have r2 := okd_ge hK d2
 by_cases hx : x1 = 0
 ·refine raddd_z1 h1 d1 h2 d2 hx ?_
  rw [hx, vz_zero, Int.zero_add]
  exact nmv_self hK d2
 by_cases hy : x2 = 0
 ·refine raddd_z2 h1 d1 h2 d2 hx hy ?_
  rw [hy, vz_zero, Int.add_zero]
  exact nmv_self hK d1
 obtain ⟨lo, hlo⟩ : ∃ lo, min e1 e2 = lo := ⟨_, rfl⟩
 obtain ⟨i, hi⟩ := Int.eq_ofNat_of_zero_le (show 0 ≤ e1 - lo by omega)
 obtain ⟨j, hj⟩ := Int.eq_ofNat_of_zero_le (show 0 ≤ e2 - lo by omega)
 have hi' : lo + (i : Int) = e1 := by omega
 have hj' : lo + (j : Int) = e2 := by omega
 have hlK : -(K : Int) ≤ lo := by omega
 refine raddd_some h1 d1 h2 d2 hx hy hlo hi hj ?_ ?_ ?_ ?_
 ·exact fun h => far_any hK d1 d2 hx hy hlo hi' hj' (blen_nt h1) (blen_nt h2) h
 ·intro hst k s' m' e' hN
  subst hst
  exact near_add hlK hi' hj' hN
 ·intro hst hle k s' m' e' hN
  exact near_sub hlK hi' hj' hst hle hN
 ·intro hst hle k s' m' e' hN
  rw [Int.add_comm]
  exact near_sub hlK hj' hi' (fun h => hst h.symm) (Nat.le_of_lt hle) hN
theorem raddd_raw {w : World} {K : Nat} {A1 : Option Addr} {n1 c1 : Nat} {l1 : List Nat} {s1 : Bool} {e1 : Int} {A2 : Option Addr} {n2 c2 : Nat} {l2 : List Nat} {s2 : Bool} {e2 : Int} (hK : 4194304 ≤ K) (h1 : Rd w .u64 Go.Proofs.YtdklnpaocaebkaaGreatDoor.W A1 n1 c1 l1) (h2 : Rd w .u64 Go.Proofs.YtdklnpaocaebkaaGreatDoor.W A2 n2 c2 l2) :
  Calls Tryz.prog 30 #[.agg #[.bool s1, .slice A1 n1 c1, .int .i64 e1], .agg #[.bool s2, .slice A2 n2 c2, .int .i64 e2]] w (Tells (addR K s1 l1 e1 s2 l2 e2) w) := by
 unfold addR
 by_cases hd : mayD s1 l1 e1 = true ∧ mayD s2 l2 e2 = true
 ·rw [if_pos hd]
  obtain ⟨hN, hok, _⟩ := rd_okd h1 hd.1
  obtain ⟨hN', hok', _⟩ := rd_okd h2 hd.2
  exact raddd_ok hK hN hok hN' hok'
 ·rw [if_neg hd]
  exact raddd_no h1 h2 hd
theorem negR_may {s : Bool} {l : List Nat} {e : Int} : mayD (negR s l e) l e = mayD s l e ∧ ∀ K, mayD s l e = true → vz K (negR s l e) (val Go.Proofs.YtdklnpaocaebkaaGreatDoor.W l) e = - vz K s (val Go.Proofs.YtdklnpaocaebkaaGreatDoor.W l) e := by
 unfold negR
 by_cases h : mayD s l e = true ∧ val Go.Proofs.YtdklnpaocaebkaaGreatDoor.W l ≠ 0
 ·rw [if_pos h]
  have hne : l ≠ [] := fun h0 => h.2 (by rw [h0]; rfl)
  exact ⟨by unfold mayD; rw [if_neg hne, if_neg hne], fun K _ => vz_not K s _ e⟩
 ·rw [if_neg h]
  refine ⟨rfl, fun K hm => ?_⟩
  have hz : val Go.Proofs.YtdklnpaocaebkaaGreatDoor.W l = 0 := Classical.byContradiction fun h0 => h ⟨hm, h0⟩
  rw [hz, vz_zero]
  rfl
end Go.Proofs.YtdklnpaocaebkaaGreatDoor
namespace Go.Proofs.YtdklnpaocaebkaaGreatDoor

section
variable {S : Sc} {a b c d : Rw} {x y r : Iv} {p : Int}
theorem mulO_ok (ha : a.may = true) (hb : b.may = true) (h : mulO S a b = .ok c) : c.may = true ∧ c.v S.K * ((2 ^ S.K : Nat) : Int) = a.v S.K * b.v S.K := by
 obtain ⟨s, m, e, hp, rfl⟩ := S.of_ok mulR_only mulR_some h
 unfold mulR at hp
 rw [if_pos ⟨ha, hb⟩] at hp
 have r1 := okd_ge S.big (mayD_of a.lt ha).2
 have r2 := okd_ge S.big (mayD_of b.lt hb).2
 have hk := S.big
 exact ⟨Rw.of_may (nm_ok hp), by rw [Rw.of_v, nm_value (by omega) hp]; exact (vz_mul r1.2.2 r2.2.2 (by omega)).symm⟩
theorem oc_cod {P : Int → Bool → Nat → Int → Prop} (ho : Only P) (hs : Some P) : Cod (S.oc P) := fun _ h => (S.of_err ho hs h).1
theorem addO_cod : Cod (addO S a b) := oc_cod addR_only (addR_some S.big a.lt b.lt)
theorem mulO_cod : Cod (mulO S a b) := oc_cod mulR_only mulR_some
theorem quoO_cod {up : Bool} : Cod (quoO S p up a b) := oc_cod quotR_only quotR_some
theorem rooO_cod {up : Bool} : Cod (rooO S a p up) := oc_cod (rootR_only a.lt) rootR_some
theorem rndO_cod {up : Bool} : Cod (rndO S a p up) := oc_cod rndR_only rndR_some
theorem thn_ok {α β : Type} {o : Except Int α} {f : α → Except Int β} {v : β} (h : thn o f = .ok v) : ∃ u, o = .ok u ∧ f u = .ok v := by
 cases o with
 | ok u => exact ⟨u, rfl, h⟩
 | error k => cases h
/-- the greatest of p bits that is not above, the least that is not below -/
def Dn (S : Sc) (p : Int) (A : Int) (c : Rw) : Prop := c.may = true ∧ c.v S.K ≤ A ∧ Fits p.toNat (val W c.l) ∧ ∀ d : Rw, d.may = true → Fits p.toNat (val W d.l) → d.v S.K ≤ A → d.v S.K ≤ c.v S.K
theorem negQ_may : (negQ a).may = a.may := negR_may.1
theorem negQ_v (ha : a.may = true) : (negQ a).v S.K = - a.v S.K := negR_may.2 S.K ha
theorem turn_may : mayI S.K (turnI x) = mayI S.K x := by
 rw [Bool.eq_iff_iff, mayI_iff, mayI_iff]
 show (negQ x.hi).may = true ∧ (negQ x.lo).may = true ∧ (negQ x.hi).v S.K ≤ (negQ x.lo).v S.K ↔ _
 rw [negQ_may, negQ_may]
 constructor
 ·rintro ⟨h1, h2, h3⟩
  rw [negQ_v h1, negQ_v h2] at h3
  exact ⟨h2, h1, by omega⟩
 ·rintro ⟨h1, h2, h3⟩
  rw [negQ_v h1, negQ_v h2]
  exact ⟨h2, h1, by omega⟩
/-- the least and the greatest of some -/
theorem least_or (ha : a.may = true) (hb : b.may = true) : (leastQ S.K a b = a ∨ leastQ S.K a b = b) ∧ (leastQ S.K a b).v S.K ≤ a.v S.K ∧ (leastQ S.K a b).v S.K ≤ b.v S.K := by
 have h := cmpQ_lt (K := S.K) hb ha
 unfold leastQ
 by_cases h1 : cmpQ S.K b a < 0
 ·rw [if_pos h1]; exact ⟨.inr rfl, Int.le_of_lt (h.1 h1), Int.le_refl _⟩
 ·rw [if_neg h1]; exact ⟨.inl rfl, Int.le_refl _, Int.not_lt.1 fun h2 => h1 (h.2 h2)⟩
theorem great_or (ha : a.may = true) (hb : b.may = true) : (greatQ S.K a b = a ∨ greatQ S.K a b = b) ∧ a.v S.K ≤ (greatQ S.K a b).v S.K ∧ b.v S.K ≤ (greatQ S.K a b).v S.K := by
 have h := cmpQ_lt (K := S.K) ha hb
 unfold greatQ
 by_cases h1 : cmpQ S.K a b < 0
 ·rw [if_pos h1]; exact ⟨.inr rfl, Int.le_of_lt (h.1 h1), Int.le_refl _⟩
 ·rw [if_neg h1]; exact ⟨.inl rfl, Int.le_refl _, Int.not_lt.1 fun h2 => h1 (h.2 h2)⟩
theorem fold_least (l : List Rw) : ∀ a : Rw, a.may = true → (∀ z ∈ l, z.may = true) → (l.foldl (leastQ S.K) a ∈ a :: l) ∧ ∀ z ∈ a :: l, (l.foldl (leastQ S.K) a).v S.K ≤ z.v S.K := by
 induction l with
 | nil => exact fun a _ _ => ⟨List.mem_singleton.2 rfl, fun z hz => by rw [List.mem_singleton.1 hz]; exact Int.le_refl _⟩
 | cons b l ih =>
  intro a ha hl
  have hb := hl b (List.mem_cons_self ..)
  obtain ⟨o, v1, v2⟩ := least_or (S := S) ha hb
  have hm : (leastQ S.K a b).may = true := by rcases o with o | o <;> rw [o] <;> assumption
  obtain ⟨i1, i2⟩ := ih (leastQ S.K a b) hm (fun z hz => hl z (List.mem_cons_of_mem _ hz))
  have i3 := i2 _ (List.mem_cons_self ..)
  rw [List.foldl_cons]
  refine ⟨?_, fun z hz => ?_⟩
  ·rcases List.mem_cons.1 i1 with i | i
   ·rw [i]; rcases o with o | o <;> rw [o] <;> simp
   ·exact List.mem_cons_of_mem _ (List.mem_cons_of_mem _ i)
  ·rcases List.mem_cons.1 hz with rfl | hz
   ·exact Int.le_trans i3 v1
   ·rcases List.mem_cons.1 hz with rfl | hz
    ·exact Int.le_trans i3 v2
    ·exact i2 z (List.mem_cons_of_mem _ hz)
theorem fold_great (l : List Rw) : ∀ a : Rw, a.may = true → (∀ z ∈ l, z.may = true) → (l.foldl (greatQ S.K) a ∈ a :: l) ∧ ∀ z ∈ a :: l, z.v S.K ≤ (l.foldl (greatQ S.K) a).v S.K := by
 induction l with
 | nil => exact fun a _ _ => ⟨List.mem_singleton.2 rfl, fun z hz => by rw [List.mem_singleton.1 hz]; exact Int.le_refl _⟩
 | cons b l ih =>
  intro a ha hl
  have hb := hl b (List.mem_cons_self ..)
  obtain ⟨o, v1, v2⟩ := great_or (S := S) ha hb
  have hm : (greatQ S.K a b).may = true := by rcases o with o | o <;> rw [o] <;> assumption
  obtain ⟨i1, i2⟩ := ih (greatQ S.K a b) hm (fun z hz => hl z (List.mem_cons_of_mem _ hz))
  have i3 := i2 _ (List.mem_cons_self ..)
  rw [List.foldl_cons]
  refine ⟨?_, fun z hz => ?_⟩
  ·rcases List.mem_cons.1 i1 with i | i
   ·rw [i]; rcases o with o | o <;> rw [o] <;> simp
   ·exact List.mem_cons_of_mem _ (List.mem_cons_of_mem _ i)
  ·rcases List.mem_cons.1 hz with rfl | hz
   ·exact Int.le_trans v1 i3
   ·rcases List.mem_cons.1 hz with rfl | hz
    ·exact Int.le_trans v2 i3
    ·exact i2 z (List.mem_cons_of_mem _ hz)
theorem lea_of {L : List Rw} (h0 : L ≠ []) (hl : ∀ z ∈ L, z.may = true) : leaL S L ∈ L ∧ ∀ z ∈ L, (leaL S L).v S.K ≤ z.v S.K := by
 cases L with
 | nil => exact absurd rfl h0
 | cons a l => exact fold_least l a (hl a (List.mem_cons_self ..)) (fun z hz => hl z (List.mem_cons_of_mem _ hz))
theorem gre_of {L : List Rw} (h0 : L ≠ []) (hl : ∀ z ∈ L, z.may = true) : greL S L ∈ L ∧ ∀ z ∈ L, z.v S.K ≤ (greL S L).v S.K := by
 cases L with
 | nil => exact absurd rfl h0
 | cons a l => exact fold_great l a (hl a (List.mem_cons_self ..)) (fun z hz => hl z (List.mem_cons_of_mem _ hz))
end
section
variable {S : Sc} {a b c d : Rw} {x y r : Iv} {p : Int}
theorem corO_ok {F : Rw → Rw → Except Int Rw} {L : List Rw} (h : corO F x y = .ok L) : ∃ a b c d, F x.lo y.lo = .ok a ∧ F x.lo y.hi = .ok b ∧ F x.hi y.lo = .ok c ∧ F x.hi y.hi = .ok d ∧ L = [a, b, c, d] := by
 obtain ⟨a, h1, h⟩ := thn_ok h
 obtain ⟨b, h2, h⟩ := thn_ok h
 obtain ⟨c, h3, h⟩ := thn_ok h
 obtain ⟨d, h4, h⟩ := thn_ok h
 cases h
 exact ⟨a, b, c, d, h1, h2, h3, h4, rfl⟩
theorem of_scaled {K : Nat} {A B : Int} (h : A * ((2 ^ K : Nat) : Int) ≤ B * ((2 ^ K : Nat) : Int)) : A ≤ B := Int.le_of_mul_le_mul_right h pos_of_pow
end
end Go.Proofs.YtdklnpaocaebkaaGreatDoor
set_option maxHeartbeats 8000000
set_option maxRecDepth 100000
namespace Go.Proofs.YtdklnpaocaebkaaGreatDoor
open Go.RowKit

def TellQ (o : Except Int Rw) (w : World) (en : Ending) (w' : World) : Prop := ∃ A n c, en = .returned (.tuple #[.agg #[.bool (orw o).s, .slice A n c, .int .i64 (orw o).e], .int .i64 (okc o)]) ∧ Rd w' .u64 Go.Proofs.YtdklnpaocaebkaaGreatDoor.W A n c (orw o).l ∧ Below w.heap.size w w'
def RunQ (o : Except Int Rw) (w : World) (en : Ending) (w' : World) : Prop := (∃ v, o = .ok v ∧ GivQ v w en w') ∨ (∃ k, o = .error k ∧ k ≠ 0 ∧ Faults k w en w')
def RunI (o : Except Int Iv) (w : World) (en : Ending) (w' : World) : Prop := (∃ v, o = .ok v ∧ GivI v w en w') ∨ (∃ k, o = .error k ∧ k ≠ 0 ∧ Faults k w en w')
def TellO (o : Except Int Iv) : World → Ending → World → Prop := TellI (okc o) (oiv o)
section
variable {f : FuncId} {args : Array Value} {w : World}
theorem tellq_to {o o' : Except Int Rw} (h : o = o') (hc : Calls Tryz.prog f args w (TellQ o' w)) : Calls Tryz.prog f args w (TellQ o w) := by subst h; exact hc
theorem runq_to {o o' : Except Int Rw} (h : o = o') (hc : Calls Tryz.prog f args w (RunQ o' w)) : Calls Tryz.prog f args w (RunQ o w) := by subst h; exact hc
theorem runi_to {o o' : Except Int Iv} (h : o = o') (hc : Calls Tryz.prog f args w (RunI o' w)) : Calls Tryz.prog f args w (RunI o w) := by subst h; exact hc
theorem tello_to {o o' : Except Int Iv} (h : o = o') (hc : Calls Tryz.prog f args w (TellO o' w)) : Calls Tryz.prog f args w (TellO o w) := by subst h; exact hc
theorem tells_oc (S : Sc) {P : Int → Bool → Nat → Int → Prop} (ho : Only P) (hz : Null P) (h : Calls Tryz.prog f args w (Tells P w)) : Calls Tryz.prog f args w (TellQ (S.oc P) w) := h.mono fun en w' => by
 rintro ⟨k, s, A, n, c, m, x, rfl, hp, hN, b⟩
 have h2 := S.is P k s m x ho hp
 by_cases hk : k = 0
 ·subst hk
  rw [h2.1 rfl]
  exact ⟨A, n, c, rfl, hN.rd, b⟩
 ·rw [h2.2 hk]
  obtain ⟨rfl, rfl, rfl⟩ := hz _ _ _ _ hp hk
  have h3 := hN.rd
  rw [dig_zero] at h3
  exact ⟨A, n, c, rfl, h3, b⟩
end

theorem dadd_tell (S : Sc) {w : World} {a b : Rw} {A1 : Option Addr} {n1 c1 : Nat} {A2 : Option Addr} {n2 c2 : Nat} (hT : Tab w) (h1 : Rd w .u64 Go.Proofs.YtdklnpaocaebkaaGreatDoor.W A1 n1 c1 a.l) (h2 : Rd w .u64 Go.Proofs.YtdklnpaocaebkaaGreatDoor.W A2 n2 c2 b.l) : Calls Tryz.prog 68 #[.agg #[.bool a.s, .slice A1 n1 c1, .int .i64 a.e], .agg #[.bool b.s, .slice A2 n2 c2, .int .i64 b.e]] w (TellQ (addO S a b) w) := tells_oc S addR_only addR_null (dadd_raw S.big hT h1 h2)
theorem dmul_tell (S : Sc) {w : World} {a b : Rw} {A1 : Option Addr} {n1 c1 : Nat} {A2 : Option Addr} {n2 c2 : Nat} (hT : Tab w) (h1 : Rd w .u64 Go.Proofs.YtdklnpaocaebkaaGreatDoor.W A1 n1 c1 a.l) (h2 : Rd w .u64 Go.Proofs.YtdklnpaocaebkaaGreatDoor.W A2 n2 c2 b.l) : Calls Tryz.prog 83 #[.agg #[.bool a.s, .slice A1 n1 c1, .int .i64 a.e], .agg #[.bool b.s, .slice A2 n2 c2, .int .i64 b.e]] w (TellQ (mulO S a b) w) := tells_oc S mulR_only mulR_null (dmul_raw hT h1 h2)
theorem prec_cases (p : Int) (t : Bool) : ((1 ≤ p ∧ p ≤ 2000) ∧ t = true) ∨ (p < 1 ∨ 2000 < p ∨ t = false) := by
 cases t
 ·exact .inr (.inr (.inr rfl))
 ·by_cases h : 1 ≤ p ∧ p ≤ 2000
  ·exact .inl ⟨h, rfl⟩
  ·exact .inr (by omega)
theorem down_tell (S : Sc) {p : Int} {w : World} {a : Rw} {A1 : Option Addr} {n1 c1 : Nat} (hT : Tab w) (h1 : Rd w .u64 Go.Proofs.YtdklnpaocaebkaaGreatDoor.W A1 n1 c1 a.l) : Calls Tryz.prog 107 #[.agg #[.bool a.s, .slice A1 n1 c1, .int .i64 a.e], .int .i64 p] w (TellQ (rndO S a p false) w) := by
 refine tells_oc S rndR_only rndR_null ?_
 unfold rndR
 rcases prec_cases p a.may with h | h
 ·rw [if_pos h]
  obtain ⟨n, rfl⟩ := Int.eq_ofNat_of_zero_le (show 0 ≤ p by omega)
  obtain ⟨hN, hO, _⟩ := rd_okd h1 h.2
  exact rdown_ok hT hN hO (by omega) (by omega)
 ·rw [if_neg (by rintro ⟨h2, h3⟩; rw [h3] at h; rcases h with h | h | h; omega; omega; cases h)]
  exact rdown_no hT h1 h
theorem up_tell (S : Sc) {p : Int} {w : World} {a : Rw} {A1 : Option Addr} {n1 c1 : Nat} (hT : Tab w) (h1 : Rd w .u64 Go.Proofs.YtdklnpaocaebkaaGreatDoor.W A1 n1 c1 a.l) : Calls Tryz.prog 112 #[.agg #[.bool a.s, .slice A1 n1 c1, .int .i64 a.e], .int .i64 p] w (TellQ (rndO S a p true) w) := by
 refine tells_oc S rndR_only rndR_null ?_
 unfold rndR
 rcases prec_cases p a.may with h | h
 ·rw [if_pos h]
  obtain ⟨n, rfl⟩ := Int.eq_ofNat_of_zero_le (show 0 ≤ p by omega)
  obtain ⟨hN, hO, _⟩ := rd_okd h1 h.2
  exact rup_ok hT hN hO (by omega) (by omega)
 ·rw [if_neg (by rintro ⟨h2, h3⟩; rw [h3] at h; rcases h with h | h | h; omega; omega; cases h)]
  exact rup_no hT h1 h
theorem quot_tell (S : Sc) {p : Int} {up : Bool} {w : World} {a b : Rw} {A1 : Option Addr} {n1 c1 : Nat} {A2 : Option Addr} {n2 c2 : Nat} (hT : Tab w) (h1 : Rd w .u64 Go.Proofs.YtdklnpaocaebkaaGreatDoor.W A1 n1 c1 a.l) (h2 : Rd w .u64 Go.Proofs.YtdklnpaocaebkaaGreatDoor.W A2 n2 c2 b.l) : Calls Tryz.prog 98 #[.agg #[.bool a.s, .slice A1 n1 c1, .int .i64 a.e], .agg #[.bool b.s, .slice A2 n2 c2, .int .i64 b.e], .int .i64 p, .bool up] w (TellQ (quoO S p up a b) w) := tells_oc S quotR_only quotR_null (dquot_raw hT h1 h2)
theorem root_tell (S : Sc) {p : Int} {up : Bool} {w : World} {a : Rw} {A1 : Option Addr} {n1 c1 : Nat} (hT : Tab w) (h1 : Rd w .u64 Go.Proofs.YtdklnpaocaebkaaGreatDoor.W A1 n1 c1 a.l) : Calls Tryz.prog 99 #[.agg #[.bool a.s, .slice A1 n1 c1, .int .i64 a.e], .int .i64 p, .bool up] w (TellQ (rooO S a p up) w) := tells_oc S (rootR_only a.lt) rootR_null (droot_raw hT h1)

theorem must_rd {A1 : Option Addr} {n1 c1 : Nat} {a : Rw} {w : World} (h1 : Rd w .u64 Go.Proofs.YtdklnpaocaebkaaGreatDoor.W A1 n1 c1 a.l) :
  Calls Tryz.prog 67 #[.agg #[.bool a.s, .slice A1 n1 c1, .int .i64 a.e], .int .i64 0] w (GivQ a w) := by
 have BB := two_below w (.cells #[.bool a.s, .slice A1 n1 c1, .int .i64 a.e] 24) (.cells #[.bool a.s, .slice A1 n1 c1, .int .i64 a.e] 24)
 have h2 := h1.below BB
 go_enter Tryz.func67, Tryz.ntmps67
 go_wp2_with fail
 refine check_ok.mono ?_
 rintro e' w' ⟨rfl, rfl⟩
 go_wp2
 exact bodyPost_ret (v := .agg #[.bool a.s, .slice A1 n1 c1, .int .i64 a.e]) (by simp [results, Tryz.results67, go_sem]) rfl ⟨_, _, _, rfl, h2, BB⟩
theorem must_run {o : Except Int Rw} {w : World} {A1 : Option Addr} {n1 c1 : Nat} (hc : Cod o) (h1 : Rd w .u64 Go.Proofs.YtdklnpaocaebkaaGreatDoor.W A1 n1 c1 (orw o).l) :
  Calls Tryz.prog 67 #[.agg #[.bool (orw o).s, .slice A1 n1 c1, .int .i64 (orw o).e], .int .i64 (okc o)] w (RunQ o w) := by
 cases o with
 | ok v => exact (must_rd (a := v) h1).mono fun en w' h => .inl ⟨v, rfl, h⟩
 | error k => exact (must_bad (k := k) (hc k rfl)).mono fun en w' h => .inr ⟨k, rfl, hc k rfl, h⟩

theorem down_run (S : Sc) {p : Int} {w : World} {a : Rw} {A1 : Option Addr} {n1 c1 : Nat} (hT : Tab w) (h1 : Rd w .u64 Go.Proofs.YtdklnpaocaebkaaGreatDoor.W A1 n1 c1 a.l) :
  Calls Tryz.prog 66 #[.agg #[.bool a.s, .slice A1 n1 c1, .int .i64 a.e], .int .i64 p] w (RunQ (rndO S a p false) w) := by
 obtain ⟨q, hq⟩ : ∃ q : Except Int Rw, q = rndO S a p false := ⟨_, rfl⟩
 rw [← hq]
 have HQ := Lib.hid hq
 clear hq
 have BB := two_below w (.cells #[.bool a.s, .slice A1 n1 c1, .int .i64 a.e] 24) (.cells #[.bool false, .slice none 0 0, .int .i64 0] 24)
 obtain ⟨a10, a11, a12⟩ := ((Box.new w a.s A1 n1 c1 a.e).alloc (.cells #[.bool false, .slice none 0 0, .int .i64 0] 24)).held
 have r := box_one w (.cells #[.bool a.s, .slice A1 n1 c1, .int .i64 a.e] 24) false none 0 0 0
 have G := mv BB rfl <| And.intro hT <| h1
 clear hT h1
 obtain ⟨hT, h1⟩ := G
 go_enter Tryz.func66, Tryz.ntmps66
 obtain ⟨o1, ho1⟩ : ∃ o, o = rndO S a p false := ⟨_, rfl⟩
 have HO1 := Lib.hid ho1
 clear ho1
 have HC1 : Cod o1 := by rw [HO1.out]; exact rndO_cod
 go_wp2_with fail
 refine (tellq_to HO1.out (down_tell S hT h1)).mono ?_
 rintro en w1 ⟨A3, n3, c3, rfl, h3, b⟩
 replace BB := bnx BB b
 have G := mv b rfl (J3 hT h1 r)
 clear b hT h1 r
 obtain ⟨hT, h1, r⟩ := G
 go_wp2_with fail
 refine (must_run HC1 h3).mono ?_
 rintro en w2 (⟨v1, hv1, A5, n5, c5, rfl, h5, b⟩ | ⟨kk, hk, hk0, rfl, b⟩)
 rotate_left
 ·replace BB := bnx BB b
  clear b
  have HKK := Lib.hid (And.intro hk hk0)
  clear hk hk0
  go_wp2
  exact ⟨rfl, .inr ⟨kk, (HQ.out.trans (by simp only [← HO1.out, HKK.out.1])), HKK.out.2, rfl, BB⟩⟩
 have HV1 := Lib.hid hv1
 clear hv1
 clear h3
 replace BB := bnx BB b
 have G := mv b rfl (J3 hT h1 r)
 clear b hT h1 r
 obtain ⟨hT, h1, r⟩ := G
 have HL : q = .ok v1 := by rw [HQ.out, ← HO1.out, HV1.out]
 obtain ⟨f0, f1, f2⟩ := r.open
 obtain ⟨z0, z1, z2⟩ := r.held
 go_wp2
 have qq := r.put v1.s A5 n5 c5 v1.e
 have hN := h5.put3 r (.bool v1.s) (.slice A5 n5 c5) (.int .i64 v1.e)
 have HB3 := below_put3 (g := w.heap.size + 1) BB (by omega) (.bool v1.s) (.slice A5 n5 c5) (.int .i64 v1.e)
 obtain ⟨z0, z1, z2⟩ := qq.held
 exact bodyPost_ret (v := .agg #[.bool v1.s, .slice A5 n5 c5, .int .i64 v1.e]) (by simp [results, Tryz.results66, go_sem, z0, z1, z2]) rfl (.inl ⟨v1, HL, _, _, _, rfl, hN, HB3⟩)

theorem up_run (S : Sc) {p : Int} {w : World} {a : Rw} {A1 : Option Addr} {n1 c1 : Nat} (hT : Tab w) (h1 : Rd w .u64 Go.Proofs.YtdklnpaocaebkaaGreatDoor.W A1 n1 c1 a.l) :
  Calls Tryz.prog 69 #[.agg #[.bool a.s, .slice A1 n1 c1, .int .i64 a.e], .int .i64 p] w (RunQ (rndO S a p true) w) := by
 obtain ⟨q, hq⟩ : ∃ q : Except Int Rw, q = rndO S a p true := ⟨_, rfl⟩
 rw [← hq]
 have HQ := Lib.hid hq
 clear hq
 have BB := two_below w (.cells #[.bool a.s, .slice A1 n1 c1, .int .i64 a.e] 24) (.cells #[.bool false, .slice none 0 0, .int .i64 0] 24)
 obtain ⟨a10, a11, a12⟩ := ((Box.new w a.s A1 n1 c1 a.e).alloc (.cells #[.bool false, .slice none 0 0, .int .i64 0] 24)).held
 have r := box_one w (.cells #[.bool a.s, .slice A1 n1 c1, .int .i64 a.e] 24) false none 0 0 0
 have G := mv BB rfl <| And.intro hT <| h1
 clear hT h1
 obtain ⟨hT, h1⟩ := G
 go_enter Tryz.func69, Tryz.ntmps69
 obtain ⟨o1, ho1⟩ : ∃ o, o = rndO S a p true := ⟨_, rfl⟩
 have HO1 := Lib.hid ho1
 clear ho1
 have HC1 : Cod o1 := by rw [HO1.out]; exact rndO_cod
 go_wp2_with fail
 refine (tellq_to HO1.out (up_tell S hT h1)).mono ?_
 rintro en w1 ⟨A3, n3, c3, rfl, h3, b⟩
 replace BB := bnx BB b
 have G := mv b rfl (J3 hT h1 r)
 clear b hT h1 r
 obtain ⟨hT, h1, r⟩ := G
 go_wp2_with fail
 refine (must_run HC1 h3).mono ?_
 rintro en w2 (⟨v1, hv1, A5, n5, c5, rfl, h5, b⟩ | ⟨kk, hk, hk0, rfl, b⟩)
 rotate_left
 ·replace BB := bnx BB b
  clear b
  have HKK := Lib.hid (And.intro hk hk0)
  clear hk hk0
  go_wp2
  exact ⟨rfl, .inr ⟨kk, (HQ.out.trans (by simp only [← HO1.out, HKK.out.1])), HKK.out.2, rfl, BB⟩⟩
 have HV1 := Lib.hid hv1
 clear hv1
 clear h3
 replace BB := bnx BB b
 have G := mv b rfl (J3 hT h1 r)
 clear b hT h1 r
 obtain ⟨hT, h1, r⟩ := G
 have HL : q = .ok v1 := by rw [HQ.out, ← HO1.out, HV1.out]
 obtain ⟨f0, f1, f2⟩ := r.open
 obtain ⟨z0, z1, z2⟩ := r.held
 go_wp2
 have qq := r.put v1.s A5 n5 c5 v1.e
 have hN := h5.put3 r (.bool v1.s) (.slice A5 n5 c5) (.int .i64 v1.e)
 have HB3 := below_put3 (g := w.heap.size + 1) BB (by omega) (.bool v1.s) (.slice A5 n5 c5) (.int .i64 v1.e)
 obtain ⟨z0, z1, z2⟩ := qq.held
 exact bodyPost_ret (v := .agg #[.bool v1.s, .slice A5 n5 c5, .int .i64 v1.e]) (by simp [results, Tryz.results69, go_sem, z0, z1, z2]) rfl (.inl ⟨v1, HL, _, _, _, rfl, hN, HB3⟩)

theorem product_run (S : Sc) {w : World} {a b : Rw} {A1 : Option Addr} {n1 c1 : Nat} {A2 : Option Addr} {n2 c2 : Nat} (hT : Tab w) (h1 : Rd w .u64 Go.Proofs.YtdklnpaocaebkaaGreatDoor.W A1 n1 c1 a.l) (h2 : Rd w .u64 Go.Proofs.YtdklnpaocaebkaaGreatDoor.W A2 n2 c2 b.l) :
  Calls Tryz.prog 37 #[.agg #[.bool a.s, .slice A1 n1 c1, .int .i64 a.e], .agg #[.bool b.s, .slice A2 n2 c2, .int .i64 b.e]] w (RunQ (mulO S a b) w) := by
 obtain ⟨q, hq⟩ : ∃ q : Except Int Rw, q = mulO S a b := ⟨_, rfl⟩
 rw [← hq]
 have HQ := Lib.hid hq
 clear hq
 obtain ⟨BB, xa, xb, r⟩ := three_dbl w (s1 := a.s) (A1 := A1) (n1 := n1) (c1 := c1) (e1 := a.e) (s2 := b.s) (A2 := A2) (n2 := n2) (c2 := c2) (e2 := b.e)
 obtain ⟨a10, a11, a12⟩ := xa.held
 obtain ⟨a20, a21, a22⟩ := xb.held
 have G := mv BB rfl (J3 hT h1 h2)
 clear hT h1 h2
 obtain ⟨hT, h1, h2⟩ := G
 go_enter Tryz.func37, Tryz.ntmps37
 obtain ⟨o1, ho1⟩ : ∃ o, o = mulO S a b := ⟨_, rfl⟩
 have HO1 := Lib.hid ho1
 clear ho1
 have HC1 : Cod o1 := by rw [HO1.out]; exact mulO_cod
 go_wp2_with fail
 refine (tellq_to HO1.out (dmul_tell S hT h1 h2)).mono ?_
 rintro en w1 ⟨A3, n3, c3, rfl, h3, b⟩
 replace BB := bnx BB b
 have G := mv b rfl (J4 hT h1 h2 r)
 clear b hT h1 h2 r
 obtain ⟨hT, h1, h2, r⟩ := G
 go_wp2_with fail
 refine (must_run HC1 h3).mono ?_
 rintro en w2 (⟨v1, hv1, A5, n5, c5, rfl, h5, b⟩ | ⟨kk, hk, hk0, rfl, b⟩)
 rotate_left
 ·replace BB := bnx BB b
  clear b
  have HKK := Lib.hid (And.intro hk hk0)
  clear hk hk0
  go_wp2
  exact ⟨rfl, .inr ⟨kk, (HQ.out.trans (by simp only [← HO1.out, HKK.out.1])), HKK.out.2, rfl, BB⟩⟩
 have HV1 := Lib.hid hv1
 clear hv1
 clear h3
 replace BB := bnx BB b
 have G := mv b rfl (J4 hT h1 h2 r)
 clear b hT h1 h2 r
 obtain ⟨hT, h1, h2, r⟩ := G
 have HL : q = .ok v1 := by rw [HQ.out, ← HO1.out, HV1.out]
 obtain ⟨f0, f1, f2⟩ := r.open
 obtain ⟨z0, z1, z2⟩ := r.held
 go_wp2
 have qq := r.put v1.s A5 n5 c5 v1.e
 have hN := h5.put3 r (.bool v1.s) (.slice A5 n5 c5) (.int .i64 v1.e)
 have HB3 := below_put3 (g := w.heap.size + 2) BB (by omega) (.bool v1.s) (.slice A5 n5 c5) (.int .i64 v1.e)
 obtain ⟨z0, z1, z2⟩ := qq.held
 exact bodyPost_ret (v := .agg #[.bool v1.s, .slice A5 n5 c5, .int .i64 v1.e]) (by simp [results, Tryz.results37, go_sem, z0, z1, z2]) rfl (.inl ⟨v1, HL, _, _, _, rfl, hN, HB3⟩)

theorem quotient1_run (S : Sc) {p : Int} {up : Bool} {g g2 : Nat} {w : World} {a b : Rw} {A1 : Option Addr} {n1 c1 : Nat} {A2 : Option Addr} {n2 c2 : Nat} (hT : Tab w) (h1 : Rd w .u64 Go.Proofs.YtdklnpaocaebkaaGreatDoor.W A1 n1 c1 a.l) (h2 : Rd w .u64 Go.Proofs.YtdklnpaocaebkaaGreatDoor.W A2 n2 c2 b.l) (gp : Cel w g p) (gu : w.cell? ⟨g2, 0, none⟩ = some (.bool up)) :
  Calls Tryz.prog 97 #[.agg #[.bool a.s, .slice A1 n1 c1, .int .i64 a.e], .agg #[.bool b.s, .slice A2 n2 c2, .int .i64 b.e], .pointer (some ⟨g, 0, none⟩), .pointer (some ⟨g2, 0, none⟩)] w (RunQ (quoO S p up a b) w) := by
 obtain ⟨q, hq⟩ : ∃ q : Except Int Rw, q = quoO S p up a b := ⟨_, rfl⟩
 rw [← hq]
 have HQ := Lib.hid hq
 clear hq
 obtain ⟨BB, xa, xb, r⟩ := three_dbl w (s1 := a.s) (A1 := A1) (n1 := n1) (c1 := c1) (e1 := a.e) (s2 := b.s) (A2 := A2) (n2 := n2) (c2 := c2) (e2 := b.e)
 obtain ⟨a10, a11, a12⟩ := xa.held
 obtain ⟨a20, a21, a22⟩ := xb.held
 have lp := gp.gl
 have lu := World.block_lt_of_cell? w _ gu
 have G := mv BB rfl (J5 hT h1 h2 gp gu)
 clear hT h1 h2 gp gu
 obtain ⟨hT, h1, h2, gp, gu⟩ := G
 have p0 := gp.c0
 go_enter Tryz.func97, Tryz.ntmps97
 obtain ⟨o1, ho1⟩ : ∃ o, o = quoO S p up a b := ⟨_, rfl⟩
 have HO1 := Lib.hid ho1
 clear ho1
 have HC1 : Cod o1 := by rw [HO1.out]; exact quoO_cod
 go_wp2_with fail
 refine (tellq_to HO1.out (quot_tell S hT h1 h2)).mono ?_
 rintro en w1 ⟨A3, n3, c3, rfl, h3, b⟩
 replace BB := bnx BB b
 have G := mv b rfl (J6 hT h1 h2 gp gu r)
 clear b hT h1 h2 gp gu r
 obtain ⟨hT, h1, h2, gp, gu, r⟩ := G
 go_wp2_with fail
 refine (must_run HC1 h3).mono ?_
 rintro en w2 (⟨v1, hv1, A5, n5, c5, rfl, h5, b⟩ | ⟨kk, hk, hk0, rfl, b⟩)
 rotate_left
 ·replace BB := bnx BB b
  clear b
  have HKK := Lib.hid (And.intro hk hk0)
  clear hk hk0
  go_wp2
  exact ⟨rfl, .inr ⟨kk, (HQ.out.trans (by simp only [← HO1.out, HKK.out.1])), HKK.out.2, rfl, BB⟩⟩
 have HV1 := Lib.hid hv1
 clear hv1
 clear h3
 replace BB := bnx BB b
 have G := mv b rfl (J6 hT h1 h2 gp gu r)
 clear b hT h1 h2 gp gu r
 obtain ⟨hT, h1, h2, gp, gu, r⟩ := G
 have HL : q = .ok v1 := by rw [HQ.out, ← HO1.out, HV1.out]
 obtain ⟨f0, f1, f2⟩ := r.open
 obtain ⟨z0, z1, z2⟩ := r.held
 go_wp2
 have qq := r.put v1.s A5 n5 c5 v1.e
 have hN := h5.put3 r (.bool v1.s) (.slice A5 n5 c5) (.int .i64 v1.e)
 have HB3 := below_put3 (g := w.heap.size + 2) BB (by omega) (.bool v1.s) (.slice A5 n5 c5) (.int .i64 v1.e)
 obtain ⟨z0, z1, z2⟩ := qq.held
 exact bodyPost_ret (v := .agg #[.bool v1.s, .slice A5 n5 c5, .int .i64 v1.e]) (by simp [results, Tryz.results97, go_sem, z0, z1, z2]) rfl (.inl ⟨v1, HL, _, _, _, rfl, hN, HB3⟩)

end Go.Proofs.YtdklnpaocaebkaaGreatDoor
