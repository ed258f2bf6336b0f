/-
 Contracts of the reference's dyadic numbers, at this translation: what may be, what is made of a natural and an exponent, whether two are the same. Condition: the slices read as limbs, or as digits of sixteen bits.
-/
import Derived.Test.YtdhdebapjlcjdaaGreatDoorURa
set_option maxHeartbeats 8000000
set_option maxRecDepth 100000
namespace Go.Proofs.YtdhdebapjlcjdaaGreatDoor
open Go.RowKit

/-- a block that holds the three parts of a reference's number -/
structure Dbx (w : World) (g : Nat) (s : Bool) (A : Option Addr) (n c : Nat) (e : Int) : Prop where
 blk : w.heap[g]? = some (.cells #[.bool s, .slice A n c, .int .i64 e] 58 (0, 0))
section
variable {w w' : World} {g : Nat} {s : Bool} {A : Option Addr} {n c : Nat} {e : Int}
theorem Dbx.gl (h : Dbx w g s A n c e) : g < w.heap.size := by
 rcases Nat.lt_or_ge g w.heap.size with hlt | hge
 ·exact hlt
 ·have := h.blk; rw [Array.getElem?_eq_none hge] at this; cases this
theorem Dbx.at (h : Dbx w g s A n c e) (i : Nat) : w.cell? ⟨g, i, none⟩ = #[Value.bool s, .slice A n c, .int .i64 e][i]? := cell_of_row w g i _ 58 (0, 0) h.blk
theorem Dbx.c0 (h : Dbx w g s A n c e) : w.cell? ⟨g, 0, none⟩ = some (.bool s) := h.at 0
theorem Dbx.c1 (h : Dbx w g s A n c e) : w.cell? ⟨g, 1, none⟩ = some (.slice A n c) := h.at 1
theorem Dbx.c2 (h : Dbx w g s A n c e) : w.cell? ⟨g, 2, none⟩ = some (.int .i64 e) := h.at 2
theorem Dbx.frozen (h : Dbx w g s A n c e) (i : Nat) : w.frozen? ⟨g, i, none⟩ = false := by
 have := h.blk
 simp [World.frozen?, this]
theorem Dbx.below {b0 : Nat} (h : Dbx w g s A n c e) (hb : Below b0 w w') (hg : g < b0) : Dbx w' g s A n c e := ⟨(hb.block g hg).trans h.blk⟩
theorem Dbx.drew (h : Dbx w g s A n c e) : Dbx w.drew g s A n c e := ⟨h.blk⟩
theorem Dbx.new (w : World) (s : Bool) (A : Option Addr) (n c : Nat) (e : Int) : Dbx (w.alloc (.cells #[.bool s, .slice A n c, .int .i64 e] 58)) w.heap.size s A n c e := ⟨heap_alloc_new w _⟩
theorem Dbx.alloc (h : Dbx w g s A n c e) (o : Obj) : Dbx (w.alloc o) g s A n c e := h.below (below_alloc w o) h.gl
/-- no limb lies in such a block -/
theorem Dbx.no (h : Dbx w g s A n c e) (i x : Nat) : w.cell? ⟨g, i, none⟩ ≠ some (.int .u64 (x : Int)) := by
 rw [h.at i]
 match i with
 | 0 => simp
 | 1 => simp
 | 2 => simp
 | i + 3 => simp
/-- the three parts stored anew -/
theorem Dbx.put (h : Dbx w g s A n c e) (s' : Bool) (A' : Option Addr) (n' c' : Nat) (e' : Int) : Dbx (((w.setCell ⟨g, 0, none⟩ (.bool s')).setCell ⟨g, 1, none⟩ (.slice A' n' c')).setCell ⟨g, 2, none⟩ (.int .i64 e')) g s' A' n' c' e' := by
 have := h.blk
 refine ⟨?_⟩
 simp [World.setCell, Array.getElem?_modify, this]
end
theorem Dbx.held {w : World} {g : Nat} {s : Bool} {A : Option Addr} {n c : Nat} {e : Int} (h : Dbx w g s A n c e) : w.cell? ⟨g, 0, none⟩ = some (.bool s) ∧ w.cell? ⟨g, 1, none⟩ = some (.slice A n c) ∧ w.cell? ⟨g, 2, none⟩ = some (.int .i64 e) := ⟨h.c0, h.c1, h.c2⟩
theorem Dbx.open {w : World} {g : Nat} {s : Bool} {A : Option Addr} {n c : Nat} {e : Int} (h : Dbx w g s A n c e) : w.frozen? ⟨g, 0, none⟩ = false ∧ w.frozen? ⟨g, 1, none⟩ = false ∧ w.frozen? ⟨g, 2, none⟩ = false := ⟨h.frozen 0, h.frozen 1, h.frozen 2⟩
theorem Dbx.next {w X w2 : World} {g : Nat} {s : Bool} {A : Option Addr} {n c : Nat} {e : Int} (h : Dbx w g s A n c e) (b : Below X.heap.size X w2) (he : X.heap = w.heap) : Dbx w2 g s A n c e :=
 ⟨(b.block g (by rw [he]; exact h.gl)).trans (by rw [he]; exact h.blk)⟩
instance {w w2 : World} {g : Nat} {s : Bool} {A : Option Addr} {n c : Nat} {e : Int} : Moves w w2 (Dbx w g s A n c e) (Dbx w2 g s A n c e) := ⟨fun _ b e h => h.next b e⟩
theorem box_one' (w : World) (o : Obj) (s : Bool) (A : Option Addr) (n c : Nat) (e : Int) : Box ((w.alloc o).alloc (.cells #[.bool s, .slice A n c, .int .i64 e] 25)) (w.heap.size + 1) s A n c e := by
 have := Box.new (w.alloc o) s A n c e
 simpa using this
/-- digits are no limbs: what is stored into such a block does not touch them -/
theorem Dbx.no32 {w : World} {g : Nat} {s : Bool} {A : Option Addr} {n c : Nat} {e : Int} (h : Dbx w g s A n c e) (i x : Nat) : w.cell? ⟨g, i, none⟩ ≠ some (.int .u32 (x : Int)) := by
 rw [h.at i]
 match i with
 | 0 => simp
 | 1 => simp
 | 2 => simp
 | i + 3 => simp
theorem Rd.off32 {w : World} {g : Nat} {A : Option Addr} {n c : Nat} {l : List Nat} (h : Rd w .u32 H A n c l) (hg : ∀ i x : Nat, w.cell? ⟨g, i, none⟩ ≠ some (.int .u32 (x : Int))) : n ≠ 0 → ∀ a, A = some a → a.block ≠ g := by
 intro hn a ha
 obtain ⟨b, o, e, hb, hc⟩ := h.at_ hn
 rw [e] at ha
 injection ha with ha
 subst ha
 show b ≠ g
 intro hbg
 subst hbg
 exact hg _ _ (hc 0 (by omega))
theorem Dg.put3 {w : World} {g : Nat} {A : Option Addr} {n c x : Nat} {s0 : Bool} {A0 : Option Addr} {n0 c0 : Nat} {e0 : Int} (h : Dg w A n c x) (hb : Dbx w g s0 A0 n0 c0 e0) (u0 u1 u2 : Value) : Dg (((w.setCell ⟨g, 0, none⟩ u0).setCell ⟨g, 1, none⟩ u1).setCell ⟨g, 2, none⟩ u2) A n c x := by
 have hne := Rd.off32 h hb.no32
 exact ((Rd.grown (Rd.grown (Rd.grown h (grownBy_set _ _ _ _) hne) (grownBy_set _ _ _ _) hne) (grownBy_set _ _ _ _) hne))

theorem Dg.heap32 {w w2 : World} {A : Option Addr} {n c x : Nat} (h : Dg w A n c x) (e : w2.heap = w.heap) : Dg w2 A n c x := Rd.next' h e

theorem HW_pow (k : Nat) : H ^ (4 * k) = W ^ k := by rw [H_pow, W_pow, ← Nat.pow_mul, ← Nat.pow_mul, ← Nat.mul_assoc]
theorem H256 : H ^ 256 = W ^ 64 := HW_pow 64
theorem great_any {w : World} {A : Option Addr} {n c x : Nat} (h : Dg w A n c x) : Calls Tryz.prog 104 #[.slice A n c] w fun en w' => en = .returned (.bool (decide (W ^ 64 ≤ x))) ∧ w = w' := by
 have hcap := Rd.cap h
 have hmax := Rd.max h
 have hlen := Rd.len h
 have hx : W ^ 64 ≤ x ↔ 256 < n := by
  have h1 := len_dig H_two x 256
  rw [hlen] at h1
  rw [H256] at h1
  omega
 by_cases hn : 256 < n
 ·rw [decide_eq_true (hx.2 hn)]
  have d1 : decide ((256 : Int) < (n : Int)) = true := decide_eq_true (by omega)
  clear hx hlen
  go_enter Tryz.func104, Tryz.ntmps104
  go_wp2
  go_ret
  exact ⟨rfl, rfl⟩
 ·rw [decide_eq_false (fun h3 => hn (hx.1 h3))]
  have d1 : decide ((256 : Int) < (n : Int)) = false := decide_eq_false (by omega)
  clear hx hlen
  go_enter Tryz.func104, Tryz.ntmps104
  go_wp2
  go_ret
  exact ⟨rfl, rfl⟩

theorem rnorm_any {w : World} {A : Option Addr} {n c x : Nat} {s : Bool} {e : Int} (h : Dg w A n c x) (hb : blen x ≤ 5000) (hn : n ≤ 10000) :
  Calls Tryz.prog 66 #[.agg #[.bool s, .slice A n c, .int .i64 e]] w (Tells (Nm s x e) w) := by
 have BB := two_below w (.cells #[.bool s, .slice A n c, .int .i64 e] 58) (.cells #[.bool false, .slice none 0 0, .int .i64 0] 25)
 obtain ⟨a0, a1, a2⟩ := ((Dbx.new w s A n c e).alloc (.cells #[.bool false, .slice none 0 0, .int .i64 0] 25)).held
 have r := box_one' w (.cells #[.bool s, .slice A n c, .int .i64 e] 58) false none 0 0 0
 replace h := mv BB rfl h
 have hlen := Rd.len h
 have hx0 : n = 0 ↔ x = 0 := by rw [← hlen]; exact dig_len_zero H_two
 have hcap := Rd.cap h
 have hmax := Rd.max h
 by_cases h0 : n = 0
 ·have hx := hx0.1 h0
  subst h0 hx
  clear hx0 hlen
  go_enter Tryz.func66, Tryz.ntmps66
  go_wp2
  exact bodyPost_ret (v := .tuple #[.agg #[.bool false, .slice none 0 0, .int .i64 0], .int .i64 0]) (by simp [results, Tryz.results66, go_sem]) rfl ⟨0, false, none, 0, 0, 0, 0, rfl, .inl ⟨rfl, rfl, rfl, rfl, rfl⟩, nt_nil _, BB⟩
 have hx : x ≠ 0 := fun h1 => h0 (hx0.2 h1)
 have f00 : ((n : Int) == 0) = false := by simp [h0]
 obtain ⟨k, q, hkq⟩ := low_has hx
 have hkb : k ≤ 5000 := by
  have := blen_shift (x := 2 * q + 1) (k := k) (by omega)
  rw [Nat.mul_comm, ← hkq] at this
  omega
 have hdiv : x / 2 ^ k = 2 * q + 1 := by rw [hkq, Nat.mul_div_cancel_left _ (pow_pos2 k)]
 have HKQ := Lib.hid hkq
 have HX := Lib.hid hx
 have HD := Lib.hid hdiv
 clear hx0 hlen h0 hkq hx hdiv
 go_enter Tryz.func66, Tryz.ntmps66
 go_wp2_with fail
 refine (rlow_any h hn ⟨q, HKQ.out⟩).mono ?_
 rintro en w' ⟨rfl, rfl⟩
 go_wp2_with fail
 refine (rshr_any (s := k) h hn (by omega)).mono ?_
 rintro en w2 ⟨A2, n2, c2, rfl, h2, b⟩
 rw [HD.out] at h2
 clear h
 replace BB := bnx BB b
 have G := mv b rfl (J4 a0 a1 a2 r)
 clear b a0 a1 a2 r
 obtain ⟨a0, a1, a2, r⟩ := G
 go_wp2_with fail
 refine (great_any h2).mono ?_
 rintro en w' ⟨rfl, rfl⟩
 rcases Nat.lt_or_ge (2 * q + 1) (W ^ 64) with hg | hg
 rotate_left
 ·rw [decide_eq_true hg]
  have HG := Lib.hid hg
  clear hg
  obtain ⟨f0, f1, f2⟩ := r.open
  obtain ⟨z0, z1, z2⟩ := r.held
  go_wp2
  have qq := r.put false none 0 0 0
  have HB3 := below_put3 (g := w.heap.size + 1) BB (by omega) (.bool false) (.slice none 0 0) (.int .i64 0)
  obtain ⟨z0, z1, z2⟩ := qq.held
  exact bodyPost_ret (v := .tuple #[.agg #[.bool false, .slice none 0 0, .int .i64 0], .int .i64 2]) (by simp [results, Tryz.results66, go_sem, z0, z1, z2]) rfl ⟨2, false, none, 0, 0, 0, 0, rfl, .inr ⟨k, q, HKQ.out, .inl ⟨HG.out, rfl, rfl, rfl, rfl⟩⟩, nt_nil _, HB3⟩
 rw [decide_eq_false (Nat.not_le.2 hg)]
 have HG := Lib.hid hg
 clear hg
 rcases Int.lt_or_le 1048576 e with g | g
 ·have d1 : decide (1048576 < e) = true := decide_eq_true g
  have HE := Lib.hid g
  clear g
  obtain ⟨f0, f1, f2⟩ := r.open
  obtain ⟨z0, z1, z2⟩ := r.held
  go_wp2
  have qq := r.put false none 0 0 0
  have HB3 := below_put3 (g := w.heap.size + 1) BB (by omega) (.bool false) (.slice none 0 0) (.int .i64 0)
  obtain ⟨z0, z1, z2⟩ := qq.held
  exact bodyPost_ret (v := .tuple #[.agg #[.bool false, .slice none 0 0, .int .i64 0], .int .i64 3]) (by simp [results, Tryz.results66, go_sem, z0, z1, z2]) rfl ⟨3, false, none, 0, 0, 0, 0, rfl, .inr ⟨k, q, HKQ.out, .inr (.inl ⟨HG.out, by have := HE.out; omega, rfl, rfl, rfl, rfl⟩)⟩, nt_nil _, HB3⟩
 have d1 : decide (1048576 < e) = false := decide_eq_false (by omega)
 rcases Int.lt_or_le e (-1053576) with g2 | g2
 ·have d2 : decide (e < -1053576) = true := decide_eq_true g2
  have HE := Lib.hid g2
  clear g g2
  obtain ⟨f0, f1, f2⟩ := r.open
  obtain ⟨z0, z1, z2⟩ := r.held
  go_wp2
  have qq := r.put false none 0 0 0
  have HB3 := below_put3 (g := w.heap.size + 1) BB (by omega) (.bool false) (.slice none 0 0) (.int .i64 0)
  obtain ⟨z0, z1, z2⟩ := qq.held
  exact bodyPost_ret (v := .tuple #[.agg #[.bool false, .slice none 0 0, .int .i64 0], .int .i64 3]) (by simp [results, Tryz.results66, go_sem, z0, z1, z2]) rfl ⟨3, false, none, 0, 0, 0, 0, rfl, .inr ⟨k, q, HKQ.out, .inr (.inl ⟨HG.out, by have := HE.out; omega, rfl, rfl, rfl, rfl⟩)⟩, nt_nil _, HB3⟩
 have d2 : decide (e < -1053576) = false := decide_eq_false (by omega)
 rcases Int.lt_or_le 1048576 (e + (k : Int)) with g3 | g3
 ·have d3 : decide (1048576 < e + (k : Int)) = true := decide_eq_true g3
  have HE := Lib.hid g3
  obtain ⟨f0, f1, f2⟩ := r.open
  obtain ⟨z0, z1, z2⟩ := r.held
  go_wp2
  have qq := r.put false none 0 0 0
  have HB3 := below_put3 (g := w.heap.size + 1) BB (by omega) (.bool false) (.slice none 0 0) (.int .i64 0)
  obtain ⟨z0, z1, z2⟩ := qq.held
  exact bodyPost_ret (v := .tuple #[.agg #[.bool false, .slice none 0 0, .int .i64 0], .int .i64 3]) (by simp [results, Tryz.results66, go_sem, z0, z1, z2]) rfl ⟨3, false, none, 0, 0, 0, 0, rfl, .inr ⟨k, q, HKQ.out, .inr (.inl ⟨HG.out, by have := HE.out; omega, rfl, rfl, rfl, rfl⟩)⟩, nt_nil _, HB3⟩
 have d3 : decide (1048576 < e + (k : Int)) = false := decide_eq_false (by omega)
 rcases Int.lt_or_le (e + (k : Int)) (-1048576) with g4 | g4
 ·have d4 : decide (e + (k : Int) < -1048576) = true := decide_eq_true g4
  have HE := Lib.hid g4
  obtain ⟨f0, f1, f2⟩ := r.open
  obtain ⟨z0, z1, z2⟩ := r.held
  go_wp2
  have qq := r.put false none 0 0 0
  have HB3 := below_put3 (g := w.heap.size + 1) BB (by omega) (.bool false) (.slice none 0 0) (.int .i64 0)
  obtain ⟨z0, z1, z2⟩ := qq.held
  exact bodyPost_ret (v := .tuple #[.agg #[.bool false, .slice none 0 0, .int .i64 0], .int .i64 3]) (by simp [results, Tryz.results66, go_sem, z0, z1, z2]) rfl ⟨3, false, none, 0, 0, 0, 0, rfl, .inr ⟨k, q, HKQ.out, .inr (.inl ⟨HG.out, by have := HE.out; omega, rfl, rfl, rfl, rfl⟩)⟩, nt_nil _, HB3⟩
 have d4 : decide (e + (k : Int) < -1048576) = false := decide_eq_false (by omega)
 have HE := Lib.hid (And.intro g4 g3)
 have hn2 : n2 ≤ 256 := dg_small h2 (by rw [H256]; exact HG.out)
 go_wp2_with fail
 have hw : IntKind.i64.wrap (e + (k : Int)) = e + (k : Int) := IntWalk.i64_in _ (by omega)
 have ne1 : ¬ w.heap.size + 1 = w.heap.size := by omega
 have ne2 : ¬ w.heap.size = w.heap.size + 1 := by omega
 refine rgn (fun w' => w'.cell? ⟨w.heap.size, 0, none⟩ = some (.bool s) ∧ w'.cell? ⟨w.heap.size, 2, none⟩ = some (.int .i64 e)) fun hHeld0 => ?_
 refine tl 0 ?_
 refine tl 1 ?_
 refine tl 2 ?_
 refine tl 4 ?_
 refine tl 5 ?_
 refine tl 6 ?_
 refine tl 7 ?_
 refine rdy 3 fun K hK => ?_
 go_simp
 refine (rlimbs_dg (h2.heap32 (by rfl)) (by omega)).mono ?_
 rintro en w' ⟨A5, c5, rfl, h5, b⟩
 have hN : Nt w' A5 (dig Go.Proofs.YtdhdebapjlcjdaaGreatDoor.W (2 * q + 1)).length c5 (2 * q + 1) := ⟨h5, HG.out⟩
 generalize (dig Go.Proofs.YtdhdebapjlcjdaaGreatDoor.W (2 * q + 1)).length = n5 at *
 clear h5
 replace BB := below_next BB BB.size b (by rfl) (by rfl) (by rfl) (by rfl)
 have G := mv b (by rfl) <| And.intro a0 <| And.intro a2 r
 clear b a0 a1 a2 h2 r
 obtain ⟨a0, a2, r⟩ := G
 obtain ⟨f0, f1, f2⟩ := r.open
 obtain ⟨z0, z1, z2⟩ := r.held
 refine bk hK fun hHeld1 => ?_
 clear hK K hHeld0
 try simp only [Act.put]
 refine tl 8 ?_
 refine rdy 9 fun K hK => ?_
 go_simp
 refine bk hK fun hHeld2 => ?_
 clear hK K hHeld1
 try simp only [Act.put]
 refine tl 10 ?_
 refine wpAnyH_done (by kernel_rfl) ?_ _
 go_wp2
 have qq := r.put s A5 n5 c5 (e + (k : Int))
 have hN5 := hN.put3 r (.bool s) (.slice A5 n5 c5) (.int .i64 (e + (k : Int)))
 have HB3 := below_put3 (g := w.heap.size + 1) BB (by omega) (.bool s) (.slice A5 n5 c5) (.int .i64 (e + (k : Int)))
 obtain ⟨z0, z1, z2⟩ := qq.held
 exact bodyPost_ret (v := .tuple #[.agg #[.bool s, .slice A5 n5 c5, .int .i64 (e + (k : Int))], .int .i64 0]) (by simp [results, Tryz.results66, go_sem, z0, z1, z2]) rfl ⟨0, s, A5, n5, c5, 2 * q + 1, e + (k : Int), rfl, .inr ⟨k, q, HKQ.out, .inr (.inr ⟨HG.out, HE.out, rfl, rfl, rfl, rfl⟩)⟩, hN5, HB3⟩

end Go.Proofs.YtdhdebapjlcjdaaGreatDoor
