/-
 Contract of the statements' own told of layer 10: it returns true, at this translation. Condition: the slices read as limbs, the table of math/bits reads as its text lays it.
-/
import Derived.Test.YtlpjlmophlikeaaGreatDoorPGi
import Derived.Test.YtlpjlmophlikeaaGreatDoorPGr
set_option maxHeartbeats 8000000
set_option maxRecDepth 100000
namespace Go.Proofs.YtlpjlmophlikeaaGreatDoor
open Go.RowKit

def L10 : Nat → Ln
 | 0 => ⟨3, 0, 0, Iv.zero⟩
 | _ => ⟨8, 0, 0, Iv.zero⟩
theorem plain10 : ∀ i, i < 2 → (L10 i).op ≤ 8 := fun i _ => by
 match i with
 | 0 => decide
 | _ + 1 => exact (by decide : (8 : Int) ≤ 8)
def O10 : Nat → Int := fun _ => 1
def q9 : Rw := Rw.of false 9 0
def q6 : Rw := Rw.of false 3 1
def i33 : Iv := ⟨q3, q3⟩
def E10 : En := ⟨Iv.zero, 1, fun _ => i33, 0, fun _ => Iv.zero, 0, fun _ => Iv.zero⟩
def EZ : En := ⟨Iv.zero, 0, fun _ => Iv.zero, 0, fun _ => Iv.zero, 0, fun _ => Iv.zero⟩
theorem bare_same : sameI Iv.zero Iv.zero = true := by decide
theorem P20g : (1 : Int) ≤ 20 ∧ (20 : Int) ≤ 2000 := ⟨by decide, by decide⟩
section
variable {S : Sc}
theorem at_1 : At S 0 1 (pwQ 0) := at_of (m := 1) (j := 0) rfl (by omega) (by omega)
theorem at_3 : At S 0 3 q3 := at_of (m := 3) (j := 0) rfl (by omega) (by omega)
theorem at_6 : At S 0 6 q6 := at_of (m := 3) (j := 1) rfl (by omega) (by omega)
theorem at_9 : At S 0 9 q9 := at_of (m := 9) (j := 0) rfl (by omega) (by omega)
theorem b20 {z : Int} {a : Rw} (h : At S 0 z a) (hz : z.natAbs < 2 ^ 20) : blen (val Go.Proofs.YtlpjlmophlikeaaGreatDoor.W a.l) ≤ (20 : Int).toNat := at_blen h (by omega) (by omega) hz
theorem rou3 : rouI S ⟨q3, q3⟩ 20 = .ok ⟨q3, q3⟩ := out_pt P20g q3_may (b20 (S := S) at_3 (by decide))
theorem mul9 : mulF S ⟨q3, q3⟩ ⟨q3, q3⟩ 20 = .ok ⟨q9, q9⟩ := mulF_pt P20g (f := 0) (g := 0) at_3 at_3 at_9 (b20 (S := S) at_9 (by decide))
theorem mul13 : mulF S (pwI 0) ⟨q3, q3⟩ 20 = .ok ⟨q3, q3⟩ := mulF_pt (f := 0) (g := 0) P20g at_1 at_3 at_3 (b20 (S := S) at_3 (by decide))
theorem mul31 : mulF S ⟨q3, q3⟩ (pwI 0) 20 = .ok ⟨q3, q3⟩ := mulF_pt (f := 0) (g := 0) P20g at_3 at_1 at_3 (b20 (S := S) at_3 (by decide))
theorem add33 : addF S ⟨q3, q3⟩ ⟨q3, q3⟩ 20 = .ok ⟨q6, q6⟩ := addF_pt P20g at_3 at_3 at_6 (b20 (S := S) at_6 (by decide))
theorem may10 (K : Nat) : mayT K ⟨2, L10, 1, O10⟩ 1 0 0 = true := mayT_iff.2 ⟨by show 2 ≤ 200; omega, by show 1 ≤ 200; omega, fun i hi => by
 have hi : i < 2 := hi
 rcases (show i = 0 ∨ i = 1 by omega) with rfl | rfl
 ·show mayLn K ⟨3, 0, 0, Iv.zero⟩ _ 1 0 0 = true
  simp [mayLn, bareB, bare_same, belowB]
 ·show mayLn K ⟨8, 0, 0, Iv.zero⟩ _ 1 0 0 = true
  simp [mayLn, bareB, bare_same, belowB], fun j _ => belowB_iff.2 ⟨by show (0 : Int) ≤ 1; omega, by show (1 : Int) < 2; omega⟩⟩
theorem may10_no (K : Nat) : ¬ mayT K ⟨2, L10, 1, O10⟩ 0 0 0 = true := fun h => by
 have := (mayT_iff.1 h).2.2.1 0 (by show 0 < 2; omega)
 have h2 : mayLn K ⟨3, 0, 0, Iv.zero⟩ ((0 : Nat) : Int) 0 0 0 = true := this
 simp [mayLn, belowB] at h2
theorem mayE10 (K : Nat) : mayE K E10 = true := mayE_iff.2 ⟨mayI_point Rw.zero_may, fun _ _ => mayI_point q3_may, fun i hi => absurd hi (Nat.not_lt_zero i), fun i hi => absurd hi (Nat.not_lt_zero i)⟩
theorem lines10 : linesO S ⟨2, L10, 1, O10⟩ E10 20 = .ok [⟨q3, q3⟩, ⟨q9, q9⟩] := by
 have l1 : linO S L10 E10 20 1 = .ok [⟨q3, q3⟩] := lin_ok (Q := []) rfl (by
  show valO S ⟨3, 0, 0, Iv.zero⟩ _ E10 20 = _
  simp only [valO]
  simp
  exact rou3)
 have l2 : linO S L10 E10 20 2 = .ok [⟨q3, q3⟩, ⟨q9, q9⟩] := lin_ok l1 (by
  show valO S ⟨8, 0, 0, Iv.zero⟩ _ E10 20 = _
  simp only [valO]
  simp
  exact mul9)
 rw [lines_yes ⟨by omega, by omega, may10 S.K, mayE10 S.K⟩]
 exact l2
theorem ask10 : askS (namB L10 2) 1 = ([0], [0], -1) := by decide
theorem grad10 : gradO S ⟨2, L10, 1, O10⟩ E10 20 = .ok ([⟨q9, q9⟩], [[⟨q6, q6⟩]]) := by
 have h2 : tabO S L10 (fun i => ([⟨q3, q3⟩, ⟨q9, q9⟩] : List Iv).getD i Iv.zero) (fun k => (askS (namB L10 2) E10.nx).1.getD k 0) (askS (namB L10 2) E10.nx).1.length 20 2 = .ok [[pwI 0], [⟨q6, q6⟩]] := by
  rw [show E10.nx = 1 from rfl, ask10]
  refine tab_ok (Q := [[pwI 0]]) (tab_ok (Q := []) rfl (row_ok (R := []) rfl ?_)) (row_ok (R := []) rfl ?_)
  ·rfl
  ·show stepO S 8 ⟨q3, q3⟩ ⟨q3, q3⟩ ⟨q9, q9⟩ (pwI 0) (pwI 0) 20 = _
   show thn (mulF S (pwI 0) ⟨q3, q3⟩ 20) (fun x => thn (mulF S ⟨q3, q3⟩ (pwI 0) 20) fun y => addF S x y 20) = _
   rw [mul13]
   show thn (mulF S ⟨q3, q3⟩ (pwI 0) 20) (fun y => addF S ⟨q3, q3⟩ y 20) = _
   rw [mul31]
   exact add33
 rw [grad_ok (T := ⟨2, L10, 1, O10⟩) lines10 h2, show E10.nx = 1 from rfl, ask10]
 rfl
theorem gradZ : gradO S ⟨2, L10, 1, O10⟩ EZ 20 = .error 1 := grad_lin (lines_no fun h => may10_no S.K h.2.2.1)
end
theorem of_3 {w : World} (hT : Tab w) : Calls Tryz.prog 7 #[.int .i64 3, .int .i64 0] w (ToldIs false 3 0 0 w) :=
 told_is' (of_pos (a := 3) hT (by omega)) fun _ _ _ _ h => nm_fun h (nm_small (q := 1) (k := 0) (e := 0) (f := 0) (by omega) (by decide) (by decide) (by decide))
theorem gradEnd_to {o o' : Except Int (List Iv × List (List Iv))} {f : FuncId} {args : Array Value} {w : World} {m : Nat} (h : o = o') (hc : Calls Tryz.prog f args w (GradEnd o' m w)) : Calls Tryz.prog f args w (GradEnd o m w) := by subst h; exact hc
theorem grad_is {R : List Iv} {D : List (List Iv)} {m : Nat} {w w' : World} {en : Ending} (h : GradEnd (.ok (R, D)) m w en w') : ∃ v1 A c, en = .returned (.tuple #[v1, .slice A m c, .int .i64 0]) ∧ IRow w' w.heap.size v1 R ∧ RdT w' A m c (fun i => D.getD i []) ∧ Below w.heap.size w w' := by
 rcases h with ⟨R', D', v1, A, c, h1, _, _, h2, h3, h4, h5⟩ | ⟨k, h1, _⟩
 ·injection h1 with h1
  injection h1 with h1 h1'
  subst h1 h1'
  exact ⟨v1, A, c, h2, h3, h4, h5⟩
 ·cases h1
theorem grad_err {k : Int} {m : Nat} {w w' : World} {en : Ending} (h : GradEnd (.error k) m w en w') : en = .returned (.tuple #[.slice none 0 0, .slice none 0 0, .int .i64 k]) ∧ Below w.heap.size w w' := by
 rcases h with ⟨_, _, _, _, _, h1, _⟩ | ⟨k', h1, _, h2, h3⟩
 ·cases h1
 ·injection h1 with h1
  subst h1
  exact ⟨h2, h3⟩

theorem rdl10 {w : World} {g : Nat} (x : Blk w g #[.int .i64 3, .int .i64 0, .int .i64 0, .bool false, .slice none 0 0, .int .i64 0, .bool false, .slice none 0 0, .int .i64 0, .int .i64 8, .int .i64 0, .int .i64 0, .bool false, .slice none 0 0, .int .i64 0, .bool false, .slice none 0 0, .int .i64 0] 31) : RdL w (some ⟨g, 0, none⟩) 2 2 L10 := ⟨Nat.le_refl 2, by decide, fun _ => ⟨g, 0, rfl, fun i hi => by
 rcases (show i = 0 ∨ i = 1 by omega) with rfl | rfl
 ·exact ⟨none, 0, 0, none, 0, 0, ⟨x.at 0, x.at 1, x.at 2, x.at 3, x.at 4, x.at 5, x.at 6, x.at 7, x.at 8⟩, rd_nil0 w, rd_nil0 w⟩
 ·exact ⟨none, 0, 0, none, 0, 0, ⟨x.at 9, x.at 10, x.at 11, x.at 12, x.at 13, x.at 14, x.at 15, x.at 16, x.at 17⟩, rd_nil0 w, rd_nil0 w⟩⟩⟩
theorem rdz10 {w : World} {g : Nat} (x : Blk w g #[.int .i64 1] 3) : RdZ w (some ⟨g, 0, none⟩) 1 1 O10 := ⟨Nat.le_refl 1, by decide, fun _ => ⟨g, 0, rfl, fun i hi => by
 obtain rfl : i = 0 := by omega
 exact x.at 0⟩⟩
theorem rde_zero (w : World) : RdE w EZ none 0 0 none 0 0 none 0 none 0 none 0 := ⟨rd_nil0 w, rd_nil0 w, ⟨Nat.le_refl 0, by decide, fun h => absurd rfl h⟩, ⟨Nat.le_refl 0, by decide, fun h => absurd rfl h⟩, ⟨Nat.le_refl 0, by decide, fun h => absurd rfl h⟩⟩
theorem rde10 {w : World} {g : Nat} {A5 : Option Addr} {n5 c5 : Nat} {A6 : Option Addr} {n6 c6 : Nat} (x : Blk w g #[.bool i33.lo.s, .slice A5 n5 c5, .int .i64 i33.lo.e, .bool i33.hi.s, .slice A6 n6 c6, .int .i64 i33.hi.e] 29) (h5 : Rd w .u64 Go.Proofs.YtlpjlmophlikeaaGreatDoor.W A5 n5 c5 i33.lo.l) (h6 : Rd w .u64 Go.Proofs.YtlpjlmophlikeaaGreatDoor.W A6 n6 c6 i33.hi.l) : RdE w E10 none 0 0 none 0 0 (some ⟨g, 0, none⟩) 1 none 0 none 0 :=
 ⟨rd_nil0 w, rd_nil0 w, ⟨Nat.le_refl 1, by decide, fun _ => ⟨g, 0, rfl, fun i hi => by
  obtain rfl : i = 0 := by have hi : i < 1 := hi; omega
  exact ⟨A5, n5, c5, A6, n6, c6, ⟨x.at 0, x.at 1, x.at 2, x.at 3, x.at 4, x.at 5⟩, h5, h6⟩⟩⟩, ⟨Nat.le_refl 0, by decide, fun h => absurd rfl h⟩, ⟨Nat.le_refl 0, by decide, fun h => absurd rfl h⟩⟩

theorem told10_any {w : World} (hT : Tab w) :
  Calls Tryz.prog 6 #[] w (Bools true w) := by
 obtain ⟨S⟩ := sc_has
 have BB := Below.refl w.heap.size w
 go_enter Tryz.func6, Tryz.ntmps6
 go_wp2_with fail
 refine (of_3 hT).mono ?_
 rintro en v1 ⟨A1, n1, c1, rfl, N1, b⟩
 replace BB := bnx BB b
 replace hT := mv b rfl hT
 clear b
 have h1 : Rd v1 .u64 Go.Proofs.YtlpjlmophlikeaaGreatDoor.W A1 n1 c1 q3.l := N1.rd
 clear N1
 have z1 : n1 ≤ 10000000000000 := len_at h1 (ends_small (x := ⟨q3, q3⟩) ⟨q3_may, q3_may⟩).1
 obtain ⟨a0, a1, a2⟩ := (Box.new v1 false A1 n1 c1 0).held
 have b := below_alloc v1 (.cells #[.bool false, .slice A1 n1 c1, .int .i64 0] 27)
 replace BB := bnx BB b
 have G := mv b rfl <| And.intro hT <| h1
 clear b hT h1
 obtain ⟨hT, h1⟩ := G
 go_upto_region 2 with fail
 generalize v1.alloc (.cells #[.bool false, .slice A1 n1 c1, .int .i64 0] 27) = U0 at *
 generalize v1.heap.size = s0 at *
 have b := three_below U0 (.cells #[.int .i64 3, .int .i64 0, .int .i64 0, .bool false, .slice none 0 0, .int .i64 0, .bool false, .slice none 0 0, .int .i64 0, .int .i64 8, .int .i64 0, .int .i64 0, .bool false, .slice none 0 0, .int .i64 0, .bool false, .slice none 0 0, .int .i64 0] 31) (.cells #[.int .i64 1] 3) (.cells #[.slice (some ⟨U0.heap.size, 0, none⟩) 2 2, .slice (some ⟨U0.heap.size + 1, 0, none⟩) 1 1] 34)
 have xl := mv (two_below (U0.alloc (.cells #[.int .i64 3, .int .i64 0, .int .i64 0, .bool false, .slice none 0 0, .int .i64 0, .bool false, .slice none 0 0, .int .i64 0, .int .i64 8, .int .i64 0, .int .i64 0, .bool false, .slice none 0 0, .int .i64 0, .bool false, .slice none 0 0, .int .i64 0] 31)) (.cells #[.int .i64 1] 3) (.cells #[.slice (some ⟨U0.heap.size, 0, none⟩) 2 2, .slice (some ⟨U0.heap.size + 1, 0, none⟩) 1 1] 34)) rfl (Blk.new U0 #[.int .i64 3, .int .i64 0, .int .i64 0, .bool false, .slice none 0 0, .int .i64 0, .bool false, .slice none 0 0, .int .i64 0, .int .i64 8, .int .i64 0, .int .i64 0, .bool false, .slice none 0 0, .int .i64 0, .bool false, .slice none 0 0, .int .i64 0] 31)
 have xo : Blk ((U0.alloc (.cells #[.int .i64 3, .int .i64 0, .int .i64 0, .bool false, .slice none 0 0, .int .i64 0, .bool false, .slice none 0 0, .int .i64 0, .int .i64 8, .int .i64 0, .int .i64 0, .bool false, .slice none 0 0, .int .i64 0, .bool false, .slice none 0 0, .int .i64 0] 31)).alloc (.cells #[.int .i64 1] 3)) (U0.heap.size + 1) #[.int .i64 1] 3 := by have := Blk.new (U0.alloc (.cells #[.int .i64 3, .int .i64 0, .int .i64 0, .bool false, .slice none 0 0, .int .i64 0, .bool false, .slice none 0 0, .int .i64 0, .int .i64 8, .int .i64 0, .int .i64 0, .bool false, .slice none 0 0, .int .i64 0, .bool false, .slice none 0 0, .int .i64 0] 31)) #[.int .i64 1] 3; rwa [World.size_alloc] at this
 replace xo := mv (below_alloc ((U0.alloc (.cells #[.int .i64 3, .int .i64 0, .int .i64 0, .bool false, .slice none 0 0, .int .i64 0, .bool false, .slice none 0 0, .int .i64 0, .int .i64 8, .int .i64 0, .int .i64 0, .bool false, .slice none 0 0, .int .i64 0, .bool false, .slice none 0 0, .int .i64 0] 31)).alloc (.cells #[.int .i64 1] 3)) (.cells #[.slice (some ⟨U0.heap.size, 0, none⟩) 2 2, .slice (some ⟨U0.heap.size + 1, 0, none⟩) 1 1] 34)) rfl xo
 have xt : Blk (((U0.alloc (.cells #[.int .i64 3, .int .i64 0, .int .i64 0, .bool false, .slice none 0 0, .int .i64 0, .bool false, .slice none 0 0, .int .i64 0, .int .i64 8, .int .i64 0, .int .i64 0, .bool false, .slice none 0 0, .int .i64 0, .bool false, .slice none 0 0, .int .i64 0] 31)).alloc (.cells #[.int .i64 1] 3)).alloc (.cells #[.slice (some ⟨U0.heap.size, 0, none⟩) 2 2, .slice (some ⟨U0.heap.size + 1, 0, none⟩) 1 1] 34)) (U0.heap.size + 2) #[.slice (some ⟨U0.heap.size, 0, none⟩) 2 2, .slice (some ⟨U0.heap.size + 1, 0, none⟩) 1 1] 34 := by have := Blk.new ((U0.alloc (.cells #[.int .i64 3, .int .i64 0, .int .i64 0, .bool false, .slice none 0 0, .int .i64 0, .bool false, .slice none 0 0, .int .i64 0, .int .i64 8, .int .i64 0, .int .i64 0, .bool false, .slice none 0 0, .int .i64 0, .bool false, .slice none 0 0, .int .i64 0] 31)).alloc (.cells #[.int .i64 1] 3)) #[.slice (some ⟨U0.heap.size, 0, none⟩) 2 2, .slice (some ⟨U0.heap.size + 1, 0, none⟩) 1 1] 34; rwa [World.size_alloc, World.size_alloc] at this
 replace BB := bnx BB b
 have G := mv b rfl (J5 hT h1 a0 a1 a2)
 clear b hT h1 a0 a1 a2
 obtain ⟨hT, h1, a0, a1, a2⟩ := G
 go_upto_region 3 with fail
 generalize ((U0.alloc (.cells #[.int .i64 3, .int .i64 0, .int .i64 0, .bool false, .slice none 0 0, .int .i64 0, .bool false, .slice none 0 0, .int .i64 0, .int .i64 8, .int .i64 0, .int .i64 0, .bool false, .slice none 0 0, .int .i64 0, .bool false, .slice none 0 0, .int .i64 0] 31)).alloc (.cells #[.int .i64 1] 3)).alloc (.cells #[.slice (some ⟨U0.heap.size, 0, none⟩) 2 2, .slice (some ⟨U0.heap.size + 1, 0, none⟩) 1 1] 34) = U3 at *
 generalize U0.heap.size = s1 at *
 have hL := rdl10 xl
 have hO := rdz10 xo
 clear xl xo
 have t0 : World.cell? _ ⟨_, 0, none⟩ = some (.slice (some ⟨s1, 0, none⟩) 2 2) := xt.at 0
 have t1 : World.cell? _ ⟨_, 1, none⟩ = some (.slice (some ⟨s1 + 1, 0, none⟩) 1 1) := xt.at 1
 clear xt
 have b : Below U3.heap.size U3 (World.drew U3) := below_drewN (Below.refl _ _) 1
 replace BB := bnx BB b
 have G := mv b rfl (J9 hT h1 a0 a1 a2 hL hO t0 t1)
 clear b hT h1 a0 a1 a2 hL hO t0 t1
 obtain ⟨hT, h1, a0, a1, a2, hL, hO, t0, t1⟩ := G
 refine wp_region_held_drew (S := fun w' => w'.cell? ⟨s0, 0, none⟩ = some (.bool false) ∧ w'.cell? ⟨s0, 1, none⟩ = some (.slice A1 n1 c1) ∧ w'.cell? ⟨s0, 2, none⟩ = some (.int .i64 0) ∧ w'.cell? ⟨s1 + 2, 0, none⟩ = some (.slice (some ⟨s1, 0, none⟩) 2 2) ∧ w'.cell? ⟨s1 + 2, 1, none⟩ = some (.slice (some ⟨s1 + 1, 0, none⟩) 1 1)) (by kernel_rfl) (by exact ⟨a0, a1, a2, t0, t1⟩) (fun hHeldv0 => ?_)
 generalize World.drew U3 = wd at *
 refine tl 0 ?_
 refine tl 1 ?_
 refine rdy 2 fun K hK => ?_
 go_simp
 refine (show Calls _ _ _ _ (GivI i33 _) from iof_any (a := q3) h1 z1).mono ?_
 rintro en y1 ⟨A5, n5, c5, A6, n6, c6, rfl, h5, h6, b⟩
 clear h1
 replace BB := below_next BB BB.size b (by rfl) (by rfl) (by rfl) (by rfl)
 have G := mv b (by rfl) <| And.intro hT <| And.intro a0 <| And.intro a1 <| And.intro a2 <| And.intro hL <| And.intro hO <| And.intro t0 <| t1
 clear b hT a0 a1 a2 hL hO t0 t1
 obtain ⟨hT, a0, a1, a2, hL, hO, t0, t1⟩ := G
 refine hK.out _ _ (by exact ⟨a0, a1, a2, t0, t1⟩) (fun hHeldv1 => ?_)
 clear hK K hHeldv0
 try simp only [Act.put]
 refine rdy 3 fun K hK => ?_
 go_simp
 have b := below_alloc y1 (.cells #[.bool i33.lo.s, .slice A5 n5 c5, .int .i64 i33.lo.e, .bool i33.hi.s, .slice A6 n6 c6, .int .i64 i33.hi.e] 29)
 have xx := Blk.new y1 #[.bool i33.lo.s, .slice A5 n5 c5, .int .i64 i33.lo.e, .bool i33.hi.s, .slice A6 n6 c6, .int .i64 i33.hi.e] 29
 replace BB := below_next BB BB.size b (by rfl) (by rfl) (by rfl) (by rfl)
 have G := mv b (by rfl) <| And.intro hT <| And.intro a0 <| And.intro a1 <| And.intro a2 <| And.intro hL <| And.intro hO <| And.intro t0 <| And.intro t1 <| And.intro h5 <| h6
 clear b hT a0 a1 a2 hL hO t0 t1 h5 h6
 obtain ⟨hT, a0, a1, a2, hL, hO, t0, t1, h5, h6⟩ := G
 have hE := rde10 xx h5 h6
 clear xx h5 h6
 generalize y1.alloc (.cells #[.bool i33.lo.s, .slice A5 n5 c5, .int .i64 i33.lo.e, .bool i33.hi.s, .slice A6 n6 c6, .int .i64 i33.hi.e] 29) = y2 at *
 generalize y1.heap.size = s2 at *
 refine hK.out _ _ (by exact ⟨a0, a1, a2, t0, t1⟩) (fun hHeldv2 => ?_)
 clear hK K hHeldv1
 try simp only [Act.put]
 refine tl 4 ?_
 refine rdy 5 fun K hK => ?_
 go_simp
 refine (gradEnd_to (grad10 (S := S)).symm (sgrad_any S (E := E10) (p := 20) hT hL hO hE plain10 (by show 1 ≤ 900; omega))).mono ?_
 intro en y3 hge
 obtain ⟨va, AD, cD, rfl, hv, hd, b⟩ := grad_is hge
 clear hge hE
 replace BB := below_next BB BB.size b (by rfl) (by rfl) (by rfl) (by rfl)
 have G := mv b (by rfl) <| And.intro hT <| And.intro a0 <| And.intro a1 <| And.intro a2 <| And.intro hL <| And.intro hO <| And.intro t0 <| t1
 clear b hT a0 a1 a2 hL hO t0 t1
 obtain ⟨hT, a0, a1, a2, hL, hO, t0, t1⟩ := G
 refine hK.out _ _ (by exact ⟨a0, a1, a2, t0, t1⟩) (fun hHeldv3 => ?_)
 clear hK K hHeldv2
 try simp only [Act.put]
 refine tl 6 ?_
 refine tl 7 ?_
 refine tl 8 ?_
 refine tl 9 ?_
 refine tl 10 ?_
 refine tl 11 ?_
 refine tl 12 ?_
 refine wpAnyH_done (by kernel_rfl) ?_ _
 obtain ⟨AV, cV, hva, hV, _⟩ := hv.form
 replace hva : va = .slice AV 1 cV := hva
 subst hva
 replace hV : RdS y3 AV 1 cV (fun i => ([⟨q9, q9⟩] : List Iv).getD i Iv.zero) := hV
 obtain ⟨gv, ov, hav, hI⟩ := hV.at_ (by omega)
 subst hav
 have hI0 : IvAt y3 gv ov ⟨q9, q9⟩ := hI 0 (by omega)
 clear hI hV hv
 obtain ⟨A7, n7, c7, A8, n8, c8, ⟨r0, r1, r2, r3, r4, r5⟩, h7, _⟩ := hI0
 obtain ⟨gd, od, had, hD⟩ := hd.at_ (by omega)
 subst had
 obtain ⟨B, d, hB, hS⟩ := hD 0 (by omega)
 replace hB : y3.cell? ⟨gd, od, none⟩ = some (.slice B 1 d) := hB
 replace hS : RdS y3 B 1 d (fun k => ([⟨q6, q6⟩] : List Iv).getD k Iv.zero) := hS
 obtain ⟨gk, ok, hak, hI⟩ := hS.at_ (by omega)
 subst hak
 have hI0 : IvAt y3 gk ok ⟨q6, q6⟩ := hI 0 (by omega)
 clear hI hS hD hd
 obtain ⟨A9, n9, c9, A10, n10, c10, ⟨e0, e1, e2, e3, e4, e5⟩, h9, _⟩ := hI0
 replace h7 : Rd y3 .u64 Go.Proofs.YtlpjlmophlikeaaGreatDoor.W A7 n7 c7 q9.l := h7
 replace h9 : Rd y3 .u64 Go.Proofs.YtlpjlmophlikeaaGreatDoor.W A9 n9 c9 q6.l := h9
 dsimp only at r0 r1 r2 e0 e1 e2
 clear r3 r4 r5 e3 e4 e5
 clear a0 a1 a2
 go_wp2_with fail
 refine (gradEnd_to (gradZ (S := S)).symm (sgrad_any S (E := EZ) (p := 20) hT hL hO (rde_zero _) plain10 (by show 0 ≤ 900; omega))).mono ?_
 intro en y4 hge
 obtain ⟨rfl, b⟩ := grad_err hge
 clear hge
 replace BB := bnx BB b
 have G := mv b rfl (J14 hT hL hO t0 t1 r0 r1 r2 h7 hB e0 e1 e2 h9)
 clear b hT hL hO t0 t1 r0 r1 r2 h7 hB e0 e1 e2 h9
 obtain ⟨hT, hL, hO, t0, t1, r0, r1, r2, h7, hB, e0, e1, e2, h9⟩ := G
 have b := below_alloc y4 (.cells #[.int .u64 9] 60)
 have N9 := (nt_one_at (w := y4) (v := 9) rfl (by omega) (by omega)).rd
 clear hT hL hO t0 t1
 have k0 := r0
 have k1 := r1
 have k2 := r2
 replace BB := bnx BB b
 have G := mv b rfl (J9 r0 r1 r2 h7 hB e0 e1 e2 h9)
 clear b r0 r1 r2 h7 hB e0 e1 e2 h9
 obtain ⟨r0, r1, r2, h7, hB, e0, e1, e2, h9⟩ := G
 go_wp2_with fail
 refine (dsame_eq (s := q9.s) (e := q9.e) h7 N9).mono ?_
 rintro en y5 ⟨rfl, b⟩
 rw [decide_eq_true (show q9.l = dig Go.Proofs.YtlpjlmophlikeaaGreatDoor.W 9 from rfl)]
 clear N9 h7 r0 r1 r2 k0 k1 k2
 replace BB := bnx BB b
 have G := mv b rfl (J5 hB e0 e1 e2 h9)
 clear b hB e0 e1 e2 h9
 obtain ⟨hB, e0, e1, e2, h9⟩ := G
 have b := below_alloc y5 (.cells #[.int .u64 3] 60)
 have N3 := (nt_one_at (w := y5) (v := 3) rfl (by omega) (by omega)).rd
 have k0 := e0
 have k1 := e1
 have k2 := e2
 have k3 := hB
 replace BB := bnx BB b
 have G := mv b rfl (J5 hB e0 e1 e2 h9)
 clear b hB e0 e1 e2 h9
 obtain ⟨hB, e0, e1, e2, h9⟩ := G
 go_wp2_with fail
 refine (dsame_eq (s := q6.s) (e := q6.e) h9 N3).mono ?_
 rintro en y6 ⟨rfl, b⟩
 rw [decide_eq_true (show q6.l = dig Go.Proofs.YtlpjlmophlikeaaGreatDoor.W 3 from rfl)]
 replace BB := bnx BB b
 clear b N3 h9 e0 e1 e2 hB k0 k1 k2 k3
 go_wp2
 go_ret
 exact ⟨by first | rfl | simp, BB⟩

end Go.Proofs.YtlpjlmophlikeaaGreatDoor
namespace Go.Proofs.YtlpjlmophlikeaaGreatDoor
open Go.RowKit

/-- the cells of some elements, one behind the other -/
def Celg {α : Type} (R : World → α → List Value → Prop) (w : World) : List α → List Value → Prop
 | [], xs => xs = []
 | x :: L, xs => ∃ c ys, xs = c ++ ys ∧ R w x c ∧ Celg R w L ys
/-- a kind of element: how many cells it has, that it hangs on what reads as limbs alone -/
class Kin {α : Type} (R : World → α → List Value → Prop) (k : Nat) : Prop where
 len : ∀ {w x c}, R w x c → c.length = k
 one : ∀ {w x c}, R w x c → ∀ u ∈ c, u.oneCell' = true ∧ NoL u
 mv : ∀ {w w' : World} {x c}, (∀ A n c l, Rd w .u64 Go.Proofs.YtlpjlmophlikeaaGreatDoor.W A n c l → Rd w' .u64 Go.Proofs.YtlpjlmophlikeaaGreatDoor.W A n c l) → R w x c → R w' x c
section
variable {α : Type} {R : World → α → List Value → Prop} {k : Nat}
theorem Celg.mv [hk : Kin R k] {w w' : World} (f : ∀ A n c l, Rd w .u64 Go.Proofs.YtlpjlmophlikeaaGreatDoor.W A n c l → Rd w' .u64 Go.Proofs.YtlpjlmophlikeaaGreatDoor.W A n c l) : ∀ {L : List α} {xs : List Value}, Celg R w L xs → Celg R w' L xs
 | [], _, h => h
 | _ :: _, _, ⟨c, ys, h1, h2, h3⟩ => ⟨c, ys, h1, hk.mv f h2, Celg.mv (hk := hk) f h3⟩
theorem Celg.app {w : World} : ∀ {L N : List α} {xs ys : List Value}, Celg R w L xs → Celg R w N ys → Celg R w (L ++ N) (xs ++ ys)
 | [], _, _, _, h, h' => by
  have h : _ = [] := h
  subst h
  exact h'
 | _ :: _, _, _, _, ⟨c, zs, h1, h2, h3⟩, h' => ⟨c, zs ++ _, by rw [h1, List.append_assoc], h2, h3.app h'⟩
theorem Celg.len [hk : Kin R k] {w : World} : ∀ {L : List α} {xs : List Value}, Celg R w L xs → xs.length = L.length * k
 | [], _, h => by
  have h : _ = [] := h
  subst h
  simp
 | x :: L, _, ⟨c, ys, h1, h2, h3⟩ => by
  rw [h1, List.length_append, hk.len h2, Celg.len (hk := hk) h3, List.length_cons, Nat.succ_mul, Nat.add_comm]
theorem Celg.all [hk : Kin R k] {w : World} : ∀ {L : List α} {xs : List Value}, Celg R w L xs → ∀ u ∈ xs, u.oneCell' = true ∧ NoL u
 | [], _, h, u, hu => by
  have h : _ = [] := h
  rw [h] at hu
  cases hu
 | x :: L, _, ⟨c, ys, h1, h2, h3⟩, u, hu => by
  rw [h1] at hu
  rcases List.mem_append.1 hu with hu | hu
  ·exact hk.one h2 u hu
  ·exact Celg.all (hk := hk) h3 u hu
theorem Celg.get [hk : Kin R k] {w : World} : ∀ {L : List α} {xs : List Value}, Celg R w L xs → ∀ (i : Nat) (x : α), L[i]? = some x → ∃ c, R w x c ∧ ∀ (j : Nat) (u : Value), c[j]? = some u → xs[i * k + j]? = some u
 | [], _, _, i, x, hx => by simp at hx
 | y :: L, _, ⟨c, ys, h1, h2, h3⟩, 0, x, hx => by
  have : y = x := by simpa using hx
  subst this
  refine ⟨c, h2, fun j u hu => ?_⟩
  have hj : j < c.length := (List.getElem?_eq_some_iff.1 hu).1
  rw [h1, Nat.zero_mul, Nat.zero_add, List.getElem?_append_left hj]
  exact hu
 | y :: L, _, ⟨c, ys, h1, h2, h3⟩, i + 1, x, hx => by
  obtain ⟨c', g1, g2⟩ := Celg.get (hk := hk) h3 i x (by simpa using hx)
  refine ⟨c', g1, fun j u hu => ?_⟩
  have hc := hk.len h2
  rw [h1, List.getElem?_append_right (by rw [hc, Nat.succ_mul]; omega), hc, Nat.succ_mul, show i * k + k + j - k = i * k + j by omega]
  exact g2 j u hu
/-- a row of such elements of the call's own -/
def GRow (R : World → α → List Value → Prop) (E : TypeId) (k : Nat) (w : World) (base : Nat) (v : Value) (L : List α) : Prop := ∃ xs, RowN w base E k v L.length xs ∧ Celg R w L xs
variable {E : TypeId} {base : Nat} {v : Value} {L : List α}
theorem GRow.next [hk : Kin R k] {w X w2 : World} (h : GRow R E k w base v L) (b : Below X.heap.size X w2) (e : X.heap = w.heap) : GRow R E k w2 base v L := by
 obtain ⟨xs, h1, h2⟩ := h
 exact ⟨xs, h1.next b e, Celg.mv (hk := hk) (fun _ _ _ _ hr => hr.next b e) h2⟩
theorem GRow.lt {w : World} (h : GRow R E k w base v L) : ∀ q, v.ownBlock = some q → base ≤ q ∧ q < w.heap.size := by
 obtain ⟨xs, h1, _⟩ := h
 exact h1.lt
theorem GRow.no {w : World} (h : GRow R E k w base v L) : ∀ q, v.ownBlock = some q → ∀ i x : Nat, w.cell? ⟨q, i, none⟩ ≠ some (.int .u64 (x : Int)) := by
 obtain ⟨xs, h1, _⟩ := h
 exact h1.2
theorem GRow.kind {w : World} (h : GRow R E k w base v L) : ∀ q, v.ownBlock = some q → ∃ cs, w.heap[q]? = some (.cells cs E (0, 0)) := by
 intro q hq
 obtain ⟨xs, ⟨⟨_, h1⟩, _⟩, _⟩ := h
 rcases h1 with ⟨rfl, _⟩ | ⟨g, cap, cur, rfl, _, hg, _⟩
 ·cases hq
 ·injection hq with hq
  subst hq
  exact ⟨cur, hg⟩
theorem GRow.grown [hk : Kin R k] {w w' : World} {row : Option Nat} (h : GRow R E k w base v L) (hg : w.grownBy w' row) (hne : ∀ q, v.ownBlock = some q → row ≠ some q) (hno : ∀ q, row = some q → ∀ i x : Nat, w.cell? ⟨q, i, none⟩ ≠ some (.int .u64 (x : Int))) : GRow R E k w' base v L := by
 have hlt := h.lt
 obtain ⟨xs, h1, h2⟩ := h
 refine ⟨xs, h1.same fun q hq => hg.block q (hlt q hq).2 (fun e => hne q hq e.symm), Celg.mv (hk := hk) (fun A n c l hr => ?_) h2⟩
 cases row with
 | none => exact hr.grownNone hg
 | some g => exact hr.grown hg (hr.off (hno g rfl))
theorem GRow.form [hk : Kin R k] {w : World} (h : GRow R E k w base v L) : ∃ A c, v = .slice A L.length c ∧ L.length ≤ c ∧ c ≤ 9223372036854775807 ∧ (L ≠ [] → ∃ g, A = some ⟨g, 0, none⟩ ∧ ∀ (i : Nat) (x : α), L[i]? = some x → ∃ cs, R w x cs ∧ ∀ (j : Nat) (u : Value), cs[j]? = some u → w.cell? ⟨g, i * k + j, none⟩ = some u) := by
 obtain ⟨xs, h1, h2⟩ := h
 rcases h1.1.2 with ⟨hv, h3⟩ | ⟨g, cap, cur, hv, hb, hg, hc, hm, _, ht⟩
 ·exact ⟨none, 0, by rw [hv, h3], by omega, by omega, fun h0 => absurd (List.eq_nil_of_length_eq_zero h3) h0⟩
 ·refine ⟨some ⟨g, 0, none⟩, cap, hv, hc, by unfold maxLen at hm; omega, fun _ => ⟨g, rfl, fun i x hx => ?_⟩⟩
  obtain ⟨cs, g1, g2⟩ := Celg.get (hk := hk) h2 i x hx
  refine ⟨cs, g1, fun j u hu => ?_⟩
  have := h1.1.cells (g := g) (by rw [hv]; rfl) (i * k + j) u (g2 j u hu)
  rwa [show (⟨g, 0, none⟩ : Addr).add (i * k + j) = ⟨g, i * k + j, none⟩ by unfold Addr.add; split <;> simp_all] at this
/-- append of some elements, which lie in a block of their own, as a run -/
theorem appg_run [hk : Kin R k] {T : TypeId} {z : Value} {bytes : Nat} (hT : Tryz.prog.underlying T = some (.slice E)) (hE : (Tryz.prog.info? E).map (fun i => (i.zero, i.size, i.bytes)) = some (some z, k, bytes)) (hz : z.cells.size = k) (hzn : ∀ u ∈ z.cells, NoL u) (hk0 : 0 < k) (hbt : bytes ≤ 1000)
  {w : World} (ty : TypeId) {b m cc : Nat} {N : List α} {news : List Value} (h : GRow R E k w base v L) (hc : ∀ (j : Nat) (u : Value), news[j]? = some u → w.cell? ⟨b, j, none⟩ = some u) (hN : Celg R w N news) (hm : N.length = m) (hm0 : 0 < m) (hL : L.length + m ≤ 1000) (hbase : base ≤ w.heap.size) :
  ∃ v' w', (Builtin.append_ #[T, T] ty #[v, .slice (some ⟨b, 0, none⟩) m cc]).run Tryz.prog w = .ok v' w' ∧ GRow R E k w' base v' (L ++ N) ∧ w.grownBy w' v.ownBlock ∧ (v'.ownBlock = v.ownBlock ∨ v'.ownBlock = some w.heap.size) := by
 obtain ⟨xs, h1, h2⟩ := h
 obtain ⟨i0, hi, hz0, hz1, hz2⟩ := info_partsD hE
 have hall := Celg.all (hk := hk) hN
 obtain ⟨v', w', hr', g1, g2, g3⟩ := run_append_n (ty := ty) (c := cc) hT hi hz0 hz1 hz2 hz hk0 hzn h1 (a := ⟨b, 0, none⟩) (m := m) (news := news) (by rw [Celg.len (hk := hk) hN, hm])
  (fun j u hu => by
   rw [show (⟨b, 0, none⟩ : Addr).add j = ⟨b, j, none⟩ by unfold Addr.add; split <;> simp_all]
   exact hc j u hu) (fun u hu => (hall u hu).1) (fun u hu => (hall u hu).2) hm0 (by unfold maxLen; omega) (Nat.le_trans (Nat.mul_le_mul hL hbt) (by decide)) hbase
 have hfar : ∀ (B : Option Addr) (k d : Nat) (l : List Nat), Rd w .u64 Go.Proofs.YtlpjlmophlikeaaGreatDoor.W B k d l → Rd w' .u64 Go.Proofs.YtlpjlmophlikeaaGreatDoor.W B k d l := fun B k d l hB => by
  cases hv : v.ownBlock with
  | none => rw [hv] at g2; exact hB.grownNone g2
  | some g => rw [hv] at g2; exact hB.grown g2 (hB.off (h1.2 g hv))
 exact ⟨v', w', hr', ⟨xs ++ news, by rw [List.length_append, hm]; exact g1, (Celg.mv (hk := hk) hfar h2).app (Celg.mv (hk := hk) hfar hN)⟩, g2, g3⟩
end
/-- a number's three cells; a line's nine -/
def rD (w : World) (x : Rw) (c : List Value) : Prop := ∃ A n m, c = [.bool x.s, .slice A n m, .int .i64 x.e] ∧ Rd w .u64 Go.Proofs.YtlpjlmophlikeaaGreatDoor.W A n m x.l
def rL (w : World) (x : Ln) (c : List Value) : Prop := ∃ A n a B m b, c = [.int .i64 x.op, .int .i64 x.a, .int .i64 x.b, .bool x.k.lo.s, .slice A n a, .int .i64 x.k.lo.e, .bool x.k.hi.s, .slice B m b, .int .i64 x.k.hi.e] ∧ Rd w .u64 Go.Proofs.YtlpjlmophlikeaaGreatDoor.W A n a x.k.lo.l ∧ Rd w .u64 Go.Proofs.YtlpjlmophlikeaaGreatDoor.W B m b x.k.hi.l
instance : Kin rD 3 where
 len := fun ⟨_, _, _, h, _⟩ => by rw [h]; rfl
 one := fun ⟨_, _, _, h, _⟩ u hu => by
  rw [h] at hu
  simp at hu
  rcases hu with rfl | rfl | rfl <;> exact ⟨rfl, fun _ h => by cases h⟩
 mv := fun f ⟨A, n, m, h, r⟩ => ⟨A, n, m, h, f _ _ _ _ r⟩
instance : Kin rL 9 where
 len := fun ⟨_, _, _, _, _, _, h, _⟩ => by rw [h]; rfl
 one := fun ⟨_, _, _, _, _, _, h, _⟩ u hu => by
  rw [h] at hu
  simp at hu
  rcases hu with rfl | rfl | rfl | rfl | rfl | rfl | rfl | rfl | rfl <;> exact ⟨rfl, fun _ h => by cases h⟩
 mv := fun f ⟨A, n, a, B, m, b, h, r, s⟩ => ⟨A, n, a, B, m, b, h, f _ _ _ _ r, f _ _ _ _ s⟩
def DRow : World → Nat → Value → List Rw → Prop := GRow rD 27 3
def LRow : World → Nat → Value → List Ln → Prop := GRow rL 31 9
theorem infoLn : (Tryz.prog.info? 31).map (fun i => (i.zero, i.size, i.bytes)) = some (some (.agg #[.int .i64 0, .int .i64 0, .int .i64 0, .bool false, .slice none 0 0, .int .i64 0, .bool false, .slice none 0 0, .int .i64 0]), 9, 104) := by kernel_rfl
section
variable {w : World} {base : Nat} {v : Value}
theorem lrow_rd {L : List Ln} {d : Ln} (h : LRow w base v L) : ∃ A c, v = .slice A L.length c ∧ RdL w A L.length c (fun i => L.getD i d) := by
 obtain ⟨A, c, hv, hc, hm, hat⟩ := GRow.form h
 refine ⟨A, c, hv, ⟨hc, hm, fun hn => ?_⟩⟩
 obtain ⟨g, hA, hg⟩ := hat (fun e => hn (by rw [e]; rfl))
 refine ⟨g, 0, hA, fun i hi => ?_⟩
 have e : L[i]? = some (L.getD i d) := by rw [List.getD_eq_getElem?_getD, List.getElem?_eq_getElem hi]; rfl
 obtain ⟨cs, ⟨A1, n1, c1, A2, n2, c2, rfl, r1, r2⟩, hat⟩ := hg i _ e
 rw [Nat.zero_add]
 exact ⟨A1, n1, c1, A2, n2, c2, ⟨hat 0 _ rfl, hat 1 _ rfl, hat 2 _ rfl, hat 3 _ rfl, hat 4 _ rfl, hat 5 _ rfl, hat 6 _ rfl, hat 7 _ rfl, hat 8 _ rfl⟩, r1, r2⟩
end
theorem zln : ∀ {w : World} {op a b : Int}, rL w ⟨op, a, b, Iv.zero⟩ [.int .i64 op, .int .i64 a, .int .i64 b, .bool false, .slice none 0 0, .int .i64 0, .bool false, .slice none 0 0, .int .i64 0] := fun {w} {_} {_} {_} => ⟨none, 0, 0, none, 0, 0, rfl, rd_nil0 w, rd_nil0 w⟩
end Go.Proofs.YtlpjlmophlikeaaGreatDoor
