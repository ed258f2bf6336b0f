/-
 Contracts of round's faces (Down, Up, Quot, Root, Bits) and of the closures within them, at this translation. Condition: the slices read as limbs, the table of math/bits reads as its text lays it.
-/
import Derived.Test.YtldbafifgkobcaaGreatDoorQRb
import Derived.Test.YtldbafifgkobcaaGreatDoorQRd
import Derived.Test.YtldbafifgkobcaaGreatDoorQRk
set_option maxHeartbeats 8000000
set_option maxRecDepth 100000
namespace Go.Proofs.YtldbafifgkobcaaGreatDoor
open Go.RowKit

theorem dys_one {w : World} {g : Nat} {s : Bool} {A : Option Addr} {n c : Nat} {e : Int} {l : List Nat} (h : Box w g s A n c e) (hr : Rd w .u64 W A n c l) : Dys w g 1 (fun _ => s) (fun _ => A) (fun _ => n) (fun _ => c) (fun _ => e) (fun _ => l) :=
 ⟨fun i hi => by obtain rfl : i = 0 := by omega
                 exact h.c0,
  fun i hi => by obtain rfl : i = 0 := by omega
                 exact h.c1,
  fun i hi => by obtain rfl : i = 0 := by omega
                 exact h.c2, fun _ _ => hr⟩
/-- what is told of a number rounded to p bits -/
def RdTold (s : Bool) (x : Nat) (e : Int) (p : Nat) (up : Bool) : Int → Bool → Nat → Int → Prop := Nm s (rdN p x (up != s)) e
theorem rd_told {s : Bool} {x : Nat} {e : Int} {p : Nat} {u : Bool} {k : Int} {s' : Bool} {m' : Nat} {e' : Int} (he : -1048576 ≤ e) (h : Nm s (cutR p x false u) (e + ((blen x - p : Nat) : Int)) k s' m' e') : Nm s (rdN p x u) e k s' m' e' := by
 obtain ⟨K, hK⟩ := scale_has
 rw [cutR_false] at h
 refine nm_congr (K := K) (by omega) (by omega) ?_ h
 rw [vz_up (by omega)]
 rfl

theorem rounded_ok {w : World} {x p : Nat} {up : Bool} {A1 : Option Addr} {n1 c1 : Nat} {s1 : Bool} {e1 : Int} (hT : Tab w) (h1 : Nt w A1 n1 c1 x) (hd : OkD s1 x e1) (hp1 : 1 ≤ p) (hp : p ≤ 2000) :
  Calls Tryz.prog 131 #[.agg #[.bool s1, .slice A1 n1 c1, .int .i64 e1], .int .i64 (p : Int), .bool up] w (Ran (RdTold s1 x e1 p up) w) := by
 have re := okd_ge (K := 4194304) (Nat.le_refl _) hd
 have r1 := re.1
 have r2 := re.2.1
 have O1 := Lib.hid hd
 clear re hd
 have BB := two_below w (.cells #[.bool s1, .slice A1 n1 c1, .int .i64 e1] 24) (.cells #[.bool false, .slice none 0 0, .int .i64 0] 24)
 obtain ⟨a10, a11, a12⟩ := ((Box.new w s1 A1 n1 c1 e1).alloc (.cells #[.bool false, .slice none 0 0, .int .i64 0] 24)).held
 have r := box_one w (.cells #[.bool s1, .slice A1 n1 c1, .int .i64 e1] 24) false none 0 0 0
 have G := mv BB rfl <| And.intro h1 <| hT
 clear h1 hT
 obtain ⟨h1, hT⟩ := G
 go_enter Tryz.func131, Tryz.ntmps131
 go_wp2_with fail
 have xs := box_two w (.cells #[.bool s1, .slice A1 n1 c1, .int .i64 e1] 24) (.cells #[.bool false, .slice none 0 0, .int .i64 0] 24) s1 A1 n1 c1 e1
 have b := below_alloc ((w.alloc (.cells #[.bool s1, .slice A1 n1 c1, .int .i64 e1] 24)).alloc (.cells #[.bool false, .slice none 0 0, .int .i64 0] 24)) (.cells #[.bool s1, .slice A1 n1 c1, .int .i64 e1] 24)
 replace BB := bnx BB b
 have G := mv b rfl (J6 a10 a11 a12 h1 hT r)
 clear b a10 a11 a12 h1 hT r
 obtain ⟨a10, a11, a12, h1, hT, r⟩ := G
 refine (check_all hT (dys_one xs h1.rd) (by omega) hp1 hp (fun _ _ => mayD_ok O1.out)).mono ?_
 rintro en w1 ⟨rfl, b⟩
 clear xs
 replace BB := bnx BB b
 have G := mv b rfl (J6 a10 a11 a12 h1 hT r)
 clear b a10 a11 a12 h1 hT r
 obtain ⟨a10, a11, a12, h1, hT, r⟩ := G
 go_wp2_with fail
 refine (cut_any (p := p) (x := x) (rest := false) (neg := s1) (up := up) (e := e1) hT h1 hp (by omega) (by omega)).mono ?_
 rintro en w2 (⟨s3, A3, n3, c3, m3, e3, rfl, hP, h3, b⟩ | ⟨k, rfl, hk, hP, b⟩)
 ·have HP := Lib.hid (rd_told r1 hP)
  clear hP
  replace BB := bnx BB b
  replace r := mv b rfl r
  clear b
  obtain ⟨f0, f1, f2⟩ := r.open
  obtain ⟨z0, z1, z2⟩ := r.held
  go_wp2
  have q := r.put s3 A3 n3 c3 e3
  have hN := h3.put3 r (.bool s3) (.slice A3 n3 c3) (.int .i64 e3)
  have HB3 := below_put3 (g := w.heap.size + 1) BB (by omega) (.bool s3) (.slice A3 n3 c3) (.int .i64 e3)
  obtain ⟨z0, z1, z2⟩ := q.held
  exact bodyPost_ret (v := .agg #[.bool s3, .slice A3 n3 c3, .int .i64 e3]) (by simp [results, Tryz.results131, go_sem, z0, z1, z2]) rfl (.inl ⟨_, _, _, _, _, _, rfl, HP.out, hN, HB3⟩)
 ·have HP := Lib.hid (rd_told r1 hP)
  have HK := Lib.hid hk
  replace BB := bnx BB b
  clear b hP hk
  go_wp2
  exact ⟨rfl, .inr ⟨k, rfl, HK.out, HP.out, BB⟩⟩

theorem down1_any {P : Int → Bool → Nat → Int → Prop} {w : World} {v : Nat} {p : Int} {A1 : Option Addr} {n1 c1 : Nat} {s1 : Bool} {e1 : Int} (g : Box w v s1 A1 n1 c1 e1) (gp : Cel w (v + 1) p)
  (hc : ∀ W2 : World, Below w.heap.size w W2 → Calls Tryz.prog 131 #[.agg #[.bool s1, .slice A1 n1 c1, .int .i64 e1], .int .i64 p, .bool false] W2 (Ran P W2)) :
  Calls Tryz.prog 132 #[.pointer (some ⟨v, 0, none⟩), .pointer (some ⟨v + 1, 0, none⟩)] w (Ran P w) := by
 have BB := below_alloc w (.cells #[.bool false, .slice none 0 0, .int .i64 0] 24)
 obtain ⟨a10, a11, a12⟩ := (g.alloc (.cells #[.bool false, .slice none 0 0, .int .i64 0] 24)).held
 have p0 := (gp.alloc (.cells #[.bool false, .slice none 0 0, .int .i64 0] 24)).c0
 have r := Box.new w false none 0 0 0
 have vl := gp.gl
 have HC := Lib.hid hc
 clear hc g gp
 go_enter Tryz.func132, Tryz.ntmps132
 go_wp2_with fail
 refine (HC.out _ BB).mono ?_
 rintro en w2 (⟨s3, A3, n3, c3, m3, e3, rfl, hP, h3, b⟩ | ⟨k, rfl, hk, hP, b⟩)
 ·have HP := Lib.hid hP
  clear hP HC a10 a11 a12 p0
  replace BB := bnx BB b
  replace r := mv b rfl r
  clear b
  obtain ⟨f0, f1, f2⟩ := r.open
  obtain ⟨z0, z1, z2⟩ := r.held
  go_wp2
  have q := r.put s3 A3 n3 c3 e3
  have hN := h3.put3 r (.bool s3) (.slice A3 n3 c3) (.int .i64 e3)
  have HB3 := below_put3 (g := w.heap.size) BB (by omega) (.bool s3) (.slice A3 n3 c3) (.int .i64 e3)
  obtain ⟨z0, z1, z2⟩ := q.held
  exact bodyPost_ret (v := .agg #[.bool s3, .slice A3 n3 c3, .int .i64 e3]) (by simp [results, Tryz.results132, go_sem, z0, z1, z2]) rfl (.inl ⟨_, _, _, _, _, _, rfl, HP.out, hN, HB3⟩)
 ·have HP := Lib.hid hP
  have HK := Lib.hid hk
  replace BB := bnx BB b
  clear b hP hk HC
  go_wp2
  exact ⟨rfl, .inr ⟨k, rfl, HK.out, HP.out, BB⟩⟩

theorem face_down {P : Int → Bool → Nat → Int → Prop} {w : World} {A : Option Addr} {n c : Nat} {s : Bool} {e p : Int}
  (hc : ∀ W2 : World, Below w.heap.size w W2 → Box W2 w.heap.size s A n c e → Cel W2 (w.heap.size + 1) p → Calls Tryz.prog 132 #[.pointer (some ⟨w.heap.size, 0, none⟩), .pointer (some ⟨w.heap.size + 1, 0, none⟩)] W2 (Ran P W2)) :
  Calls Tryz.prog 84 #[.agg #[.bool s, .slice A n c, .int .i64 e], .int .i64 p] w (Tells P w) := by
 have HC := Lib.hid hc
 clear hc
 have hmf := make_func
 have BB := three_below w (.cells #[.bool s, .slice A n c, .int .i64 e] 24) (.cells #[.int .i64 p] 3) (.cells #[.bool false, .slice none 0 0, .int .i64 0] 24)
 have g := ((Box.new w s A n c e).alloc (.cells #[.int .i64 p] 3)).alloc (.cells #[.bool false, .slice none 0 0, .int .i64 0] 24)
 have gp := (Cel.new1 w (.cells #[.bool s, .slice A n c, .int .i64 e] 24) p).alloc (.cells #[.bool false, .slice none 0 0, .int .i64 0] 24)
 have r := box_two w (.cells #[.bool s, .slice A n c, .int .i64 e] 24) (.cells #[.int .i64 p] 3) false none 0 0 0
 go_enter Tryz.func84, Tryz.ntmps84
 go_wp2_with fail
 refine (told_any2 (P := P) (fun _ => by kernel_rfl) (fun W2 h2 => ?_)).mono ?_
 ·subst h2
  exact HC.out _ four_below ((g.alloc _).alloc _) ((gp.alloc _).alloc _)
 rintro en w5 ⟨k, s', A5, n5, c5, m', e', rfl, hP, h5, b⟩
 have HP := Lib.hid hP
 replace r := r.next b rfl
 replace BB := bnx BB b
 obtain ⟨f0, f1, f2⟩ := r.open
 obtain ⟨z0, z1, z2⟩ := r.held
 clear b hP g gp HC
 go_wp2
 have q := r.put s' A5 n5 c5 e'
 have hN5 := h5.put3 r (.bool s') (.slice A5 n5 c5) (.int .i64 e')
 have HB3 := below_put3 (g := w.heap.size + 2) BB (by omega) (.bool s') (.slice A5 n5 c5) (.int .i64 e')
 obtain ⟨z0, z1, z2⟩ := q.held
 exact bodyPost_ret (v := .tuple #[.agg #[.bool s', .slice A5 n5 c5, .int .i64 e'], .int .i64 k]) (by simp [results, Tryz.results84, go_sem, z0, z1, z2]) rfl ⟨_, _, _, _, _, _, _, rfl, HP.out, hN5, HB3⟩
theorem rdown_ok {w : World} {x p : Nat} {A1 : Option Addr} {n1 c1 : Nat} {s1 : Bool} {e1 : Int} (hT : Tab w) (h1 : Nt w A1 n1 c1 x) (hd : OkD s1 x e1) (hp1 : 1 ≤ p) (hp : p ≤ 2000) :
  Calls Tryz.prog 84 #[.agg #[.bool s1, .slice A1 n1 c1, .int .i64 e1], .int .i64 (p : Int)] w (Tells (RdTold s1 x e1 p false) w) :=
 face_down fun _ b g gp => down1_any g gp fun _ b2 => rounded_ok ((hT.below b).below b2) ((h1.below b).below b2) hd hp1 hp
theorem bits_ok {w : World} {x : Nat} {A1 : Option Addr} {n1 c1 : Nat} {s1 : Bool} {e1 : Int} (hT : Tab w) (h1 : Nt w A1 n1 c1 x) (hd : OkD s1 x e1) :
  Calls Tryz.prog 22 #[.agg #[.bool s1, .slice A1 n1 c1, .int .i64 e1]] w (Ints (blen x : Int) w) := by
 have BB := below_alloc w (.cells #[.bool s1, .slice A1 n1 c1, .int .i64 e1] 24)
 obtain ⟨a10, a11, a12⟩ := (Box.new w s1 A1 n1 c1 e1).held
 have O1 := Lib.hid hd
 clear hd
 replace hT := hT.next BB rfl
 replace h1 := h1.next BB rfl
 go_enter Tryz.func22, Tryz.ntmps22
 go_wp2_with fail
 refine (dmay_yes hT h1 O1.out).mono ?_
 rintro en w1 ⟨rfl, b⟩
 replace BB := bnx BB b
 have G := mv b rfl (J4 a10 a11 a12 h1)
 clear b a10 a11 a12 h1
 obtain ⟨a10, a11, a12, h1⟩ := G
 go_wp2_with fail
 refine (len_nt h1).mono ?_
 rintro en w' ⟨rfl, rfl⟩
 go_wp2
 go_ret
 exact ⟨rfl, BB⟩
end Go.Proofs.YtldbafifgkobcaaGreatDoor
