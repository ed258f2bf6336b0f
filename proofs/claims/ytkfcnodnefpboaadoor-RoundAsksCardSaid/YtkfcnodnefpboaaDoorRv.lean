/-
  Contracts of the reference's Round and of layer 3's same, at this translation. Condition: the slices read as limbs, or as digits of sixteen bits.
-/
import Derived.Test.YtkfcnodnefpboaaDoorRu
import Derived.Test.YtkfcnodnefpboaaDoorRm
namespace Go.Proofs.YtkfcnodnefpboaaDoor
open Go.RowKit

theorem digits_up {x a b : Nat} (hx : x < Go.Proofs.YtkfcnodnefpboaaDoor.H ^ a) (h : a ≤ b) : x < Go.Proofs.YtkfcnodnefpboaaDoor.H ^ b := Nat.lt_of_lt_of_le hx (Nat.pow_le_pow_right (by rw [H_eq]; omega) h)
theorem digits_of {x : Nat} (hx : x < Go.Proofs.YtkfcnodnefpboaaDoor.W ^ 64) : x < Go.Proofs.YtkfcnodnefpboaaDoor.H ^ 600 := by
  obtain ⟨b, hb⟩ : ∃ b, b = 600 := ⟨_, rfl⟩
  rw [← H256] at hx
  have h1 := digits_up hx (show 256 ≤ b by omega)
  rw [hb] at h1
  exact h1
theorem cutN_lt {p x : Nat} {u : Bool} (hp : p ≤ 2000) : cutN p x u < Go.Proofs.YtkfcnodnefpboaaDoor.W ^ 64 := by
  have := (cutR_lt (x := x) (rest := false) (u := u) hp).2
  rwa [cutR_false] at this
theorem cutN_blen {p x : Nat} {u : Bool} (hp : p ≤ 2000) : blen (cutN p x u) ≤ 4096 := by
  have h := cutN_lt (x := x) (u := u) hp
  rw [W64_pow] at h
  have := (blen_le _ (64 * 64)).2 h
  omega
set_option maxRecDepth 100000 in
set_option maxHeartbeats 8000000 in
theorem rround_ok {w : World} {A1 : Option Addr} {n1 c1 x p : Nat} {s1 up : Bool} {e1 : Int} (h1 : Nt w A1 n1 c1 x) (hd : OkD s1 x e1) (hp1 : 1 ≤ p) (hp : p ≤ 2000) :
    Calls Tryd.prog 49 #[.agg #[.bool s1, .slice A1 n1 c1, .int .i64 e1], .int .i64 (p : Int), .bool up] w (Tells (RdTold s1 x e1 p up) w) := by
  have re := okd_ge (K := 4194304) (Nat.le_refl _) hd
  have r1 := re.1
  have r2 := re.2.1
  have O1 := Lib.hid hd
  have bx := blen_nt h1
  have HX := Lib.hid (digits_of h1.lt)
  clear re hd
  have BB := two_below w (.cells #[.bool s1, .slice A1 n1 c1, .int .i64 e1] 24) (.cells #[.bool false, .slice none 0 0, .int .i64 0] 24)
  obtain ⟨a10, a11, a12⟩ := ((Box.new w s1 A1 n1 c1 e1).alloc (.cells #[.bool false, .slice none 0 0, .int .i64 0] 24)).held
  have r := box_one' w (.cells #[.bool s1, .slice A1 n1 c1, .int .i64 e1] 24) false none 0 0 0
  replace h1 := mv BB rfl h1
  have d1 : decide ((p : Int) < 1) = false := decide_eq_false (by omega)
  have d2 : decide ((2000 : Int) < (p : Int)) = false := decide_eq_false (by omega)
  go_enter Tryd.func49, Tryd.ntmps49
  go_wp2_with fail
  refine (rmayd_any (s := s1) (e := e1) h1.rd).mono ?_
  rintro en w1 ⟨rfl, b⟩
  rw [mayD_ok O1.out]
  replace BB := below_next BB BB.size b rfl rfl rfl rfl
  have G := mv b rfl <| And.intro a10 <| And.intro a11 <| And.intro a12 <| And.intro h1 <| r
  clear b a10 a11 a12 h1 r
  obtain ⟨a10, a11, a12, h1, r⟩ := G
  go_wp2_with fail
  refine (rof_any (s := s1) (e := e1) h1).mono ?_
  rintro en w2 ⟨A2, n2, c2, rfl, h2, b⟩
  clear h1
  replace BB := below_next BB BB.size b rfl rfl rfl rfl
  have G := mv b rfl <| And.intro a10 <| And.intro a11 <| And.intro a12 <| r
  clear b a10 a11 a12 r
  obtain ⟨a10, a11, a12, r⟩ := G
  go_wp2_with fail
  refine (rcut_any (p := p) (s := s1) (up := up) h2 HX.out (by omega) hp (by omega)).mono ?_
  rintro en w3 ⟨A3, n3, c3, rfl, h3, b⟩
  have hcb := cutN_blen (x := x) (u := up != s1) hp
  have HCL := Lib.hid (cutN_lt (x := x) (u := up != s1) hp)
  clear h2
  replace BB := below_next BB BB.size b rfl rfl rfl rfl
  have G := mv b rfl <| And.intro a10 <| And.intro a11 <| And.intro a12 <| r
  clear b a10 a11 a12 r
  obtain ⟨a10, a11, a12, r⟩ := G
  have n3l := digits_le h3 (digits_of HCL.out)
  go_wp2_with fail
  refine (rnorm_any (s := s1) (e := e1 + ((blen x - p : Nat) : Int)) h3 (by omega) (by omega)).mono ?_
  rintro en w4 ⟨k, s5, A5, n5, c5, m5, e5, rfl, hP, h5, b⟩
  have HP : Hid (RdTold s1 x e1 p up k s5 m5 e5) := Lib.hid (rd_told r1 (by rw [cutR_false]; exact hP))
  clear hP
  clear h3
  replace BB := below_next BB BB.size b rfl rfl rfl rfl
  have G := mv b rfl <| And.intro a10 <| And.intro a11 <| And.intro a12 <| r
  clear b a10 a11 a12 r
  obtain ⟨a10, a11, a12, r⟩ := G
  obtain ⟨f0, f1, f2⟩ := r.open
  obtain ⟨z0, z1, z2⟩ := r.held
  go_wp2
  have q := r.put s5 A5 n5 c5 e5
  have hN := h5.put3 r (.bool s5) (.slice A5 n5 c5) (.int .i64 e5)
  have HB3 := below_put3 (g := w.heap.size + 1) BB (by omega) (.bool s5) (.slice A5 n5 c5) (.int .i64 e5)
  obtain ⟨z0, z1, z2⟩ := q.held
  exact bodyPost_ret (v := .tuple #[.agg #[.bool s5, .slice A5 n5 c5, .int .i64 e5], .int .i64 k]) (by simp [results, Tryd.results49, go_sem, z0, z1, z2]) rfl ⟨_, _, _, _, _, _, _, rfl, HP.out, hN, HB3⟩

set_option maxRecDepth 100000 in
set_option maxHeartbeats 8000000 in
theorem rround_no {w : World} {A1 : Option Addr} {n1 c1 : Nat} {l1 : List Nat} {s1 up : Bool} {e1 p : Int} (h1 : Rd w .u64 Go.Proofs.YtkfcnodnefpboaaDoor.W A1 n1 c1 l1) (hd : p < 1 ∨ 2000 < p ∨ mayD s1 l1 e1 = false) :
    Calls Tryd.prog 49 #[.agg #[.bool s1, .slice A1 n1 c1, .int .i64 e1], .int .i64 p, .bool up] w (Tells Wrong w) := by
  have BB := two_below w (.cells #[.bool s1, .slice A1 n1 c1, .int .i64 e1] 24) (.cells #[.bool false, .slice none 0 0, .int .i64 0] 24)
  obtain ⟨a10, a11, a12⟩ := ((Box.new w s1 A1 n1 c1 e1).alloc (.cells #[.bool false, .slice none 0 0, .int .i64 0] 24)).held
  have r := box_one' w (.cells #[.bool s1, .slice A1 n1 c1, .int .i64 e1] 24) false none 0 0 0
  replace h1 := mv BB rfl h1
  go_enter Tryd.func49, Tryd.ntmps49
  go_wp2_with fail
  refine (rmayd_any (s := s1) (e := e1) h1).mono ?_
  rintro en w1 ⟨rfl, b⟩
  clear h1
  replace BB := below_next BB BB.size b rfl rfl rfl rfl
  have G := mv b rfl <| And.intro a10 <| And.intro a11 <| And.intro a12 <| r
  clear b a10 a11 a12 r
  obtain ⟨a10, a11, a12, r⟩ := G
  cases hm : mayD s1 l1 e1
  · clear hd hm
    obtain ⟨f0, f1, f2⟩ := r.open
    obtain ⟨z0, z1, z2⟩ := r.held
    go_wp2
    have q := r.put false none 0 0 0
    have HB3 := below_put3 (g := w.heap.size + 1) BB (by omega) (.bool false) (.slice none 0 0) (.int .i64 0)
    obtain ⟨z0, z1, z2⟩ := q.held
    exact bodyPost_ret (v := .tuple #[.agg #[.bool false, .slice none 0 0, .int .i64 0], .int .i64 1]) (by simp [results, Tryd.results49, go_sem, z0, z1, z2]) rfl ⟨_, _, _, _, _, 0, _, rfl, ⟨rfl, rfl, rfl, rfl⟩, nt_nil _, HB3⟩
  rcases Int.lt_or_le p 1 with g | g
  · have d1 : decide (p < 1) = true := decide_eq_true g
    clear hd hm
    obtain ⟨f0, f1, f2⟩ := r.open
    obtain ⟨z0, z1, z2⟩ := r.held
    go_wp2
    have q := r.put false none 0 0 0
    have HB3 := below_put3 (g := w.heap.size + 1) BB (by omega) (.bool false) (.slice none 0 0) (.int .i64 0)
    obtain ⟨z0, z1, z2⟩ := q.held
    exact bodyPost_ret (v := .tuple #[.agg #[.bool false, .slice none 0 0, .int .i64 0], .int .i64 1]) (by simp [results, Tryd.results49, go_sem, z0, z1, z2]) rfl ⟨_, _, _, _, _, 0, _, rfl, ⟨rfl, rfl, rfl, rfl⟩, nt_nil _, HB3⟩
  have d1 : decide (p < 1) = false := decide_eq_false (by omega)
  have g2 : 2000 < p := by rcases hd with h | h | h <;> first | omega | (rw [hm] at h; cases h)
  have d2 : decide ((2000 : Int) < p) = true := decide_eq_true g2
  clear hd hm
  obtain ⟨f0, f1, f2⟩ := r.open
  obtain ⟨z0, z1, z2⟩ := r.held
  go_wp2
  have q := r.put false none 0 0 0
  have HB3 := below_put3 (g := w.heap.size + 1) BB (by omega) (.bool false) (.slice none 0 0) (.int .i64 0)
  obtain ⟨z0, z1, z2⟩ := q.held
  exact bodyPost_ret (v := .tuple #[.agg #[.bool false, .slice none 0 0, .int .i64 0], .int .i64 1]) (by simp [results, Tryd.results49, go_sem, z0, z1, z2]) rfl ⟨_, _, _, _, _, 0, _, rfl, ⟨rfl, rfl, rfl, rfl⟩, nt_nil _, HB3⟩

set_option maxRecDepth 100000 in
set_option maxHeartbeats 8000000 in
theorem same3_self {w : World} {A1 A2 : Option Addr} {n1 c1 n2 c2 x : Nat} {s : Bool} {e k : Int} (h1 : Nt w A1 n1 c1 x) (h2 : Nt w A2 n2 c2 x) :
    Calls Tryd.prog 51 #[.agg #[.bool s, .slice A1 n1 c1, .int .i64 e], .int .i64 k, .agg #[.bool s, .slice A2 n2 c2, .int .i64 e], .int .i64 k] w fun en w' => en = .returned (.bool true) ∧ Below w.heap.size w w' := by
  have BB := two_below w (.cells #[.bool s, .slice A1 n1 c1, .int .i64 e] 24) (.cells #[.bool s, .slice A2 n2 c2, .int .i64 e] 24)
  obtain ⟨a10, a11, a12, a20, a21, a22⟩ := (two_new w s s A1 A2 n1 c1 n2 c2 e e).held
  have fk : (k == k) = true := by simp
  have G := mv BB rfl <| And.intro h1 <| h2
  clear h1 h2
  obtain ⟨h1, h2⟩ := G
  go_enter Tryd.func51, Tryd.ntmps51
  go_wp2_with fail
  refine (rsame_self (s := s) (e := e) h1 h2).mono ?_
  rintro en w1 ⟨rfl, b⟩
  replace BB := below_next BB BB.size b rfl rfl rfl rfl
  clear b
  go_wp2
  go_ret
  exact ⟨rfl, BB⟩
end Go.Proofs.YtkfcnodnefpboaaDoor
