/-
 Contract of the statement DecTexts' function at this translation: it returns true, whatever its arguments. Conditions: the slice reads as limbs; the two tables, and the two errors of strconv, lie as their texts lay them.
-/
import Derived.Test.YtefofejgogokpaaGreatDoorPVf
import Derived.Test.YtefofejgogokpaaGreatDoorPKz
set_option maxHeartbeats 8000000
set_option maxRecDepth 100000
namespace Go.Proofs.YtefofejgogokpaaGreatDoor
open Go.RowKit

theorem texts_any {w : World} {A1 : Option Addr} {n1 c1 : Nat} {l1 : List Nat} {s1 up : Bool} {e1 p : Int} (hE : Errs w) (hT : Tab w) (hP : PowT w) (h1 : Rd w .u64 Go.Proofs.YtefofejgogokpaaGreatDoor.W A1 n1 c1 l1) :
  Calls Tryz.prog 4 #[.agg #[.bool s1, .slice A1 n1 c1, .int .i64 e1], .int .i64 p, .bool up] w fun en w' => ToldEnd w en w' := by
 have xn1 : n1 ≤ 9223372036854775807 := Nat.le_trans h1.cap h1.max
 have BB := below_alloc w (.cells #[.bool s1, .slice A1 n1 c1, .int .i64 e1] 25)
 have x := Box.new w s1 A1 n1 c1 e1
 have G := mv BB rfl <| And.intro hE <| And.intro hT <| And.intro hP h1
 clear hE hT hP h1
 obtain ⟨hE, hT, hP, h1⟩ := G
 obtain ⟨a0, a1, a2⟩ := x.held
 go_enter Tryz.func4, Tryz.ntmps4
 by_cases q1 : 20 < n1
 ·have d1 : decide ((20 : Int) < (n1 : Int)) = true := decide_eq_true (by omega)
  go_wp2_with fail
  refine (told4_any hE hT hP).mono ?_
  rintro en w99 ⟨rfl, b⟩
  replace BB := bnx BB b
  clear b
  go_wp2
  go_ret
  exact ⟨by first | rfl | simp, BB⟩
 have d1 : decide ((20 : Int) < (n1 : Int)) = false := decide_eq_false (by omega)
 obtain ⟨TX, hTX⟩ : ∃ z, z = txt (textS s1 l1 e1 p up) := ⟨_, rfl⟩
 obtain ⟨k, hk⟩ : ∃ z, z = textK s1 l1 e1 p := ⟨_, rfl⟩
 have htl : TX.size ≤ 10000 := by rw [hTX, txt_size]; exact textS_len h1.lt
 have C1 : Hid (∀ W1 : World, Tab W1 → PowT W1 → Rd W1 .u64 Go.Proofs.YtefofejgogokpaaGreatDoor.W A1 n1 c1 l1 → Calls Tryz.prog 18 #[.agg #[.bool s1, .slice A1 n1 c1, .int .i64 e1], .int .i64 p, .bool up] W1 fun en w' => en = .returned (.tuple #[.string TX, .int .i64 k]) ∧ Below W1.heap.size W1 w') := fun W1 t q r => by
  rw [hTX, hk]
  exact dtext_any t q r
 have C2 : Hid (∀ W1 : World, Rd W1 .u64 Go.Proofs.YtefofejgogokpaaGreatDoor.W A1 n1 c1 l1 → Calls Tryz.prog 19 #[.agg #[.bool s1, .slice A1 n1 c1, .int .i64 e1], .int .i64 p, .bool up] W1 fun en w' => en = .returned (.tuple #[.string TX, .int .i64 k]) ∧ Below W1.heap.size W1 w') := fun W1 r => by
  rw [hTX, hk]
  exact rtext_any (by omega) r
 clear hTX hk q1 xn1
 go_wp2_with fail
 refine (C1.out _ hT hP h1).mono ?_
 rintro en w2 ⟨rfl, b⟩
 replace BB := bnx BB b
 have G := mv b rfl (J8 hE hT hP h1 x a0 a1 a2)
 clear b hE hT hP h1 x a0 a1 a2
 obtain ⟨hE, hT, hP, h1, x, a0, a1, a2⟩ := G
 go_wp2_with fail
 refine (C2.out _ h1).mono ?_
 rintro en w3 ⟨rfl, b⟩
 replace BB := bnx BB b
 have G := mv b rfl (J8 hE hT hP h1 x a0 a1 a2)
 clear b hE hT hP h1 x a0 a1 a2
 obtain ⟨hE, hT, hP, h1, x, a0, a1, a2⟩ := G
 clear C1 C2 x h1 a0 a1 a2
 go_wp2_with fail
 refine (told4_any hE hT hP).mono ?_
 rintro en w99 ⟨rfl, b⟩
 replace BB := bnx BB b
 clear b
 go_wp2
 go_ret
 exact ⟨by first | rfl | simp, BB⟩
end Go.Proofs.YtefofejgogokpaaGreatDoor
