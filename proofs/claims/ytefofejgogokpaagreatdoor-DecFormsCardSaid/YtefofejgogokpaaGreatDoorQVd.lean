/-
 Contract of the statement DecForms' function at this translation: it returns true, whatever its arguments. Conditions: the two tables, and the two errors of strconv, lie as their texts lay them.
-/
import Derived.Test.YtefofejgogokpaaGreatDoorQKz
import Derived.RegionTactic
import Derived.ChangeAlike
set_option maxHeartbeats 8000000
set_option maxRecDepth 100000
namespace Go.Proofs.YtefofejgogokpaaGreatDoor
open Go.RowKit

/-- its first half -/
def formS1 (n m : Nat) (pt : Bool) : List UInt8 := ([49, 50, 51, 52, 53, 54] : List UInt8).take n ++ (if pt = true then 46 :: ([57, 56, 55, 54, 53, 52] : List UInt8).take m else [])
def formB1 (n m : Nat) (pt : Bool) : Bool := decide (0 < n) && (!pt || decide (0 < m))
theorem formS1_len : ∀ n : Fin 7, ∀ m : Fin 7, ∀ pt : Bool, (formS1 n.val m.val pt).length ≤ 13 := by decide +kernel
/-- the text that DecForms makes -/
def formS (n m k g : Nat) (pt ex : Bool) : List UInt8 :=
 formS1 n m pt ++ (if ex = true then 101 :: ((if g = 1 then [43] else if g = 2 then [45] else []) ++ ([48, 48, 49, 50] : List UInt8).take k) else [])
def formB (n m k : Nat) (pt ex : Bool) : Bool := formB1 n m pt && (!ex || (decide (0 < k) && decide (k < 4)))
theorem form_all : ∀ n : Fin 7, ∀ m : Fin 7, ∀ k : Fin 5, ∀ g : Fin 3, ∀ pt ex : Bool, (readD (formS n.val m.val k.val g.val pt ex)).isSome = formB n.val m.val k.val pt ex := by decide +kernel
theorem form_is {n m k g : Nat} {pt ex : Bool} (h1 : n < 7) (h2 : m < 7) (h3 : k < 5) (h4 : g < 3) : (readD (formS n m k g pt ex)).isSome = formB n m k pt ex := form_all ⟨n, h1⟩ ⟨m, h2⟩ ⟨k, h3⟩ ⟨g, h4⟩ pt ex
theorem front_of (L : List UInt8) (n : Nat) : (ByteArray.mk L.toArray).extract 0 n = ByteArray.mk (L.take n).toArray := by
 apply ByteArray.ext
 apply Array.toList_inj.1
 rw [Lib.extract_data]
 simp
theorem front_run (L : List UInt8) (n : Nat) (hn : n ≤ L.length) (W : World) : (Instr.slice 9 (.string ⟨L.toArray⟩) none (some (.int .i64 (n : Int))) none).run Tryz.prog W = .ok (.string ⟨(L.take n).toArray⟩) W := by
 rw [run_slice_string_h W 9 ⟨L.toArray⟩ Tryz.underlying9 .i64 (n : Int) (by omega) (by show (n : Int) ≤ ((L.toArray.size : Nat) : Int); simp; omega), Int.toNat_natCast, front_of]
theorem form_cat (s r d : List UInt8) : ByteArray.mk s.toArray ++ ByteArray.mk #[101] ++ ByteArray.mk d.toArray ++ ByteArray.mk r.toArray = ByteArray.mk (s ++ 101 :: (d ++ r)).toArray := by
 rw [append_text s [101], append_text, append_text, List.append_assoc, List.append_assoc]
 rfl
/-- Lit of any text, by its code -/
theorem lit_code {w : World} {l : List UInt8} (hE : Errs w) (hT : Tab w) : ∃ (x : Iv) (k : Int), decide (k = 0) = (readD l).isSome ∧ Calls Tryz.prog 10 #[.string ⟨l.toArray⟩, .int .i64 50] w (TellI k x w) := by
 cases h : readD l with
 | none => exact ⟨_, _, rfl, dlit_text (s := ⟨l.toArray⟩) hE hT h⟩
 | some o =>
  obtain ⟨d, t⟩ := o
  obtain ⟨x, _, hc⟩ := dlit_ok (s := ⟨l.toArray⟩) (p := 50) hE hT h (by omega) (by omega)
  exact ⟨x, 0, rfl, hc⟩
theorem forms_any {w : World} {a b c z : Int} {pt ex : Bool} (hE : Errs w) (hT : Tab w) (hP : PowT w) :
  Calls Tryz.prog 8 #[.int .i64 a, .int .i64 b, .int .i64 c, .bool pt, .bool ex, .int .i64 z] w fun en w' => ToldEnd w en w' := by
 obtain ⟨rn, hrn⟩ := Int.eq_ofNat_of_zero_le (show 0 ≤ IntKind.u64.wrap a by rw [IntKind.wrap_u64]; omega)
 obtain ⟨n, hn⟩ : ∃ q, q = rn % 7 := ⟨_, rfl⟩
 have uun : (rn : Int) % 7 = (n : Int) := by omega
 have uwn : (0 : Int) ≤ (rn : Int) := by omega
 have uxn : n < 7 := by omega
 have uyn : (n : Int) < 7 := by omega
 clear hn
 obtain ⟨rm, hrm⟩ := Int.eq_ofNat_of_zero_le (show 0 ≤ IntKind.u64.wrap b by rw [IntKind.wrap_u64]; omega)
 obtain ⟨m, hm⟩ : ∃ q, q = rm % 7 := ⟨_, rfl⟩
 have uum : (rm : Int) % 7 = (m : Int) := by omega
 have uwm : (0 : Int) ≤ (rm : Int) := by omega
 have uxm : m < 7 := by omega
 have uym : (m : Int) < 7 := by omega
 clear hm
 obtain ⟨rk, hrk⟩ := Int.eq_ofNat_of_zero_le (show 0 ≤ IntKind.u64.wrap c by rw [IntKind.wrap_u64]; omega)
 obtain ⟨k, hk⟩ : ∃ q, q = rk % 5 := ⟨_, rfl⟩
 have uuk : (rk : Int) % 5 = (k : Int) := by omega
 have uwk : (0 : Int) ≤ (rk : Int) := by omega
 have uxk : k < 5 := by omega
 have uyk : (k : Int) < 5 := by omega
 clear hk
 obtain ⟨rg, hrg⟩ := Int.eq_ofNat_of_zero_le (show 0 ≤ IntKind.u64.wrap z by rw [IntKind.wrap_u64]; omega)
 obtain ⟨g, hg⟩ : ∃ q, q = rg % 3 := ⟨_, rfl⟩
 have uug : (rg : Int) % 3 = (g : Int) := by omega
 have uwg : (0 : Int) ≤ (rg : Int) := by omega
 have uxg : g < 3 := by omega
 have uyg : (g : Int) < 3 := by omega
 clear hg
 have BB := Below.refl w.heap.size w
 have FB := form_is (pt := pt) (ex := ex) uxn uxm uxk uxg
 have HFB := Lib.hid FB
 clear FB
 have q1 := front_run [49, 50, 51, 52, 53, 54] n (by show n ≤ 6; omega)
 have q2 := front_run [57, 56, 55, 54, 53, 52] m (by show m ≤ 6; omega)
 have q3 := front_run [48, 48, 49, 50] k (by show k ≤ 4; omega)
 go_enter Tryz.func8, Tryz.ntmps8
 go_upto_if 36 with fail
 go_cut [16, 17] (fun v16 v17 wc => v16 = .string ⟨(formS1 n m pt).toArray⟩ ∧ v17 = .bool (formB1 n m pt) ∧ w = wc)
 case first =>
  cases pt
  ·go_wp2
   go_meet
   case rel => exact ⟨by unfold formS1; rw [if_neg (by decide), List.append_nil], by unfold formB1; simp, rfl⟩
  ·by_cases hn : 0 < n
   all_goals by_cases hm : 0 < m
   all_goals go_wp2
   all_goals try (exfalso; omega)
   all_goals go_meet
   all_goals (case rel => exact ⟨by unfold formS1; rw [if_pos rfl, show (⟨#[46]⟩ : ByteArray) = ⟨([46] : List UInt8).toArray⟩ from rfl, append_text, append_text, List.append_assoc]; rfl, by unfold formB1; simp [hn, hm], rfl⟩)
 case rest =>
  obtain ⟨rfl, rfl, rfl⟩ := hcut
  have hS1 : (formS1 n m pt).length ≤ 13 := formS1_len ⟨n, uxn⟩ ⟨m, uxm⟩ pt
  have hSz : (ByteArray.mk (formS1 n m pt).toArray).size = (formS1 n m pt).length := by show (formS1 n m pt).toArray.size = _; simp
  go_upto_if 47 with fail
  go_cut [16, 17] (fun v16 v17 wc => v16 = .string ⟨(formS n m k g pt ex).toArray⟩ ∧ v17 = .bool (formB n m k pt ex) ∧ Below w.heap.size w wc)
  case first =>
   cases ex
   ·go_wp2
    go_meet
    case rel => exact ⟨by unfold formS; rw [if_neg (by decide), List.append_nil], by unfold formB; simp, BB⟩
   ·rcases (show g = 0 ∨ g = 1 ∨ g = 2 by omega) with rfl | rfl | rfl
    all_goals go_wp2_with fail
    all_goals go_region
    all_goals cases hB : formB1 n m pt
    all_goals by_cases hk : 0 < k
    all_goals by_cases hk4 : k < 4
    all_goals go_wp2
    all_goals go_meet
    all_goals (case rel => exact ⟨by unfold formS; rw [if_pos rfl]; first | exact congrArg Value.string (form_cat _ _ []) | exact congrArg Value.string (form_cat _ _ [43]) | exact congrArg Value.string (form_cat _ _ [45]), by unfold formB; first | (simp [hB, hk, hk4]; done) | (simp [hB, hk, hk4]; omega), below_drewN (below_alloc w _) 1⟩)
  case rest =>
   obtain ⟨rfl, rfl, BB2⟩ := hcut
   have G := mv BB2 rfl <| And.intro hE <| And.intro hT hP
   clear hE hT hP BB
   obtain ⟨hE, hT, hP⟩ := G
   have BB := BB2
   clear BB2
   obtain ⟨x, kk, hkk, hL⟩ := lit_code (l := formS n m k g pt ex) hE hT
   rw [HFB.out] at hkk
   have HL := Lib.hid hL
   clear hL
   go_wp2_with fail
   refine HL.out.mono ?_
   rintro en w1 ⟨A1, n1, c1, A2, n2, c2, rfl, _, _, b⟩
   replace BB := bnx BB b
   have G := mv b rfl <| And.intro hE <| And.intro hT hP
   clear b hE hT hP HL
   obtain ⟨hE, hT, hP⟩ := G
   have b := below_alloc w1 (.cells #[.bool x.lo.s, .slice A1 n1 c1, .int .i64 x.lo.e, .bool x.hi.s, .slice A2 n2 c2, .int .i64 x.hi.e] 27)
   replace BB := bnx BB b
   have G := mv b rfl <| And.intro hE <| And.intro hT hP
   clear b hE hT hP
   obtain ⟨hE, hT, hP⟩ := G
   go_wp2_with fail
   refine (told4_any hE hT hP).mono ?_
   rintro en w2 ⟨rfl, b⟩
   replace BB := bnx BB b
   replace hE := mv b rfl hE
   clear b hT hP
   have HF : Hid (Calls Tryz.prog 14 #[.string ⟨(formS n m k g pt ex).toArray⟩] w2 (Bools (formB n m k pt ex) w2)) := by
    have := form_any (s := ⟨(formS n m k g pt ex).toArray⟩) hE
    rw [show (ByteArray.mk (formS n m k g pt ex).toArray).data.toList = formS n m k g pt ex from rfl, HFB.out] at this
    exact this
   go_wp2_with fail
   refine HF.out.mono ?_
   rintro en w3 ⟨rfl, b⟩
   replace BB := bnx BB b
   clear b HF
   have hk0 : (kk == 0) = formB n m k pt ex := by
    rw [← hkk]
    by_cases h : kk = 0 <;> simp [h]
   clear hkk
   cases hB : formB n m k pt ex
   all_goals rw [hB] at hk0
   all_goals clear hB HFB
   all_goals go_wp2
   all_goals go_ret
   all_goals exact ⟨by first | rfl | simp, BB⟩
end Go.Proofs.YtefofejgogokpaaGreatDoor
