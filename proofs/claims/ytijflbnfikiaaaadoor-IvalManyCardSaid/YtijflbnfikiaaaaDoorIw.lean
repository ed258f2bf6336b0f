/-
  Contract of the statement IvalMany's function at this translation: it returns true, whatever its argument. Condition: the slice's elements read as intervals, the table of math/bits reads as its text lays it.
-/
import Derived.Test.YtijflbnfikiaaaaDoorIv
namespace Go.Proofs.YtijflbnfikiaaaaDoor
open Go.RowKit

/-- the hull of the first i, or the first one ahead of all -/
def Hulled (K : Nat) (X : Nat → Iv) (i : Nat) (q : Iv) : Prop := (i = 0 ∧ q = X 0) ∨ (mayI K q = true ∧ (∀ j, j < i → withinI K (X j) q = true) ∧ (∃ j, j < i ∧ (X j).lo = q.lo) ∧ ∃ j, j < i ∧ (X j).hi = q.hi)
theorem within_trans {K : Nat} {x y z : Iv} (h : withinI K x y = true) (h' : withinI K y z = true) : withinI K x z = true := by
  obtain ⟨h1, h2, h3, h4⟩ := withinI_iff.1 h
  obtain ⟨_, h5, h6, h7⟩ := withinI_iff.1 h'
  exact withinI_iff.2 ⟨h1, h5, Int.le_trans h6 h3, Int.le_trans h4 h7⟩
theorem hulled_may {K : Nat} {X : Nat → Iv} {i : Nat} {q : Iv} (h : Hulled K X i q) (hx : mayI K (X i) = true) : mayI K q = true := by
  rcases h with ⟨rfl, rfl⟩ | ⟨h, _⟩
  · exact hx
  · exact h
theorem hulled_step {K : Nat} {X : Nat → Iv} {i : Nat} {q : Iv} (h : Hulled K X i q) (hx : mayI K (X i) = true) : Hulled K X (i + 1) (hullQ K q (X i)) := by
  have hq := hulled_may h hx
  have h1 := hull_ok hq hx
  have k1 := mayI_iff.1 hq
  have k2 := mayI_iff.1 hx
  have f1 := (fur_dn (K := K) k1.1 k2.1).1
  have f2 := (fur_up (K := K) k1.2.1 k2.2.1).1
  have lo : (hullQ K q (X i)).lo = q.lo ∨ (hullQ K q (X i)).lo = (X i).lo := f1
  have hi : (hullQ K q (X i)).hi = q.hi ∨ (hullQ K q (X i)).hi = (X i).hi := f2
  refine .inr ⟨h1.1, fun j hj => ?_, ?_, ?_⟩
  · rcases (show j < i ∨ j = i by omega) with h2 | rfl
    · rcases h with ⟨rfl, _⟩ | ⟨_, h3, _⟩
      · omega
      · exact within_trans (h3 j h2) h1.2.1
    · exact h1.2.2
  · rcases lo with e | e
    · rcases h with ⟨rfl, rfl⟩ | ⟨_, _, ⟨j, h2, h3⟩, _⟩
      · exact ⟨0, by omega, e.symm⟩
      · exact ⟨j, by omega, h3.trans e.symm⟩
    · exact ⟨i, by omega, e.symm⟩
  · rcases hi with e | e
    · rcases h with ⟨rfl, rfl⟩ | ⟨_, _, _, ⟨j, h2, h3⟩⟩
      · exact ⟨0, by omega, e.symm⟩
      · exact ⟨j, by omega, h3.trans e.symm⟩
    · exact ⟨i, by omega, e.symm⟩

theorem Ibx.off6 {w : World} {g g' : Nat} {s : Bool} {A : Option Addr} {n c : Nat} {e : Int} {t : Bool} {B : Option Addr} {m d : Nat} {f : Int} (h : Ibx w g' s A n c e t B m d f) (hne : g' ≠ g) (u0 u1 u2 u3 u4 u5 : Value) : Ibx ((((((w.setCell ⟨g, 0, none⟩ u0).setCell ⟨g, 1, none⟩ u1).setCell ⟨g, 2, none⟩ u2).setCell ⟨g, 3, none⟩ u3).setCell ⟨g, 4, none⟩ u4).setCell ⟨g, 5, none⟩ u5) g' s A n c e t B m d f := (((((h.other hne 0 u0).other hne 1 u1).other hne 2 u2).other hne 3 u3).other hne 4 u4).other hne 5 u5
theorem tell_as {f : FuncId} {args : Array Value} {w : World} {k : Int} {x x' : Iv} (hx : x = x') (h : Calls Tryd.prog f args w (TellI k x' w)) : Calls Tryd.prog f args w (TellI k x w) := by
  subst hx
  exact h

set_option maxRecDepth 100000 in
set_option maxHeartbeats 8000000 in
theorem imany_any {w : World} {A : Option Addr} {n c : Nat} {X : Nat → Iv} (hT : Tab w) (h : RdS w A n c X) :
    Calls Tryd.prog 4 #[.slice A n c] w fun en w' => ToldEnd w en w' := by
  obtain ⟨KK, hKK⟩ := scale_has
  have HKK := Lib.hid hKK
  have hc := h.cap
  have hm := h.max
  by_cases g1 : n < 1
  · have BB := Below.refl w.heap.size w
    have d1 : decide ((n : Int) < 1) = true := decide_eq_true (by omega)
    clear g1
    go_enter Tryd.func4, Tryd.ntmps4
    go_wp2_with fail
    refine (told5_any hT).mono ?_
    rintro en w99 ⟨rfl, b⟩
    replace BB := below_next BB BB.size b rfl rfl rfl rfl
    clear b
    go_wp2
    go_ret
    exact ⟨by first | rfl | simp, BB⟩
  by_cases g2 : 8 < n
  · have BB := Below.refl w.heap.size w
    have d1 : decide ((n : Int) < 1) = false := decide_eq_false (by omega)
    have d2 : decide ((8 : Int) < (n : Int)) = true := decide_eq_true (by omega)
    clear g1 g2
    go_enter Tryd.func4, Tryd.ntmps4
    go_wp2_with fail
    refine (told5_any hT).mono ?_
    rintro en w99 ⟨rfl, b⟩
    replace BB := below_next BB BB.size b rfl rfl rfl rfl
    clear b
    go_wp2
    go_ret
    exact ⟨by first | rfl | simp, BB⟩
  have d1 : decide ((n : Int) < 1) = false := decide_eq_false (by omega)
  have d2 : decide ((8 : Int) < (n : Int)) = false := decide_eq_false (by omega)
  obtain ⟨b, o, rfl, hr⟩ := h.at_ (by omega)
  clear h
  have hp1 : (0 : Int) < n := by omega
  obtain ⟨x, hx⟩ : ∃ x, x = X 0 := ⟨_, rfl⟩
  obtain ⟨A1, n1, c1, A2, n2, c2, ⟨r0, r1, r2, r3, r4, r5⟩, q1, q2⟩ := hr 0 (by omega)
  rw [← hx] at r0 r2 r3 r5 q1 q2
  simp only [Nat.zero_mul, Nat.add_zero] at r0 r1 r2 r3 r4 r5
  have HX := Lib.hid hx
  clear hx
  have BB := below_alloc w (.cells #[.bool x.lo.s, .slice A1 n1 c1, .int .i64 x.lo.e, .bool x.hi.s, .slice A2 n2 c2, .int .i64 x.hi.e] 26)
  have ph := Ibx.new w x.lo.s A1 n1 c1 x.lo.e x.hi.s A2 n2 c2 x.hi.e
  replace q1 := q1.next BB rfl
  replace q2 := q2.next BB rfl
  go_enter Tryd.func4, Tryd.ntmps4
  go_wp2
  go_loopg [4] n (fun gk v wr => ∃ (i : Nat) (q : Iv) (A1 : Option Addr) (n1 c1 : Nat) (A2 : Option Addr) (n2 c2 : Nat), i + gk = n ∧ v = .int .i64 i ∧ Hulled KK X i q ∧ Ibx wr w.heap.size q.lo.s A1 n1 c1 q.lo.e q.hi.s A2 n2 c2 q.hi.e ∧ Rd wr .u64 Go.Proofs.YtijflbnfikiaaaaDoor.W A1 n1 c1 q.lo.l ∧ Rd wr .u64 Go.Proofs.YtijflbnfikiaaaaDoor.W A2 n2 c2 q.hi.l ∧ Below w.heap.size w wr)
  case atStart => exact ⟨0, x, A1, n1, c1, A2, n2, c2, by omega, rfl, .inl ⟨rfl, HX.out⟩, ph, q1, q2, BB⟩
  case round =>
    clear BB ph q1 q2 r0 r1 r2 r3 r4 r5 HX
    obtain ⟨i, q, A1, n1, c1, A2, n2, c2, hg, rfl, hu, ph, h1, h2, BB⟩ := hrel
    have HG := Lib.hid hg
    have HU := Lib.hid hu
    clear hg hu
    by_cases hi : i < n
    rotate_left
    · obtain rfl : i = n := by have := HG.out; omega
      have HH : Hid (mayI KK q = true ∧ (∀ j, j < i → withinI KK (X j) q = true) ∧ (∃ j, j < i ∧ (X j).lo = q.lo) ∧ ∃ j, j < i ∧ (X j).hi = q.hi) := Lib.hid (HU.out.resolve_left (fun h => absurd h.1 (by omega)))
      clear HU HG hi
      go_wp2
      have hr' := hr.next BB rfl
      have hT' := hT.next BB rfl
      clear hr hT
      generalize wr = W1 at *
      go_loopg [7, 8, 9] i (fun gk v7 v8 v9 wr => ∃ (j : Nat) (bl bh : Bool), j + gk = i ∧ v9 = .int .i64 j ∧ v7 = .bool bl ∧ v8 = .bool bh ∧ ((∃ m, m < j ∧ (X m).lo = q.lo) → bl = true) ∧ ((∃ m, m < j ∧ (X m).hi = q.hi) → bh = true) ∧ Below W1.heap.size W1 wr)
      case atStart => exact ⟨0, false, false, by omega, rfl, rfl, rfl, fun h => (by obtain ⟨m, h1, _⟩ := h; omega), fun h => (by obtain ⟨m, h1, _⟩ := h; omega), Below.refl _ _⟩
      case round =>
        obtain ⟨j, bl, bh, hg, rfl, rfl, rfl, hl, hh, B2⟩ := hrel
        have HG := Lib.hid hg
        have HL := Lib.hid hl
        have HHi := Lib.hid hh
        clear hg hl hh
        by_cases hj : j < i
        rotate_left
        · obtain rfl : j = i := by have := HG.out; omega
          obtain rfl : bl = true := HL.out HH.out.2.2.1
          obtain rfl : bh = true := HHi.out HH.out.2.2.2
          have hT2 := hT'.next B2 rfl
          replace BB := BB.trans (B2.mono BB.size)
          clear hr' hT' h1 h2 ph B2 HL HHi HH HG
          go_wp2_with fail
          refine (told5_any hT2).mono ?_
          rintro en w9 ⟨rfl, b⟩
          replace BB := below_next BB BB.size b rfl rfl rfl rfl
          clear b hT2
          go_wp2
          first | (rw [Exit.noGoto_ret]; go_ret) | go_ret
          exact ⟨by first | rfl | simp, BB⟩
        have hj1 : (j : Int) < i := by omega
        have hj2 : (0 : Int) ≤ j := by omega
        obtain ⟨x, hx⟩ : ∃ x, x = X j := ⟨_, rfl⟩
        have HX := Lib.hid hx
        have HW : Hid (withinI KK x q = true) := Lib.hid (by rw [hx]; exact HH.out.2.1 j hj)
        obtain ⟨p1, hp1'⟩ : ∃ p, p = sameQ x.lo q.lo := ⟨_, rfl⟩
        obtain ⟨p2, hp2'⟩ : ∃ p, p = sameQ x.hi q.hi := ⟨_, rfl⟩
        have H1 := Lib.hid hp1'
        have H2 := Lib.hid hp2'
        clear hp1' hp2' hx
        have HL2 : Hid ((∃ m, m < j + 1 ∧ (X m).lo = q.lo) → (bl || p1) = true) := Lib.hid (by
          intro ⟨m, a1, a2⟩
          rcases (show m < j ∨ m = j by omega) with a3 | rfl
          · rw [HL.out ⟨m, a3, a2⟩]; rfl
          · rw [H1.out, HX.out, sameQ_iff.2 a2, Bool.or_true])
        have HH2 : Hid ((∃ m, m < j + 1 ∧ (X m).hi = q.hi) → (bh || p2) = true) := Lib.hid (by
          intro ⟨m, a1, a2⟩
          rcases (show m < j ∨ m = j by omega) with a3 | rfl
          · rw [HHi.out ⟨m, a3, a2⟩]; rfl
          · rw [H2.out, HX.out, sameQ_iff.2 a2, Bool.or_true])
        clear HL HHi HH
        go_upto_region 17 with fail
        go_cut [67] (fun v67 wc => v67 = .bool false ∧ Below W1.heap.size W1 wc)
        case first =>
          obtain ⟨A3, n3, c3, A4, n4, c4, ⟨s0, s1, s2, s3, s4, s5⟩, h3, h4⟩ := (hr'.next B2 rfl) j hj
          rw [← HX.out] at s0 s2 s3 s5 h3 h4
          have hT := hT'.next B2 rfl
          have g1 := h1.next B2 rfl
          have g2 := h2.next B2 rfl
          obtain ⟨y0, y1, y2, y3, y4, y5⟩ := (ph.next B2 rfl).held
          have b : Below wr.heap.size wr (World.drew wr) := below_drewN (Below.refl _ _) 1
          replace B2 := below_next B2 B2.size b rfl rfl rfl rfl
          have G := mv b rfl <| And.intro hT <| And.intro g1 <| And.intro g2 <| And.intro h3 <| And.intro h4 <| And.intro s0 <| And.intro s1 <| And.intro s2 <| And.intro s3 <| And.intro s4 <| And.intro s5 <| And.intro y0 <| And.intro y1 <| And.intro y2 <| And.intro y3 <| And.intro y4 <| y5
          clear b hT g1 g2 h3 h4 s0 s1 s2 s3 s4 s5 y0 y1 y2 y3 y4 y5
          obtain ⟨hT, g1, g2, h3, h4, s0, s1, s2, s3, s4, s5, y0, y1, y2, y3, y4, y5⟩ := G
          refine wp_region_held_drew (S := fun w' => w'.cell? ⟨b, o + j * 6, none⟩ = some (.bool x.lo.s) ∧ w'.cell? ⟨b, o + j * 6 + 1, none⟩ = some (.slice A3 n3 c3) ∧ w'.cell? ⟨b, o + j * 6 + 2, none⟩ = some (.int .i64 x.lo.e) ∧ w'.cell? ⟨b, o + j * 6 + 3, none⟩ = some (.bool x.hi.s) ∧ w'.cell? ⟨b, o + j * 6 + 4, none⟩ = some (.slice A4 n4 c4) ∧ w'.cell? ⟨b, o + j * 6 + 5, none⟩ = some (.int .i64 x.hi.e) ∧ w'.cell? ⟨w.heap.size, 0, none⟩ = some (.bool q.lo.s) ∧ w'.cell? ⟨w.heap.size, 1, none⟩ = some (.slice A1 n1 c1) ∧ w'.cell? ⟨w.heap.size, 2, none⟩ = some (.int .i64 q.lo.e) ∧ w'.cell? ⟨w.heap.size, 3, none⟩ = some (.bool q.hi.s) ∧ w'.cell? ⟨w.heap.size, 4, none⟩ = some (.slice A2 n2 c2) ∧ w'.cell? ⟨w.heap.size, 5, none⟩ = some (.int .i64 q.hi.e)) (by kernel_rfl) (by exact ⟨s0, s1, s2, s3, s4, s5, y0, y1, y2, y3, y4, y5⟩) (fun hHelda0 => ?_)
          generalize World.drew wr = wd at *
          refine wpAnyH_take (i := 0) (v := ?av0) rfl (by kernel_rfl) (by kernel_rfl) (by kernel_rfl) (fun _ _ _ h => panic_put (P := Tryd.prog) (fn := Tryd.f4) (R := (fun en w' => ToldEnd w en w')) h) (Or.inl ⟨by rfl, ?ay0⟩) (by assumption) ?_
          case ay0 => (intro w hSw; (try dsimp only at hSw); go_simp); try with_reducible rfl
          change wpAnyH _ _ _ _ _ _ _ (Act.put _ (some 61) _) _
          simp only [Act.put, List.setIfInBounds_toArray, List.set_cons_zero, List.set_cons_succ]
          refine wpAnyH_take (i := 1) (v := ?av1) rfl (by kernel_rfl) (by kernel_rfl) (by kernel_rfl) (fun _ _ _ h => panic_put (P := Tryd.prog) (fn := Tryd.f4) (R := (fun en w' => ToldEnd w en w')) h) (Or.inl ⟨by rfl, ?ay1⟩) (by assumption) ?_
          case ay1 => (intro w hSw; (try dsimp only at hSw); go_simp); try with_reducible rfl
          change wpAnyH _ _ _ _ _ _ _ (Act.put _ (some 62) _) _
          simp only [Act.put, List.setIfInBounds_toArray, List.set_cons_zero, List.set_cons_succ]
          refine wpAnyH_take (i := 2) (v := ?av2) rfl (by kernel_rfl) (by kernel_rfl) (by kernel_rfl) (fun _ _ _ h => panic_put (P := Tryd.prog) (fn := Tryd.f4) (R := (fun en w' => ToldEnd w en w')) h) (Or.inl ⟨by rfl, ?ay2⟩) (by assumption) ?_
          case ay2 => (intro w hSw; (try dsimp only at hSw); go_simp); try with_reducible rfl
          change wpAnyH _ _ _ _ _ _ _ (Act.put _ (some 63) _) _
          simp only [Act.put, List.setIfInBounds_toArray, List.set_cons_zero, List.set_cons_succ]
          refine wpAnyH_take (i := 3) (v := ?av3) rfl (by kernel_rfl) (by kernel_rfl) (by kernel_rfl) (fun _ _ _ h => panic_put (P := Tryd.prog) (fn := Tryd.f4) (R := (fun en w' => ToldEnd w en w')) h) (Or.inl ⟨by rfl, ?ay3⟩) (by assumption) ?_
          case ay3 => (intro w hSw; (try dsimp only at hSw); go_simp); try with_reducible rfl
          change wpAnyH _ _ _ _ _ _ _ (Act.put _ (some 64) _) _
          simp only [Act.put, List.setIfInBounds_toArray, List.set_cons_zero, List.set_cons_succ]
          refine wpAnyH_take (i := 4) (v := ?av4) rfl (by kernel_rfl) (by kernel_rfl) (by kernel_rfl) (fun _ _ _ h => panic_put (P := Tryd.prog) (fn := Tryd.f4) (R := (fun en w' => ToldEnd w en w')) h) (Or.inl ⟨by rfl, ?ay4⟩) (by assumption) ?_
          case ay4 => (intro w hSw; (try dsimp only at hSw); go_simp); try with_reducible rfl
          change wpAnyH _ _ _ _ _ _ _ (Act.put _ (some 65) _) _
          simp only [Act.put, List.setIfInBounds_toArray, List.set_cons_zero, List.set_cons_succ]
          refine wpAnyH_ready (rs := [5]) (by kernel_rfl) (by simp) ?_
          refine AllReadyH.cons (o := _) rfl (fun K hK => ?_) AllReadyH.nil
          go_simp
          refine (iwithin_any (K := KK) (x := x) (y := q) HKK.out hT h3 h4 g1 g2).mono ?_
          rintro en w' ⟨rfl, b⟩
          rw [HW.out]
          replace B2 := below_next B2 B2.size b (by rfl) (by rfl) (by rfl) (by rfl)
          have G := mv b (by rfl) <| And.intro hT <| And.intro g1 <| And.intro g2 <| And.intro h3 <| And.intro h4 <| And.intro s0 <| And.intro s1 <| And.intro s2 <| And.intro s3 <| And.intro s4 <| And.intro s5 <| And.intro y0 <| And.intro y1 <| And.intro y2 <| And.intro y3 <| And.intro y4 <| y5
          clear b hT g1 g2 h3 h4 s0 s1 s2 s3 s4 s5 y0 y1 y2 y3 y4 y5
          obtain ⟨hT, g1, g2, h3, h4, s0, s1, s2, s3, s4, s5, y0, y1, y2, y3, y4, y5⟩ := G
          refine hK.out _ _ (by exact ⟨s0, s1, s2, s3, s4, s5, y0, y1, y2, y3, y4, y5⟩) (fun hHelda1 => ?_)
          clear hK K hHelda0
          try simp only [Act.put]
          refine wpAnyH_take (i := 6) (v := ?av6) rfl (by kernel_rfl) (by kernel_rfl) (by kernel_rfl) (fun _ _ _ h => panic_put (P := Tryd.prog) (fn := Tryd.f4) (R := (fun en w' => ToldEnd w en w')) h) (Or.inl ⟨by rfl, ?ay6⟩) (by assumption) ?_
          case ay6 => (intro w hSw; (try dsimp only at hSw); go_simp); try with_reducible rfl
          change wpAnyH _ _ _ _ _ _ _ (Act.put _ (some 67) _) _
          simp only [Act.put, List.setIfInBounds_toArray, List.set_cons_zero, List.set_cons_succ]
          refine wpAnyH_done (by kernel_rfl) ?_ _
          go_wp2_with fail
          go_meet
          case rel => exact ⟨rfl, B2⟩
        case rest =>
          clear B2
          obtain ⟨rfl, B2⟩ := hcut
          go_upto_region 19 with fail
          go_cut [7] (fun v7 wc => v7 = .bool (bl || p1) ∧ Below W1.heap.size W1 wc)
          case first =>
            obtain ⟨A3, n3, c3, A4, n4, c4, ⟨s0, s1, s2, s3, s4, s5⟩, h3, h4⟩ := (hr'.next B2 rfl) j hj
            rw [← HX.out] at s0 s2 s3 s5 h3 h4
            have hT := hT'.next B2 rfl
            have g1 := h1.next B2 rfl
            have g2 := h2.next B2 rfl
            obtain ⟨y0, y1, y2, y3, y4, y5⟩ := (ph.next B2 rfl).held
            cases bl
            · have b : Below wc.heap.size wc (World.drew wc) := below_drewN (Below.refl _ _) 1
              replace B2 := below_next B2 B2.size b rfl rfl rfl rfl
              have G := mv b rfl <| And.intro hT <| And.intro g1 <| And.intro g2 <| And.intro h3 <| And.intro h4 <| And.intro s0 <| And.intro s1 <| And.intro s2 <| And.intro s3 <| And.intro s4 <| And.intro s5 <| And.intro y0 <| And.intro y1 <| And.intro y2 <| And.intro y3 <| And.intro y4 <| y5
              clear b hT g1 g2 h3 h4 s0 s1 s2 s3 s4 s5 y0 y1 y2 y3 y4 y5
              obtain ⟨hT, g1, g2, h3, h4, s0, s1, s2, s3, s4, s5, y0, y1, y2, y3, y4, y5⟩ := G
              refine wp_region_held_drew (S := fun w' => w'.cell? ⟨b, o + j * 6, none⟩ = some (.bool x.lo.s) ∧ w'.cell? ⟨b, o + j * 6 + 1, none⟩ = some (.slice A3 n3 c3) ∧ w'.cell? ⟨b, o + j * 6 + 2, none⟩ = some (.int .i64 x.lo.e) ∧ w'.cell? ⟨b, o + j * 6 + 3, none⟩ = some (.bool x.hi.s) ∧ w'.cell? ⟨b, o + j * 6 + 4, none⟩ = some (.slice A4 n4 c4) ∧ w'.cell? ⟨b, o + j * 6 + 5, none⟩ = some (.int .i64 x.hi.e) ∧ w'.cell? ⟨w.heap.size, 0, none⟩ = some (.bool q.lo.s) ∧ w'.cell? ⟨w.heap.size, 1, none⟩ = some (.slice A1 n1 c1) ∧ w'.cell? ⟨w.heap.size, 2, none⟩ = some (.int .i64 q.lo.e) ∧ w'.cell? ⟨w.heap.size, 3, none⟩ = some (.bool q.hi.s) ∧ w'.cell? ⟨w.heap.size, 4, none⟩ = some (.slice A2 n2 c2) ∧ w'.cell? ⟨w.heap.size, 5, none⟩ = some (.int .i64 q.hi.e)) (by kernel_rfl) (by exact ⟨s0, s1, s2, s3, s4, s5, y0, y1, y2, y3, y4, y5⟩) (fun hHeldcn0 => ?_)
              generalize World.drew wc = wd at *
              refine wpAnyH_take (i := 0) (v := ?cnv0) rfl (by kernel_rfl) (by kernel_rfl) (by kernel_rfl) (fun _ _ _ h => panic_put (P := Tryd.prog) (fn := Tryd.f4) (R := (fun en w' => ToldEnd w en w')) h) (Or.inl ⟨by rfl, ?cny0⟩) (by assumption) ?_
              case cny0 => (intro w hSw; (try dsimp only at hSw); go_simp); try with_reducible rfl
              change wpAnyH _ _ _ _ _ _ _ (Act.put _ (some 68) _) _
              simp only [Act.put, List.setIfInBounds_toArray, List.set_cons_zero, List.set_cons_succ]
              refine wpAnyH_take (i := 1) (v := ?cnv1) rfl (by kernel_rfl) (by kernel_rfl) (by kernel_rfl) (fun _ _ _ h => panic_put (P := Tryd.prog) (fn := Tryd.f4) (R := (fun en w' => ToldEnd w en w')) h) (Or.inl ⟨by rfl, ?cny1⟩) (by assumption) ?_
              case cny1 => (intro w hSw; (try dsimp only at hSw); go_simp); try with_reducible rfl
              change wpAnyH _ _ _ _ _ _ _ (Act.put _ (some 69) _) _
              simp only [Act.put, List.setIfInBounds_toArray, List.set_cons_zero, List.set_cons_succ]
              refine wpAnyH_take (i := 2) (v := ?cnv2) rfl (by kernel_rfl) (by kernel_rfl) (by kernel_rfl) (fun _ _ _ h => panic_put (P := Tryd.prog) (fn := Tryd.f4) (R := (fun en w' => ToldEnd w en w')) h) (Or.inl ⟨by rfl, ?cny2⟩) (by assumption) ?_
              case cny2 => (intro w hSw; (try dsimp only at hSw); go_simp); try with_reducible rfl
              change wpAnyH _ _ _ _ _ _ _ (Act.put _ (some 70) _) _
              simp only [Act.put, List.setIfInBounds_toArray, List.set_cons_zero, List.set_cons_succ]
              refine wpAnyH_take (i := 3) (v := ?cnv3) rfl (by kernel_rfl) (by kernel_rfl) (by kernel_rfl) (fun _ _ _ h => panic_put (P := Tryd.prog) (fn := Tryd.f4) (R := (fun en w' => ToldEnd w en w')) h) (Or.inl ⟨by rfl, ?cny3⟩) (by assumption) ?_
              case cny3 => (intro w hSw; (try dsimp only at hSw); go_simp); try with_reducible rfl
              change wpAnyH _ _ _ _ _ _ _ (Act.put _ (some 71) _) _
              simp only [Act.put, List.setIfInBounds_toArray, List.set_cons_zero, List.set_cons_succ]
              refine wpAnyH_take (i := 4) (v := ?cnv4) rfl (by kernel_rfl) (by kernel_rfl) (by kernel_rfl) (fun _ _ _ h => panic_put (P := Tryd.prog) (fn := Tryd.f4) (R := (fun en w' => ToldEnd w en w')) h) (Or.inl ⟨by rfl, ?cny4⟩) (by assumption) ?_
              case cny4 => (intro w hSw; (try dsimp only at hSw); go_simp); try with_reducible rfl
              change wpAnyH _ _ _ _ _ _ _ (Act.put _ (some 72) _) _
              simp only [Act.put, List.setIfInBounds_toArray, List.set_cons_zero, List.set_cons_succ]
              refine wpAnyH_take (i := 5) (v := ?cnv5) rfl (by kernel_rfl) (by kernel_rfl) (by kernel_rfl) (fun _ _ _ h => panic_put (P := Tryd.prog) (fn := Tryd.f4) (R := (fun en w' => ToldEnd w en w')) h) (Or.inl ⟨by rfl, ?cny5⟩) (by assumption) ?_
              case cny5 => (intro w hSw; (try dsimp only at hSw); go_simp); try with_reducible rfl
              change wpAnyH _ _ _ _ _ _ _ (Act.put _ (some 73) _) _
              simp only [Act.put, List.setIfInBounds_toArray, List.set_cons_zero, List.set_cons_succ]
              refine wpAnyH_take (i := 6) (v := ?cnv6) rfl (by kernel_rfl) (by kernel_rfl) (by kernel_rfl) (fun _ _ _ h => panic_put (P := Tryd.prog) (fn := Tryd.f4) (R := (fun en w' => ToldEnd w en w')) h) (Or.inl ⟨by rfl, ?cny6⟩) (by assumption) ?_
              case cny6 => (intro w hSw; (try dsimp only at hSw); go_simp); try with_reducible rfl
              change wpAnyH _ _ _ _ _ _ _ (Act.put _ (some 74) _) _
              simp only [Act.put, List.setIfInBounds_toArray, List.set_cons_zero, List.set_cons_succ]
              refine wpAnyH_take (i := 7) (v := ?cnv7) rfl (by kernel_rfl) (by kernel_rfl) (by kernel_rfl) (fun _ _ _ h => panic_put (P := Tryd.prog) (fn := Tryd.f4) (R := (fun en w' => ToldEnd w en w')) h) (Or.inl ⟨by rfl, ?cny7⟩) (by assumption) ?_
              case cny7 => (intro w hSw; (try dsimp only at hSw); go_simp); try with_reducible rfl
              change wpAnyH _ _ _ _ _ _ _ (Act.put _ (some 75) _) _
              simp only [Act.put, List.setIfInBounds_toArray, List.set_cons_zero, List.set_cons_succ]
              refine wpAnyH_take (i := 8) (v := ?cnv8) rfl (by kernel_rfl) (by kernel_rfl) (by kernel_rfl) (fun _ _ _ h => panic_put (P := Tryd.prog) (fn := Tryd.f4) (R := (fun en w' => ToldEnd w en w')) h) (Or.inl ⟨by rfl, ?cny8⟩) (by assumption) ?_
              case cny8 => (intro w hSw; (try dsimp only at hSw); go_simp); try with_reducible rfl
              change wpAnyH _ _ _ _ _ _ _ (Act.put _ (some 76) _) _
              simp only [Act.put, List.setIfInBounds_toArray, List.set_cons_zero, List.set_cons_succ]
              refine wpAnyH_ready (rs := [9]) (by kernel_rfl) (by simp) ?_
              refine AllReadyH.cons (o := _) rfl (fun K hK => ?_) AllReadyH.nil
              go_simp
              refine (dsame_raw (s := x.lo.s) (t := q.lo.s) (e := x.lo.e) (f := q.lo.e) h3 g1).mono ?_
              rintro en w' ⟨rfl, b⟩
              have e9 : sameB x.lo.s q.lo.s x.lo.l q.lo.l x.lo.e q.lo.e = p1 := H1.out.symm
              rw [e9]
              clear e9
              replace B2 := below_next B2 B2.size b (by rfl) (by rfl) (by rfl) (by rfl)
              have G := mv b (by rfl) <| And.intro hT <| And.intro g1 <| And.intro g2 <| And.intro h3 <| And.intro h4 <| And.intro s0 <| And.intro s1 <| And.intro s2 <| And.intro s3 <| And.intro s4 <| And.intro s5 <| And.intro y0 <| And.intro y1 <| And.intro y2 <| And.intro y3 <| And.intro y4 <| y5
              clear b hT g1 g2 h3 h4 s0 s1 s2 s3 s4 s5 y0 y1 y2 y3 y4 y5
              obtain ⟨hT, g1, g2, h3, h4, s0, s1, s2, s3, s4, s5, y0, y1, y2, y3, y4, y5⟩ := G
              refine hK.out _ _ (by exact ⟨s0, s1, s2, s3, s4, s5, y0, y1, y2, y3, y4, y5⟩) (fun hHeldcn1 => ?_)
              clear hK K hHeldcn0
              try simp only [Act.put]
              refine wpAnyH_take (i := 10) (v := ?cnv10) rfl (by kernel_rfl) (by kernel_rfl) (by kernel_rfl) (fun _ _ _ h => panic_put (P := Tryd.prog) (fn := Tryd.f4) (R := (fun en w' => ToldEnd w en w')) h) (Or.inl ⟨by rfl, ?cny10⟩) (by assumption) ?_
              case cny10 => (intro w hSw; (try dsimp only at hSw); go_simp); try with_reducible rfl
              change wpAnyH _ _ _ _ _ _ _ (Act.put _ (some 78) _) _
              simp only [Act.put, List.setIfInBounds_toArray, List.set_cons_zero, List.set_cons_succ]
              refine wpAnyH_take (i := 11) (v := ?cnv11) rfl (by kernel_rfl) (by kernel_rfl) (by kernel_rfl) (fun _ _ _ h => panic_put (P := Tryd.prog) (fn := Tryd.f4) (R := (fun en w' => ToldEnd w en w')) h) (Or.inl ⟨by rfl, ?cny11⟩) (by assumption) ?_
              case cny11 => (intro w hSw; (try dsimp only at hSw); go_simp); try with_reducible rfl
              change wpAnyH _ _ _ _ _ _ _ (Act.put _ (some 7) _) _
              simp only [Act.put, List.setIfInBounds_toArray, List.set_cons_zero, List.set_cons_succ]
              refine wpAnyH_done (by kernel_rfl) ?_ _
              go_wp2_with fail
              go_meet
              case rel => exact ⟨rfl, B2⟩
            · have b : Below wc.heap.size wc (World.drew wc) := below_drewN (Below.refl _ _) 1
              replace B2 := below_next B2 B2.size b rfl rfl rfl rfl
              have G := mv b rfl <| And.intro hT <| And.intro g1 <| And.intro g2 <| And.intro h3 <| And.intro h4 <| And.intro s0 <| And.intro s1 <| And.intro s2 <| And.intro s3 <| And.intro s4 <| And.intro s5 <| And.intro y0 <| And.intro y1 <| And.intro y2 <| And.intro y3 <| And.intro y4 <| y5
              clear b hT g1 g2 h3 h4 s0 s1 s2 s3 s4 s5 y0 y1 y2 y3 y4 y5
              obtain ⟨hT, g1, g2, h3, h4, s0, s1, s2, s3, s4, s5, y0, y1, y2, y3, y4, y5⟩ := G
              refine wp_region_held_drew (S := fun w' => w'.cell? ⟨b, o + j * 6, none⟩ = some (.bool x.lo.s) ∧ w'.cell? ⟨b, o + j * 6 + 1, none⟩ = some (.slice A3 n3 c3) ∧ w'.cell? ⟨b, o + j * 6 + 2, none⟩ = some (.int .i64 x.lo.e) ∧ w'.cell? ⟨b, o + j * 6 + 3, none⟩ = some (.bool x.hi.s) ∧ w'.cell? ⟨b, o + j * 6 + 4, none⟩ = some (.slice A4 n4 c4) ∧ w'.cell? ⟨b, o + j * 6 + 5, none⟩ = some (.int .i64 x.hi.e) ∧ w'.cell? ⟨w.heap.size, 0, none⟩ = some (.bool q.lo.s) ∧ w'.cell? ⟨w.heap.size, 1, none⟩ = some (.slice A1 n1 c1) ∧ w'.cell? ⟨w.heap.size, 2, none⟩ = some (.int .i64 q.lo.e) ∧ w'.cell? ⟨w.heap.size, 3, none⟩ = some (.bool q.hi.s) ∧ w'.cell? ⟨w.heap.size, 4, none⟩ = some (.slice A2 n2 c2) ∧ w'.cell? ⟨w.heap.size, 5, none⟩ = some (.int .i64 q.hi.e)) (by kernel_rfl) (by exact ⟨s0, s1, s2, s3, s4, s5, y0, y1, y2, y3, y4, y5⟩) (fun hHeldcy0 => ?_)
              generalize World.drew wc = wd at *
              refine wpAnyH_take (i := 0) (v := ?cyv0) rfl (by kernel_rfl) (by kernel_rfl) (by kernel_rfl) (fun _ _ _ h => panic_put (P := Tryd.prog) (fn := Tryd.f4) (R := (fun en w' => ToldEnd w en w')) h) (Or.inl ⟨by rfl, ?cyy0⟩) (by assumption) ?_
              case cyy0 => (intro w hSw; (try dsimp only at hSw); go_simp); try with_reducible rfl
              change wpAnyH _ _ _ _ _ _ _ (Act.put _ (some 68) _) _
              simp only [Act.put, List.setIfInBounds_toArray, List.set_cons_zero, List.set_cons_succ]
              refine wpAnyH_take (i := 1) (v := ?cyv1) rfl (by kernel_rfl) (by kernel_rfl) (by kernel_rfl) (fun _ _ _ h => panic_put (P := Tryd.prog) (fn := Tryd.f4) (R := (fun en w' => ToldEnd w en w')) h) (Or.inl ⟨by rfl, ?cyy1⟩) (by assumption) ?_
              case cyy1 => (intro w hSw; (try dsimp only at hSw); go_simp); try with_reducible rfl
              change wpAnyH _ _ _ _ _ _ _ (Act.put _ (some 69) _) _
              simp only [Act.put, List.setIfInBounds_toArray, List.set_cons_zero, List.set_cons_succ]
              refine wpAnyH_take (i := 2) (v := undef) rfl (by kernel_rfl) (by kernel_rfl) (by kernel_rfl) (fun _ _ _ h => panic_put (P := Tryd.prog) (fn := Tryd.f4) (R := (fun en w' => ToldEnd w en w')) h) (Or.inr ⟨by rfl, rfl⟩) (by assumption) ?_
              change wpAnyH _ _ _ _ _ _ _ (Act.put _ (some 70) _) _
              simp only [Act.put, List.setIfInBounds_toArray, List.set_cons_zero, List.set_cons_succ]
              refine wpAnyH_take (i := 3) (v := undef) rfl (by kernel_rfl) (by kernel_rfl) (by kernel_rfl) (fun _ _ _ h => panic_put (P := Tryd.prog) (fn := Tryd.f4) (R := (fun en w' => ToldEnd w en w')) h) (Or.inr ⟨by rfl, rfl⟩) (by assumption) ?_
              change wpAnyH _ _ _ _ _ _ _ (Act.put _ (some 71) _) _
              simp only [Act.put, List.setIfInBounds_toArray, List.set_cons_zero, List.set_cons_succ]
              refine wpAnyH_take (i := 4) (v := undef) rfl (by kernel_rfl) (by kernel_rfl) (by kernel_rfl) (fun _ _ _ h => panic_put (P := Tryd.prog) (fn := Tryd.f4) (R := (fun en w' => ToldEnd w en w')) h) (Or.inr ⟨by rfl, rfl⟩) (by assumption) ?_
              change wpAnyH _ _ _ _ _ _ _ (Act.put _ (some 72) _) _
              simp only [Act.put, List.setIfInBounds_toArray, List.set_cons_zero, List.set_cons_succ]
              refine wpAnyH_take (i := 5) (v := undef) rfl (by kernel_rfl) (by kernel_rfl) (by kernel_rfl) (fun _ _ _ h => panic_put (P := Tryd.prog) (fn := Tryd.f4) (R := (fun en w' => ToldEnd w en w')) h) (Or.inr ⟨by rfl, rfl⟩) (by assumption) ?_
              change wpAnyH _ _ _ _ _ _ _ (Act.put _ (some 73) _) _
              simp only [Act.put, List.setIfInBounds_toArray, List.set_cons_zero, List.set_cons_succ]
              refine wpAnyH_take (i := 6) (v := undef) rfl (by kernel_rfl) (by kernel_rfl) (by kernel_rfl) (fun _ _ _ h => panic_put (P := Tryd.prog) (fn := Tryd.f4) (R := (fun en w' => ToldEnd w en w')) h) (Or.inr ⟨by rfl, rfl⟩) (by assumption) ?_
              change wpAnyH _ _ _ _ _ _ _ (Act.put _ (some 74) _) _
              simp only [Act.put, List.setIfInBounds_toArray, List.set_cons_zero, List.set_cons_succ]
              refine wpAnyH_take (i := 7) (v := undef) rfl (by kernel_rfl) (by kernel_rfl) (by kernel_rfl) (fun _ _ _ h => panic_put (P := Tryd.prog) (fn := Tryd.f4) (R := (fun en w' => ToldEnd w en w')) h) (Or.inr ⟨by rfl, rfl⟩) (by assumption) ?_
              change wpAnyH _ _ _ _ _ _ _ (Act.put _ (some 75) _) _
              simp only [Act.put, List.setIfInBounds_toArray, List.set_cons_zero, List.set_cons_succ]
              refine wpAnyH_take (i := 8) (v := undef) rfl (by kernel_rfl) (by kernel_rfl) (by kernel_rfl) (fun _ _ _ h => panic_put (P := Tryd.prog) (fn := Tryd.f4) (R := (fun en w' => ToldEnd w en w')) h) (Or.inr ⟨by rfl, rfl⟩) (by assumption) ?_
              change wpAnyH _ _ _ _ _ _ _ (Act.put _ (some 76) _) _
              simp only [Act.put, List.setIfInBounds_toArray, List.set_cons_zero, List.set_cons_succ]
              refine wpAnyH_ready (rs := [9]) (by kernel_rfl) (by simp) ?_
              refine AllReadyH.cons (o := _) rfl (fun K hK => ?_) AllReadyH.nil
              go_simp
              refine hK.out _ _ (by exact ⟨s0, s1, s2, s3, s4, s5, y0, y1, y2, y3, y4, y5⟩) (fun hHeldcy1 => ?_)
              clear hK K hHeldcy0
              try simp only [Act.put]
              refine wpAnyH_take (i := 10) (v := ?cyv10) rfl (by kernel_rfl) (by kernel_rfl) (by kernel_rfl) (fun _ _ _ h => panic_put (P := Tryd.prog) (fn := Tryd.f4) (R := (fun en w' => ToldEnd w en w')) h) (Or.inl ⟨by rfl, ?cyy10⟩) (by assumption) ?_
              case cyy10 => (intro w hSw; (try dsimp only at hSw); go_simp); try with_reducible rfl
              change wpAnyH _ _ _ _ _ _ _ (Act.put _ (some 78) _) _
              simp only [Act.put, List.setIfInBounds_toArray, List.set_cons_zero, List.set_cons_succ]
              refine wpAnyH_take (i := 11) (v := ?cyv11) rfl (by kernel_rfl) (by kernel_rfl) (by kernel_rfl) (fun _ _ _ h => panic_put (P := Tryd.prog) (fn := Tryd.f4) (R := (fun en w' => ToldEnd w en w')) h) (Or.inl ⟨by rfl, ?cyy11⟩) (by assumption) ?_
              case cyy11 => (intro w hSw; (try dsimp only at hSw); go_simp); try with_reducible rfl
              change wpAnyH _ _ _ _ _ _ _ (Act.put _ (some 7) _) _
              simp only [Act.put, List.setIfInBounds_toArray, List.set_cons_zero, List.set_cons_succ]
              refine wpAnyH_done (by kernel_rfl) ?_ _
              go_wp2_with fail
              go_meet
              case rel => exact ⟨rfl, B2⟩
          case rest =>
            clear B2
            obtain ⟨rfl, B2⟩ := hcut
            go_upto_region 20 with fail
            obtain ⟨A3, n3, c3, A4, n4, c4, ⟨s0, s1, s2, s3, s4, s5⟩, h3, h4⟩ := (hr'.next B2 rfl) j hj
            rw [← HX.out] at s0 s2 s3 s5 h3 h4
            have hT := hT'.next B2 rfl
            have g1 := h1.next B2 rfl
            have g2 := h2.next B2 rfl
            obtain ⟨y0, y1, y2, y3, y4, y5⟩ := (ph.next B2 rfl).held
            cases bh
            · have b : Below wc.heap.size wc (World.drew wc) := below_drewN (Below.refl _ _) 1
              replace B2 := below_next B2 B2.size b rfl rfl rfl rfl
              have G := mv b rfl <| And.intro hT <| And.intro g1 <| And.intro g2 <| And.intro h3 <| And.intro h4 <| And.intro s0 <| And.intro s1 <| And.intro s2 <| And.intro s3 <| And.intro s4 <| And.intro s5 <| And.intro y0 <| And.intro y1 <| And.intro y2 <| And.intro y3 <| And.intro y4 <| y5
              clear b hT g1 g2 h3 h4 s0 s1 s2 s3 s4 s5 y0 y1 y2 y3 y4 y5
              obtain ⟨hT, g1, g2, h3, h4, s0, s1, s2, s3, s4, s5, y0, y1, y2, y3, y4, y5⟩ := G
              refine wp_region_held_drew (S := fun w' => w'.cell? ⟨b, o + j * 6, none⟩ = some (.bool x.lo.s) ∧ w'.cell? ⟨b, o + j * 6 + 1, none⟩ = some (.slice A3 n3 c3) ∧ w'.cell? ⟨b, o + j * 6 + 2, none⟩ = some (.int .i64 x.lo.e) ∧ w'.cell? ⟨b, o + j * 6 + 3, none⟩ = some (.bool x.hi.s) ∧ w'.cell? ⟨b, o + j * 6 + 4, none⟩ = some (.slice A4 n4 c4) ∧ w'.cell? ⟨b, o + j * 6 + 5, none⟩ = some (.int .i64 x.hi.e) ∧ w'.cell? ⟨w.heap.size, 0, none⟩ = some (.bool q.lo.s) ∧ w'.cell? ⟨w.heap.size, 1, none⟩ = some (.slice A1 n1 c1) ∧ w'.cell? ⟨w.heap.size, 2, none⟩ = some (.int .i64 q.lo.e) ∧ w'.cell? ⟨w.heap.size, 3, none⟩ = some (.bool q.hi.s) ∧ w'.cell? ⟨w.heap.size, 4, none⟩ = some (.slice A2 n2 c2) ∧ w'.cell? ⟨w.heap.size, 5, none⟩ = some (.int .i64 q.hi.e)) (by kernel_rfl) (by exact ⟨s0, s1, s2, s3, s4, s5, y0, y1, y2, y3, y4, y5⟩) (fun hHelddn0 => ?_)
              generalize World.drew wc = wd at *
              refine wpAnyH_take (i := 0) (v := ?dnv0) rfl (by kernel_rfl) (by kernel_rfl) (by kernel_rfl) (fun _ _ _ h => panic_put (P := Tryd.prog) (fn := Tryd.f4) (R := (fun en w' => ToldEnd w en w')) h) (Or.inl ⟨by rfl, ?dny0⟩) (by assumption) ?_
              case dny0 => (intro w hSw; (try dsimp only at hSw); go_simp); try with_reducible rfl
              change wpAnyH _ _ _ _ _ _ _ (Act.put _ (some 79) _) _
              simp only [Act.put, List.setIfInBounds_toArray, List.set_cons_zero, List.set_cons_succ]
              refine wpAnyH_take (i := 1) (v := ?dnv1) rfl (by kernel_rfl) (by kernel_rfl) (by kernel_rfl) (fun _ _ _ h => panic_put (P := Tryd.prog) (fn := Tryd.f4) (R := (fun en w' => ToldEnd w en w')) h) (Or.inl ⟨by rfl, ?dny1⟩) (by assumption) ?_
              case dny1 => (intro w hSw; (try dsimp only at hSw); go_simp); try with_reducible rfl
              change wpAnyH _ _ _ _ _ _ _ (Act.put _ (some 80) _) _
              simp only [Act.put, List.setIfInBounds_toArray, List.set_cons_zero, List.set_cons_succ]
              refine wpAnyH_take (i := 2) (v := ?dnv2) rfl (by kernel_rfl) (by kernel_rfl) (by kernel_rfl) (fun _ _ _ h => panic_put (P := Tryd.prog) (fn := Tryd.f4) (R := (fun en w' => ToldEnd w en w')) h) (Or.inl ⟨by rfl, ?dny2⟩) (by assumption) ?_
              case dny2 => (intro w hSw; (try dsimp only at hSw); go_simp); try with_reducible rfl
              change wpAnyH _ _ _ _ _ _ _ (Act.put _ (some 81) _) _
              simp only [Act.put, List.setIfInBounds_toArray, List.set_cons_zero, List.set_cons_succ]
              refine wpAnyH_take (i := 3) (v := ?dnv3) rfl (by kernel_rfl) (by kernel_rfl) (by kernel_rfl) (fun _ _ _ h => panic_put (P := Tryd.prog) (fn := Tryd.f4) (R := (fun en w' => ToldEnd w en w')) h) (Or.inl ⟨by rfl, ?dny3⟩) (by assumption) ?_
              case dny3 => (intro w hSw; (try dsimp only at hSw); go_simp); try with_reducible rfl
              change wpAnyH _ _ _ _ _ _ _ (Act.put _ (some 82) _) _
              simp only [Act.put, List.setIfInBounds_toArray, List.set_cons_zero, List.set_cons_succ]
              refine wpAnyH_take (i := 4) (v := ?dnv4) rfl (by kernel_rfl) (by kernel_rfl) (by kernel_rfl) (fun _ _ _ h => panic_put (P := Tryd.prog) (fn := Tryd.f4) (R := (fun en w' => ToldEnd w en w')) h) (Or.inl ⟨by rfl, ?dny4⟩) (by assumption) ?_
              case dny4 => (intro w hSw; (try dsimp only at hSw); go_simp); try with_reducible rfl
              change wpAnyH _ _ _ _ _ _ _ (Act.put _ (some 83) _) _
              simp only [Act.put, List.setIfInBounds_toArray, List.set_cons_zero, List.set_cons_succ]
              refine wpAnyH_take (i := 5) (v := ?dnv5) rfl (by kernel_rfl) (by kernel_rfl) (by kernel_rfl) (fun _ _ _ h => panic_put (P := Tryd.prog) (fn := Tryd.f4) (R := (fun en w' => ToldEnd w en w')) h) (Or.inl ⟨by rfl, ?dny5⟩) (by assumption) ?_
              case dny5 => (intro w hSw; (try dsimp only at hSw); go_simp); try with_reducible rfl
              change wpAnyH _ _ _ _ _ _ _ (Act.put _ (some 84) _) _
              simp only [Act.put, List.setIfInBounds_toArray, List.set_cons_zero, List.set_cons_succ]
              refine wpAnyH_take (i := 6) (v := ?dnv6) rfl (by kernel_rfl) (by kernel_rfl) (by kernel_rfl) (fun _ _ _ h => panic_put (P := Tryd.prog) (fn := Tryd.f4) (R := (fun en w' => ToldEnd w en w')) h) (Or.inl ⟨by rfl, ?dny6⟩) (by assumption) ?_
              case dny6 => (intro w hSw; (try dsimp only at hSw); go_simp); try with_reducible rfl
              change wpAnyH _ _ _ _ _ _ _ (Act.put _ (some 85) _) _
              simp only [Act.put, List.setIfInBounds_toArray, List.set_cons_zero, List.set_cons_succ]
              refine wpAnyH_take (i := 7) (v := ?dnv7) rfl (by kernel_rfl) (by kernel_rfl) (by kernel_rfl) (fun _ _ _ h => panic_put (P := Tryd.prog) (fn := Tryd.f4) (R := (fun en w' => ToldEnd w en w')) h) (Or.inl ⟨by rfl, ?dny7⟩) (by assumption) ?_
              case dny7 => (intro w hSw; (try dsimp only at hSw); go_simp); try with_reducible rfl
              change wpAnyH _ _ _ _ _ _ _ (Act.put _ (some 86) _) _
              simp only [Act.put, List.setIfInBounds_toArray, List.set_cons_zero, List.set_cons_succ]
              refine wpAnyH_take (i := 8) (v := ?dnv8) rfl (by kernel_rfl) (by kernel_rfl) (by kernel_rfl) (fun _ _ _ h => panic_put (P := Tryd.prog) (fn := Tryd.f4) (R := (fun en w' => ToldEnd w en w')) h) (Or.inl ⟨by rfl, ?dny8⟩) (by assumption) ?_
              case dny8 => (intro w hSw; (try dsimp only at hSw); go_simp); try with_reducible rfl
              change wpAnyH _ _ _ _ _ _ _ (Act.put _ (some 87) _) _
              simp only [Act.put, List.setIfInBounds_toArray, List.set_cons_zero, List.set_cons_succ]
              refine wpAnyH_ready (rs := [9]) (by kernel_rfl) (by simp) ?_
              refine AllReadyH.cons (o := _) rfl (fun K hK => ?_) AllReadyH.nil
              go_simp
              refine (dsame_raw (s := x.hi.s) (t := q.hi.s) (e := x.hi.e) (f := q.hi.e) h4 g2).mono ?_
              rintro en w' ⟨rfl, b⟩
              have e9 : sameB x.hi.s q.hi.s x.hi.l q.hi.l x.hi.e q.hi.e = p2 := H2.out.symm
              rw [e9]
              clear e9
              replace B2 := below_next B2 B2.size b (by rfl) (by rfl) (by rfl) (by rfl)
              have G := mv b (by rfl) <| And.intro hT <| And.intro g1 <| And.intro g2 <| And.intro h3 <| And.intro h4 <| And.intro s0 <| And.intro s1 <| And.intro s2 <| And.intro s3 <| And.intro s4 <| And.intro s5 <| And.intro y0 <| And.intro y1 <| And.intro y2 <| And.intro y3 <| And.intro y4 <| y5
              clear b hT g1 g2 h3 h4 s0 s1 s2 s3 s4 s5 y0 y1 y2 y3 y4 y5
              obtain ⟨hT, g1, g2, h3, h4, s0, s1, s2, s3, s4, s5, y0, y1, y2, y3, y4, y5⟩ := G
              refine hK.out _ _ (by exact ⟨s0, s1, s2, s3, s4, s5, y0, y1, y2, y3, y4, y5⟩) (fun hHelddn1 => ?_)
              clear hK K hHelddn0
              try simp only [Act.put]
              refine wpAnyH_take (i := 10) (v := ?dnv10) rfl (by kernel_rfl) (by kernel_rfl) (by kernel_rfl) (fun _ _ _ h => panic_put (P := Tryd.prog) (fn := Tryd.f4) (R := (fun en w' => ToldEnd w en w')) h) (Or.inl ⟨by rfl, ?dny10⟩) (by assumption) ?_
              case dny10 => (intro w hSw; (try dsimp only at hSw); go_simp); try with_reducible rfl
              change wpAnyH _ _ _ _ _ _ _ (Act.put _ (some 89) _) _
              simp only [Act.put, List.setIfInBounds_toArray, List.set_cons_zero, List.set_cons_succ]
              refine wpAnyH_take (i := 11) (v := ?dnv11) rfl (by kernel_rfl) (by kernel_rfl) (by kernel_rfl) (fun _ _ _ h => panic_put (P := Tryd.prog) (fn := Tryd.f4) (R := (fun en w' => ToldEnd w en w')) h) (Or.inl ⟨by rfl, ?dny11⟩) (by assumption) ?_
              case dny11 => (intro w hSw; (try dsimp only at hSw); go_simp); try with_reducible rfl
              change wpAnyH _ _ _ _ _ _ _ (Act.put _ (some 8) _) _
              simp only [Act.put, List.setIfInBounds_toArray, List.set_cons_zero, List.set_cons_succ]
              refine wpAnyH_done (by kernel_rfl) ?_ _
              go_wp2
              go_roundg (gk - 1)
              case measure => have := HG.out; omega
              case rel => exact ⟨j + 1, bl || p1, false || p2, by have := HG.out; omega, by go_num, rfl, rfl, HL2.out, HH2.out, B2⟩
            · have b : Below wc.heap.size wc (World.drew wc) := below_drewN (Below.refl _ _) 1
              replace B2 := below_next B2 B2.size b rfl rfl rfl rfl
              have G := mv b rfl <| And.intro hT <| And.intro g1 <| And.intro g2 <| And.intro h3 <| And.intro h4 <| And.intro s0 <| And.intro s1 <| And.intro s2 <| And.intro s3 <| And.intro s4 <| And.intro s5 <| And.intro y0 <| And.intro y1 <| And.intro y2 <| And.intro y3 <| And.intro y4 <| y5
              clear b hT g1 g2 h3 h4 s0 s1 s2 s3 s4 s5 y0 y1 y2 y3 y4 y5
              obtain ⟨hT, g1, g2, h3, h4, s0, s1, s2, s3, s4, s5, y0, y1, y2, y3, y4, y5⟩ := G
              refine wp_region_held_drew (S := fun w' => w'.cell? ⟨b, o + j * 6, none⟩ = some (.bool x.lo.s) ∧ w'.cell? ⟨b, o + j * 6 + 1, none⟩ = some (.slice A3 n3 c3) ∧ w'.cell? ⟨b, o + j * 6 + 2, none⟩ = some (.int .i64 x.lo.e) ∧ w'.cell? ⟨b, o + j * 6 + 3, none⟩ = some (.bool x.hi.s) ∧ w'.cell? ⟨b, o + j * 6 + 4, none⟩ = some (.slice A4 n4 c4) ∧ w'.cell? ⟨b, o + j * 6 + 5, none⟩ = some (.int .i64 x.hi.e) ∧ w'.cell? ⟨w.heap.size, 0, none⟩ = some (.bool q.lo.s) ∧ w'.cell? ⟨w.heap.size, 1, none⟩ = some (.slice A1 n1 c1) ∧ w'.cell? ⟨w.heap.size, 2, none⟩ = some (.int .i64 q.lo.e) ∧ w'.cell? ⟨w.heap.size, 3, none⟩ = some (.bool q.hi.s) ∧ w'.cell? ⟨w.heap.size, 4, none⟩ = some (.slice A2 n2 c2) ∧ w'.cell? ⟨w.heap.size, 5, none⟩ = some (.int .i64 q.hi.e)) (by kernel_rfl) (by exact ⟨s0, s1, s2, s3, s4, s5, y0, y1, y2, y3, y4, y5⟩) (fun hHelddy0 => ?_)
              generalize World.drew wc = wd at *
              refine wpAnyH_take (i := 0) (v := ?dyv0) rfl (by kernel_rfl) (by kernel_rfl) (by kernel_rfl) (fun _ _ _ h => panic_put (P := Tryd.prog) (fn := Tryd.f4) (R := (fun en w' => ToldEnd w en w')) h) (Or.inl ⟨by rfl, ?dyy0⟩) (by assumption) ?_
              case dyy0 => (intro w hSw; (try dsimp only at hSw); go_simp); try with_reducible rfl
              change wpAnyH _ _ _ _ _ _ _ (Act.put _ (some 79) _) _
              simp only [Act.put, List.setIfInBounds_toArray, List.set_cons_zero, List.set_cons_succ]
              refine wpAnyH_take (i := 1) (v := ?dyv1) rfl (by kernel_rfl) (by kernel_rfl) (by kernel_rfl) (fun _ _ _ h => panic_put (P := Tryd.prog) (fn := Tryd.f4) (R := (fun en w' => ToldEnd w en w')) h) (Or.inl ⟨by rfl, ?dyy1⟩) (by assumption) ?_
              case dyy1 => (intro w hSw; (try dsimp only at hSw); go_simp); try with_reducible rfl
              change wpAnyH _ _ _ _ _ _ _ (Act.put _ (some 80) _) _
              simp only [Act.put, List.setIfInBounds_toArray, List.set_cons_zero, List.set_cons_succ]
              refine wpAnyH_take (i := 2) (v := undef) rfl (by kernel_rfl) (by kernel_rfl) (by kernel_rfl) (fun _ _ _ h => panic_put (P := Tryd.prog) (fn := Tryd.f4) (R := (fun en w' => ToldEnd w en w')) h) (Or.inr ⟨by rfl, rfl⟩) (by assumption) ?_
              change wpAnyH _ _ _ _ _ _ _ (Act.put _ (some 81) _) _
              simp only [Act.put, List.setIfInBounds_toArray, List.set_cons_zero, List.set_cons_succ]
              refine wpAnyH_take (i := 3) (v := undef) rfl (by kernel_rfl) (by kernel_rfl) (by kernel_rfl) (fun _ _ _ h => panic_put (P := Tryd.prog) (fn := Tryd.f4) (R := (fun en w' => ToldEnd w en w')) h) (Or.inr ⟨by rfl, rfl⟩) (by assumption) ?_
              change wpAnyH _ _ _ _ _ _ _ (Act.put _ (some 82) _) _
              simp only [Act.put, List.setIfInBounds_toArray, List.set_cons_zero, List.set_cons_succ]
              refine wpAnyH_take (i := 4) (v := undef) rfl (by kernel_rfl) (by kernel_rfl) (by kernel_rfl) (fun _ _ _ h => panic_put (P := Tryd.prog) (fn := Tryd.f4) (R := (fun en w' => ToldEnd w en w')) h) (Or.inr ⟨by rfl, rfl⟩) (by assumption) ?_
              change wpAnyH _ _ _ _ _ _ _ (Act.put _ (some 83) _) _
              simp only [Act.put, List.setIfInBounds_toArray, List.set_cons_zero, List.set_cons_succ]
              refine wpAnyH_take (i := 5) (v := undef) rfl (by kernel_rfl) (by kernel_rfl) (by kernel_rfl) (fun _ _ _ h => panic_put (P := Tryd.prog) (fn := Tryd.f4) (R := (fun en w' => ToldEnd w en w')) h) (Or.inr ⟨by rfl, rfl⟩) (by assumption) ?_
              change wpAnyH _ _ _ _ _ _ _ (Act.put _ (some 84) _) _
              simp only [Act.put, List.setIfInBounds_toArray, List.set_cons_zero, List.set_cons_succ]
              refine wpAnyH_take (i := 6) (v := undef) rfl (by kernel_rfl) (by kernel_rfl) (by kernel_rfl) (fun _ _ _ h => panic_put (P := Tryd.prog) (fn := Tryd.f4) (R := (fun en w' => ToldEnd w en w')) h) (Or.inr ⟨by rfl, rfl⟩) (by assumption) ?_
              change wpAnyH _ _ _ _ _ _ _ (Act.put _ (some 85) _) _
              simp only [Act.put, List.setIfInBounds_toArray, List.set_cons_zero, List.set_cons_succ]
              refine wpAnyH_take (i := 7) (v := undef) rfl (by kernel_rfl) (by kernel_rfl) (by kernel_rfl) (fun _ _ _ h => panic_put (P := Tryd.prog) (fn := Tryd.f4) (R := (fun en w' => ToldEnd w en w')) h) (Or.inr ⟨by rfl, rfl⟩) (by assumption) ?_
              change wpAnyH _ _ _ _ _ _ _ (Act.put _ (some 86) _) _
              simp only [Act.put, List.setIfInBounds_toArray, List.set_cons_zero, List.set_cons_succ]
              refine wpAnyH_take (i := 8) (v := undef) rfl (by kernel_rfl) (by kernel_rfl) (by kernel_rfl) (fun _ _ _ h => panic_put (P := Tryd.prog) (fn := Tryd.f4) (R := (fun en w' => ToldEnd w en w')) h) (Or.inr ⟨by rfl, rfl⟩) (by assumption) ?_
              change wpAnyH _ _ _ _ _ _ _ (Act.put _ (some 87) _) _
              simp only [Act.put, List.setIfInBounds_toArray, List.set_cons_zero, List.set_cons_succ]
              refine wpAnyH_ready (rs := [9]) (by kernel_rfl) (by simp) ?_
              refine AllReadyH.cons (o := _) rfl (fun K hK => ?_) AllReadyH.nil
              go_simp
              refine hK.out _ _ (by exact ⟨s0, s1, s2, s3, s4, s5, y0, y1, y2, y3, y4, y5⟩) (fun hHelddy1 => ?_)
              clear hK K hHelddy0
              try simp only [Act.put]
              refine wpAnyH_take (i := 10) (v := ?dyv10) rfl (by kernel_rfl) (by kernel_rfl) (by kernel_rfl) (fun _ _ _ h => panic_put (P := Tryd.prog) (fn := Tryd.f4) (R := (fun en w' => ToldEnd w en w')) h) (Or.inl ⟨by rfl, ?dyy10⟩) (by assumption) ?_
              case dyy10 => (intro w hSw; (try dsimp only at hSw); go_simp); try with_reducible rfl
              change wpAnyH _ _ _ _ _ _ _ (Act.put _ (some 89) _) _
              simp only [Act.put, List.setIfInBounds_toArray, List.set_cons_zero, List.set_cons_succ]
              refine wpAnyH_take (i := 11) (v := ?dyv11) rfl (by kernel_rfl) (by kernel_rfl) (by kernel_rfl) (fun _ _ _ h => panic_put (P := Tryd.prog) (fn := Tryd.f4) (R := (fun en w' => ToldEnd w en w')) h) (Or.inl ⟨by rfl, ?dyy11⟩) (by assumption) ?_
              case dyy11 => (intro w hSw; (try dsimp only at hSw); go_simp); try with_reducible rfl
              change wpAnyH _ _ _ _ _ _ _ (Act.put _ (some 8) _) _
              simp only [Act.put, List.setIfInBounds_toArray, List.set_cons_zero, List.set_cons_succ]
              refine wpAnyH_done (by kernel_rfl) ?_ _
              go_wp2
              go_roundg (gk - 1)
              case measure => have := HG.out; omega
              case rel => exact ⟨j + 1, bl || p1, true || p2, by have := HG.out; omega, by go_num, rfl, rfl, HL2.out, HH2.out, B2⟩
    have hi1 : (i : Int) < n := by omega
    have hi2 : (0 : Int) ≤ i := by omega
    obtain ⟨x, hx⟩ : ∃ x, x = X i := ⟨_, rfl⟩
    obtain ⟨A3, n3, c3, A4, n4, c4, ⟨s0, s1, s2, s3, s4, s5⟩, h3, h4⟩ := (hr.next BB rfl) i hi
    rw [← hx] at s0 s2 s3 s5 h3 h4
    have HX := Lib.hid hx
    clear hx
    have hT1 := hT.next BB rfl
    have y3 : n3 ≤ 9223372036854775807 := Nat.le_trans h3.cap h3.max
    have y4 : n4 ≤ 9223372036854775807 := Nat.le_trans h4.cap h4.max
    go_wp2_with fail
    refine (few5_any (x := x) y3 y4).mono ?_
    rintro en w1 ⟨rfl, b⟩
    replace BB := below_next BB BB.size b rfl rfl rfl rfl
    have G := mv b rfl <| And.intro hT1 <| And.intro ph <| And.intro h1 <| And.intro h2 <| And.intro s0 <| And.intro s1 <| And.intro s2 <| And.intro s3 <| And.intro s4 <| And.intro s5 <| And.intro h3 <| h4
    clear b hT1 ph h1 h2 s0 s1 s2 s3 s4 s5 h3 h4
    obtain ⟨hT1, ph, h1, h2, s0, s1, s2, s3, s4, s5, h3, h4⟩ := G
    cases q1 : (decide (n3 ≤ 70) && decide (n4 ≤ 70))
    · clear q1
      go_wp2_with fail
      refine (told5_any hT1).mono ?_
      rintro en w99 ⟨rfl, b⟩
      replace BB := below_next BB BB.size b rfl rfl rfl rfl
      clear b
      go_wp2
      first | (rw [Exit.noGoto_ret]; go_ret) | go_ret
      exact ⟨by first | rfl | simp, BB⟩
    clear q1 y3 y4
    go_wp2_with fail
    refine (imay_any (K := KK) (x := x) hKK hT1 h3 h4).mono ?_
    rintro en w2 ⟨rfl, b⟩
    replace BB := below_next BB BB.size b rfl rfl rfl rfl
    have G := mv b rfl <| And.intro hT1 <| And.intro ph <| And.intro h1 <| And.intro h2 <| And.intro s0 <| And.intro s1 <| And.intro s2 <| And.intro s3 <| And.intro s4 <| And.intro s5 <| And.intro h3 <| h4
    clear b hT1 ph h1 h2 s0 s1 s2 s3 s4 s5 h3 h4
    obtain ⟨hT1, ph, h1, h2, s0, s1, s2, s3, s4, s5, h3, h4⟩ := G
    cases q1 : mayI KK x
    · clear q1
      go_wp2_with fail
      refine (told5_any hT1).mono ?_
      rintro en w99 ⟨rfl, b⟩
      replace BB := below_next BB BB.size b rfl rfl rfl rfl
      clear b
      go_wp2
      first | (rw [Exit.noGoto_ret]; go_ret) | go_ret
      exact ⟨by first | rfl | simp, BB⟩
    have HM := Lib.hid q1
    have HQM : Hid (mayI KK q = true) := Lib.hid (hulled_may HU.out (by rw [← HX.out]; exact q1))
    have HS : Hid (Hulled KK X (i + 1) (hullQ KK q x)) := Lib.hid (by rw [HX.out]; exact hulled_step HU.out (by rw [← HX.out]; exact q1))
    clear q1 HU
    obtain ⟨p, hp⟩ : ∃ p, p = hullQ KK q x := ⟨_, rfl⟩
    have HP := Lib.hid hp
    rw [← hp] at HS
    clear hp
    go_upto_region 9 with fail
    go_cut [5, 6] (fun v5 v6 wc => ∃ (g5 : Nat) (A5 : Option Addr) (n5 c5 : Nat) (A6 : Option Addr) (n6 c6 : Nat), v5 = .pointer (some ⟨g5, 0, none⟩) ∧ v6 = .int .i64 0 ∧ w.heap.size < g5 ∧ Ibx wc g5 p.lo.s A5 n5 c5 p.lo.e p.hi.s A6 n6 c6 p.hi.e ∧ Rd wc .u64 Go.Proofs.YtijflbnfikiaaaaDoor.W A5 n5 c5 p.lo.l ∧ Rd wc .u64 Go.Proofs.YtijflbnfikiaaaaDoor.W A6 n6 c6 p.hi.l ∧ (∃ (A1 : Option Addr) (n1 c1 : Nat) (A2 : Option Addr) (n2 c2 : Nat), Ibx wc w.heap.size q.lo.s A1 n1 c1 q.lo.e q.hi.s A2 n2 c2 q.hi.e) ∧ Below w.heap.size w wc)
    case first =>
      have b : Below w2.heap.size w2 (World.drew w2) := below_drewN (Below.refl _ _) 1
      replace BB := below_next BB BB.size b rfl rfl rfl rfl
      have G := mv b rfl <| And.intro hT1 <| And.intro ph <| And.intro h1 <| And.intro h2 <| And.intro s0 <| And.intro s1 <| And.intro s2 <| And.intro s3 <| And.intro s4 <| And.intro s5 <| And.intro h3 <| h4
      clear b hT1 ph h1 h2 s0 s1 s2 s3 s4 s5 h3 h4
      obtain ⟨hT1, ph, h1, h2, s0, s1, s2, s3, s4, s5, h3, h4⟩ := G
      obtain ⟨y0, y1, y2, y3, y4, y5⟩ := ph.held
      refine wp_region_held_drew (S := fun w' => w'.cell? ⟨b, o + i * 6, none⟩ = some (.bool x.lo.s) ∧ w'.cell? ⟨b, o + i * 6 + 1, none⟩ = some (.slice A3 n3 c3) ∧ w'.cell? ⟨b, o + i * 6 + 2, none⟩ = some (.int .i64 x.lo.e) ∧ w'.cell? ⟨b, o + i * 6 + 3, none⟩ = some (.bool x.hi.s) ∧ w'.cell? ⟨b, o + i * 6 + 4, none⟩ = some (.slice A4 n4 c4) ∧ w'.cell? ⟨b, o + i * 6 + 5, none⟩ = some (.int .i64 x.hi.e) ∧ w'.cell? ⟨w.heap.size, 0, none⟩ = some (.bool q.lo.s) ∧ w'.cell? ⟨w.heap.size, 1, none⟩ = some (.slice A1 n1 c1) ∧ w'.cell? ⟨w.heap.size, 2, none⟩ = some (.int .i64 q.lo.e) ∧ w'.cell? ⟨w.heap.size, 3, none⟩ = some (.bool q.hi.s) ∧ w'.cell? ⟨w.heap.size, 4, none⟩ = some (.slice A2 n2 c2) ∧ w'.cell? ⟨w.heap.size, 5, none⟩ = some (.int .i64 q.hi.e)) (by kernel_rfl) (by exact ⟨s0, s1, s2, s3, s4, s5, y0, y1, y2, y3, y4, y5⟩) (fun hHeldt0 => ?_)
      generalize World.drew w2 = wd at *
      refine wpAnyH_take (i := 0) (v := ?t1v0) rfl (by kernel_rfl) (by kernel_rfl) (by kernel_rfl) (fun _ _ _ h => panic_put (P := Tryd.prog) (fn := Tryd.f4) (R := (fun en w' => ToldEnd w en w')) h) (Or.inl ⟨by rfl, ?t1y0⟩) (by assumption) ?_
      case t1y0 => (intro w hSw; (try dsimp only at hSw); go_simp); try with_reducible rfl
      change wpAnyH _ _ _ _ _ _ _ (Act.put _ (some 44) _) _
      simp only [Act.put, List.setIfInBounds_toArray, List.set_cons_zero, List.set_cons_succ]
      refine wpAnyH_take (i := 1) (v := ?t2v1) rfl (by kernel_rfl) (by kernel_rfl) (by kernel_rfl) (fun _ _ _ h => panic_put (P := Tryd.prog) (fn := Tryd.f4) (R := (fun en w' => ToldEnd w en w')) h) (Or.inl ⟨by rfl, ?t2y1⟩) (by assumption) ?_
      case t2y1 => (intro w hSw; (try dsimp only at hSw); go_simp); try with_reducible rfl
      change wpAnyH _ _ _ _ _ _ _ (Act.put _ (some 45) _) _
      simp only [Act.put, List.setIfInBounds_toArray, List.set_cons_zero, List.set_cons_succ]
      refine wpAnyH_take (i := 2) (v := ?t3v2) rfl (by kernel_rfl) (by kernel_rfl) (by kernel_rfl) (fun _ _ _ h => panic_put (P := Tryd.prog) (fn := Tryd.f4) (R := (fun en w' => ToldEnd w en w')) h) (Or.inl ⟨by rfl, ?t3y2⟩) (by assumption) ?_
      case t3y2 => (intro w hSw; (try dsimp only at hSw); go_simp); try with_reducible rfl
      change wpAnyH _ _ _ _ _ _ _ (Act.put _ (some 46) _) _
      simp only [Act.put, List.setIfInBounds_toArray, List.set_cons_zero, List.set_cons_succ]
      refine wpAnyH_take (i := 3) (v := ?t4v3) rfl (by kernel_rfl) (by kernel_rfl) (by kernel_rfl) (fun _ _ _ h => panic_put (P := Tryd.prog) (fn := Tryd.f4) (R := (fun en w' => ToldEnd w en w')) h) (Or.inl ⟨by rfl, ?t4y3⟩) (by assumption) ?_
      case t4y3 => (intro w hSw; (try dsimp only at hSw); go_simp); try with_reducible rfl
      change wpAnyH _ _ _ _ _ _ _ (Act.put _ (some 47) _) _
      simp only [Act.put, List.setIfInBounds_toArray, List.set_cons_zero, List.set_cons_succ]
      refine wpAnyH_take (i := 4) (v := ?t5v4) rfl (by kernel_rfl) (by kernel_rfl) (by kernel_rfl) (fun _ _ _ h => panic_put (P := Tryd.prog) (fn := Tryd.f4) (R := (fun en w' => ToldEnd w en w')) h) (Or.inl ⟨by rfl, ?t5y4⟩) (by assumption) ?_
      case t5y4 => (intro w hSw; (try dsimp only at hSw); go_simp); try with_reducible rfl
      change wpAnyH _ _ _ _ _ _ _ (Act.put _ (some 48) _) _
      simp only [Act.put, List.setIfInBounds_toArray, List.set_cons_zero, List.set_cons_succ]
      refine wpAnyH_ready (rs := [5, 9]) (by kernel_rfl) (by simp) ?_
      refine AllReadyH.cons (o := _) rfl (fun K hK => ?_) (AllReadyH.cons (o := _) rfl (fun K hK => ?_) (AllReadyH.nil))
      · go_simp
        refine (tell_as HP.out (ihull_ok HKK.out hT1 h1 h2 h3 h4 HQM.out HM.out)).mono ?_
        rintro en u1 ⟨A5, n5, c5, A6, n6, c6, rfl, h5, h6, b⟩
        clear h3 h4
        replace BB := below_next BB BB.size b rfl rfl rfl rfl
        have G := mv b rfl <| And.intro hT1 <| And.intro ph <| And.intro h1 <| And.intro h2 <| And.intro s0 <| And.intro s1 <| And.intro s2 <| And.intro s3 <| And.intro s4 <| And.intro s5 <| And.intro y0 <| And.intro y1 <| And.intro y2 <| And.intro y3 <| And.intro y4 <| y5
        clear b hT1 ph h1 h2 s0 s1 s2 s3 s4 s5 y0 y1 y2 y3 y4 y5
        obtain ⟨hT1, ph, h1, h2, s0, s1, s2, s3, s4, s5, y0, y1, y2, y3, y4, y5⟩ := G
        refine hK.out _ _ (by exact ⟨s0, s1, s2, s3, s4, s5, y0, y1, y2, y3, y4, y5⟩) (fun hHeldt1 => ?_)
        clear hK K hHeldt0
        try simp only [Act.put]
        refine wpAnyH_take (i := 6) (v := ?t6v6) rfl (by kernel_rfl) (by kernel_rfl) (by kernel_rfl) (fun _ _ _ h => panic_put (P := Tryd.prog) (fn := Tryd.f4) (R := (fun en w' => ToldEnd w en w')) h) (Or.inl ⟨by rfl, ?t6y6⟩) (by assumption) ?_
        case t6y6 => (intro w hSw; (try dsimp only at hSw); go_simp); try with_reducible rfl
        change wpAnyH _ _ _ _ _ _ _ (Act.put _ (some 43) _) _
        simp only [Act.put, List.setIfInBounds_toArray, List.set_cons_zero, List.set_cons_succ]
        refine wpAnyH_take (i := 7) (v := ?t7v7) rfl (by kernel_rfl) (by kernel_rfl) (by kernel_rfl) (fun _ _ _ h => panic_put (P := Tryd.prog) (fn := Tryd.f4) (R := (fun en w' => ToldEnd w en w')) h) (Or.inl ⟨by rfl, ?t7y7⟩) (by assumption) ?_
        case t7y7 => (intro w hSw; (try dsimp only at hSw); go_simp); try with_reducible rfl
        change wpAnyH _ _ _ _ _ _ _ (Act.put _ (some 50) _) _
        simp only [Act.put, List.setIfInBounds_toArray, List.set_cons_zero, List.set_cons_succ]
        refine wpAnyH_take (i := 8) (v := ?t8v8) rfl (by kernel_rfl) (by kernel_rfl) (by kernel_rfl) (fun _ _ _ h => panic_put (P := Tryd.prog) (fn := Tryd.f4) (R := (fun en w' => ToldEnd w en w')) h) (Or.inl ⟨by rfl, ?t8y8⟩) (by assumption) ?_
        case t8y8 => (intro w hSw; (try dsimp only at hSw); go_simp); try with_reducible rfl
        change wpAnyH _ _ _ _ _ _ _ (Act.put _ (some 51) _) _
        simp only [Act.put, List.setIfInBounds_toArray, List.set_cons_zero, List.set_cons_succ]
        refine wpAnyH_ready (rs := [9]) (by kernel_rfl) (by simp) ?_
        refine AllReadyH.cons (o := _) rfl (fun K hK => ?_) (AllReadyH.nil)
        go_simp
        have gl6 : w.heap.size < u1.heap.size := ph.gl
        have gb6 : b < u1.heap.size := World.block_lt_of_cell? _ _ s0
        have p6 := Ibx.new u1 false none 0 0 0 false none 0 0 0
        have b := below_alloc u1 (.cells #[.bool false, .slice none 0 0, .int .i64 0, .bool false, .slice none 0 0, .int .i64 0] 26)
        replace BB := below_next BB BB.size b rfl rfl rfl rfl
        have G := mv b rfl <| And.intro hT1 <| And.intro ph <| And.intro h1 <| And.intro h2 <| And.intro s0 <| And.intro s1 <| And.intro s2 <| And.intro s3 <| And.intro s4 <| And.intro s5 <| And.intro y0 <| And.intro y1 <| And.intro y2 <| And.intro y3 <| And.intro y4 <| And.intro y5 <| And.intro h5 <| h6
        clear b hT1 ph h1 h2 s0 s1 s2 s3 s4 s5 y0 y1 y2 y3 y4 y5 h5 h6
        obtain ⟨hT1, ph, h1, h2, s0, s1, s2, s3, s4, s5, y0, y1, y2, y3, y4, y5, h5, h6⟩ := G
        generalize u1.alloc (.cells #[.bool false, .slice none 0 0, .int .i64 0, .bool false, .slice none 0 0, .int .i64 0] 26) = u2 at *
        generalize u1.heap.size = g6 at *
        refine hK.out _ _ (by exact ⟨s0, s1, s2, s3, s4, s5, y0, y1, y2, y3, y4, y5⟩) (fun hHeldt2 => ?_)
        clear hK K hHeldt1
        try simp only [Act.put]
        refine wpAnyH_ready (rs := [10]) (by kernel_rfl) (by simp) ?_
        refine AllReadyH.cons (o := _) rfl (fun K hK => ?_) (AllReadyH.nil)
        obtain ⟨f0, f1, f2, f3, f4, f5⟩ := p6.open
        obtain ⟨z0, z1, z2, z3, z4, z5⟩ := p6.held
        go_simp
        clear hT1 h1 h2
        replace ph := Ibx.off6 (g := g6) ph (by omega) (.bool p.lo.s) (.slice A5 n5 c5) (.int .i64 p.lo.e) (.bool p.hi.s) (.slice A6 n6 c6) (.int .i64 p.hi.e)
        replace s0 := cell_oth6 (g := g6) (u0 := .bool p.lo.s) (u1 := .slice A5 n5 c5) (u2 := .int .i64 p.lo.e) (u3 := .bool p.hi.s) (u4 := .slice A6 n6 c6) (u5 := .int .i64 p.hi.e) s0 (by omega)
        replace s1 := cell_oth6 (g := g6) (u0 := .bool p.lo.s) (u1 := .slice A5 n5 c5) (u2 := .int .i64 p.lo.e) (u3 := .bool p.hi.s) (u4 := .slice A6 n6 c6) (u5 := .int .i64 p.hi.e) s1 (by omega)
        replace s2 := cell_oth6 (g := g6) (u0 := .bool p.lo.s) (u1 := .slice A5 n5 c5) (u2 := .int .i64 p.lo.e) (u3 := .bool p.hi.s) (u4 := .slice A6 n6 c6) (u5 := .int .i64 p.hi.e) s2 (by omega)
        replace s3 := cell_oth6 (g := g6) (u0 := .bool p.lo.s) (u1 := .slice A5 n5 c5) (u2 := .int .i64 p.lo.e) (u3 := .bool p.hi.s) (u4 := .slice A6 n6 c6) (u5 := .int .i64 p.hi.e) s3 (by omega)
        replace s4 := cell_oth6 (g := g6) (u0 := .bool p.lo.s) (u1 := .slice A5 n5 c5) (u2 := .int .i64 p.lo.e) (u3 := .bool p.hi.s) (u4 := .slice A6 n6 c6) (u5 := .int .i64 p.hi.e) s4 (by omega)
        replace s5 := cell_oth6 (g := g6) (u0 := .bool p.lo.s) (u1 := .slice A5 n5 c5) (u2 := .int .i64 p.lo.e) (u3 := .bool p.hi.s) (u4 := .slice A6 n6 c6) (u5 := .int .i64 p.hi.e) s5 (by omega)
        replace y0 := cell_oth6 (g := g6) (u0 := .bool p.lo.s) (u1 := .slice A5 n5 c5) (u2 := .int .i64 p.lo.e) (u3 := .bool p.hi.s) (u4 := .slice A6 n6 c6) (u5 := .int .i64 p.hi.e) y0 (by omega)
        replace y1 := cell_oth6 (g := g6) (u0 := .bool p.lo.s) (u1 := .slice A5 n5 c5) (u2 := .int .i64 p.lo.e) (u3 := .bool p.hi.s) (u4 := .slice A6 n6 c6) (u5 := .int .i64 p.hi.e) y1 (by omega)
        replace y2 := cell_oth6 (g := g6) (u0 := .bool p.lo.s) (u1 := .slice A5 n5 c5) (u2 := .int .i64 p.lo.e) (u3 := .bool p.hi.s) (u4 := .slice A6 n6 c6) (u5 := .int .i64 p.hi.e) y2 (by omega)
        replace y3 := cell_oth6 (g := g6) (u0 := .bool p.lo.s) (u1 := .slice A5 n5 c5) (u2 := .int .i64 p.lo.e) (u3 := .bool p.hi.s) (u4 := .slice A6 n6 c6) (u5 := .int .i64 p.hi.e) y3 (by omega)
        replace y4 := cell_oth6 (g := g6) (u0 := .bool p.lo.s) (u1 := .slice A5 n5 c5) (u2 := .int .i64 p.lo.e) (u3 := .bool p.hi.s) (u4 := .slice A6 n6 c6) (u5 := .int .i64 p.hi.e) y4 (by omega)
        replace y5 := cell_oth6 (g := g6) (u0 := .bool p.lo.s) (u1 := .slice A5 n5 c5) (u2 := .int .i64 p.lo.e) (u3 := .bool p.hi.s) (u4 := .slice A6 n6 c6) (u5 := .int .i64 p.hi.e) y5 (by omega)
        replace h5 := h5.put6 p6 (.bool p.lo.s) (.slice A5 n5 c5) (.int .i64 p.lo.e) (.bool p.hi.s) (.slice A6 n6 c6) (.int .i64 p.hi.e)
        replace h6 := h6.put6 p6 (.bool p.lo.s) (.slice A5 n5 c5) (.int .i64 p.lo.e) (.bool p.hi.s) (.slice A6 n6 c6) (.int .i64 p.hi.e)
        replace BB := below_put6 (g := g6) BB (by omega) (.bool p.lo.s) (.slice A5 n5 c5) (.int .i64 p.lo.e) (.bool p.hi.s) (.slice A6 n6 c6) (.int .i64 p.hi.e)
        replace p6 := p6.put p.lo.s A5 n5 c5 p.lo.e p.hi.s A6 n6 c6 p.hi.e
        clear f0 f1 f2 f3 f4 f5 z0 z1 z2 z3 z4 z5
        generalize (((((u2.setCell ⟨g6, 0, none⟩ (.bool p.lo.s)).setCell ⟨g6, 1, none⟩ (.slice A5 n5 c5)).setCell ⟨g6, 2, none⟩ (.int .i64 p.lo.e)).setCell ⟨g6, 3, none⟩ (.bool p.hi.s)).setCell ⟨g6, 4, none⟩ (.slice A6 n6 c6)).setCell ⟨g6, 5, none⟩ (.int .i64 p.hi.e) = u3 at *
        refine hK.out _ _ (by exact ⟨s0, s1, s2, s3, s4, s5, y0, y1, y2, y3, y4, y5⟩) (fun hHeldt3 => ?_)
        clear hK K hHeldt2
        try simp only [Act.put]
        refine wpAnyH_take (i := 11) (v := ?t9v11) rfl (by kernel_rfl) (by kernel_rfl) (by kernel_rfl) (fun _ _ _ h => panic_put (P := Tryd.prog) (fn := Tryd.f4) (R := (fun en w' => ToldEnd w en w')) h) (Or.inl ⟨by rfl, ?t9y11⟩) (by assumption) ?_
        case t9y11 => (intro w hSw; (try dsimp only at hSw); go_simp); try with_reducible rfl
        change wpAnyH _ _ _ _ _ _ _ (Act.put _ (some 6) _) _
        simp only [Act.put, List.setIfInBounds_toArray, List.set_cons_zero, List.set_cons_succ]
        refine wpAnyH_done (by kernel_rfl) ?_ _
        go_wp2_with fail
        go_meet
        case rel => exact ⟨g6, A5, n5, c5, A6, n6, c6, rfl, rfl, gl6, p6, h5, h6, ⟨_, _, _, _, _, _, ph⟩, BB⟩
      · go_simp
        have gl6 : w.heap.size < wd.heap.size := ph.gl
        have gb6 : b < wd.heap.size := World.block_lt_of_cell? _ _ s0
        have p6 := Ibx.new wd false none 0 0 0 false none 0 0 0
        have b := below_alloc wd (.cells #[.bool false, .slice none 0 0, .int .i64 0, .bool false, .slice none 0 0, .int .i64 0] 26)
        replace BB := below_next BB BB.size b rfl rfl rfl rfl
        have G := mv b rfl <| And.intro hT1 <| And.intro ph <| And.intro h1 <| And.intro h2 <| And.intro s0 <| And.intro s1 <| And.intro s2 <| And.intro s3 <| And.intro s4 <| And.intro s5 <| And.intro h3 <| And.intro h4 <| And.intro y0 <| And.intro y1 <| And.intro y2 <| And.intro y3 <| And.intro y4 <| y5
        clear b hT1 ph h1 h2 s0 s1 s2 s3 s4 s5 h3 h4 y0 y1 y2 y3 y4 y5
        obtain ⟨hT1, ph, h1, h2, s0, s1, s2, s3, s4, s5, h3, h4, y0, y1, y2, y3, y4, y5⟩ := G
        generalize wd.alloc (.cells #[.bool false, .slice none 0 0, .int .i64 0, .bool false, .slice none 0 0, .int .i64 0] 26) = u1 at *
        generalize wd.heap.size = g6 at *
        refine hK.out _ _ (by exact ⟨s0, s1, s2, s3, s4, s5, y0, y1, y2, y3, y4, y5⟩) (fun hHeldt1 => ?_)
        clear hK K hHeldt0
        try simp only [Act.put]
        refine wpAnyH_ready (rs := [5]) (by kernel_rfl) (by simp) ?_
        refine AllReadyH.cons (o := _) rfl (fun K hK => ?_) (AllReadyH.nil)
        go_simp
        refine (tell_as HP.out (ihull_ok HKK.out hT1 h1 h2 h3 h4 HQM.out HM.out)).mono ?_
        rintro en u2 ⟨A5, n5, c5, A6, n6, c6, rfl, h5, h6, b⟩
        clear h3 h4
        replace BB := below_next BB BB.size b rfl rfl rfl rfl
        have G := mv b rfl <| And.intro hT1 <| And.intro ph <| And.intro h1 <| And.intro h2 <| And.intro s0 <| And.intro s1 <| And.intro s2 <| And.intro s3 <| And.intro s4 <| And.intro s5 <| And.intro y0 <| And.intro y1 <| And.intro y2 <| And.intro y3 <| And.intro y4 <| And.intro y5 <| p6
        clear b hT1 ph h1 h2 s0 s1 s2 s3 s4 s5 y0 y1 y2 y3 y4 y5 p6
        obtain ⟨hT1, ph, h1, h2, s0, s1, s2, s3, s4, s5, y0, y1, y2, y3, y4, y5, p6⟩ := G
        refine hK.out _ _ (by exact ⟨s0, s1, s2, s3, s4, s5, y0, y1, y2, y3, y4, y5⟩) (fun hHeldt2 => ?_)
        clear hK K hHeldt1
        try simp only [Act.put]
        refine wpAnyH_take (i := 6) (v := ?t10v6) rfl (by kernel_rfl) (by kernel_rfl) (by kernel_rfl) (fun _ _ _ h => panic_put (P := Tryd.prog) (fn := Tryd.f4) (R := (fun en w' => ToldEnd w en w')) h) (Or.inl ⟨by rfl, ?t10y6⟩) (by assumption) ?_
        case t10y6 => (intro w hSw; (try dsimp only at hSw); go_simp); try with_reducible rfl
        change wpAnyH _ _ _ _ _ _ _ (Act.put _ (some 43) _) _
        simp only [Act.put, List.setIfInBounds_toArray, List.set_cons_zero, List.set_cons_succ]
        refine wpAnyH_take (i := 7) (v := ?t11v7) rfl (by kernel_rfl) (by kernel_rfl) (by kernel_rfl) (fun _ _ _ h => panic_put (P := Tryd.prog) (fn := Tryd.f4) (R := (fun en w' => ToldEnd w en w')) h) (Or.inl ⟨by rfl, ?t11y7⟩) (by assumption) ?_
        case t11y7 => (intro w hSw; (try dsimp only at hSw); go_simp); try with_reducible rfl
        change wpAnyH _ _ _ _ _ _ _ (Act.put _ (some 50) _) _
        simp only [Act.put, List.setIfInBounds_toArray, List.set_cons_zero, List.set_cons_succ]
        refine wpAnyH_take (i := 8) (v := ?t12v8) rfl (by kernel_rfl) (by kernel_rfl) (by kernel_rfl) (fun _ _ _ h => panic_put (P := Tryd.prog) (fn := Tryd.f4) (R := (fun en w' => ToldEnd w en w')) h) (Or.inl ⟨by rfl, ?t12y8⟩) (by assumption) ?_
        case t12y8 => (intro w hSw; (try dsimp only at hSw); go_simp); try with_reducible rfl
        change wpAnyH _ _ _ _ _ _ _ (Act.put _ (some 51) _) _
        simp only [Act.put, List.setIfInBounds_toArray, List.set_cons_zero, List.set_cons_succ]
        refine wpAnyH_ready (rs := [10]) (by kernel_rfl) (by simp) ?_
        refine AllReadyH.cons (o := _) rfl (fun K hK => ?_) (AllReadyH.nil)
        obtain ⟨f0, f1, f2, f3, f4, f5⟩ := p6.open
        obtain ⟨z0, z1, z2, z3, z4, z5⟩ := p6.held
        go_simp
        clear hT1 h1 h2
        replace ph := Ibx.off6 (g := g6) ph (by omega) (.bool p.lo.s) (.slice A5 n5 c5) (.int .i64 p.lo.e) (.bool p.hi.s) (.slice A6 n6 c6) (.int .i64 p.hi.e)
        replace s0 := cell_oth6 (g := g6) (u0 := .bool p.lo.s) (u1 := .slice A5 n5 c5) (u2 := .int .i64 p.lo.e) (u3 := .bool p.hi.s) (u4 := .slice A6 n6 c6) (u5 := .int .i64 p.hi.e) s0 (by omega)
        replace s1 := cell_oth6 (g := g6) (u0 := .bool p.lo.s) (u1 := .slice A5 n5 c5) (u2 := .int .i64 p.lo.e) (u3 := .bool p.hi.s) (u4 := .slice A6 n6 c6) (u5 := .int .i64 p.hi.e) s1 (by omega)
        replace s2 := cell_oth6 (g := g6) (u0 := .bool p.lo.s) (u1 := .slice A5 n5 c5) (u2 := .int .i64 p.lo.e) (u3 := .bool p.hi.s) (u4 := .slice A6 n6 c6) (u5 := .int .i64 p.hi.e) s2 (by omega)
        replace s3 := cell_oth6 (g := g6) (u0 := .bool p.lo.s) (u1 := .slice A5 n5 c5) (u2 := .int .i64 p.lo.e) (u3 := .bool p.hi.s) (u4 := .slice A6 n6 c6) (u5 := .int .i64 p.hi.e) s3 (by omega)
        replace s4 := cell_oth6 (g := g6) (u0 := .bool p.lo.s) (u1 := .slice A5 n5 c5) (u2 := .int .i64 p.lo.e) (u3 := .bool p.hi.s) (u4 := .slice A6 n6 c6) (u5 := .int .i64 p.hi.e) s4 (by omega)
        replace s5 := cell_oth6 (g := g6) (u0 := .bool p.lo.s) (u1 := .slice A5 n5 c5) (u2 := .int .i64 p.lo.e) (u3 := .bool p.hi.s) (u4 := .slice A6 n6 c6) (u5 := .int .i64 p.hi.e) s5 (by omega)
        replace y0 := cell_oth6 (g := g6) (u0 := .bool p.lo.s) (u1 := .slice A5 n5 c5) (u2 := .int .i64 p.lo.e) (u3 := .bool p.hi.s) (u4 := .slice A6 n6 c6) (u5 := .int .i64 p.hi.e) y0 (by omega)
        replace y1 := cell_oth6 (g := g6) (u0 := .bool p.lo.s) (u1 := .slice A5 n5 c5) (u2 := .int .i64 p.lo.e) (u3 := .bool p.hi.s) (u4 := .slice A6 n6 c6) (u5 := .int .i64 p.hi.e) y1 (by omega)
        replace y2 := cell_oth6 (g := g6) (u0 := .bool p.lo.s) (u1 := .slice A5 n5 c5) (u2 := .int .i64 p.lo.e) (u3 := .bool p.hi.s) (u4 := .slice A6 n6 c6) (u5 := .int .i64 p.hi.e) y2 (by omega)
        replace y3 := cell_oth6 (g := g6) (u0 := .bool p.lo.s) (u1 := .slice A5 n5 c5) (u2 := .int .i64 p.lo.e) (u3 := .bool p.hi.s) (u4 := .slice A6 n6 c6) (u5 := .int .i64 p.hi.e) y3 (by omega)
        replace y4 := cell_oth6 (g := g6) (u0 := .bool p.lo.s) (u1 := .slice A5 n5 c5) (u2 := .int .i64 p.lo.e) (u3 := .bool p.hi.s) (u4 := .slice A6 n6 c6) (u5 := .int .i64 p.hi.e) y4 (by omega)
        replace y5 := cell_oth6 (g := g6) (u0 := .bool p.lo.s) (u1 := .slice A5 n5 c5) (u2 := .int .i64 p.lo.e) (u3 := .bool p.hi.s) (u4 := .slice A6 n6 c6) (u5 := .int .i64 p.hi.e) y5 (by omega)
        replace h5 := h5.put6 p6 (.bool p.lo.s) (.slice A5 n5 c5) (.int .i64 p.lo.e) (.bool p.hi.s) (.slice A6 n6 c6) (.int .i64 p.hi.e)
        replace h6 := h6.put6 p6 (.bool p.lo.s) (.slice A5 n5 c5) (.int .i64 p.lo.e) (.bool p.hi.s) (.slice A6 n6 c6) (.int .i64 p.hi.e)
        replace BB := below_put6 (g := g6) BB (by omega) (.bool p.lo.s) (.slice A5 n5 c5) (.int .i64 p.lo.e) (.bool p.hi.s) (.slice A6 n6 c6) (.int .i64 p.hi.e)
        replace p6 := p6.put p.lo.s A5 n5 c5 p.lo.e p.hi.s A6 n6 c6 p.hi.e
        clear f0 f1 f2 f3 f4 f5 z0 z1 z2 z3 z4 z5
        generalize (((((u2.setCell ⟨g6, 0, none⟩ (.bool p.lo.s)).setCell ⟨g6, 1, none⟩ (.slice A5 n5 c5)).setCell ⟨g6, 2, none⟩ (.int .i64 p.lo.e)).setCell ⟨g6, 3, none⟩ (.bool p.hi.s)).setCell ⟨g6, 4, none⟩ (.slice A6 n6 c6)).setCell ⟨g6, 5, none⟩ (.int .i64 p.hi.e) = u3 at *
        refine hK.out _ _ (by exact ⟨s0, s1, s2, s3, s4, s5, y0, y1, y2, y3, y4, y5⟩) (fun hHeldt3 => ?_)
        clear hK K hHeldt2
        try simp only [Act.put]
        refine wpAnyH_take (i := 11) (v := ?t13v11) rfl (by kernel_rfl) (by kernel_rfl) (by kernel_rfl) (fun _ _ _ h => panic_put (P := Tryd.prog) (fn := Tryd.f4) (R := (fun en w' => ToldEnd w en w')) h) (Or.inl ⟨by rfl, ?t13y11⟩) (by assumption) ?_
        case t13y11 => (intro w hSw; (try dsimp only at hSw); go_simp); try with_reducible rfl
        change wpAnyH _ _ _ _ _ _ _ (Act.put _ (some 6) _) _
        simp only [Act.put, List.setIfInBounds_toArray, List.set_cons_zero, List.set_cons_succ]
        refine wpAnyH_done (by kernel_rfl) ?_ _
        go_wp2_with fail
        go_meet
        case rel => exact ⟨g6, A5, n5, c5, A6, n6, c6, rfl, rfl, gl6, p6, h5, h6, ⟨_, _, _, _, _, _, ph⟩, BB⟩
    case rest =>
      clear ph h1 h2 h3 h4 s0 s1 s2 s3 s4 s5 hT1 BB
      obtain ⟨g5, A5, n5, c5, A6, n6, c6, rfl, rfl, gl5, p5, h5, h6, ⟨A7, n7, c7, A8, n8, c8, ph⟩, BB⟩ := hcut
      have ne5 : ¬ g5 = w.heap.size := by omega
      have ne6 : ¬ w.heap.size = g5 := by omega
      obtain ⟨y0, y1, y2, y3, y4, y5⟩ := p5.held
      obtain ⟨f0, f1, f2, f3, f4, f5⟩ := ph.open
      obtain ⟨z0, z1, z2, z3, z4, z5⟩ := ph.held
      go_wp2
      go_roundg (gk - 1)
      case measure => have := HG.out; omega
      case rel => exact ⟨i + 1, p, A5, n5, c5, A6, n6, c6, by have := HG.out; omega, by go_num, HS.out, ph.put p.lo.s A5 n5 c5 p.lo.e p.hi.s A6 n6 c6 p.hi.e, h5.put6 ph (.bool p.lo.s) (.slice A5 n5 c5) (.int .i64 p.lo.e) (.bool p.hi.s) (.slice A6 n6 c6) (.int .i64 p.hi.e), h6.put6 ph (.bool p.lo.s) (.slice A5 n5 c5) (.int .i64 p.lo.e) (.bool p.hi.s) (.slice A6 n6 c6) (.int .i64 p.hi.e), below_put6 BB (Nat.le_refl _) (.bool p.lo.s) (.slice A5 n5 c5) (.int .i64 p.lo.e) (.bool p.hi.s) (.slice A6 n6 c6) (.int .i64 p.hi.e)⟩

end Go.Proofs.YtijflbnfikiaaaaDoor
