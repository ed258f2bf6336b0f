/-
 Contract of the statement DecSame's function at this translation: it returns true, whatever its arguments. Conditions: the two tables, and the two errors of strconv, lie as their texts lay them.
-/
import Derived.Test.YtdhdebapjlcjdaaGreatDoorQKz
import Derived.Test.YtdhdebapjlcjdaaGreatDoorQVo
import Derived.Test.YtdhdebapjlcjdaaGreatDoorQVi
import Derived.RegionTactic
set_option maxHeartbeats 8000000
set_option maxRecDepth 100000
namespace Go.Proofs.YtdhdebapjlcjdaaGreatDoor
open Go.RowKit

theorem digit_cut {d : Nat} (hd : d < 10) : (ByteArray.mk #[48, 49, 50, 51, 52, 53, 54, 55, 56, 57]).extract d (d + 1) = ⟨[UInt8.ofNat (48 + d)].toArray⟩ := by
 apply ByteArray.ext
 apply Array.toList_inj.1
 rw [Lib.extract_data]
 have := digit_finH ⟨d, hd⟩
 show (([48, 49, 50, 51, 52, 53, 54, 55, 56, 57] : List UInt8).drop d).take (d + 1 - d) = [UInt8.ofNat (48 + d)]
 rw [Nat.add_sub_cancel_left]
 exact this
theorem zeros_fin : ∀ k : Fin 21, ([48, 48, 48, 48, 48, 48, 48, 48, 48, 48, 48, 48, 48, 48, 48, 48, 48, 48, 48, 48] : List UInt8).take k.val = List.replicate k.val 48 := by decide
theorem zeros_runS {k : Nat} (hk : k ≤ 20) (W : World) : (Instr.slice 9 (.string ⟨#[48, 48, 48, 48, 48, 48, 48, 48, 48, 48, 48, 48, 48, 48, 48, 48, 48, 48, 48, 48]⟩) none (some (.int .i64 (k : Int))) none).run Tryz.prog W = .ok (.string ⟨(List.replicate k 48).toArray⟩) W := by
 have h := front_runH ([48, 48, 48, 48, 48, 48, 48, 48, 48, 48, 48, 48, 48, 48, 48, 48, 48, 48, 48, 48] : List UInt8) k hk W
 rw [zeros_fin ⟨k, by omega⟩] at h
 exact h
theorem lit_like {w : World} {S L : List UInt8} {sa : ByteArray} {p : Nat} {x : Iv} (hE : Errs w) (hT : Tab w) (hp1 : 1 ≤ p) (hp2 : p ≤ 2000) (hS : Digs S) (hl : S.length = 9) (hx : LitQ S 0 p x) (hL : Like S L) (hs : sa = ⟨L.toArray⟩) :
  Calls Tryz.prog 6 #[.string sa, .int .i64 (p : Int)] w (TellI 0 x w) := by
 subst hs
 obtain ⟨d, n, hr, hn, hd, hdl, hv⟩ := hL
 obtain ⟨y, hy, hc⟩ := dlit_ok (s := ⟨L.toArray⟩) hE hT hr hp1 hp2
 obtain rfl := lit_same hp1 hp2 hn hd hdl hS (by omega) hv hy hx
 exact hc
theorem lit_plain {w : World} {S : List UInt8} {p : Nat} (hE : Errs w) (hT : Tab w) (hp1 : 1 ≤ p) (hp2 : p ≤ 2000) (hS : Digs S) (hl : S.length = 9) : ∃ x, LitQ S 0 p x := by
 obtain ⟨x, hx, _⟩ := dlit_ok (s := ⟨S.toArray⟩) (d := S) (t := 0) hE hT (read_plain (a := S) hS (fun h1 => by rw [h1] at hl; cases hl) (by omega)) hp1 hp2
 exact ⟨x, hx⟩
theorem ten_text {k : Nat} (hk : k ≤ 20) : Digs [UInt8.ofNat (48 + k / 10), UInt8.ofNat (48 + k % 10)] ∧ numV [UInt8.ofNat (48 + k / 10), UInt8.ofNat (48 + k % 10)] = k := by
 have h : ∀ k : Fin 21, (([UInt8.ofNat (48 + k.val / 10), UInt8.ofNat (48 + k.val % 10)] : List UInt8).all isDig) = true ∧ numV [UInt8.ofNat (48 + k.val / 10), UInt8.ofNat (48 + k.val % 10)] = k.val := by decide
 obtain ⟨h1, h2⟩ := h ⟨k, by omega⟩
 exact ⟨fun c hc => List.all_eq_true.1 h1 c hc, h2⟩
theorem samei_self (x : Iv) : sameI x x = true := sameI_iff.2 rfl
theorem same4_any {w : World} {a b c : Int} (hE : Errs w) (hT : Tab w) (hP : PowT w) :
  Calls Tryz.prog 4 #[.int .i64 a, .int .i64 b, .int .i64 c] w fun en w' => ToldEnd w en w' := by
 obtain ⟨ra, hra⟩ := Int.eq_ofNat_of_zero_le (show 0 ≤ IntKind.u64.wrap a by rw [IntKind.wrap_u64]; omega)
 obtain ⟨u0, hu0⟩ : ∃ q, q = ra % 1000000000 := ⟨_, rfl⟩
 have uua : (ra : Int) % 1000000000 = (u0 : Int) := by omega
 have uwa : (0 : Int) ≤ (ra : Int) := by omega
 have uxa : u0 < 18446744073709551616 := by omega
 clear hu0
 obtain ⟨rk, hrk⟩ := Int.eq_ofNat_of_zero_le (show 0 ≤ IntKind.u64.wrap b by rw [IntKind.wrap_u64]; omega)
 obtain ⟨k, hk⟩ : ∃ q, q = rk % 21 := ⟨_, rfl⟩
 have uuk : (rk : Int) % 21 = (k : Int) := by omega
 have uwk : (0 : Int) ≤ (rk : Int) := by omega
 have uxk : k ≤ 20 := by omega
 have uyk : (k : Int) ≤ 20 := by omega
 clear hk
 obtain ⟨rb, hrb⟩ := Int.eq_ofNat_of_zero_le (show 0 ≤ IntKind.u64.wrap c by rw [IntKind.wrap_u64]; omega)
 obtain ⟨p, hp⟩ : ∃ q, q = rb % 100 := ⟨_, rfl⟩
 have uup : (rb : Int) % 100 = (p : Int) := by omega
 have uwp : (0 : Int) ≤ (rb : Int) := by omega
 have uxp : p < 100 := by omega
 have uyp : (p : Int) < 100 := by omega
 clear hp
 obtain ⟨q, hq⟩ : ∃ q, q = 1 + p := ⟨_, rfl⟩
 have uuq : 1 + (p : Int) = (q : Int) := by omega
 have uxq : 1 ≤ q := by omega
 have uyq : q ≤ 100 := by omega
 clear hq
 have BB := Below.refl w.heap.size w
 go_enter Tryz.func4, Tryz.ntmps4
 go_wp2_with fail
 go_loopg [7, 10, 11] 9 (fun gk v7 v10 v11 wr => ∃ (i u : Nat) (S : List UInt8), i + gk = 9 ∧ v11 = .int .i64 i ∧ v7 = .int .u64 u ∧ u < 18446744073709551616 ∧ v10 = .string ⟨S.toArray⟩ ∧ S.length = i ∧ Digs S ∧ wr = w)
 case atStart => exact ⟨0, u0, [], rfl, rfl, congrArg (Value.int IntKind.u64) uua, uxa, rfl, rfl, fun c hc => (by cases hc), rfl⟩
 case round =>
  obtain ⟨i, u, S, hi, rfl, rfl, hu, rfl, hl, hS, rfl⟩ := hrel
  by_cases hlt : i < 9
  ·obtain ⟨gq, rfl⟩ : ∃ q, gk = q + 1 := ⟨gk - 1, by omega⟩
   obtain ⟨d, hd⟩ : ∃ z, z = u % 10 := ⟨_, rfl⟩
   have hd1 : (u : Int) % 10 = (d : Int) := by omega
   have hd2 : d < 10 := by omega
   have hd3 : (0 : Int) ≤ (u : Int) := by omega
   have hd4 : IntKind.u64.wrap ((d : Int) + 1) = (d : Int) + 1 := by rw [IntKind.wrap_u64]; omega
   obtain ⟨v, hv⟩ : ∃ z, z = u / 10 := ⟨_, rfl⟩
   have hv1 : (u : Int) / 10 = (v : Int) := by omega
   have hv2 : v < 18446744073709551616 := by omega
   obtain ⟨ch, hch⟩ : ∃ z, z = UInt8.ofNat (48 + d) := ⟨_, rfl⟩
   have dr := digit_run64 hd2
   rw [← hch] at dr
   have hS2 : Digs (ch :: S) := by rw [hch]; exact digs_cons hd2 hS
   have hsz : (ByteArray.mk S.toArray).size = i := by show S.toArray.size = i; simp [hl]
   have ds2 : (ByteArray.mk [ch].toArray).size = 1 := rfl
   have hct := Lib.hid (cat_text [ch] S)
   clear hd hv hch
   go_wp2
   go_roundg gq
   case measure => omega
   case rel => exact ⟨i + 1, v, ch :: S, by omega, by go_num, rfl, hv2, congrArg Value.string hct.out, by rw [List.length_cons, hl], hS2, rfl⟩
  ·obtain rfl : i = 9 := by omega
   have hgk : gk = 0 := by omega
   subst hgk
   clear hlt hi hu hra uua uwa uxa hrk uuk uwk hrb uup uwp uxp uyp uuq
   obtain ⟨hTd, hTv⟩ := ten_text uxk
   obtain ⟨k1, hk1⟩ : ∃ z, z = k / 10 := ⟨_, rfl⟩
   obtain ⟨k2, hk2⟩ : ∃ z, z = k % 10 := ⟨_, rfl⟩
   rw [← hk1, ← hk2] at hTd hTv
   have z1 : (k : Int) / 10 = (k1 : Int) := by omega
   have z2 : (k : Int) % 10 = (k2 : Int) := by omega
   have y1 : (k : Int).tdiv 10 = (k1 : Int) := by rw [Int.tdiv_eq_ediv_of_nonneg (by omega)]; exact z1
   have y2 : (k : Int).tmod 10 = (k2 : Int) := by rw [Int.tmod_eq_emod_of_nonneg (by omega)]; exact z2
   have x1 : k1 < 10 := by omega
   have x2 : k2 < 10 := by omega
   have v1 : (k1 : Int) < 10 := by omega
   have v2 : (k2 : Int) < 10 := by omega
   have v0 : (0 : Int) ≤ (k : Int) := by omega
   clear hk1 hk2
   obtain ⟨c1, hc1⟩ : ∃ z, z = UInt8.ofNat (48 + k1) := ⟨_, rfl⟩
   obtain ⟨c2, hc2⟩ : ∃ z, z = UInt8.ofNat (48 + k2) := ⟨_, rfl⟩
   have d1 := digit_cut x1
   have d2 := digit_cut x2
   have t1 : ((k1 : Int)).toNat = k1 := Int.toNat_natCast _
   have t2 : ((k2 : Int)).toNat = k2 := Int.toNat_natCast _
   have t3 : ((k1 : Int) + 1).toNat = k1 + 1 := by omega
   have t4 : ((k2 : Int) + 1).toNat = k2 + 1 := by omega
   have g1 : IntKind.i64.wrap (k1 : Int) = (k1 : Int) := IntWalk.i64_in _ (by omega)
   have g2 : IntKind.i64.wrap (k2 : Int) = (k2 : Int) := IntWalk.i64_in _ (by omega)
   have g3 : IntKind.i64.wrap ((k1 : Int) + 1) = (k1 : Int) + 1 := IntWalk.i64_in _ (by omega)
   have g4 : IntKind.i64.wrap ((k2 : Int) + 1) = (k2 : Int) + 1 := IntWalk.i64_in _ (by omega)
   rw [← hc1] at d1 hTd hTv
   rw [← hc2] at d2 hTd hTv
   clear hc1 hc2
   obtain ⟨Z, hZ⟩ : ∃ z, z = List.replicate k (48 : UInt8) := ⟨_, rfl⟩
   have zr := zeros_runS uxk
   rw [← hZ] at zr
   have lp := like_point hS hl uxk
   have lt := like_ten hS hl uxk hTd rfl hTv
   rw [← hZ] at lp lt
   obtain ⟨x, hx⟩ := lit_plain (p := q) hE hT uxq (by omega) hS hl
   have C1 : Hid (∀ W1 : World, Errs W1 → Tab W1 → Calls Tryz.prog 6 #[.string ⟨S.toArray⟩, .int .i64 (q : Int)] W1 (TellI 0 x W1)) := fun W1 e t => lit_like e t uxq (by omega) hS hl hx (like_self hS hl) rfl
   have C2 : Hid (∀ W1 : World, Errs W1 → Tab W1 → Calls Tryz.prog 6 #[.string (ByteArray.mk S.toArray ++ ByteArray.mk #[46] ++ ByteArray.mk Z.toArray ++ ByteArray.mk #[48]), .int .i64 (q : Int)] W1 (TellI 0 x W1)) := fun W1 e t => lit_like e t uxq (by omega) hS hl hx lp (by
    rw [show (⟨#[46]⟩ : ByteArray) = ⟨([46] : List UInt8).toArray⟩ from rfl, show (⟨#[48]⟩ : ByteArray) = ⟨([48] : List UInt8).toArray⟩ from rfl, cat_text, cat_text, cat_text]
    simp only [List.append_assoc, List.cons_append, List.nil_append])
   have C3 : Hid (∀ W1 : World, Errs W1 → Tab W1 → Calls Tryz.prog 6 #[.string (ByteArray.mk S.toArray ++ ByteArray.mk Z.toArray ++ ByteArray.mk #[101, 45] ++ (ByteArray.mk [c1].toArray ++ ByteArray.mk [c2].toArray)), .int .i64 (q : Int)] W1 (TellI 0 x W1)) := fun W1 e t => lit_like e t uxq (by omega) hS hl hx lt (by
    rw [show (⟨#[101, 45]⟩ : ByteArray) = ⟨([101, 45] : List UInt8).toArray⟩ from rfl, cat_text, cat_text, cat_text, cat_text]
    simp only [List.append_assoc, List.cons_append, List.nil_append])
   have C4 : Hid (∀ W1 : World, Errs W1 → Tab W1 → Calls Tryz.prog 6 #[.string (ByteArray.mk #[48] ++ ByteArray.mk S.toArray), .int .i64 (q : Int)] W1 (TellI 0 x W1)) := fun W1 e t => lit_like e t uxq (by omega) hS hl hx (like_front hS hl) (by
    rw [show (⟨#[48]⟩ : ByteArray) = ⟨([48] : List UInt8).toArray⟩ from rfl, cat_text]
    rfl)
   have ls : (ByteArray.mk S.toArray).size = 9 := by show S.toArray.size = 9; simp [hl]
   have lz : (ByteArray.mk Z.toArray).size = k := by show Z.toArray.size = k; rw [hZ]; simp
   have lz2 : Z.length = k := by rw [hZ, List.length_replicate]
   have l1 : (ByteArray.mk [c1].toArray).size = 1 := rfl
   have l2 : (ByteArray.mk [c2].toArray).size = 1 := rfl
   clear hx lp lt hZ hTd hTv hS
   go_wp2_with fail
   have b : Below wr.heap.size wr (World.drew wr) := below_drewN (Below.refl _ _) 1
   replace BB := bnx BB b
   have G := mv b rfl (J3 hE hT hP)
   clear b hE hT hP
   obtain ⟨hE, hT, hP⟩ := G
   refine wp_region_held_drew (S := fun w' => True) (by kernel_rfl) trivial (fun hHeldv0 => ?_)
   generalize World.drew wr = wd at *
   refine wpAnyH_take (i := 0) (v := ?vv0) rfl (by kernel_rfl) (by kernel_rfl) (by kernel_rfl) (fun _ _ _ h => panic_put (P := Tryz.prog) (fn := Tryz.f4) (R := (fun en w' => ToldEnd wr en w')) h) (Or.inl ⟨by rfl, ?vy0⟩) (by assumption) ?_
   case vy0 => (intro w hSw; (try dsimp only at hSw); go_simp); try with_reducible rfl
   change wpAnyH _ _ _ _ _ _ _ (Act.put _ (some 50) _) _
   simp only [Act.put, List.setIfInBounds_toArray, List.set_cons_zero, List.set_cons_succ]
   refine wpAnyH_take (i := 1) (v := ?vv1) rfl (by kernel_rfl) (by kernel_rfl) (by kernel_rfl) (fun _ _ _ h => panic_put (P := Tryz.prog) (fn := Tryz.f4) (R := (fun en w' => ToldEnd wr en w')) h) (Or.inl ⟨by rfl, ?vy1⟩) (by assumption) ?_
   case vy1 => (intro w hSw; (try dsimp only at hSw); go_simp; (try simp only [z1, z2, y1, y2, g1, g2, g3, g4])); try with_reducible rfl
   change wpAnyH _ _ _ _ _ _ _ (Act.put _ (some 51) _) _
   simp only [Act.put, List.setIfInBounds_toArray, List.set_cons_zero, List.set_cons_succ]
   refine wpAnyH_take (i := 2) (v := ?vv2) rfl (by kernel_rfl) (by kernel_rfl) (by kernel_rfl) (fun _ _ _ h => panic_put (P := Tryz.prog) (fn := Tryz.f4) (R := (fun en w' => ToldEnd wr en w')) h) (Or.inl ⟨by rfl, ?vy2⟩) (by assumption) ?_
   case vy2 => (intro w hSw; (try dsimp only at hSw); go_simp); try with_reducible rfl
   change wpAnyH _ _ _ _ _ _ _ (Act.put _ (some 52) _) _
   simp only [Act.put, List.setIfInBounds_toArray, List.set_cons_zero, List.set_cons_succ]
   refine wpAnyH_take (i := 3) (v := ?vv3) rfl (by kernel_rfl) (by kernel_rfl) (by kernel_rfl) (fun _ _ _ h => panic_put (P := Tryz.prog) (fn := Tryz.f4) (R := (fun en w' => ToldEnd wr en w')) h) (Or.inl ⟨by rfl, ?vy3⟩) (by assumption) ?_
   case vy3 => (intro w hSw; (try dsimp only at hSw); go_simp; (try simp only [z1, z2, y1, y2, g1, g2, g3, g4])); try with_reducible rfl
   change wpAnyH _ _ _ _ _ _ _ (Act.put _ (some 53) _) _
   simp only [Act.put, List.setIfInBounds_toArray, List.set_cons_zero, List.set_cons_succ]
   refine wpAnyH_take (i := 4) (v := ?vv4) rfl (by kernel_rfl) (by kernel_rfl) (by kernel_rfl) (fun _ _ _ h => panic_put (P := Tryz.prog) (fn := Tryz.f4) (R := (fun en w' => ToldEnd wr en w')) h) (Or.inl ⟨by rfl, ?vy4⟩) (by assumption) ?_
   case vy4 => (intro w hSw; (try dsimp only at hSw); go_simp; (try simp only [z1, z2, y1, y2, g1, g2, g3, g4])); try with_reducible rfl
   change wpAnyH _ _ _ _ _ _ _ (Act.put _ (some 54) _) _
   simp only [Act.put, List.setIfInBounds_toArray, List.set_cons_zero, List.set_cons_succ]
   refine wpAnyH_take (i := 5) (v := ?vv5) rfl (by kernel_rfl) (by kernel_rfl) (by kernel_rfl) (fun _ _ _ h => panic_put (P := Tryz.prog) (fn := Tryz.f4) (R := (fun en w' => ToldEnd wr en w')) h) (Or.inl ⟨by rfl, ?vy5⟩) (by assumption) ?_
   case vy5 => (intro w hSw; (try dsimp only at hSw); go_simp; (repeat rw [if_pos (by omega)]))
   change wpAnyH _ _ _ _ _ _ _ (Act.put _ (some 55) _) _
   simp only [Act.put, List.setIfInBounds_toArray, List.set_cons_zero, List.set_cons_succ]
   refine wpAnyH_take (i := 6) (v := ?vv6) rfl (by kernel_rfl) (by kernel_rfl) (by kernel_rfl) (fun _ _ _ h => panic_put (P := Tryz.prog) (fn := Tryz.f4) (R := (fun en w' => ToldEnd wr en w')) h) (Or.inl ⟨by rfl, ?vy6⟩) (by assumption) ?_
   case vy6 => (intro w hSw; (try dsimp only at hSw); go_simp); try with_reducible rfl
   change wpAnyH _ _ _ _ _ _ _ (Act.put _ (some 56) _) _
   simp only [Act.put, List.setIfInBounds_toArray, List.set_cons_zero, List.set_cons_succ]
   refine wpAnyH_take (i := 7) (v := ?vv7) rfl (by kernel_rfl) (by kernel_rfl) (by kernel_rfl) (fun _ _ _ h => panic_put (P := Tryz.prog) (fn := Tryz.f4) (R := (fun en w' => ToldEnd wr en w')) h) (Or.inl ⟨by rfl, ?vy7⟩) (by assumption) ?_
   case vy7 => (intro w hSw; (try dsimp only at hSw); go_simp; (try simp only [z1, z2, y1, y2, g1, g2, g3, g4])); try with_reducible rfl
   change wpAnyH _ _ _ _ _ _ _ (Act.put _ (some 57) _) _
   simp only [Act.put, List.setIfInBounds_toArray, List.set_cons_zero, List.set_cons_succ]
   refine wpAnyH_take (i := 8) (v := ?vv8) rfl (by kernel_rfl) (by kernel_rfl) (by kernel_rfl) (fun _ _ _ h => panic_put (P := Tryz.prog) (fn := Tryz.f4) (R := (fun en w' => ToldEnd wr en w')) h) (Or.inl ⟨by rfl, ?vy8⟩) (by assumption) ?_
   case vy8 => (intro w hSw; (try dsimp only at hSw); go_simp); try with_reducible rfl
   change wpAnyH _ _ _ _ _ _ _ (Act.put _ (some 58) _) _
   simp only [Act.put, List.setIfInBounds_toArray, List.set_cons_zero, List.set_cons_succ]
   refine wpAnyH_take (i := 9) (v := ?vv9) rfl (by kernel_rfl) (by kernel_rfl) (by kernel_rfl) (fun _ _ _ h => panic_put (P := Tryz.prog) (fn := Tryz.f4) (R := (fun en w' => ToldEnd wr en w')) h) (Or.inl ⟨by rfl, ?vy9⟩) (by assumption) ?_
   case vy9 => (intro w hSw; (try dsimp only at hSw); go_simp; (try simp only [z1, z2, y1, y2, g1, g2, g3, g4])); try with_reducible rfl
   change wpAnyH _ _ _ _ _ _ _ (Act.put _ (some 59) _) _
   simp only [Act.put, List.setIfInBounds_toArray, List.set_cons_zero, List.set_cons_succ]
   refine wpAnyH_take (i := 10) (v := ?vv10) rfl (by kernel_rfl) (by kernel_rfl) (by kernel_rfl) (fun _ _ _ h => panic_put (P := Tryz.prog) (fn := Tryz.f4) (R := (fun en w' => ToldEnd wr en w')) h) (Or.inl ⟨by rfl, ?vy10⟩) (by assumption) ?_
   case vy10 => (intro w hSw; (try dsimp only at hSw); go_simp; (try simp only [z1, z2, y1, y2, g1, g2, g3, g4])); try with_reducible rfl
   change wpAnyH _ _ _ _ _ _ _ (Act.put _ (some 60) _) _
   simp only [Act.put, List.setIfInBounds_toArray, List.set_cons_zero, List.set_cons_succ]
   refine wpAnyH_take (i := 11) (v := ?vv11) rfl (by kernel_rfl) (by kernel_rfl) (by kernel_rfl) (fun _ _ _ h => panic_put (P := Tryz.prog) (fn := Tryz.f4) (R := (fun en w' => ToldEnd wr en w')) h) (Or.inl ⟨by rfl, ?vy11⟩) (by assumption) ?_
   case vy11 => (intro w hSw; (try dsimp only at hSw); go_simp; (repeat rw [if_pos (by omega)]))
   change wpAnyH _ _ _ _ _ _ _ (Act.put _ (some 61) _) _
   simp only [Act.put, List.setIfInBounds_toArray, List.set_cons_zero, List.set_cons_succ]
   refine wpAnyH_take (i := 12) (v := ?vv12) rfl (by kernel_rfl) (by kernel_rfl) (by kernel_rfl) (fun _ _ _ h => panic_put (P := Tryz.prog) (fn := Tryz.f4) (R := (fun en w' => ToldEnd wr en w')) h) (Or.inl ⟨by rfl, ?vy12⟩) (by assumption) ?_
   case vy12 => (intro w hSw; (try dsimp only at hSw); go_simp; (try simp only [z1, z2, y1, y2, g1, g2, g3, g4])); try with_reducible rfl
   change wpAnyH _ _ _ _ _ _ _ (Act.put _ (some 62) _) _
   simp only [Act.put, List.setIfInBounds_toArray, List.set_cons_zero, List.set_cons_succ]
   refine wpAnyH_take (i := 13) (v := ?vv13) rfl (by kernel_rfl) (by kernel_rfl) (by kernel_rfl) (fun _ _ _ h => panic_put (P := Tryz.prog) (fn := Tryz.f4) (R := (fun en w' => ToldEnd wr en w')) h) (Or.inl ⟨by rfl, ?vy13⟩) (by assumption) ?_
   case vy13 => (intro w hSw; (try dsimp only at hSw); go_simp); try with_reducible rfl
   change wpAnyH _ _ _ _ _ _ _ (Act.put _ (some 13) _) _
   simp only [Act.put, List.setIfInBounds_toArray, List.set_cons_zero, List.set_cons_succ]
   refine wpAnyH_done (by kernel_rfl) ?_ _
   go_wp2_with fail
   try any_goals (exfalso; omega)
   refine (C1.out _ hE hT).mono ?_
   rintro en w1 ⟨A1, n1, c1, B1, m1, d1, rfl, R1, Q1, b⟩
   clear C1
   replace BB := bnx BB b
   have G := mv b rfl (J3 hE hT hP)
   clear b hE hT hP
   obtain ⟨hE, hT, hP⟩ := G
   obtain ⟨i0, i1, i2, i3, i4, i5⟩ := (Ibx.new w1 x.lo.s A1 n1 c1 x.lo.e x.hi.s B1 m1 d1 x.hi.e).held
   have b := below_alloc w1 (.cells #[.bool x.lo.s, .slice A1 n1 c1, .int .i64 x.lo.e, .bool x.hi.s, .slice B1 m1 d1, .int .i64 x.hi.e] 27)
   replace BB := bnx BB b
   have G := mv b rfl (J5 hE hT hP R1 Q1)
   clear b hE hT hP R1 Q1
   obtain ⟨hE, hT, hP, R1, Q1⟩ := G
   go_wp2_with fail
   try any_goals (exfalso; omega)
   refine (C2.out _ hE hT).mono ?_
   rintro en w2 ⟨A2, n2, c2, B2, m2, d2, rfl, R2, Q2, b⟩
   clear C2
   replace BB := bnx BB b
   have G := mv b rfl (J11 hE hT hP R1 Q1 i0 i1 i2 i3 i4 i5)
   clear b hE hT hP R1 Q1 i0 i1 i2 i3 i4 i5
   obtain ⟨hE, hT, hP, R1, Q1, i0, i1, i2, i3, i4, i5⟩ := G
   obtain ⟨j0, j1, j2, j3, j4, j5⟩ := (Ibx.new w2 x.lo.s A2 n2 c2 x.lo.e x.hi.s B2 m2 d2 x.hi.e).held
   have b := below_alloc w2 (.cells #[.bool x.lo.s, .slice A2 n2 c2, .int .i64 x.lo.e, .bool x.hi.s, .slice B2 m2 d2, .int .i64 x.hi.e] 27)
   replace BB := bnx BB b
   have G := mv b rfl (J13 hE hT hP R1 Q1 i0 i1 i2 i3 i4 i5 R2 Q2)
   clear b hE hT hP R1 Q1 i0 i1 i2 i3 i4 i5 R2 Q2
   obtain ⟨hE, hT, hP, R1, Q1, i0, i1, i2, i3, i4, i5, R2, Q2⟩ := G
   go_wp2_with fail
   try any_goals (exfalso; omega)
   refine (C3.out _ hE hT).mono ?_
   rintro en w3 ⟨A3, n3, c3, B3, m3, d3, rfl, R3, Q3, b⟩
   clear C3
   replace BB := bnx BB b
   have G := mv b rfl (J19 hE hT hP R1 Q1 i0 i1 i2 i3 i4 i5 R2 Q2 j0 j1 j2 j3 j4 j5)
   clear b hE hT hP R1 Q1 i0 i1 i2 i3 i4 i5 R2 Q2 j0 j1 j2 j3 j4 j5
   obtain ⟨hE, hT, hP, R1, Q1, i0, i1, i2, i3, i4, i5, R2, Q2, j0, j1, j2, j3, j4, j5⟩ := G
   obtain ⟨k0, k1, k2, k3, k4, k5⟩ := (Ibx.new w3 x.lo.s A3 n3 c3 x.lo.e x.hi.s B3 m3 d3 x.hi.e).held
   have b := below_alloc w3 (.cells #[.bool x.lo.s, .slice A3 n3 c3, .int .i64 x.lo.e, .bool x.hi.s, .slice B3 m3 d3, .int .i64 x.hi.e] 27)
   replace BB := bnx BB b
   have G := mv b rfl (J21 hE hT hP R1 Q1 i0 i1 i2 i3 i4 i5 R2 Q2 j0 j1 j2 j3 j4 j5 R3 Q3)
   clear b hE hT hP R1 Q1 i0 i1 i2 i3 i4 i5 R2 Q2 j0 j1 j2 j3 j4 j5 R3 Q3
   obtain ⟨hE, hT, hP, R1, Q1, i0, i1, i2, i3, i4, i5, R2, Q2, j0, j1, j2, j3, j4, j5, R3, Q3⟩ := G
   go_wp2_with fail
   try any_goals (exfalso; omega)
   refine (C4.out _ hE hT).mono ?_
   rintro en w4 ⟨A4, n4, c4, B4, m4, d4, rfl, R4, Q4, b⟩
   clear C4
   replace BB := bnx BB b
   have G := mv b rfl (J27 hE hT hP R1 Q1 i0 i1 i2 i3 i4 i5 R2 Q2 j0 j1 j2 j3 j4 j5 R3 Q3 k0 k1 k2 k3 k4 k5)
   clear b hE hT hP R1 Q1 i0 i1 i2 i3 i4 i5 R2 Q2 j0 j1 j2 j3 j4 j5 R3 Q3 k0 k1 k2 k3 k4 k5
   obtain ⟨hE, hT, hP, R1, Q1, i0, i1, i2, i3, i4, i5, R2, Q2, j0, j1, j2, j3, j4, j5, R3, Q3, k0, k1, k2, k3, k4, k5⟩ := G
   obtain ⟨l0, l1, l2, l3, l4, l5⟩ := (Ibx.new w4 x.lo.s A4 n4 c4 x.lo.e x.hi.s B4 m4 d4 x.hi.e).held
   have b := below_alloc w4 (.cells #[.bool x.lo.s, .slice A4 n4 c4, .int .i64 x.lo.e, .bool x.hi.s, .slice B4 m4 d4, .int .i64 x.hi.e] 27)
   replace BB := bnx BB b
   have G := mv b rfl (J29 hE hT hP R1 Q1 i0 i1 i2 i3 i4 i5 R2 Q2 j0 j1 j2 j3 j4 j5 R3 Q3 k0 k1 k2 k3 k4 k5 R4 Q4)
   clear b hE hT hP R1 Q1 i0 i1 i2 i3 i4 i5 R2 Q2 j0 j1 j2 j3 j4 j5 R3 Q3 k0 k1 k2 k3 k4 k5 R4 Q4
   obtain ⟨hE, hT, hP, R1, Q1, i0, i1, i2, i3, i4, i5, R2, Q2, j0, j1, j2, j3, j4, j5, R3, Q3, k0, k1, k2, k3, k4, k5, R4, Q4⟩ := G
   go_wp2_with fail
   refine (told4_any hE hT hP).mono ?_
   rintro en w5 ⟨rfl, b⟩
   clear hE hT hP
   replace BB := bnx BB b
   have G := mv b rfl (J32 R1 Q1 i0 i1 i2 i3 i4 i5 R2 Q2 j0 j1 j2 j3 j4 j5 R3 Q3 k0 k1 k2 k3 k4 k5 R4 Q4 l0 l1 l2 l3 l4 l5)
   clear b R1 Q1 i0 i1 i2 i3 i4 i5 R2 Q2 j0 j1 j2 j3 j4 j5 R3 Q3 k0 k1 k2 k3 k4 k5 R4 Q4 l0 l1 l2 l3 l4 l5
   obtain ⟨R1, Q1, i0, i1, i2, i3, i4, i5, R2, Q2, j0, j1, j2, j3, j4, j5, R3, Q3, k0, k1, k2, k3, k4, k5, R4, Q4, l0, l1, l2, l3, l4, l5⟩ := G
   have S2 := rsamei_any R1 Q1 R2 Q2
   rw [samei_self] at S2
   go_wp2_with fail
   refine (S2).mono ?_
   rintro en w6 ⟨rfl, b⟩
   replace BB := bnx BB b
   have G := mv b rfl (J32 R1 Q1 i0 i1 i2 i3 i4 i5 R2 Q2 j0 j1 j2 j3 j4 j5 R3 Q3 k0 k1 k2 k3 k4 k5 R4 Q4 l0 l1 l2 l3 l4 l5)
   clear b R1 Q1 i0 i1 i2 i3 i4 i5 R2 Q2 j0 j1 j2 j3 j4 j5 R3 Q3 k0 k1 k2 k3 k4 k5 R4 Q4 l0 l1 l2 l3 l4 l5
   obtain ⟨R1, Q1, i0, i1, i2, i3, i4, i5, R2, Q2, j0, j1, j2, j3, j4, j5, R3, Q3, k0, k1, k2, k3, k4, k5, R4, Q4, l0, l1, l2, l3, l4, l5⟩ := G
   have S3 := rsamei_any R1 Q1 R3 Q3
   rw [samei_self] at S3
   go_wp2_with fail
   refine (S3).mono ?_
   rintro en w7 ⟨rfl, b⟩
   replace BB := bnx BB b
   have G := mv b rfl (J32 R1 Q1 i0 i1 i2 i3 i4 i5 R2 Q2 j0 j1 j2 j3 j4 j5 R3 Q3 k0 k1 k2 k3 k4 k5 R4 Q4 l0 l1 l2 l3 l4 l5)
   clear b R1 Q1 i0 i1 i2 i3 i4 i5 R2 Q2 j0 j1 j2 j3 j4 j5 R3 Q3 k0 k1 k2 k3 k4 k5 R4 Q4 l0 l1 l2 l3 l4 l5
   obtain ⟨R1, Q1, i0, i1, i2, i3, i4, i5, R2, Q2, j0, j1, j2, j3, j4, j5, R3, Q3, k0, k1, k2, k3, k4, k5, R4, Q4, l0, l1, l2, l3, l4, l5⟩ := G
   have S4 := rsamei_any R1 Q1 R4 Q4
   rw [samei_self] at S4
   go_wp2_with fail
   refine (S4).mono ?_
   rintro en w8 ⟨rfl, b⟩
   replace BB := bnx BB b
   have G := mv b rfl (J32 R1 Q1 i0 i1 i2 i3 i4 i5 R2 Q2 j0 j1 j2 j3 j4 j5 R3 Q3 k0 k1 k2 k3 k4 k5 R4 Q4 l0 l1 l2 l3 l4 l5)
   clear b R1 Q1 i0 i1 i2 i3 i4 i5 R2 Q2 j0 j1 j2 j3 j4 j5 R3 Q3 k0 k1 k2 k3 k4 k5 R4 Q4 l0 l1 l2 l3 l4 l5
   obtain ⟨R1, Q1, i0, i1, i2, i3, i4, i5, R2, Q2, j0, j1, j2, j3, j4, j5, R3, Q3, k0, k1, k2, k3, k4, k5, R4, Q4, l0, l1, l2, l3, l4, l5⟩ := G
   go_wp2
   go_ret
   exact ⟨by first | rfl | simp, BB⟩
end Go.Proofs.YtdhdebapjlcjdaaGreatDoor
