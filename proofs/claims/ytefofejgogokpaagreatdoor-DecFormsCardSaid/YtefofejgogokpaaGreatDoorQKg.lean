/-
 Contract of dec's ratio, at this translation. Condition: at most 60 digits, a power from -160 to 100.
-/
import Derived.Test.YtefofejgogokpaaGreatDoorQKd
import Derived.Test.YtefofejgogokpaaGreatDoorQKf
set_option maxHeartbeats 8000000
set_option maxRecDepth 100000
namespace Go.Proofs.YtefofejgogokpaaGreatDoor
open Go.RowKit

theorem ratio_lt {d : List UInt8} {n : Nat} (hd : Digs d) (hl : d.length ≤ 60) (hn : n ≤ 100) : numV d * 5 ^ n < W ^ 64 := by
 have h1 : numV d ≤ 10 ^ 60 := Nat.le_of_lt (Nat.lt_of_lt_of_le (numV_lt hd) (Nat.pow_le_pow_right (by omega) hl))
 have h2 : 5 ^ n ≤ 10 ^ 100 := Nat.le_trans (Nat.pow_le_pow_left (by omega) n) (Nat.pow_le_pow_right (by omega) hn)
 refine Nat.lt_of_le_of_lt (Nat.mul_le_mul h1 h2) ?_
 rw [← Nat.pow_add]
 exact base_lt (by omega) (by omega)
theorem dratio_any {w : World} {d : List UInt8} {t : Int} (hd : Digs d) (hl : d.length ≤ 60) (h1 : -160 ≤ t) (h2 : t ≤ 100) :
  Calls Tryz.prog 31 #[.agg #[.string ⟨d.toArray⟩, .int .i64 t]] w fun en w' => ∃ A n c B m e, en = .returned (.tuple #[.slice A n c, .slice B m e]) ∧ Nt w' A n c (numV d * 5 ^ t.toNat) ∧ Nt w' B m e (5 ^ (-t).toNat) ∧ Below w.heap.size w w' := by
 have hL := Lib.hid (ratio_lt (n := t.toNat) hd hl (by omega))
 have hw : IntKind.i64.wrap (-t) = -t := IntWalk.i64_in _ (by omega)
 have BB := below_alloc w (.cells #[.string ⟨d.toArray⟩, .int .i64 t] 53)
 have xa := Nbx.new w ⟨d.toArray⟩ t
 go_enter Tryz.func31, Tryz.ntmps31
 go_wp2_with fail
 have b : Below (w.alloc (.cells #[.string ⟨d.toArray⟩, .int .i64 t] 53)).heap.size (w.alloc (.cells #[.string ⟨d.toArray⟩, .int .i64 t] 53)) (World.drew (w.alloc (.cells #[.string ⟨d.toArray⟩, .int .i64 t] 53))) := below_drewN (Below.refl _ _) 1
 replace BB := bnx BB b
 replace xa := mv b rfl xa
 clear b
 refine wp_region_held_drew (S := fun w' => w'.cell? ⟨w.heap.size, 0, none⟩ = some (.string ⟨d.toArray⟩) ∧ w'.cell? ⟨w.heap.size, 1, none⟩ = some (.int .i64 t)) (by kernel_rfl) (by exact xa.held) (fun hHeldv0 => ?_)
 generalize World.drew (w.alloc (.cells #[.string ⟨d.toArray⟩, .int .i64 t] 53)) = wd at *
 refine tl 0 ?_
 refine tl 1 ?_
 refine tl 3 ?_
 refine tl 4 ?_
 refine tl 10 ?_
 refine tl 11 ?_
 refine tl 12 ?_
 refine rdy 2 fun K hK => ?_
 go_simp
 refine (dnatural_any (s := ⟨d.toArray⟩) hd (by rw [← size_list]; show d.length ≤ 200; omega)).mono ?_
 rintro en w' ⟨A1, n1, c1, rfl, N1, b⟩
 replace N1 : Nt w' A1 n1 c1 (numV d) := N1
 replace BB := below_next BB BB.size b (by rfl) (by rfl) (by rfl) (by rfl)
 replace xa := mv b (by rfl) xa
 clear b
 refine hK.out _ _ (by exact xa.held) (fun hHeldv1 => ?_)
 clear hK K hHeldv0
 try simp only [Act.put]
 refine rdy 5 fun K hK => ?_
 go_simp
 refine (dfives_any (n := t) (by omega)).mono ?_
 rintro en w' ⟨A2, n2, c2, rfl, N2, b⟩
 replace BB := below_next BB BB.size b (by rfl) (by rfl) (by rfl) (by rfl)
 have G := mv b (by rfl) <| And.intro xa <| N1
 clear b xa N1
 obtain ⟨xa, N1⟩ := G
 refine hK.out _ _ (by exact xa.held) (fun hHeldv2 => ?_)
 clear hK K hHeldv1
 try simp only [Act.put]
 refine rdy 6 fun K hK => ?_
 go_simp
 refine (mul_ok N1 N2 hL.out).mono ?_
 rintro en w' ⟨A3, n3, c3, rfl, N3, b⟩
 clear N1
 clear N2
 replace BB := below_next BB BB.size b (by rfl) (by rfl) (by rfl) (by rfl)
 replace xa := mv b (by rfl) xa
 clear b
 refine hK.out _ _ (by exact xa.held) (fun hHeldv3 => ?_)
 clear hK K hHeldv2
 try simp only [Act.put]
 refine tl 7 ?_
 refine tl 8 ?_
 refine rdy 9 fun K hK => ?_
 go_simp
 refine natural_ok.mono ?_
 rintro en w' ⟨rfl, rfl⟩
 refine hK.out _ _ (by exact xa.held) (fun hHeldv4 => ?_)
 clear hK K hHeldv3
 try simp only [Act.put]
 refine rdy 13 fun K hK => ?_
 go_simp
 try rw [hw]
 refine (dfives_any (n := -t) (by omega)).mono ?_
 rintro en w' ⟨A4, n4, c4, rfl, N4, b⟩
 replace BB := below_next BB BB.size b (by rfl) (by rfl) (by rfl) (by rfl)
 have G := mv b (by rfl) <| And.intro xa <| N3
 clear b xa N3
 obtain ⟨xa, N3⟩ := G
 refine hK.out _ _ (by exact xa.held) (fun hHeldv5 => ?_)
 clear hK K hHeldv4
 try simp only [Act.put]
 refine tl 14 ?_
 refine tl 15 ?_
 refine wpAnyH_done (by kernel_rfl) ?_ _
 go_wp2
 exact bodyPost_ret (v := .tuple #[.slice A3 n3 c3, .slice A4 n4 c4]) (by simp [results, Tryz.results31, go_sem]) rfl ⟨_, _, _, _, _, _, rfl, N3, N4, BB⟩
end Go.Proofs.YtefofejgogokpaaGreatDoor
