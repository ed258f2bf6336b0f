/-
 Contracts of the reference's SameDyad (of two that are the same), Of, Cut and Round, and of layer 3's same, at this translation. Condition: the slices read as limbs, or as digits of sixteen bits.
-/
import Derived.Test.YtldbafifgkobcaaGreatDoorQRe
import Derived.Test.YtldbafifgkobcaaGreatDoorQRf
import Derived.Test.YtldbafifgkobcaaGreatDoorQRRoot
set_option maxHeartbeats 8000000
set_option maxRecDepth 100000
namespace Go.Proofs.YtldbafifgkobcaaGreatDoor
open Go.RowKit

/-- a reference's number -/
def NumIs (s : Bool) (x : Nat) (e : Int) (w : World) (en : Ending) (w' : World) : Prop := ∃ A n c, en = .returned (.agg #[.bool s, .slice A n c, .int .i64 e]) ∧ Dg w' A n c x ∧ Below w.heap.size w w'

theorem rof_any {w : World} {A : Option Addr} {n c x : Nat} {s : Bool} {e : Int} (h : Nt w A n c x) :
  Calls Tryz.prog 40 #[.agg #[.bool s, .slice A n c, .int .i64 e]] w (NumIs s x e w) := by
 have hn := h.le
 have BB := two_below w (.cells #[.bool s, .slice A n c, .int .i64 e] 24) (.cells #[.bool false, .slice none 0 0, .int .i64 0] 60)
 obtain ⟨a0, a1, a2⟩ := ((Box.new w s A n c e).alloc (.cells #[.bool false, .slice none 0 0, .int .i64 0] 60)).held
 have r := dbx_one w (.cells #[.bool s, .slice A n c, .int .i64 e] 24) false none 0 0 0
 replace h := h.next BB rfl
 go_enter Tryz.func40, Tryz.ntmps40
 go_wp2_with fail
 have ne1 : ¬ w.heap.size + 1 = w.heap.size := by omega
 have ne2 : ¬ w.heap.size = w.heap.size + 1 := by omega
 refine rgn (fun w' => w'.cell? ⟨w.heap.size, 0, none⟩ = some (.bool s) ∧ w'.cell? ⟨w.heap.size, 1, none⟩ = some (.slice A n c) ∧ w'.cell? ⟨w.heap.size, 2, none⟩ = some (.int .i64 e)) fun hHeld0 => ?_
 refine tl 0 ?_
 refine tl 1 ?_
 refine tl 2 ?_
 refine tl 3 ?_
 refine tl 5 ?_
 refine tl 6 ?_
 refine rdy 4 fun K hK => ?_
 go_simp
 refine (rfrom_any (h.rd.next' (by rfl)) (by omega)).mono ?_
 rintro en w' ⟨A4, n4, c4, rfl, h4, b⟩
 rw [val_dig W_two] at h4
 replace BB := below_next BB BB.size b (by rfl) (by rfl) (by rfl) (by rfl)
 have G := mv b (by rfl) <| And.intro a0 <| And.intro a1 <| And.intro a2 r
 clear b a0 a1 a2 h r
 obtain ⟨a0, a1, a2, r⟩ := G
 obtain ⟨f0, f1, f2⟩ := r.open
 obtain ⟨z0, z1, z2⟩ := r.held
 refine bk hK fun hHeld1 => ?_
 clear hK K hHeld0
 try simp only [Act.put]
 refine tl 7 ?_
 refine rdy 8 fun K hK => ?_
 go_simp
 refine bk hK fun hHeld2 => ?_
 clear hK K hHeld1
 try simp only [Act.put]
 refine wpAnyH_done (by kernel_rfl) ?_ _
 go_wp2
 have qq := r.put s A4 n4 c4 e
 have hN := h4.put3 r (.bool s) (.slice A4 n4 c4) (.int .i64 e)
 have HB3 := below_put3 (g := w.heap.size + 1) BB (by omega) (.bool s) (.slice A4 n4 c4) (.int .i64 e)
 obtain ⟨z0, z1, z2⟩ := qq.held
 exact bodyPost_ret (v := .agg #[.bool s, .slice A4 n4 c4, .int .i64 e]) (by simp [results, Tryz.results40, go_sem, z0, z1, z2]) rfl ⟨_, _, _, rfl, hN, HB3⟩

end Go.Proofs.YtldbafifgkobcaaGreatDoor
