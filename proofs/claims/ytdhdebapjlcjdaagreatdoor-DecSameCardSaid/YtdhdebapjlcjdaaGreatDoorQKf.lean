/-
 Contracts of fault's Told of a number and of dec's Form, at this translation. Condition: the two errors of strconv are interfaces, or nil.
-/
import Derived.Test.YtdhdebapjlcjdaaGreatDoorQKe
set_option maxHeartbeats 8000000
set_option maxRecDepth 100000
namespace Go.Proofs.YtdhdebapjlcjdaaGreatDoor
open Go.RowKit

theorem Nbx.below {w w' : World} {g b0 : Nat} {s : ByteArray} {t : Int} (h : Nbx w g s t) (hb : Below b0 w w') (hg : g < b0) : Nbx w' g s t := ⟨(hb.block g hg).trans h.blk⟩
theorem Nbx.alloc {w : World} {g : Nat} {s : ByteArray} {t : Int} (h : Nbx w g s t) (o : Obj) : Nbx (w.alloc o) g s t := h.below (below_alloc w o) h.gl
theorem Nbx.other {w : World} {g g' : Nat} {s : ByteArray} {t : Int} (h : Nbx w g s t) (hne : g ≠ g') (i : Nat) (u : Value) : Nbx (w.setCell ⟨g', i, none⟩ u) g s t := ⟨(Below.heap_setCell w _ u g hne).trans h.blk⟩
/-- how Told of a number ends: with its code -/
def NTell (o : Option (List UInt8 × Int)) (w : World) (en : Ending) (w' : World) : Prop :=
 ∃ s t, en = .returned (.tuple #[.agg #[.string s, .int .i64 t], .int .i64 (if o.isSome then 0 else 6)]) ∧ Below w.heap.size w w'
theorem ncatch_idle (q : Addr) (w : World) :
  CallsD Tryz.prog 77 #[.pointer (some q)] .returning w fun e u' w' => e = .returned (.tuple #[]) ∧ u' = .returning ∧ w' = w := by
 refine callsD_of_wpS Tryz.func77 rfl fun c₀ cs hu => ?_
 apply wpS_seq
 apply wpS_region
 simp [wpOpsS, go_sem, recoverD, hu, Tryz.ntmps77, Exit.thenS]
 refine wpS_of_wp ?_
 go_wp2
 cases c₀
 simp_all [bodyPostS, results, Tryz.results77]
theorem ncatch_fault {q : Nat} {x k : Int} {older : List PanicEntry} {w : World} (hc : Cel w q x) :
  CallsD Tryz.prog 77 #[.pointer (some ⟨q, 0, none⟩)] (.panicking ({ v := .iface 68 (.int .i64 k), recovered := false } :: older)) w fun e u' w' =>
   e = .returned (.tuple #[]) ∧ u' = .panicking ({ v := .iface 68 (.int .i64 k), recovered := true } :: older) ∧
   w' = w.setCell ⟨q, 0, none⟩ (.int .i64 k) := by
 have d0 := hc.c0
 have d1 := hc.frozen 0
 have hta : ∀ w : World, (Instr.typeAssert (Value.iface 68 (.int .i64 k)) 20 68 true).run Tryz.prog w = .ok (.tuple #[.int .i64 k, .bool true]) w := fault_is k
 refine callsD_of_wpS Tryz.func77 rfl fun c₀ cs hu => ?_
 apply wpS_seq
 apply wpS_region
 simp [wpOpsS, go_sem, recoverD, hu, Tryz.ntmps77, Exit.thenS]
 refine wpS_of_wp ?_
 go_wp2
 clear d0 d1 hta
 simp [bodyPostS, results, Tryz.results77]
theorem ntold_any {f : FuncId} {cap : Array Value} {w : World} {o : Option (List UInt8 × Int)} (hf : ∀ W2 : World, (callFunc f cap).run Tryz.prog W2 = .ok (.enter f cap) W2) (hc : ∀ W2 : World, Below w.heap.size w W2 → Calls Tryz.prog f cap W2 (NumEnd o W2)) :
  Calls Tryz.prog 35 #[.func (Fn.func f) #[] cap] w (NTell o w) := by
 have hmf : ∀ (fn : Fn) (first cap : Array Value) (w : World), (Instr.makeFunc fn first cap).run Tryz.prog w = .ok (.func fn first cap) w := fun _ _ _ _ => rfl
 have HC := Lib.hid hc
 clear hc
 have hB : Below w.heap.size w ((w.alloc (.cells #[.string ⟨#[]⟩, .int .i64 0] 45)).alloc (.cells #[.int .i64 0] 3)) := (below_alloc w _).trans ((below_alloc _ _).mono (by simp))
 have hbox := (Nbx.new w ⟨#[]⟩ 0).alloc (.cells #[.int .i64 0] 3)
 have hcel := Cel.new1 w (.cells #[.string ⟨#[]⟩, .int .i64 0] 45) 0
 go_enter_defers Tryz.func35, Tryz.ntmps35
 go_wp2_with fail
 refine (HC.out _ hB).mono ?_
 clear HC
 rcases o with _ | ⟨l, t⟩
 ·rintro e w' ⟨rfl, hb⟩
  have h1 := hbox.below hb hbox.gl
  have h2 := hcel.below hb hcel.gl
  have HB := hB.trans (hb.mono hB.size)
  go_wp2
  have q1 := h1.other (g' := w.heap.size + 1) (by omega) 0 (.int .i64 6)
  have HB3 := HB.setCell (p := ⟨w.heap.size + 1, 0, none⟩) (by simp) (.int .i64 6)
  have q3 := h2.put 6
  obtain ⟨k0, k1⟩ := q1.held
  have d0 := q3.c0
  clear HB hbox hcel hB hb hmf hf q1 q3 h1
  refine leaves_cons (f := 77) (args := #[.pointer (some ⟨w.heap.size + 1, 0, none⟩)]) (by simp) (by simp [go_sem]) ?_
  refine (ncatch_fault (k := 6) (older := []) h2).mono ?_
  rintro e u' w'' ⟨rfl, rfl, rfl⟩
  clear h2
  generalize w'.setCell ⟨w.heap.size + 1, 0, none⟩ (.int .i64 6) = w3 at *
  simp [Leaves, settle, results, Tryz.results35, go_sem, k0, k1, d0]
  exact ⟨_, _, rfl, HB3⟩
 ·rintro e w' ⟨rfl, hb⟩
  have h1 := hbox.below hb hbox.gl
  have h2 := hcel.below hb hcel.gl
  have HB := hB.trans (hb.mono hB.size)
  obtain ⟨k0, k1⟩ := h1.held
  obtain ⟨f0, f1⟩ := h1.open
  have d0 := h2.c0
  have d1 := h2.frozen 0
  go_wp2
  have p1 := h1.put ⟨l.toArray⟩ t
  have q1 := p1.other (g' := w.heap.size + 1) (by omega) 0 (.int .i64 0)
  have HB3 := (below_put2 HB (Nat.le_refl _) (.string ⟨l.toArray⟩) (.int .i64 t)).setCell (p := ⟨w.heap.size + 1, 0, none⟩) (by simp) (.int .i64 0)
  have q2 := (h2.other (g' := w.heap.size) (by omega) 0 (.string ⟨l.toArray⟩)).other (g' := w.heap.size) (by omega) 1 (.int .i64 t)
  have q3 := q2.put 0
  clear k0 k1 d0 HB hbox hcel hB hb hmf hf f0 f1 d1 h1 h2 p1 q2
  generalize ((w'.setCell ⟨w.heap.size, 0, none⟩ (.string ⟨l.toArray⟩)).setCell ⟨w.heap.size, 1, none⟩ (.int .i64 t)).setCell ⟨w.heap.size + 1, 0, none⟩ (.int .i64 0) = w3 at *
  obtain ⟨k0, k1⟩ := q1.held
  have d0 := q3.c0
  refine leaves_cons (f := 77) (args := #[.pointer (some ⟨w.heap.size + 1, 0, none⟩)]) (by simp) (by simp [go_sem]) ?_
  refine (ncatch_idle ⟨w.heap.size + 1, 0, none⟩ _).mono ?_
  rintro e u' w'' ⟨rfl, rfl, rfl⟩
  simp [Leaves, settle, results, Tryz.results35, go_sem, k0, k1, d0]
  exact ⟨_, _, rfl, HB3⟩
theorem form1_any {w : World} {s : ByteArray} {g : Nat} (hE : Errs w) (hs : w.cell? ⟨g, 0, none⟩ = some (.string s)) :
  Calls Tryz.prog 36 #[.pointer (some ⟨g, 0, none⟩)] w (NumEnd (readD s.data.toList) w) := by
 obtain ⟨o, ho⟩ : ∃ o, o = readD s.data.toList := ⟨_, rfl⟩
 rw [← ho]
 have HO := Lib.hid ho
 clear ho
 have BB := below_alloc w (.cells #[.string ⟨#[]⟩, .int .i64 0] 45)
 have r0 := Nbx.new w ⟨#[]⟩ 0
 have b := BB
 have G := mv b rfl <| And.intro hE <| hs
 clear b hE hs
 obtain ⟨hE, hs⟩ := G
 go_enter Tryz.func36, Tryz.ntmps36
 go_wp2_with fail
 refine (show Calls Tryz.prog 20 #[.string s] _ (NumEnd o _) from by rw [HO.out]; exact dread_any hE).mono ?_
 clear hE HO
 rcases o with _ | ⟨l, t⟩
 ·rintro en w1 ⟨rfl, b⟩
  replace BB := bnx BB b
  clear b
  go_wp2
  exact ⟨rfl, rfl, BB⟩
 ·rintro en w1 ⟨rfl, b⟩
  replace BB := bnx BB b
  replace r0 := mv b rfl r0
  clear b
  obtain ⟨f0, f1⟩ := r0.open
  obtain ⟨z0, z1⟩ := r0.held
  go_wp2
  have qq := r0.put ⟨l.toArray⟩ t
  have HB3 := below_put2 (g := w.heap.size) BB (Nat.le_refl _) (.string ⟨l.toArray⟩) (.int .i64 t)
  obtain ⟨z0, z1⟩ := qq.held
  exact bodyPost_ret (v := .agg #[.string ⟨l.toArray⟩, .int .i64 t]) (by simp [results, Tryz.results36, go_sem, z0, z1]) rfl ⟨rfl, HB3⟩
theorem form_any {w : World} {s : ByteArray} (hE : Errs w) :
  Calls Tryz.prog 10 #[.string s] w fun en w' => en = .returned (.bool (readD s.data.toList).isSome) ∧ Below w.heap.size w w' := by
 have hmf : ∀ (fn : Fn) (first cap : Array Value) (w : World), (Instr.makeFunc fn first cap).run Tryz.prog w = .ok (.func fn first cap) w := fun _ _ _ _ => rfl
 obtain ⟨o, ho⟩ : ∃ o, o = readD s.data.toList := ⟨_, rfl⟩
 rw [← ho]
 have HO := Lib.hid ho
 clear ho
 have BB := below_alloc w (.cells #[.string s] 9)
 have hs : (w.alloc (.cells #[.string s] 9)).cell? ⟨w.heap.size, 0, none⟩ = some (.string s) := cell_of_row _ _ 0 _ 9 (0, 0) (heap_alloc_new w _)
 have b := BB
 replace hE := mv b rfl hE
 clear b
 go_enter Tryz.func10, Tryz.ntmps10
 go_wp2_with fail
 refine (ntold_any (o := o) (fun _ => by kernel_rfl) (fun W2 b2 => by rw [HO.out]; exact form1_any (mv b2 rfl hE) (mv b2 rfl hs))).mono ?_
 clear hE hs hmf HO
 rintro en w1 ⟨s9, t9, rfl, b⟩
 replace BB := bnx BB b
 clear b
 rcases o with _ | ⟨l, t⟩
 ·go_wp2
  go_ret
  exact ⟨rfl, BB.trans ((below_alloc _ _).mono BB.size)⟩
 ·go_wp2
  go_ret
  exact ⟨rfl, BB.trans ((below_alloc _ _).mono BB.size)⟩
end Go.Proofs.YtdhdebapjlcjdaaGreatDoor
