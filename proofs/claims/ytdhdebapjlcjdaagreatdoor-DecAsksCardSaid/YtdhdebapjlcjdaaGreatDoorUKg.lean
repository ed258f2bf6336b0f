/-
 Contracts of fault's Told of a number and of dec's Form, at this translation. Condition: the two errors of strconv are interfaces, or nil.
-/
import Derived.Test.YtdhdebapjlcjdaaGreatDoorUKe
import Derived.Test.YtdhdebapjlcjdaaGreatDoorUKc
import Derived.Test.YtdhdebapjlcjdaaGreatDoorUMv
import Derived.Test.YtdhdebapjlcjdaaGreatDoorUDn
set_option maxHeartbeats 8000000
set_option maxRecDepth 100000
namespace Go.Proofs.YtdhdebapjlcjdaaGreatDoor
open Go.RowKit

theorem Nbx.below {w w' : World} {g b0 : Nat} {s : ByteArray} {t : Int} (h : Nbx w g s t) (hb : Below b0 w w') (hg : g < b0) : Nbx w' g s t := ⟨(hb.block g hg).trans h.blk⟩
theorem Nbx.alloc {w : World} {g : Nat} {s : ByteArray} {t : Int} (h : Nbx w g s t) (o : Obj) : Nbx (w.alloc o) g s t := h.below (below_alloc w o) h.gl
theorem Nbx.other {w : World} {g g' : Nat} {s : ByteArray} {t : Int} (h : Nbx w g s t) (hne : g ≠ g') (i : Nat) (u : Value) : Nbx (w.setCell ⟨g', i, none⟩ u) g s t := ⟨(Below.heap_setCell w _ u g hne).trans h.blk⟩
/-- how Told of a number ends: with its code -/
def NTell (o : Option (List UInt8 × Int)) (w : World) (en : Ending) (w' : World) : Prop :=
 ∃ s t, en = .returned (.tuple #[.agg #[.string s, .int .i64 t], .int .i64 (if o.isSome then 0 else 6)]) ∧ Below w.heap.size w w'
theorem ncatch_idle (q : Addr) (w : World) :
  CallsD Tryz.prog 77 #[.pointer (some q)] .returning w fun e u' w' => e = .returned (.tuple #[]) ∧ u' = .returning ∧ w' = w := by
 refine callsD_of_wpS Tryz.func77 rfl fun c₀ cs hu => ?_
 apply wpS_seq
 apply wpS_region
 simp [wpOpsS, go_sem, recoverD, hu, Tryz.ntmps77, Exit.thenS]
 refine wpS_of_wp ?_
 go_wp2
 cases c₀
 simp_all [bodyPostS, results, Tryz.results77]
theorem ncatch_fault {q : Nat} {x k : Int} {older : List PanicEntry} {w : World} (hc : Cel w q x) :
  CallsD Tryz.prog 77 #[.pointer (some ⟨q, 0, none⟩)] (.panicking ({ v := .iface 68 (.int .i64 k), recovered := false } :: older)) w fun e u' w' =>
   e = .returned (.tuple #[]) ∧ u' = .panicking ({ v := .iface 68 (.int .i64 k), recovered := true } :: older) ∧
   w' = w.setCell ⟨q, 0, none⟩ (.int .i64 k) := by
 have d0 := hc.c0
 have d1 := hc.frozen 0
 have hta : ∀ w : World, (Instr.typeAssert (Value.iface 68 (.int .i64 k)) 20 68 true).run Tryz.prog w = .ok (.tuple #[.int .i64 k, .bool true]) w := fault_is k
 refine callsD_of_wpS Tryz.func77 rfl fun c₀ cs hu => ?_
 apply wpS_seq
 apply wpS_region
 simp [wpOpsS, go_sem, recoverD, hu, Tryz.ntmps77, Exit.thenS]
 refine wpS_of_wp ?_
 go_wp2
 clear d0 d1 hta
 simp [bodyPostS, results, Tryz.results77]
theorem ntold_any {f : FuncId} {cap : Array Value} {w : World} {o : Option (List UInt8 × Int)} (hf : ∀ W2 : World, (callFunc f cap).run Tryz.prog W2 = .ok (.enter f cap) W2) (hc : ∀ W2 : World, Below w.heap.size w W2 → Calls Tryz.prog f cap W2 (NumEnd o W2)) :
  Calls Tryz.prog 35 #[.func (Fn.func f) #[] cap] w (NTell o w) := by
 have hmf : ∀ (fn : Fn) (first cap : Array Value) (w : World), (Instr.makeFunc fn first cap).run Tryz.prog w = .ok (.func fn first cap) w := fun _ _ _ _ => rfl
 have HC := Lib.hid hc
 clear hc
 have hB : Below w.heap.size w ((w.alloc (.cells #[.string ⟨#[]⟩, .int .i64 0] 45)).alloc (.cells #[.int .i64 0] 3)) := (below_alloc w _).trans ((below_alloc _ _).mono (by simp))
 have hbox := (Nbx.new w ⟨#[]⟩ 0).alloc (.cells #[.int .i64 0] 3)
 have hcel := Cel.new1 w (.cells #[.string ⟨#[]⟩, .int .i64 0] 45) 0
 go_enter_defers Tryz.func35, Tryz.ntmps35
 go_wp2_with fail
 refine (HC.out _ hB).mono ?_
 clear HC
 rcases o with _ | ⟨l, t⟩
 ·rintro e w' ⟨rfl, hb⟩
  have h1 := hbox.below hb hbox.gl
  have h2 := hcel.below hb hcel.gl
  have HB := hB.trans (hb.mono hB.size)
  go_wp2
  have q1 := h1.other (g' := w.heap.size + 1) (by omega) 0 (.int .i64 6)
  have HB3 := HB.setCell (p := ⟨w.heap.size + 1, 0, none⟩) (by simp) (.int .i64 6)
  have q3 := h2.put 6
  obtain ⟨k0, k1⟩ := q1.held
  have d0 := q3.c0
  clear HB hbox hcel hB hb hmf hf q1 q3 h1
  refine leaves_cons (f := 77) (args := #[.pointer (some ⟨w.heap.size + 1, 0, none⟩)]) (by simp) (by simp [go_sem]) ?_
  refine (ncatch_fault (k := 6) (older := []) h2).mono ?_
  rintro e u' w'' ⟨rfl, rfl, rfl⟩
  clear h2
  generalize w'.setCell ⟨w.heap.size + 1, 0, none⟩ (.int .i64 6) = w3 at *
  simp [Leaves, settle, results, Tryz.results35, go_sem, k0, k1, d0]
  exact ⟨_, _, rfl, HB3⟩
 ·rintro e w' ⟨rfl, hb⟩
  have h1 := hbox.below hb hbox.gl
  have h2 := hcel.below hb hcel.gl
  have HB := hB.trans (hb.mono hB.size)
  obtain ⟨k0, k1⟩ := h1.held
  obtain ⟨f0, f1⟩ := h1.open
  have d0 := h2.c0
  have d1 := h2.frozen 0
  go_wp2
  have p1 := h1.put ⟨l.toArray⟩ t
  have q1 := p1.other (g' := w.heap.size + 1) (by omega) 0 (.int .i64 0)
  have HB3 := (below_put2 HB (Nat.le_refl _) (.string ⟨l.toArray⟩) (.int .i64 t)).setCell (p := ⟨w.heap.size + 1, 0, none⟩) (by simp) (.int .i64 0)
  have q2 := (h2.other (g' := w.heap.size) (by omega) 0 (.string ⟨l.toArray⟩)).other (g' := w.heap.size) (by omega) 1 (.int .i64 t)
  have q3 := q2.put 0
  clear k0 k1 d0 HB hbox hcel hB hb hmf hf f0 f1 d1 h1 h2 p1 q2
  generalize ((w'.setCell ⟨w.heap.size, 0, none⟩ (.string ⟨l.toArray⟩)).setCell ⟨w.heap.size, 1, none⟩ (.int .i64 t)).setCell ⟨w.heap.size + 1, 0, none⟩ (.int .i64 0) = w3 at *
  obtain ⟨k0, k1⟩ := q1.held
  have d0 := q3.c0
  refine leaves_cons (f := 77) (args := #[.pointer (some ⟨w.heap.size + 1, 0, none⟩)]) (by simp) (by simp [go_sem]) ?_
  refine (ncatch_idle ⟨w.heap.size + 1, 0, none⟩ _).mono ?_
  rintro e u' w'' ⟨rfl, rfl, rfl⟩
  simp [Leaves, settle, results, Tryz.results35, go_sem, k0, k1, d0]
  exact ⟨_, _, rfl, HB3⟩
theorem form1_any {w : World} {s : ByteArray} {g : Nat} (hE : Errs w) (hs : w.cell? ⟨g, 0, none⟩ = some (.string s)) :
  Calls Tryz.prog 36 #[.pointer (some ⟨g, 0, none⟩)] w (NumEnd (readD s.data.toList) w) := by
 obtain ⟨o, ho⟩ : ∃ o, o = readD s.data.toList := ⟨_, rfl⟩
 rw [← ho]
 have HO := Lib.hid ho
 clear ho
 have BB := below_alloc w (.cells #[.string ⟨#[]⟩, .int .i64 0] 45)
 have r0 := Nbx.new w ⟨#[]⟩ 0
 have b := BB
 have G := mv b rfl <| And.intro hE <| hs
 clear b hE hs
 obtain ⟨hE, hs⟩ := G
 go_enter Tryz.func36, Tryz.ntmps36
 go_wp2_with fail
 refine (show Calls Tryz.prog 20 #[.string s] _ (NumEnd o _) from by rw [HO.out]; exact dread_any hE).mono ?_
 clear hE HO
 rcases o with _ | ⟨l, t⟩
 ·rintro en w1 ⟨rfl, b⟩
  replace BB := bnx BB b
  clear b
  go_wp2
  exact ⟨rfl, rfl, BB⟩
 ·rintro en w1 ⟨rfl, b⟩
  replace BB := bnx BB b
  replace r0 := mv b rfl r0
  clear b
  obtain ⟨f0, f1⟩ := r0.open
  obtain ⟨z0, z1⟩ := r0.held
  go_wp2
  have qq := r0.put ⟨l.toArray⟩ t
  have HB3 := below_put2 (g := w.heap.size) BB (Nat.le_refl _) (.string ⟨l.toArray⟩) (.int .i64 t)
  obtain ⟨z0, z1⟩ := qq.held
  exact bodyPost_ret (v := .agg #[.string ⟨l.toArray⟩, .int .i64 t]) (by simp [results, Tryz.results36, go_sem, z0, z1]) rfl ⟨rfl, HB3⟩
theorem form_any {w : World} {s : ByteArray} (hE : Errs w) :
  Calls Tryz.prog 10 #[.string s] w fun en w' => en = .returned (.bool (readD s.data.toList).isSome) ∧ Below w.heap.size w w' := by
 have hmf : ∀ (fn : Fn) (first cap : Array Value) (w : World), (Instr.makeFunc fn first cap).run Tryz.prog w = .ok (.func fn first cap) w := fun _ _ _ _ => rfl
 obtain ⟨o, ho⟩ : ∃ o, o = readD s.data.toList := ⟨_, rfl⟩
 rw [← ho]
 have HO := Lib.hid ho
 clear ho
 have BB := below_alloc w (.cells #[.string s] 9)
 have hs : (w.alloc (.cells #[.string s] 9)).cell? ⟨w.heap.size, 0, none⟩ = some (.string s) := cell_of_row _ _ 0 _ 9 (0, 0) (heap_alloc_new w _)
 have b := BB
 replace hE := mv b rfl hE
 clear b
 go_enter Tryz.func10, Tryz.ntmps10
 go_wp2_with fail
 refine (ntold_any (o := o) (fun _ => by kernel_rfl) (fun W2 b2 => by rw [HO.out]; exact form1_any (mv b2 rfl hE) (mv b2 rfl hs))).mono ?_
 clear hE hs hmf HO
 rintro en w1 ⟨s9, t9, rfl, b⟩
 replace BB := bnx BB b
 clear b
 rcases o with _ | ⟨l, t⟩
 ·go_wp2
  go_ret
  exact ⟨rfl, BB.trans ((below_alloc _ _).mono BB.size)⟩
 ·go_wp2
  go_ret
  exact ⟨rfl, BB.trans ((below_alloc _ _).mono BB.size)⟩
end Go.Proofs.YtdhdebapjlcjdaaGreatDoor
set_option maxHeartbeats 8000000
set_option maxRecDepth 100000
namespace Go.Proofs.YtdhdebapjlcjdaaGreatDoor
open Go.RowKit

theorem base_lt {b i : Nat} (hb : b ≤ 16) (h : i ≤ 200) : b ^ i < W ^ 64 := by
 obtain ⟨L, hL⟩ : ∃ L, L = 64 * 64 := ⟨_, rfl⟩
 rw [W64_pow, ← hL]
 have h1 : b ^ i ≤ 16 ^ i := Nat.pow_le_pow_left hb i
 have h2 : 16 ^ i = 2 ^ (4 * i) := by rw [Nat.pow_mul]
 have h3 : 2 ^ (4 * i) < 2 ^ L := Nat.pow_lt_pow_right (by omega) (by omega)
 omega
theorem nt_lit {w : World} {g v : Nat} (hg : w.heap.size = g) (h0 : v ≠ 0) (hv : v < 100) : Nt (w.alloc (.cells #[.int .u64 (v : Int)] 38)) (some ⟨g, 0, none⟩) 1 1 v := by
 subst hg
 exact nt_one w h0 (small_W hv)
theorem rd_lit {w : World} {v : Nat} (hv : v < 100) : Rd (w.alloc (.cells #[.int .u64 (v : Int)] 38)) .u64 W (some ⟨w.heap.size, 0, none⟩) 1 1 [v] :=
 (row_lit w [v]).rd' (Lt.cons (small_W hv) Lt.nil) rfl (Nat.le_refl _) (by omega)
theorem dfives_any {w : World} {n : Int} (hn : n ≤ 200) :
  Calls Tryz.prog 55 #[.int .i64 n] w fun en w' => ∃ A m c, en = .returned (.slice A m c) ∧ Nt w' A m c (5 ^ n.toNat) ∧ Below w.heap.size w w' := by
 obtain ⟨k, hk⟩ : ∃ k, k = n.toNat := ⟨_, rfl⟩
 rw [← hk]
 have hn1 : n ≤ (k : Int) := by omega
 have hn2 : 0 < n → n = (k : Int) := by omega
 have hn3 : n ≤ 0 → k = 0 := by omega
 have hk2 : k ≤ 200 := by omega
 clear hk
 have N1 := nt_lit (w := w) (v := 1) rfl (by omega) (by omega)
 have BB := below_alloc w (.cells #[.int .u64 1] 38)
 go_enter Tryz.func55, Tryz.ntmps55
 go_wp2
 go_loopg [3, 6] k (fun gk v3 v6 wr => ∃ (i : Nat) (A : Option Addr) (m c : Nat), i + gk = k ∧ v6 = .int .i64 i ∧ v3 = .slice A m c ∧ Nt wr A m c (5 ^ i) ∧ Below w.heap.size w wr)
 case atStart => exact ⟨0, _, 1, 1, by omega, rfl, rfl, by rw [Nat.pow_zero]; exact N1, BB⟩
 case round =>
  clear N1 BB
  obtain ⟨i, A1, n1, c1, hg, rfl, rfl, N1, BB⟩ := hrel
  have HG := Lib.hid hg
  clear hg
  by_cases hi : i < k
  ·have hlt : (i : Int) < n := by omega
   have hp : 5 ^ i * 5 < W ^ 64 := by rw [← Nat.pow_succ]; exact base_lt (by omega) (by omega)
   have HP := Lib.hid hp
   clear hp
   have N5 := nt_lit (w := wr) (v := 5) rfl (by omega) (by omega)
   have b := below_alloc wr (.cells #[.int .u64 5] 38)
   replace BB := bnx BB b
   replace N1 := mv b rfl N1
   clear b
   obtain ⟨x, hx⟩ : ∃ x, x = 5 ^ i := ⟨_, rfl⟩
   rw [← hx] at N1 HP
   have HX := Lib.hid hx
   clear hx
   go_wp2_with fail
   refine (mul_ok N1 N5 HP.out).mono ?_
   rintro en w1 ⟨A3, n3, c3, rfl, N3, b⟩
   clear N1 N5
   replace BB := bnx BB b
   clear b
   go_wp2_with fail
   refine natural_ok.mono ?_
   rintro en w2 ⟨rfl, rfl⟩
   go_wp2
   go_roundg (gk - 1)
   case measure => have := HG.out; omega
   case rel => exact ⟨i + 1, A3, n3, c3, by have := HG.out; omega, by go_num, rfl, by rw [Nat.pow_succ, ← HX.out]; exact N3, BB⟩
  obtain rfl : i = k := by have := HG.out; omega
  have hlt : ¬ (i : Int) < n := by omega
  go_wp2
  go_ret
  exact ⟨_, _, _, rfl, N1, BB⟩
theorem dnatural_any {w : World} {s : ByteArray} (hd : Digs s.data.toList) (hs : s.size ≤ 200) :
  Calls Tryz.prog 54 #[.string s] w fun en w' => ∃ A m c, en = .returned (.slice A m c) ∧ Nt w' A m c (numV s.data.toList) ∧ Below w.heap.size w w' := by
 have BB := Below.refl w.heap.size w
 have N0 := nt_nil w
 have hsl := size_list s
 have HD9 := Lib.hid hd
 clear hd
 go_enter Tryz.func54, Tryz.ntmps54
 go_wp2
 go_loopg [3, 8] s.size (fun gk v3 v8 wr => ∃ (i : Nat) (A : Option Addr) (m c : Nat), i + gk = s.size ∧ v8 = .int .i64 i ∧ v3 = .slice A m c ∧ Nt wr A m c (numV (s.data.toList.take i)) ∧ Below w.heap.size w wr)
 case atStart => exact ⟨0, none, 0, 0, by omega, rfl, rfl, N0, BB⟩
 case round =>
  clear N0 BB
  obtain ⟨i, A1, n1, c1, hg, rfl, rfl, N1, BB⟩ := hrel
  have HG := Lib.hid hg
  clear hg
  by_cases hi : i < s.size
  ·have hdig := isDig_iff.1 (HD9.out s[i] (by rw [← get_list hi, List.getD_eq_getElem?_getD, List.getElem?_eq_getElem (by rw [hsl]; exact hi), Option.getD_some]; exact List.getElem_mem _))
   obtain ⟨d, hdd⟩ : ∃ d, d = s[i].toNat - 48 := ⟨_, rfl⟩
   have hd9 : d ≤ 9 := by omega
   have hw : IntKind.u8.wrap ((s[i].toNat : Int) - 48) = (d : Int) := by rw [show (s[i].toNat : Int) - 48 = (d : Int) by omega, IntKind.wrap_u8]; omega
   have hv : numV (s.data.toList.take (i + 1)) = numV (s.data.toList.take i) * 10 + d := by
    rw [List.take_succ_eq_append_getElem (by rw [hsl]; exact hi), numV_snoc, hdd]
    rw [show s.data.toList[i]'(by rw [hsl]; exact hi) = s[i] by rw [Array.getElem_toList]; rfl]
   have hlt : numV (s.data.toList.take (i + 1)) < W ^ 64 := Nat.lt_trans (numV_lt (fun c hc => HD9.out c (List.mem_of_mem_take hc))) (by rw [List.length_take]; exact base_lt (by omega) (by omega))
   obtain ⟨x, hx⟩ : ∃ x, x = numV (s.data.toList.take i) := ⟨_, rfl⟩
   rw [← hx] at N1 hv
   rw [hv] at hlt
   have HL := Lib.hid hlt
   have HV := Lib.hid hv
   clear hx hv hlt hdd
   have R1 := rd_lit (w := wr) (v := d) (by omega)
   have b := below_alloc wr (.cells #[.int .u64 (d : Int)] 38)
   replace BB := bnx BB b
   replace N1 := mv b rfl N1
   clear b
   go_wp2_with fail
   refine (norm_any R1 (by omega)).mono ?_
   rintro en w1 ⟨A2, n2, c2, rfl, R2, b⟩
   clear R1
   replace BB := bnx BB b
   replace N1 := mv b rfl N1
   clear b
   have N2 : Nt w1 A2 n2 c2 d := ⟨by have e : val W [d] = d := (by show d + W * 0 = d; omega); rw [e] at R2; exact R2, Nat.lt_of_lt_of_le (small_W (show d < 100 by omega)) (by have := Nat.pow_le_pow_right (n := W) (by rw [W_eq]; omega) (show 1 ≤ 64 by omega); rwa [Nat.pow_one] at this)⟩
   clear R2
   have N3 := nt_lit (w := w1) (v := 10) rfl (by omega) (by omega)
   have b := below_alloc w1 (.cells #[.int .u64 10] 38)
   replace BB := bnx BB b
   have G := mv b rfl <| And.intro N1 <| N2
   clear b N1 N2
   obtain ⟨N1, N2⟩ := G
   go_wp2_with fail
   refine (mul_ok N1 N3 (Nat.lt_of_le_of_lt (Nat.le_add_right _ d) HL.out)).mono ?_
   rintro en w2 ⟨A4, n4, c4, rfl, N4, b⟩
   clear N1 N3
   replace BB := bnx BB b
   replace N2 := mv b rfl N2
   clear b
   go_wp2_with fail
   refine natural_ok.mono ?_
   rintro en w3 ⟨rfl, rfl⟩
   go_wp2_with fail
   refine (add_ok N4 N2 HL.out).mono ?_
   rintro en w4 ⟨A5, n5, c5, rfl, N5, b⟩
   clear N4 N2
   replace BB := bnx BB b
   clear b
   go_wp2_with fail
   refine natural_ok.mono ?_
   rintro en w5 ⟨rfl, rfl⟩
   go_wp2
   go_roundg (gk - 1)
   case measure => have := HG.out; omega
   case rel => exact ⟨i + 1, A5, n5, c5, by have := HG.out; omega, by go_num, rfl, by rw [HV.out]; exact N5, BB⟩
  obtain rfl : i = s.size := by have := HG.out; omega
  go_wp2
  go_ret
  exact ⟨_, _, _, rfl, by rw [← hsl, List.take_length] at N1; exact N1, BB⟩
end Go.Proofs.YtdhdebapjlcjdaaGreatDoor
set_option maxHeartbeats 8000000
set_option maxRecDepth 100000
namespace Go.Proofs.YtdhdebapjlcjdaaGreatDoor
open Go.RowKit

theorem ratio_lt {d : List UInt8} {n : Nat} (hd : Digs d) (hl : d.length ≤ 60) (hn : n ≤ 100) : numV d * 5 ^ n < W ^ 64 := by
 have h1 : numV d ≤ 10 ^ 60 := Nat.le_of_lt (Nat.lt_of_lt_of_le (numV_lt hd) (Nat.pow_le_pow_right (by omega) hl))
 have h2 : 5 ^ n ≤ 10 ^ 100 := Nat.le_trans (Nat.pow_le_pow_left (by omega) n) (Nat.pow_le_pow_right (by omega) hn)
 refine Nat.lt_of_le_of_lt (Nat.mul_le_mul h1 h2) ?_
 rw [← Nat.pow_add]
 exact base_lt (by omega) (by omega)
theorem dratio_any {w : World} {d : List UInt8} {t : Int} (hd : Digs d) (hl : d.length ≤ 60) (h1 : -160 ≤ t) (h2 : t ≤ 100) :
  Calls Tryz.prog 21 #[.agg #[.string ⟨d.toArray⟩, .int .i64 t]] w fun en w' => ∃ A n c B m e, en = .returned (.tuple #[.slice A n c, .slice B m e]) ∧ Nt w' A n c (numV d * 5 ^ t.toNat) ∧ Nt w' B m e (5 ^ (-t).toNat) ∧ Below w.heap.size w w' := by
 have hL := Lib.hid (ratio_lt (n := t.toNat) hd hl (by omega))
 have hw : IntKind.i64.wrap (-t) = -t := IntWalk.i64_in _ (by omega)
 have BB := below_alloc w (.cells #[.string ⟨d.toArray⟩, .int .i64 t] 45)
 have xa := Nbx.new w ⟨d.toArray⟩ t
 go_enter Tryz.func21, Tryz.ntmps21
 go_wp2_with fail
 have b : Below (w.alloc (.cells #[.string ⟨d.toArray⟩, .int .i64 t] 45)).heap.size (w.alloc (.cells #[.string ⟨d.toArray⟩, .int .i64 t] 45)) (World.drew (w.alloc (.cells #[.string ⟨d.toArray⟩, .int .i64 t] 45))) := below_drewN (Below.refl _ _) 1
 replace BB := bnx BB b
 replace xa := mv b rfl xa
 clear b
 refine wp_region_held_drew (S := fun w' => w'.cell? ⟨w.heap.size, 0, none⟩ = some (.string ⟨d.toArray⟩) ∧ w'.cell? ⟨w.heap.size, 1, none⟩ = some (.int .i64 t)) (by kernel_rfl) (by exact xa.held) (fun hHeldv0 => ?_)
 generalize World.drew (w.alloc (.cells #[.string ⟨d.toArray⟩, .int .i64 t] 45)) = wd at *
 refine tl 0 ?_
 refine tl 1 ?_
 refine tl 3 ?_
 refine tl 4 ?_
 refine tl 10 ?_
 refine tl 11 ?_
 refine tl 12 ?_
 refine rdy 2 fun K hK => ?_
 go_simp
 refine (dnatural_any (s := ⟨d.toArray⟩) hd (by rw [← size_list]; show d.length ≤ 200; omega)).mono ?_
 rintro en w' ⟨A1, n1, c1, rfl, N1, b⟩
 replace N1 : Nt w' A1 n1 c1 (numV d) := N1
 replace BB := below_next BB BB.size b (by rfl) (by rfl) (by rfl) (by rfl)
 replace xa := mv b (by rfl) xa
 clear b
 refine hK.out _ _ (by exact xa.held) (fun hHeldv1 => ?_)
 clear hK K hHeldv0
 try simp only [Act.put]
 refine rdy 5 fun K hK => ?_
 go_simp
 refine (dfives_any (n := t) (by omega)).mono ?_
 rintro en w' ⟨A2, n2, c2, rfl, N2, b⟩
 replace BB := below_next BB BB.size b (by rfl) (by rfl) (by rfl) (by rfl)
 have G := mv b (by rfl) <| And.intro xa <| N1
 clear b xa N1
 obtain ⟨xa, N1⟩ := G
 refine hK.out _ _ (by exact xa.held) (fun hHeldv2 => ?_)
 clear hK K hHeldv1
 try simp only [Act.put]
 refine rdy 6 fun K hK => ?_
 go_simp
 refine (mul_ok N1 N2 hL.out).mono ?_
 rintro en w' ⟨A3, n3, c3, rfl, N3, b⟩
 clear N1
 clear N2
 replace BB := below_next BB BB.size b (by rfl) (by rfl) (by rfl) (by rfl)
 replace xa := mv b (by rfl) xa
 clear b
 refine hK.out _ _ (by exact xa.held) (fun hHeldv3 => ?_)
 clear hK K hHeldv2
 try simp only [Act.put]
 refine tl 7 ?_
 refine tl 8 ?_
 refine rdy 9 fun K hK => ?_
 go_simp
 refine natural_ok.mono ?_
 rintro en w' ⟨rfl, rfl⟩
 refine hK.out _ _ (by exact xa.held) (fun hHeldv4 => ?_)
 clear hK K hHeldv3
 try simp only [Act.put]
 refine rdy 13 fun K hK => ?_
 go_simp
 try rw [hw]
 refine (dfives_any (n := -t) (by omega)).mono ?_
 rintro en w' ⟨A4, n4, c4, rfl, N4, b⟩
 replace BB := below_next BB BB.size b (by rfl) (by rfl) (by rfl) (by rfl)
 have G := mv b (by rfl) <| And.intro xa <| N3
 clear b xa N3
 obtain ⟨xa, N3⟩ := G
 refine hK.out _ _ (by exact xa.held) (fun hHeldv5 => ?_)
 clear hK K hHeldv4
 try simp only [Act.put]
 refine tl 14 ?_
 refine tl 15 ?_
 refine wpAnyH_done (by kernel_rfl) ?_ _
 go_wp2
 exact bodyPost_ret (v := .tuple #[.slice A3 n3 c3, .slice A4 n4 c4]) (by simp [results, Tryz.results21, go_sem]) rfl ⟨_, _, _, _, _, _, rfl, N3, N4, BB⟩
end Go.Proofs.YtdhdebapjlcjdaaGreatDoor
