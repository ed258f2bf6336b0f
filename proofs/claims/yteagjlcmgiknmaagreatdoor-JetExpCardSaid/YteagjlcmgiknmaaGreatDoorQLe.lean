/-
 Rows of numbers that a call owns: how one more is appended; contracts of slices' MinFunc and MaxFunc over rows of numbers, of arith's least and greatest, at this translation. Condition: the slices read as limbs, the table of math/bits reads as its text lays it.
-/
import Derived.Test.YteagjlcmgiknmaaGreatDoorQLc
import Derived.Maps.AppendAt
set_option maxHeartbeats 8000000
set_option maxRecDepth 100000
namespace Go.Proofs.YteagjlcmgiknmaaGreatDoor
open Go.RowKit

/-- a row of the call's own, none of whose cells is a limb -/
def RowN (w : World) (base : Nat) (e : TypeId) (size : Nat) (v : Value) (n : Nat) (xs : List Value) : Prop :=
 w.ownsRow base e size v n xs ∧ ∀ g, v.ownBlock = some g → ∀ i x : Nat, w.cell? ⟨g, i, none⟩ ≠ some (.int .u64 (x : Int))
def NoL (u : Value) : Prop := ∀ x : Nat, u ≠ .int .u64 (x : Int)
theorem rown_nil (w : World) (base : Nat) (e : TypeId) (size : Nat) : RowN w base e size (.slice none 0 0) 0 [] := ⟨World.ownsRow_nil .., fun g h => by cases h⟩
theorem nol_at {cs : Array Value} (h : ∀ u ∈ cs, NoL u) (i x : Nat) : cs[i]? ≠ some (.int .u64 (x : Int)) := by
 intro h2
 obtain ⟨hi, h3⟩ := Array.getElem?_eq_some_iff.1 h2
 exact h _ (Array.getElem_mem hi) x h3
theorem nol_zero {z : Array Value} (n : Nat) (hz : ∀ u ∈ z, NoL u) : ∀ u ∈ Builtin.zeroCells z n, NoL u := by
 intro u hu
 unfold Builtin.zeroCells at hu
 rw [Array.mem_map] at hu
 obtain ⟨i, hi, rfl⟩ := hu
 rw [Array.mem_range] at hi
 have h0 : 0 < z.size := by rcases Nat.eq_zero_or_pos z.size with h | h; (rw [h] at hi; simp at hi); exact h
 have hlt := Nat.mod_lt i h0
 rw [getElem!_pos z (i % z.size) hlt]
 exact hz _ (Array.getElem_mem hlt)
theorem nol_mem {xs : List Value} {cs : Array Value} (h1 : ∀ u ∈ xs, NoL u) (h2 : ∀ u ∈ cs, NoL u) : ∀ u ∈ xs.toArray ++ cs, NoL u := by
 intro u hu
 rw [Array.mem_append] at hu
 rcases hu with hu | hu
 ·exact h1 u (by simpa using hu)
 ·exact h2 u hu
theorem RowN.mem {w : World} {base : Nat} {e : TypeId} {size : Nat} {v : Value} {n : Nat} {xs : List Value} (h : RowN w base e size v n xs) : ∀ u ∈ xs, NoL u := by
 intro u hu x hx
 subst hx
 rcases h.1.2 with ⟨_, h0⟩ | ⟨g, cap, cur, hv, hb, hg, _, _, _, ht⟩
 ·have : xs = [] := List.eq_nil_of_length_eq_zero (by rw [h.1.1, h0, Nat.zero_mul])
  rw [this] at hu; cases hu
 ·rw [← ht] at hu
  obtain ⟨i, hi, h2⟩ := List.getElem_of_mem (List.mem_of_mem_take hu)
  refine h.2 g (by rw [hv]; rfl) i x ?_
  rw [cell_of_row w g i cur e (0, 0) hg, Array.getElem?_eq_some_iff]
  exact ⟨by simpa using hi, by simpa using h2⟩
theorem RowN.lt {w : World} {base : Nat} {e : TypeId} {size : Nat} {v : Value} {n : Nat} {xs : List Value} (h : RowN w base e size v n xs) : ∀ k, v.ownBlock = some k → base ≤ k ∧ k < w.heap.size := h.1.lt
theorem RowN.next {w X w2 : World} {base : Nat} {e : TypeId} {size : Nat} {v : Value} {n : Nat} {xs : List Value} (h : RowN w base e size v n xs) (b : Below X.heap.size X w2) (he : X.heap = w.heap) : RowN w2 base e size v n xs := by
 have key : ∀ g, g < w.heap.size → w2.heap[g]? = w.heap[g]? := fun g hg => by
  rw [← he] at hg ⊢
  exact b.block g hg
 refine ⟨⟨h.1.1, ?_⟩, fun g hg i x => ?_⟩
 ·rcases h.1.2 with h2 | ⟨g, cap, cur, hv, hb, hg, h3⟩
  ·exact .inl h2
  ·exact .inr ⟨g, cap, cur, hv, hb, (key g (Array.getElem?_eq_some_iff.1 hg).1).trans hg, h3⟩
 ·have h2 := h.2 g hg i x
  have h3 := key g (h.lt g hg).2
  unfold World.cell? at h2 ⊢
  simpa [h3] using h2
/-- append of some -/
theorem run_append_n {w : World} {base : Nat} {t ty e : TypeId} {i : TypeInfo} {z : Value} {size bytes : Nat} (ht : Tryz.prog.underlying t = some (.slice e)) (hi : Tryz.prog.info? e = some i) (hz : i.zero = some z)
  (hsize : i.size = size) (hby : i.bytes = bytes) (hzs : z.cells.size = size) (hsz : 0 < size) (hzn : ∀ u ∈ z.cells, NoL u)
  {v : Value} {n : Nat} {xs : List Value} (hown : RowN w base e size v n xs)
  {a : Addr} {m c : Nat} {news : List Value} (hl : news.length = m * size) (hnews : ∀ j u, news[j]? = some u → w.cell? (a.add j) = some u) (h1 : ∀ u ∈ news, u.oneCell' = true) (hnn : ∀ u ∈ news, NoL u)
  (hm : 0 < m) (h63 : n + m ≤ maxLen) (hbytes : (n + m) * bytes ≤ 140737488355328) (hbase : base ≤ w.heap.size) :
  ∃ v' w', (Builtin.append_ #[t, t] ty #[v, .slice (some a) m c]).run Tryz.prog w = .ok v' w' ∧ RowN w' base e size v' (n + m) (xs ++ news) ∧ w.grownBy w' v.ownBlock ∧ (v'.ownBlock = v.ownBlock ∨ v'.ownBlock = some w.heap.size) := by
 obtain ⟨v', w', hr, h2, h3, _, h5⟩ := run_append_own_at w base t ty e i z size bytes ht hi hz hsize hby hzs hsz v n xs hown.1 a m c news hl hnews h1 h63 hbytes hbase
 refine ⟨v', w', hr, ⟨h2, ?_⟩, h3, h5⟩
 have hxn := hown.mem
 have hb := hbytes
 have h64 : n + m ≤ 9223372036854775807 := by unfold maxLen at h63; omega
 subst hsize
 subst hby
 have hsmall : (((n + m : Nat)) : Int) ≤ 9223372036854775807 := by omega
 rcases hown.1.2 with ⟨rfl, rfl⟩ | ⟨g, cap, cur, rfl, hbg, hg, hnc, hcm, hcs, htake⟩
 ·have hr' := run_append_nil (P := Tryz.prog) w t ty e i z ht hi hz a m c news hl hnews hm (by omega) (by rw [Nat.zero_add] at hb; omega)
  rw [hr] at hr'
  injection hr' with e1 e2
  subst e1 e2
  intro g hg j x
  cases hg
  have := heap_alloc_new w.drew (.cells (news.toArray ++ Builtin.zeroCells z.cells (grownCap w m 0 e - m)) e)
  have e9 := cell_of_row _ _ j _ e (0, 0) this
  show World.cell? _ ⟨w.drew.heap.size, j, none⟩ ≠ _
  rw [e9]
  exact nol_at (nol_mem hnn (nol_zero _ hzn)) j x
 ·have holds : ∀ j u, xs[j]? = some u → w.cell? ((⟨g, 0, none⟩ : Addr).add j) = some u := hown.1.cells (g := g) rfl
  by_cases hroom : n + m ≤ cap
  ·have hfit : n * i.size + news.length ≤ cur.size := by rw [hl, hcs, ← Nat.add_mul]; exact Nat.mul_le_mul_right _ hroom
   have hr' := run_append_room (P := Tryz.prog) w t ty e i ht hi g n cap cur hg a m c news hl hnews h1 hroom hfit
   rw [hr] at hr'
   injection hr' with e1 e2
   subst e1 e2
   intro g' hg' j x
   cases hg'
   rw [cell_of_row _ _ j _ e (0, 0) (setRow_heap w g cur _ e _ hg)]
   have hc : ∀ u ∈ cur.toList, NoL u := fun u hu y hy => by
    subst hy
    obtain ⟨k, hk, h6⟩ := List.getElem_of_mem hu
    refine hown.2 g rfl k y ?_
    rw [cell_of_row w g k cur e (0, 0) hg, Array.getElem?_eq_some_iff]
    exact ⟨by simpa using hk, by simpa using h6⟩
   refine nol_at (fun u hu => ?_) j x
   rw [List.mem_toArray, List.mem_append, List.mem_append] at hu
   rcases hu with (hu | hu) | hu
   ·exact hc u (List.mem_of_mem_take hu)
   ·exact hnn u hu
   ·exact hc u (List.mem_of_mem_drop hu)
  ·have hr' := run_append_grow (P := Tryz.prog) w t ty e i z ht hi hz ⟨g, 0, none⟩ n cap xs hown.1.1 holds a m c news hl hnews (by omega) hsmall (growslice_fits (by omega) hbytes)
   rw [hr] at hr'
   injection hr' with e1 e2
   subst e1 e2
   intro g' hg' j x
   cases hg'
   have := heap_alloc_new w.drew (.cells (xs.toArray ++ news.toArray ++ Builtin.zeroCells z.cells (grownCap w (n + m) cap e - (n + m))) e)
   have e9 := cell_of_row _ _ j _ e (0, 0) this
   show World.cell? _ ⟨w.drew.heap.size, j, none⟩ ≠ _
   rw [e9]
   refine nol_at (fun u hu => ?_) j x
   rw [Array.mem_append, Array.mem_append] at hu
   rcases hu with (hu | hu) | hu
   ·exact hxn u (by simpa using hu)
   ·exact hnn u (by simpa using hu)
   ·exact nol_zero _ hzn u hu

/-- the cells of some numbers, one behind the other -/
def Cels (w : World) : List Rw → List Value → Prop
 | [], xs => xs = []
 | a :: L, xs => ∃ A n c ys, xs = .bool a.s :: .slice A n c :: .int .i64 a.e :: ys ∧ Rd w .u64 Go.Proofs.YteagjlcmgiknmaaGreatDoor.W A n c a.l ∧ Cels w L ys
theorem Cels.mv {w w' : World} (f : ∀ A n c l, Rd w .u64 Go.Proofs.YteagjlcmgiknmaaGreatDoor.W A n c l → Rd w' .u64 Go.Proofs.YteagjlcmgiknmaaGreatDoor.W A n c l) : ∀ {L : List Rw} {xs : List Value}, Cels w L xs → Cels w' L xs
 | [], _, h => h
 | _ :: _, _, ⟨A, n, c, ys, h1, h2, h3⟩ => ⟨A, n, c, ys, h1, f _ _ _ _ h2, h3.mv f⟩
theorem Cels.snoc {w : World} {a : Rw} {A : Option Addr} {n c : Nat} (hr : Rd w .u64 Go.Proofs.YteagjlcmgiknmaaGreatDoor.W A n c a.l) : ∀ {L : List Rw} {xs : List Value}, Cels w L xs → Cels w (L ++ [a]) (xs ++ [.bool a.s, .slice A n c, .int .i64 a.e])
 | [], _, h => by
  have h : _ = [] := h
  subst h
  exact ⟨A, n, c, [], rfl, hr, rfl⟩
 | _ :: _, _, ⟨A', n', c', ys, h1, h2, h3⟩ => ⟨A', n', c', ys ++ [.bool a.s, .slice A n c, .int .i64 a.e], by rw [h1]; rfl, h2, h3.snoc hr⟩
theorem Cels.get {w : World} : ∀ {L : List Rw} {xs : List Value}, Cels w L xs → ∀ i, i < L.length → ∃ A n c, xs[i * 3]? = some (.bool (L.getD i Rw.zero).s) ∧ xs[i * 3 + 1]? = some (.slice A n c) ∧ xs[i * 3 + 2]? = some (.int .i64 (L.getD i Rw.zero).e) ∧ Rd w .u64 Go.Proofs.YteagjlcmgiknmaaGreatDoor.W A n c (L.getD i Rw.zero).l
 | [], _, _, i, hi => absurd hi (Nat.not_lt_zero _)
 | a :: L, _, ⟨A, n, c, ys, h1, h2, h3⟩, 0, _ => by subst h1; exact ⟨A, n, c, rfl, rfl, rfl, h2⟩
 | a :: L, _, ⟨A, n, c, ys, h1, h2, h3⟩, i + 1, hi => by
  subst h1
  obtain ⟨A', n', c', g1, g2, g3, g4⟩ := h3.get i (by simpa using hi)
  have e0 : (i + 1) * 3 = i * 3 + 3 := by omega
  refine ⟨A', n', c', ?_, ?_, ?_, ?_⟩
  ·rw [e0]; simpa using g1
  ·rw [show (i + 1) * 3 + 1 = (i * 3 + 1) + 3 by omega]; simpa using g2
  ·rw [show (i + 1) * 3 + 2 = (i * 3 + 2) + 3 by omega]; simpa using g3
  ·simpa using g4
def QRow (w : World) (base : Nat) (v : Value) (L : List Rw) : Prop := ∃ xs, RowN w base 25 3 v L.length xs ∧ Cels w L xs
instance {w w2 : World} {base : Nat} {v : Value} {L : List Rw} : Moves w w2 (QRow w base v L) (QRow w2 base v L) := ⟨fun _ b e h => by
 obtain ⟨xs, h1, h2⟩ := h
 exact ⟨xs, h1.next b e, h2.mv fun _ _ _ _ hr => hr.next b e⟩⟩
theorem qrow_nil (w : World) (base : Nat) : QRow w base (.slice none 0 0) [] := ⟨[], rown_nil .., rfl⟩
/-- a number in a row -/
def QAt (w : World) (g o : Nat) (a : Rw) : Prop := ∃ A n c, (w.cell? ⟨g, o, none⟩ = some (.bool a.s) ∧ w.cell? ⟨g, o + 1, none⟩ = some (.slice A n c) ∧ w.cell? ⟨g, o + 2, none⟩ = some (.int .i64 a.e)) ∧ Rd w .u64 Go.Proofs.YteagjlcmgiknmaaGreatDoor.W A n c a.l
def Qs (w : World) (g : Nat) (L : List Rw) : Prop := ∀ i, i < L.length → QAt w g (i * 3) (L.getD i Rw.zero)
theorem QAt.next {w X w2 : World} {g o : Nat} {a : Rw} (h : QAt w g o a) (b : Below X.heap.size X w2) (e : X.heap = w.heap) : QAt w2 g o a := by
 obtain ⟨A, n, c, ⟨h0, h1, h2⟩, r⟩ := h
 have key : ∀ (p : Addr) (v : Value), w.cell? p = some v → w2.cell? p = some v := fun p v h => by
  have h1 : X.cell? p = some v := by rw [← h]; unfold World.cell?; rw [e]
  exact (b.cell (World.block_lt_of_cell? X _ h1)).trans h1
 exact ⟨A, n, c, ⟨key _ _ h0, key _ _ h1, key _ _ h2⟩, r.next b e⟩
instance {w w2 : World} {g o : Nat} {a : Rw} : Moves w w2 (QAt w g o a) (QAt w2 g o a) := ⟨fun _ b e h => h.next b e⟩
theorem Qs.next {w X w2 : World} {g : Nat} {L : List Rw} (h : Qs w g L) (b : Below X.heap.size X w2) (e : X.heap = w.heap) : Qs w2 g L := fun i hi => (h i hi).next b e
instance {w w2 : World} {g : Nat} {L : List Rw} : Moves w w2 (Qs w g L) (Qs w2 g L) := ⟨fun _ b e h => h.next b e⟩
theorem QRow.form {w : World} {base : Nat} {v : Value} {L : List Rw} (h : QRow w base v L) (h0 : L ≠ []) : ∃ g cap, v = .slice (some ⟨g, 0, none⟩) L.length cap ∧ L.length ≤ cap ∧ cap ≤ 9223372036854775807 ∧ g < w.heap.size ∧ Qs w g L := by
 obtain ⟨xs, h1, h2⟩ := h
 have hlt := h1.lt
 rcases h1.1.2 with ⟨_, h3⟩ | ⟨g, cap, cur, hv, hb, hg, hc, hm, _, ht⟩
 ·exact absurd (List.eq_nil_of_length_eq_zero h3) h0
 ·have hcell := h1.1.cells (g := g) (by rw [hv]; rfl)
  have key : ∀ j u, xs[j]? = some u → w.cell? ⟨g, j, none⟩ = some u := fun j u hu => by
   have := hcell j u hu
   rwa [show (⟨g, 0, none⟩ : Addr).add j = ⟨g, j, none⟩ by unfold Addr.add; split <;> simp_all] at this
  refine ⟨g, cap, hv, hc, by unfold maxLen at hm; omega, (hlt g (by rw [hv]; rfl)).2, fun i hi => ?_⟩
  obtain ⟨A, n, c, g1, g2, g3, g4⟩ := h2.get i hi
  exact ⟨A, n, c, ⟨key _ _ g1, key _ _ g2, key _ _ g3⟩, g4⟩
theorem infoQd : (Tryz.prog.info? 25).map (fun i => (i.zero, i.size, i.bytes)) = some (some (.agg #[.bool false, .slice none 0 0, .int .i64 0]), 3, 40) := by kernel_rfl
theorem info_partsD {i : TypeId} {v : Value} {s b : Nat} (h : (Tryz.prog.info? i).map (fun i => (i.zero, i.size, i.bytes)) = some (some v, s, b)) : ∃ i0, Tryz.prog.info? i = some i0 ∧ i0.zero = some v ∧ i0.size = s ∧ i0.bytes = b := by
 cases hi : Tryz.prog.info? i with
 | none => rw [hi] at h; cases h
 | some i0 =>
  rw [hi] at h
  simp only [Option.map_some, Option.some.injEq, Prod.mk.injEq] at h
  exact ⟨i0, rfl, h.1, h.2.1, h.2.2⟩
/-- append of one number, which lies in a block of its own -/

theorem wp_app {ops : Array Oper} {rest : List Oper} {o : Oper} {a : Act} {Q : Exit → Act → World → Prop} {w : World} (hgd : o.guard = none) (s x : Operand)
  (ho : o.op = .call { callee := .builtin .append, args := #[s, x], argTypes := #[117, 117] }) {base : Nat} {v : Value} {L : List Rw} {b : Nat} {q : Rw} {A : Option Addr} {n c : Nat}
  (hs : a.eval s = v) (hx : a.eval x = .slice (some ⟨b, 0, none⟩) 1 1) (h : QRow w base v L) (hb : Box w b q.s A n c q.e) (hr : Rd w .u64 Go.Proofs.YteagjlcmgiknmaaGreatDoor.W A n c q.l) (hL : L.length ≤ 1000) (hbase : base ≤ w.heap.size)
  (hK : ∀ v' w', QRow w' base v' (L ++ [q]) → w.grownBy w' v.ownBlock → (∀ k, v.ownBlock = some k → base ≤ k ∧ ∀ i x : Nat, w.cell? ⟨k, i, none⟩ ≠ some (.int .u64 (x : Int))) → (v'.ownBlock = v.ownBlock ∨ v'.ownBlock = some w.heap.size) → wpList Tryz.prog ops Q rest (a.put o.dst v') w') : wpList Tryz.prog ops Q (o :: rest) a w := by
 obtain ⟨xs, h1, h2⟩ := h
 obtain ⟨i0, hi, hz0, hz1, hz2⟩ := info_partsD infoQd
 obtain ⟨b0, b1, b2⟩ := hb.held
 obtain ⟨v', w', hr', g1, g2, g3⟩ := run_append_n (ty := o.type) (c := 1) Tryz.underlying117 hi hz0 hz1 hz2 rfl (by decide) (by intro u hu x hx; simp [Value.cells] at hu; rcases hu with rfl | rfl | rfl <;> cases hx) h1 (a := ⟨b, 0, none⟩) (m := 1) (news := [.bool q.s, .slice A n c, .int .i64 q.e]) rfl
  (fun j u hu => by
   match j, hu with
   | 0, hu => simp at hu; subst hu; simpa [Addr.add] using b0
   | 1, hu => simp at hu; subst hu; simpa [Addr.add] using b1
   | 2, hu => simp at hu; subst hu; simpa [Addr.add] using b2)
  (fun u hu => by simp at hu; rcases hu with rfl | rfl | rfl <;> rfl) (fun u hu x hx => by simp at hu; rcases hu with rfl | rfl | rfl <;> cases hx) (by decide) (by unfold maxLen; omega) (by omega) hbase
 have hfar : ∀ (B : Option Addr) (k d : Nat) (l : List Nat), Rd w .u64 Go.Proofs.YteagjlcmgiknmaaGreatDoor.W B k d l → Rd w' .u64 Go.Proofs.YteagjlcmgiknmaaGreatDoor.W B k d l := fun B k d l hB => by
  cases hv : v.ownBlock with
  | none => rw [hv] at g2; exact hB.grownNone g2
  | some g => rw [hv] at g2; exact hB.grown g2 (hB.off (h1.2 g hv))
 have hrow : QRow w' base v' (L ++ [q]) := ⟨xs ++ [.bool q.s, .slice A n c, .int .i64 q.e], by simpa using g1, (h2.mv hfar).snoc (hfar _ _ _ _ hr)⟩
 refine wpList_plain hgd fun K hK2 => ?_
 unfold Oper.wp execOp
 simp only [ho, resolve, invoke, builtin, Sem.run_bind, Sem.run_pure, Result.andThen_ok, List.map_toArray, List.map_cons, List.map_nil, hs, hx, hr']
 exact hK2 _ _ (hK v' w' hrow g2 (fun k hk => ⟨(h1.lt k hk).1, h1.2 k hk⟩) g3)

theorem getD_ne {L : List Rw} (h : L ≠ []) : ∃ a l, L = a :: l := by
 cases L with
 | nil => exact absurd rfl h
 | cons a l => exact ⟨a, l, rfl⟩
theorem take_next {L : List Rw} {i : Nat} (h : i < L.length) : L.take (i + 1) = L.take i ++ [L.getD i Rw.zero] := by
 rw [List.take_add_one, List.getD_eq_getElem?_getD, List.getElem?_eq_getElem h]
 rfl
theorem lea_next (S : Sc) {L : List Rw} {i : Nat} (h : i < L.length) (h1 : 1 ≤ i) : leaL S (L.take (i + 1)) = leastQ S.K (leaL S (L.take i)) (L.getD i Rw.zero) := by
 rw [take_next h]
 obtain ⟨a, l, hl⟩ := getD_ne (L := L.take i) (by intro h2; have := congrArg List.length h2; rw [List.length_take, List.length_nil] at this; omega)
 rw [hl]
 show (l ++ [L.getD i Rw.zero]).foldl (leastQ S.K) a = _
 rw [List.foldl_append]
 rfl
theorem gre_next (S : Sc) {L : List Rw} {i : Nat} (h : i < L.length) (h1 : 1 ≤ i) : greL S (L.take (i + 1)) = greatQ S.K (greL S (L.take i)) (L.getD i Rw.zero) := by
 rw [take_next h]
 obtain ⟨a, l, hl⟩ := getD_ne (L := L.take i) (by intro h2; have := congrArg List.length h2; rw [List.length_take, List.length_nil] at this; omega)
 rw [hl]
 show (l ++ [L.getD i Rw.zero]).foldl (greatQ S.K) a = _
 rw [List.foldl_append]
 rfl
theorem lea_one (S : Sc) {L : List Rw} (h0 : L ≠ []) : leaL S (L.take 1) = L.getD 0 Rw.zero ∧ greL S (L.take 1) = L.getD 0 Rw.zero := by
 obtain ⟨a, l, rfl⟩ := getD_ne h0
 exact ⟨rfl, rfl⟩
theorem cmpQ_turn {K : Nat} (a b : Rw) : cmpQ K b a = - cmpQ K a b := by
 unfold cmpQ cmpR
 by_cases h : mayD a.s a.l a.e = true ∧ mayD b.s b.l b.e = true
 ·rw [if_pos h, if_pos ⟨h.2, h.1⟩]
  rcases cmpV_cases (vz K a.s (val Go.Proofs.YteagjlcmgiknmaaGreatDoor.W a.l) a.e) (vz K b.s (val Go.Proofs.YteagjlcmgiknmaaGreatDoor.W b.l) b.e) with ⟨h1, h2⟩ | ⟨h1, h2⟩ | ⟨h1, h2⟩ <;>
  rcases cmpV_cases (vz K b.s (val Go.Proofs.YteagjlcmgiknmaaGreatDoor.W b.l) b.e) (vz K a.s (val Go.Proofs.YteagjlcmgiknmaaGreatDoor.W a.l) a.e) with ⟨g1, g2⟩ | ⟨g1, g2⟩ | ⟨g1, g2⟩ <;> rw [h1, g1] <;> omega
 ·rw [if_neg h, if_neg (fun h' => h ⟨h'.2, h'.1⟩)]; rfl
theorem box_two_at (w : World) (o : Obj) (s : Bool) (A : Option Addr) (n c : Nat) (e : Int) : Box ((w.alloc o).alloc (.cells #[.bool s, .slice A n c, .int .i64 e] 25)) (w.heap.size + 1) s A n c e := by
 have := Box.new (w.alloc o) s A n c e
 simpa using this

theorem minfunc_any {w : World} (S : Sc) {L : List Rw} {g cap : Nat} (hT : Tab w) (h : Qs w g L) (h0 : L ≠ []) (hL : L.length ≤ 1000) :
  Calls Tryz.prog 131 #[.slice (some ⟨g, 0, none⟩) L.length cap, .func (Fn.func 11) #[] #[]] w (GivQ (leaL S L) w) := by
 obtain ⟨n, hn⟩ : ∃ n, n = L.length := ⟨_, rfl⟩
 rw [← hn]
 have hp : 0 < n := by rw [hn]; exact List.length_pos_iff.2 h0
 have d1 : decide ((n : Int) < 1) = false := decide_eq_false (by omega)
 have p0 : (0 : Int) < (n : Int) := by omega
 have hn1 : (n : Int) ≤ 1000 := by omega
 have b0 := below_alloc w (.cells #[.bool false, .slice none 0 0, .int .i64 0] 25)
 have k0 := h.next b0 rfl
 obtain ⟨A1, n1, c1, ⟨u0, u1, u2⟩, q1⟩ := k0 0 (by omega)
 have HD1 := Lib.hid (lea_one S h0).1
 obtain ⟨a, ha⟩ : ∃ a, a = L.getD 0 Rw.zero := ⟨_, rfl⟩
 rw [← ha] at u0 u2 q1
 have HA := Lib.hid ha
 clear ha
 have e0 : 0 * 3 = 0 := by decide
 rw [e0] at u0 u1 u2
 rw [show 0 + 1 = 1 from rfl] at u1
 rw [show 0 + 2 = 2 from rfl] at u2
 clear e0
 have xr := (Box.new w false none 0 0 0).alloc (.cells #[.bool a.s, .slice A1 n1 c1, .int .i64 a.e] 25)
 have xm := box_two_at w (.cells #[.bool false, .slice none 0 0, .int .i64 0] 25) a.s A1 n1 c1 a.e
 have bb := two_below w (.cells #[.bool false, .slice none 0 0, .int .i64 0] 25) (.cells #[.bool a.s, .slice A1 n1 c1, .int .i64 a.e] 25)
 have b1 := below_alloc (w.alloc (.cells #[.bool false, .slice none 0 0, .int .i64 0] 25)) (.cells #[.bool a.s, .slice A1 n1 c1, .int .i64 a.e] 25)
 have qm := q1.next b1 rfl
 have HN := Lib.hid hn
 clear hn k0 q1
 go_enter Tryz.func131, Tryz.ntmps131
 go_wp2
 go_loopg [6] n (fun q v wr => ∃ i : Nat, i + q = n + 1 ∧ v = .int .i64 i ∧ (1 ≤ i ∧ i ≤ n) ∧ Below w.heap.size w wr ∧ Box wr w.heap.size false none 0 0 0 ∧ ∃ (m : Rw) (A : Option Addr) (k c : Nat), m = leaL S (L.take i) ∧ Box wr (w.heap.size + 1) m.s A k c m.e ∧ Rd wr .u64 Go.Proofs.YteagjlcmgiknmaaGreatDoor.W A k c m.l)
 case atStart => exact ⟨1, by omega, rfl, ⟨by omega, by omega⟩, bb, xr, a, A1, n1, c1, HA.out.trans HD1.out.symm, xm, qm⟩
 case round =>
  obtain ⟨i, hg, rfl, ⟨hi1, hi2⟩, hb, xr2, m, A2, n2, c2, hm, xm2, qm2⟩ := hrel
  clear bb xr xm qm b1 u0 u1 u2 HD1 HA
  have HG := Lib.hid hg
  have HM := Lib.hid hm
  clear hg hm
  have lm := xm2.gl
  by_cases hi : i < n
  ·have hiL : i < L.length := by have := HN.out; omega
   have HX := Lib.hid (lea_next S hiL hi1)
   obtain ⟨A3, n3, c3, ⟨y0, y1, y2⟩, q3⟩ := (h.next hb rfl) i hiL
   have hT1 := hT.next hb rfl
   obtain ⟨z, hz⟩ : ∃ z, z = L.getD i Rw.zero := ⟨_, rfl⟩
   rw [← hz] at y0 y2 q3
   have HZ := Lib.hid hz
   clear hz
   have hp2 : (i : Int) < n := by omega
   have hp3 : (0 : Int) ≤ i := by omega
   obtain ⟨m0, m1, m2⟩ := xm2.held
   clear h hT
   go_wp2_with fail
   have b : Below wr.heap.size wr (World.drew wr) := below_drewN (Below.refl _ _) 1
   replace hb := below_next hb hb.size b (by rfl) (by rfl) (by rfl) (by rfl)
   have G := mv b (by rfl) <| And.intro hT1 <| And.intro q3 <| And.intro qm2 <| And.intro xm2 <| And.intro xr2 <| And.intro y0 <| And.intro y1 <| And.intro y2 <| And.intro m0 <| And.intro m1 <| m2
   clear b hT1 q3 qm2 xm2 xr2 y0 y1 y2 m0 m1 m2
   obtain ⟨hT1, q3, qm2, xm2, xr2, y0, y1, y2, m0, m1, m2⟩ := G
   refine wp_region_held_drew (S := fun w' => w'.cell? ⟨g, i * 3, none⟩ = some (.bool z.s) ∧ w'.cell? ⟨g, i * 3 + 1, none⟩ = some (.slice A3 n3 c3) ∧ w'.cell? ⟨g, i * 3 + 2, none⟩ = some (.int .i64 z.e) ∧ w'.cell? ⟨w.heap.size + 1, 0, none⟩ = some (.bool m.s) ∧ w'.cell? ⟨w.heap.size + 1, 1, none⟩ = some (.slice A2 n2 c2) ∧ w'.cell? ⟨w.heap.size + 1, 2, none⟩ = some (.int .i64 m.e)) (by kernel_rfl) (by exact ⟨y0, y1, y2, m0, m1, m2⟩) (fun hHeldv0 => ?_)
   generalize World.drew wr = wd at *
   refine tl 0 ?_
   refine tl 1 ?_
   refine tl 2 ?_
   refine tl 3 ?_
   refine tl 4 ?_
   refine tl 5 ?_
   refine rdy 6 fun K hK => ?_
   go_simp
   refine (dcmp_raw (K := S.K) (s1 := z.s) (e1 := z.e) (s2 := m.s) (e2 := m.e) S.big hT1 q3 qm2).mono ?_
   rintro en w' ⟨rfl, b⟩
   replace hb := below_next hb hb.size b (by rfl) (by rfl) (by rfl) (by rfl)
   have G := mv b (by rfl) <| And.intro hT1 <| And.intro q3 <| And.intro qm2 <| And.intro xm2 <| And.intro xr2 <| And.intro y0 <| And.intro y1 <| And.intro y2 <| And.intro m0 <| And.intro m1 <| m2
   clear b hT1 q3 qm2 xm2 xr2 y0 y1 y2 m0 m1 m2
   obtain ⟨hT1, q3, qm2, xm2, xr2, y0, y1, y2, m0, m1, m2⟩ := G
   obtain ⟨t, ht⟩ : ∃ t, t = cmpR S.K z.s z.l z.e m.s m.l m.e := ⟨_, rfl⟩
   rw [← ht]
   have HT := Lib.hid ht
   clear ht
   refine hK.out _ _ (by exact ⟨y0, y1, y2, m0, m1, m2⟩) (fun hHeldv1 => ?_)
   clear hK K hHeldv0
   try simp only [Act.put]
   refine tl 7 ?_
   refine wpAnyH_done (by kernel_rfl) ?_ _
   obtain ⟨bt, hbt⟩ : ∃ bt, bt = decide (t < 0) := ⟨_, rfl⟩
   rw [← hbt]
   cases bt
   rotate_left
   ·have hlt : t < 0 := of_decide_eq_true hbt.symm
    clear hbt
    have HE : leaL S (L.take (i + 1)) = z := by
     rw [HX.out, ← HM.out, ← HZ.out]
     unfold leastQ
     rw [if_pos (show cmpQ S.K z m < 0 by rw [show cmpQ S.K z m = t from HT.out.symm]; exact hlt)]
    replace HE := Lib.hid HE
    clear hlt
    obtain ⟨f0, f1, f2⟩ := xm2.open
    go_wp2
    have xm3 := xm2.put z.s A3 n3 c3 z.e
    have q4 := q3.put3 xm2 (.bool z.s) (.slice A3 n3 c3) (.int .i64 z.e)
    have xr3 := ((xr2.other (g' := w.heap.size + 1) (by omega) 0 (.bool z.s)).other (g' := w.heap.size + 1) (by omega) 1 (.slice A3 n3 c3)).other (g' := w.heap.size + 1) (by omega) 2 (.int .i64 z.e)
    have hb3 := below_put3 (g := w.heap.size + 1) hb (by omega) (.bool z.s) (.slice A3 n3 c3) (.int .i64 z.e)
    go_roundg (gk - 1)
    case measure => have := HG.out; omega
    case rel => exact ⟨i + 1, by have := HG.out; omega, by go_num, ⟨by omega, by omega⟩, hb3, xr3, z, A3, n3, c3, HE.out.symm, xm3, q4⟩
   ·have hlt : ¬ t < 0 := of_decide_eq_false hbt.symm
    clear hbt
    have HE : leaL S (L.take (i + 1)) = m := by
     rw [HX.out, ← HM.out, ← HZ.out]
     unfold leastQ
     rw [if_neg (show ¬ cmpQ S.K z m < 0 by rw [show cmpQ S.K z m = t from HT.out.symm]; exact hlt)]
    replace HE := Lib.hid HE
    clear hlt
    go_wp2
    go_roundg (gk - 1)
    case measure => have := HG.out; omega
    case rel => exact ⟨i + 1, by have := HG.out; omega, by go_num, ⟨by omega, by omega⟩, hb, xr2, m, A2, n2, c2, HE.out.symm, xm2, qm2⟩
  ·have : i = n := by omega
   subst this
   have HE := Lib.hid (show m = leaL S L from by rw [HM.out, HN.out, List.take_length])
   obtain ⟨m0, m1, m2⟩ := xm2.held
   obtain ⟨f0, f1, f2⟩ := xr2.open
   obtain ⟨z0, z1, z2⟩ := xr2.held
   go_wp2
   have qq := xr2.put m.s A2 n2 c2 m.e
   have hN := qm2.put3 xr2 (.bool m.s) (.slice A2 n2 c2) (.int .i64 m.e)
   have HB3 := below_put3 (g := w.heap.size) hb (by omega) (.bool m.s) (.slice A2 n2 c2) (.int .i64 m.e)
   obtain ⟨z0, z1, z2⟩ := qq.held
   exact bodyPost_ret (v := .agg #[.bool m.s, .slice A2 n2 c2, .int .i64 m.e]) (by simp [results, Tryz.results131, go_sem, z0, z1, z2]) rfl (by rw [← HE.out]; exact ⟨_, _, _, rfl, hN, HB3⟩)

theorem maxfunc_any {w : World} (S : Sc) {L : List Rw} {g cap : Nat} (hT : Tab w) (h : Qs w g L) (h0 : L ≠ []) (hL : L.length ≤ 1000) :
  Calls Tryz.prog 132 #[.slice (some ⟨g, 0, none⟩) L.length cap, .func (Fn.func 11) #[] #[]] w (GivQ (greL S L) w) := by
 obtain ⟨n, hn⟩ : ∃ n, n = L.length := ⟨_, rfl⟩
 rw [← hn]
 have hp : 0 < n := by rw [hn]; exact List.length_pos_iff.2 h0
 have d1 : decide ((n : Int) < 1) = false := decide_eq_false (by omega)
 have p0 : (0 : Int) < (n : Int) := by omega
 have hn1 : (n : Int) ≤ 1000 := by omega
 have b0 := below_alloc w (.cells #[.bool false, .slice none 0 0, .int .i64 0] 25)
 have k0 := h.next b0 rfl
 obtain ⟨A1, n1, c1, ⟨u0, u1, u2⟩, q1⟩ := k0 0 (by omega)
 have HD1 := Lib.hid (lea_one S h0).2
 obtain ⟨a, ha⟩ : ∃ a, a = L.getD 0 Rw.zero := ⟨_, rfl⟩
 rw [← ha] at u0 u2 q1
 have HA := Lib.hid ha
 clear ha
 have e0 : 0 * 3 = 0 := by decide
 rw [e0] at u0 u1 u2
 rw [show 0 + 1 = 1 from rfl] at u1
 rw [show 0 + 2 = 2 from rfl] at u2
 clear e0
 have xr := (Box.new w false none 0 0 0).alloc (.cells #[.bool a.s, .slice A1 n1 c1, .int .i64 a.e] 25)
 have xm := box_two_at w (.cells #[.bool false, .slice none 0 0, .int .i64 0] 25) a.s A1 n1 c1 a.e
 have bb := two_below w (.cells #[.bool false, .slice none 0 0, .int .i64 0] 25) (.cells #[.bool a.s, .slice A1 n1 c1, .int .i64 a.e] 25)
 have b1 := below_alloc (w.alloc (.cells #[.bool false, .slice none 0 0, .int .i64 0] 25)) (.cells #[.bool a.s, .slice A1 n1 c1, .int .i64 a.e] 25)
 have qm := q1.next b1 rfl
 have HN := Lib.hid hn
 clear hn k0 q1
 go_enter Tryz.func132, Tryz.ntmps132
 go_wp2
 go_loopg [6] n (fun q v wr => ∃ i : Nat, i + q = n + 1 ∧ v = .int .i64 i ∧ (1 ≤ i ∧ i ≤ n) ∧ Below w.heap.size w wr ∧ Box wr w.heap.size false none 0 0 0 ∧ ∃ (m : Rw) (A : Option Addr) (k c : Nat), m = greL S (L.take i) ∧ Box wr (w.heap.size + 1) m.s A k c m.e ∧ Rd wr .u64 Go.Proofs.YteagjlcmgiknmaaGreatDoor.W A k c m.l)
 case atStart => exact ⟨1, by omega, rfl, ⟨by omega, by omega⟩, bb, xr, a, A1, n1, c1, HA.out.trans HD1.out.symm, xm, qm⟩
 case round =>
  obtain ⟨i, hg, rfl, ⟨hi1, hi2⟩, hb, xr2, m, A2, n2, c2, hm, xm2, qm2⟩ := hrel
  clear bb xr xm qm b1 u0 u1 u2 HD1 HA
  have HG := Lib.hid hg
  have HM := Lib.hid hm
  clear hg hm
  have lm := xm2.gl
  by_cases hi : i < n
  ·have hiL : i < L.length := by have := HN.out; omega
   have HX := Lib.hid (gre_next S hiL hi1)
   obtain ⟨A3, n3, c3, ⟨y0, y1, y2⟩, q3⟩ := (h.next hb rfl) i hiL
   have hT1 := hT.next hb rfl
   obtain ⟨z, hz⟩ : ∃ z, z = L.getD i Rw.zero := ⟨_, rfl⟩
   rw [← hz] at y0 y2 q3
   have HZ := Lib.hid hz
   clear hz
   have hp2 : (i : Int) < n := by omega
   have hp3 : (0 : Int) ≤ i := by omega
   obtain ⟨m0, m1, m2⟩ := xm2.held
   clear h hT
   go_wp2_with fail
   have b : Below wr.heap.size wr (World.drew wr) := below_drewN (Below.refl _ _) 1
   replace hb := below_next hb hb.size b (by rfl) (by rfl) (by rfl) (by rfl)
   have G := mv b (by rfl) <| And.intro hT1 <| And.intro q3 <| And.intro qm2 <| And.intro xm2 <| And.intro xr2 <| And.intro y0 <| And.intro y1 <| And.intro y2 <| And.intro m0 <| And.intro m1 <| m2
   clear b hT1 q3 qm2 xm2 xr2 y0 y1 y2 m0 m1 m2
   obtain ⟨hT1, q3, qm2, xm2, xr2, y0, y1, y2, m0, m1, m2⟩ := G
   refine wp_region_held_drew (S := fun w' => w'.cell? ⟨g, i * 3, none⟩ = some (.bool z.s) ∧ w'.cell? ⟨g, i * 3 + 1, none⟩ = some (.slice A3 n3 c3) ∧ w'.cell? ⟨g, i * 3 + 2, none⟩ = some (.int .i64 z.e) ∧ w'.cell? ⟨w.heap.size + 1, 0, none⟩ = some (.bool m.s) ∧ w'.cell? ⟨w.heap.size + 1, 1, none⟩ = some (.slice A2 n2 c2) ∧ w'.cell? ⟨w.heap.size + 1, 2, none⟩ = some (.int .i64 m.e)) (by kernel_rfl) (by exact ⟨y0, y1, y2, m0, m1, m2⟩) (fun hHeldv0 => ?_)
   generalize World.drew wr = wd at *
   refine tl 0 ?_
   refine tl 1 ?_
   refine tl 2 ?_
   refine tl 3 ?_
   refine tl 4 ?_
   refine tl 5 ?_
   refine rdy 6 fun K hK => ?_
   go_simp
   refine (dcmp_raw (K := S.K) (s1 := z.s) (e1 := z.e) (s2 := m.s) (e2 := m.e) S.big hT1 q3 qm2).mono ?_
   rintro en w' ⟨rfl, b⟩
   replace hb := below_next hb hb.size b (by rfl) (by rfl) (by rfl) (by rfl)
   have G := mv b (by rfl) <| And.intro hT1 <| And.intro q3 <| And.intro qm2 <| And.intro xm2 <| And.intro xr2 <| And.intro y0 <| And.intro y1 <| And.intro y2 <| And.intro m0 <| And.intro m1 <| m2
   clear b hT1 q3 qm2 xm2 xr2 y0 y1 y2 m0 m1 m2
   obtain ⟨hT1, q3, qm2, xm2, xr2, y0, y1, y2, m0, m1, m2⟩ := G
   obtain ⟨t, ht⟩ : ∃ t, t = cmpR S.K z.s z.l z.e m.s m.l m.e := ⟨_, rfl⟩
   rw [← ht]
   have HT := Lib.hid ht
   clear ht
   refine hK.out _ _ (by exact ⟨y0, y1, y2, m0, m1, m2⟩) (fun hHeldv1 => ?_)
   clear hK K hHeldv0
   try simp only [Act.put]
   refine tl 7 ?_
   refine wpAnyH_done (by kernel_rfl) ?_ _
   obtain ⟨bt, hbt⟩ : ∃ bt, bt = decide (0 < t) := ⟨_, rfl⟩
   rw [← hbt]
   cases bt
   rotate_left
   ·have hlt : 0 < t := of_decide_eq_true hbt.symm
    clear hbt
    have HE : greL S (L.take (i + 1)) = z := by
     rw [HX.out, ← HM.out, ← HZ.out]
     unfold greatQ
     rw [if_pos (show cmpQ S.K m z < 0 by rw [cmpQ_turn z m, show cmpQ S.K z m = t from HT.out.symm]; omega)]
    replace HE := Lib.hid HE
    clear hlt
    obtain ⟨f0, f1, f2⟩ := xm2.open
    go_wp2
    have xm3 := xm2.put z.s A3 n3 c3 z.e
    have q4 := q3.put3 xm2 (.bool z.s) (.slice A3 n3 c3) (.int .i64 z.e)
    have xr3 := ((xr2.other (g' := w.heap.size + 1) (by omega) 0 (.bool z.s)).other (g' := w.heap.size + 1) (by omega) 1 (.slice A3 n3 c3)).other (g' := w.heap.size + 1) (by omega) 2 (.int .i64 z.e)
    have hb3 := below_put3 (g := w.heap.size + 1) hb (by omega) (.bool z.s) (.slice A3 n3 c3) (.int .i64 z.e)
    go_roundg (gk - 1)
    case measure => have := HG.out; omega
    case rel => exact ⟨i + 1, by have := HG.out; omega, by go_num, ⟨by omega, by omega⟩, hb3, xr3, z, A3, n3, c3, HE.out.symm, xm3, q4⟩
   ·have hlt : ¬ 0 < t := of_decide_eq_false hbt.symm
    clear hbt
    have HE : greL S (L.take (i + 1)) = m := by
     rw [HX.out, ← HM.out, ← HZ.out]
     unfold greatQ
     rw [if_neg (show ¬ cmpQ S.K m z < 0 by rw [cmpQ_turn z m, show cmpQ S.K z m = t from HT.out.symm]; omega)]
    replace HE := Lib.hid HE
    clear hlt
    go_wp2
    go_roundg (gk - 1)
    case measure => have := HG.out; omega
    case rel => exact ⟨i + 1, by have := HG.out; omega, by go_num, ⟨by omega, by omega⟩, hb, xr2, m, A2, n2, c2, HE.out.symm, xm2, qm2⟩
  ·have : i = n := by omega
   subst this
   have HE := Lib.hid (show m = greL S L from by rw [HM.out, HN.out, List.take_length])
   obtain ⟨m0, m1, m2⟩ := xm2.held
   obtain ⟨f0, f1, f2⟩ := xr2.open
   obtain ⟨z0, z1, z2⟩ := xr2.held
   go_wp2
   have qq := xr2.put m.s A2 n2 c2 m.e
   have hN := qm2.put3 xr2 (.bool m.s) (.slice A2 n2 c2) (.int .i64 m.e)
   have HB3 := below_put3 (g := w.heap.size) hb (by omega) (.bool m.s) (.slice A2 n2 c2) (.int .i64 m.e)
   obtain ⟨z0, z1, z2⟩ := qq.held
   exact bodyPost_ret (v := .agg #[.bool m.s, .slice A2 n2 c2, .int .i64 m.e]) (by simp [results, Tryz.results132, go_sem, z0, z1, z2]) rfl (by rw [← HE.out]; exact ⟨_, _, _, rfl, hN, HB3⟩)

theorem least_any {w : World} (S : Sc) {L : List Rw} {g cap : Nat} (hT : Tab w) (h : Qs w g L) (h0 : L ≠ []) (hL : L.length ≤ 1000) :
  Calls Tryz.prog 94 #[.slice (some ⟨g, 0, none⟩) L.length cap] w (GivQ (leaL S L) w) := by
 have BB := below_alloc w (.cells #[.bool false, .slice none 0 0, .int .i64 0] 25)
 have r := Box.new w false none 0 0 0
 replace hT := hT.next BB rfl
 replace h := mv BB rfl h
 obtain ⟨n, hn⟩ : ∃ n, n = L.length := ⟨_, rfl⟩
 rw [← hn]
 have HN := Lib.hid hn
 clear hn
 obtain ⟨q, hq⟩ : ∃ q, q = leaL S L := ⟨_, rfl⟩
 rw [← hq]
 have HQ := Lib.hid hq
 clear hq
 have key : ∀ W2 : World, Below w.heap.size w W2 → True := fun _ _ => trivial
 clear key
 go_enter Tryz.func94, Tryz.ntmps94
 go_wp2_with fail
 refine (show Calls _ _ _ _ (GivQ q _) from by rw [HN.out, HQ.out]; exact minfunc_any S hT h h0 hL).mono ?_
 rintro en w1 ⟨A1, n1, c1, rfl, h1, b⟩
 clear h hT
 replace BB := bnx BB b
 replace r := mv b rfl r
 clear b
 obtain ⟨f0, f1, f2⟩ := r.open
 obtain ⟨z0, z1, z2⟩ := r.held
 go_wp2
 have qq := r.put q.s A1 n1 c1 q.e
 have hN := h1.put3 r (.bool q.s) (.slice A1 n1 c1) (.int .i64 q.e)
 have HB3 := below_put3 (g := w.heap.size) BB (by omega) (.bool q.s) (.slice A1 n1 c1) (.int .i64 q.e)
 obtain ⟨z0, z1, z2⟩ := qq.held
 exact bodyPost_ret (v := .agg #[.bool q.s, .slice A1 n1 c1, .int .i64 q.e]) (by simp [results, Tryz.results94, go_sem, z0, z1, z2]) rfl ⟨_, _, _, rfl, hN, HB3⟩

theorem greatest_any {w : World} (S : Sc) {L : List Rw} {g cap : Nat} (hT : Tab w) (h : Qs w g L) (h0 : L ≠ []) (hL : L.length ≤ 1000) :
  Calls Tryz.prog 95 #[.slice (some ⟨g, 0, none⟩) L.length cap] w (GivQ (greL S L) w) := by
 have BB := below_alloc w (.cells #[.bool false, .slice none 0 0, .int .i64 0] 25)
 have r := Box.new w false none 0 0 0
 replace hT := hT.next BB rfl
 replace h := mv BB rfl h
 obtain ⟨n, hn⟩ : ∃ n, n = L.length := ⟨_, rfl⟩
 rw [← hn]
 have HN := Lib.hid hn
 clear hn
 obtain ⟨q, hq⟩ : ∃ q, q = greL S L := ⟨_, rfl⟩
 rw [← hq]
 have HQ := Lib.hid hq
 clear hq
 have key : ∀ W2 : World, Below w.heap.size w W2 → True := fun _ _ => trivial
 clear key
 go_enter Tryz.func95, Tryz.ntmps95
 go_wp2_with fail
 refine (show Calls _ _ _ _ (GivQ q _) from by rw [HN.out, HQ.out]; exact maxfunc_any S hT h h0 hL).mono ?_
 rintro en w1 ⟨A1, n1, c1, rfl, h1, b⟩
 clear h hT
 replace BB := bnx BB b
 replace r := mv b rfl r
 clear b
 obtain ⟨f0, f1, f2⟩ := r.open
 obtain ⟨z0, z1, z2⟩ := r.held
 go_wp2
 have qq := r.put q.s A1 n1 c1 q.e
 have hN := h1.put3 r (.bool q.s) (.slice A1 n1 c1) (.int .i64 q.e)
 have HB3 := below_put3 (g := w.heap.size) BB (by omega) (.bool q.s) (.slice A1 n1 c1) (.int .i64 q.e)
 obtain ⟨z0, z1, z2⟩ := qq.held
 exact bodyPost_ret (v := .agg #[.bool q.s, .slice A1 n1 c1, .int .i64 q.e]) (by simp [results, Tryz.results95, go_sem, z0, z1, z2]) rfl ⟨_, _, _, rfl, hN, HB3⟩

end Go.Proofs.YteagjlcmgiknmaaGreatDoor
