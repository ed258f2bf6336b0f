/-
  Plain facts on memory: a slice that reads as a list of naturals, a row of a block that is written in place. No condition; nothing of the program is named here.
-/
import Derived.WalkKit
import Derived.Deep.Draws
import Derived.Laws.OwnMore
import Derived.Laws.Rows
import Derived.Test.YtdklekiknhhfdaaDoorDig
namespace Go.Proofs.YtdklekiknhhfdaaDoor
open Go.RowKit

/-- Numbers as values. -/
def iv (k : IntKind) (l : List Nat) : List Value := l.map (fun x : Nat => Value.int k (x : Int))
theorem iv_length (k : IntKind) (l : List Nat) : (iv k l).length = l.length := by simp [iv]
theorem iv_append (k : IntKind) (l r : List Nat) : iv k (l ++ r) = iv k l ++ iv k r := by simp [iv]
theorem iv_get (k : IntKind) (l : List Nat) (i : Nat) (h : i < l.length) : (iv k l)[i]? = some (.int k ((l.getD i 0 : Nat) : Int)) := by
  simp [iv, h, List.getD_eq_getElem?_getD]
theorem iv_set (k : IntKind) (l : List Nat) (i y : Nat) : iv k (l.set i y) = (iv k l).set i (.int k (y : Int)) := by simp [iv, List.map_set]
theorem iv_replicate (k : IntKind) (n : Nat) : iv k (List.replicate n 0) = List.replicate n (.int k 0) := by simp [iv, List.map_replicate]

/-- A slice value that reads as a list of numbers below B. -/
structure Rd (w : World) (k : IntKind) (B : Nat) (A : Option Addr) (n c : Nat) (l : List Nat) : Prop where
  len : l.length = n
  cap : n ≤ c
  max : c ≤ 9223372036854775807
  lt : Lt B l
  at_ : n ≠ 0 → ∃ b o, A = some ⟨b, o, none⟩ ∧ b < w.heap.size ∧ ∀ j, j < n → w.cell? ⟨b, o + j, none⟩ = some (.int k ((l.getD j 0 : Nat) : Int))

/-- A part of a block that reads as a list of numbers, and is not frozen. -/
structure Row (w : World) (g : Nat) (T : TypeId) (k : IntKind) (off : Nat) (pre : List Value) (l : List Nat) (post : List Value) : Prop where
  blk : w.heap[g]? = some (.cells (pre ++ iv k l ++ post).toArray T (0, 0))
  off : pre.length = off

section
variable {w w' : World} {k : IntKind} {B : Nat} {A : Option Addr} {n c : Nat} {l : List Nat}

theorem Rd.keep (h : Rd w k B A n c l) (hs : w.heap.size ≤ w'.heap.size) (hk : ∀ p : Addr, p.block < w.heap.size → w'.cell? p = w.cell? p) : Rd w' k B A n c l :=
  ⟨h.len, h.cap, h.max, h.lt, fun hn => by
    obtain ⟨b, o, e, hb, hc⟩ := h.at_ hn
    exact ⟨b, o, e, by omega, fun j hj => (hk _ hb).trans (hc j hj)⟩⟩
theorem Rd.below (h : Rd w k B A n c l) (hb : Below w.heap.size w w') : Rd w' k B A n c l := h.keep hb.size fun _ hp => hb.cell hp
theorem Rd.below' {b0 : Nat} (h : Rd w k B A n c l) (hb : Below b0 w w') (h0 : w.heap.size ≤ b0) : Rd w' k B A n c l := h.keep hb.size fun _ hp => hb.cell (by omega)
theorem Rd.drew (h : Rd w k B A n c l) : Rd w.drew k B A n c l := ⟨h.len, h.cap, h.max, h.lt, h.at_⟩
theorem Rd.drewN (h : Rd w k B A n c l) (m : Nat) : Rd (w.drewN m) k B A n c l := ⟨h.len, h.cap, h.max, h.lt, h.at_⟩
theorem Rd.alloc (h : Rd w k B A n c l) (o : Obj) : Rd (w.alloc o) k B A n c l := h.below ((Below.refl _ _).alloc (Nat.le_refl _) o)
theorem Rd.grownNone (h : Rd w k B A n c l) (hg : w.grownBy w' none) : Rd w' k B A n c l :=
  h.below ((Below.refl _ _).grown hg (Nat.le_refl _) (fun _ e => by cases e))
/-- A slice that lies in another block than the one that is written. -/
theorem Rd.grown {g : Nat} (h : Rd w k B A n c l) (hg : w.grownBy w' (some g)) (hne : n ≠ 0 → ∀ a, A = some a → a.block ≠ g) : Rd w' k B A n c l :=
  ⟨h.len, h.cap, h.max, h.lt, fun hn => by
    obtain ⟨b, o, e, hb, hc⟩ := h.at_ hn
    refine ⟨b, o, e, by have := hg.size; omega, fun j hj => ?_⟩
    exact hg.cell (hc j hj) (by intro e2; injection e2 with e2; exact hne hn _ e e2)⟩
theorem Rd.take (h : Rd w k B A n c l) {m : Nat} (hm : m ≤ n) : Rd w k B A m c (l.take m) :=
  ⟨by rw [List.length_take, h.len]; omega, by have := h.cap; omega, h.max, h.lt.take m, fun hn => by
    obtain ⟨b, o, e, hb, hc⟩ := h.at_ (by omega)
    refine ⟨b, o, e, hb, fun j hj => ?_⟩
    rw [hc j (by omega)]
    simp only [List.getD_eq_getElem?_getD, List.getElem?_take, if_pos hj]⟩
theorem Rd.nil (w : World) (k : IntKind) (B : Nat) (A : Option Addr) {c : Nat} (hc : c ≤ 9223372036854775807) : Rd w k B A 0 c [] :=
  ⟨rfl, Nat.zero_le _, hc, Lt.nil, fun h => absurd rfl h⟩
theorem Rd.empty (h : Rd w k B A n c l) (hn : n = 0) : l = [] := List.eq_nil_of_length_eq_zero (by rw [h.len, hn])
theorem Rd.sub {m : Nat} (h : Rd w k B A n c l) (hm : m ≤ n) (b o : Nat) (hA : A = some ⟨b, o, none⟩) (c' : Nat) (hc : n - m ≤ c') (hc' : c' ≤ 9223372036854775807) : Rd w k B (some ⟨b, o + m, none⟩) (n - m) c' (l.drop m) :=
  ⟨by rw [List.length_drop, h.len], hc, hc', h.lt.drop m, fun hn => by
    obtain ⟨b', o', e, hb, hcell⟩ := h.at_ (by omega)
    rw [hA] at e
    injection e with e
    injection e with e1 e2 _
    subst e1 e2
    refine ⟨b, o + m, rfl, hb, fun j hj => ?_⟩
    rw [Nat.add_assoc, hcell _ (by omega)]
    simp only [List.getD_eq_getElem?_getD, List.getElem?_drop]⟩

variable {g : Nat} {T : TypeId} {off : Nat} {pre post : List Value}

theorem Row.gl (h : Row w g T k off pre l post) : g < w.heap.size := by
  rcases Nat.lt_or_ge g w.heap.size with hlt | hge
  · exact hlt
  · have := h.blk; rw [Array.getElem?_eq_none hge] at this; cases this
theorem Row.cell (h : Row w g T k off pre l post) {i : Nat} (hi : i < l.length) : w.cell? ⟨g, off + i, none⟩ = some (.int k ((l.getD i 0 : Nat) : Int)) := by
  rw [cell_of_row w g (off + i) _ T (0, 0) h.blk, ← h.off]
  have e : ∀ r : List Value, (pre ++ (iv k l ++ r))[pre.length + i]? = some (.int k ((l.getD i 0 : Nat) : Int)) := fun r => by
    rw [List.getElem?_append_right (by omega), Nat.add_sub_cancel_left, List.getElem?_append_left (by rw [iv_length]; exact hi), iv_get k l i hi]
  rw [List.append_assoc]
  simpa using e post
theorem Row.frozen (h : Row w g T k off pre l post) (i : Nat) : w.frozen? ⟨g, i, none⟩ = false := by
  have := h.blk
  simp [World.frozen?, this]
theorem Row.drew (h : Row w g T k off pre l post) : Row w.drew g T k off pre l post := ⟨h.blk, h.off⟩
theorem Row.set (h : Row w g T k off pre l post) {i : Nat} (hi : i < l.length) (y : Nat) : Row (w.setCell ⟨g, off + i, none⟩ (.int k (y : Int))) g T k off pre (l.set i y) post := by
  refine ⟨?_, h.off⟩
  have hb := h.blk
  have e : (pre ++ iv k (l.set i y) ++ post) = (pre ++ iv k l ++ post).set (off + i) (.int k (y : Int)) := by
    rw [← h.off, List.append_assoc, List.append_assoc, List.set_append_right _ _ (by omega), Nat.add_sub_cancel_left, List.set_append_left _ _ (by rw [iv_length]; exact hi), iv_set]
  rw [e]
  simp [World.setCell, Array.getElem?_modify, hb]
theorem Row.cell0 (h : Row w g T k 0 [] l post) {i : Nat} (hi : i < l.length) : w.cell? ⟨g, i, none⟩ = some (.int k ((l.getD i 0 : Nat) : Int)) := by
  have := h.cell hi
  rwa [Nat.zero_add] at this
theorem Row.set0 (h : Row w g T k 0 [] l post) {i : Nat} (hi : i < l.length) (y : Nat) : Row (w.setCell ⟨g, i, none⟩ (.int k (y : Int))) g T k 0 [] (l.set i y) post := by
  have := h.set hi y
  rwa [Nat.zero_add] at this
theorem Row.grown {g' : Nat} (h : Row w g T k off pre l post) (hg : w.grownBy w' (some g')) (hne : g ≠ g') : Row w' g T k off pre l post :=
  ⟨(hg.block g h.gl (by intro e; injection e with e; exact hne e)).trans h.blk, h.off⟩
theorem Row.grownNone (h : Row w g T k off pre l post) (hg : w.grownBy w' none) : Row w' g T k off pre l post :=
  ⟨(hg.block g h.gl (by intro e; cases e)).trans h.blk, h.off⟩
theorem Row.below {b0 : Nat} (h : Row w g T k off pre l post) (hb : Below b0 w w') (hg : g < b0) : Row w' g T k off pre l post :=
  ⟨(hb.block g hg).trans h.blk, h.off⟩
theorem Row.alloc (h : Row w g T k off pre l post) (o : Obj) : Row (w.alloc o) g T k off pre l post := h.grownNone (World.grownBy_alloc w o none)
theorem Row.rd (h : Row w g T k off pre l post) (hl : Lt B l) {c : Nat} (hc : l.length ≤ c) (hc' : c ≤ 9223372036854775807) : Rd w k B (some ⟨g, off, none⟩) l.length c l :=
  ⟨rfl, hc, hc', hl, fun _ => ⟨g, off, rfl, h.gl, fun _ hj => h.cell hj⟩⟩
theorem Row.rd' (h : Row w g T k off pre l post) (hl : Lt B l) {n c : Nat} (hn : l.length = n) (hc : n ≤ c) (hc' : c ≤ 9223372036854775807) : Rd w k B (some ⟨g, off, none⟩) n c l := by
  subst hn; exact h.rd hl hc hc'
/-- A part of the row, as a row of its own. -/
theorem Row.part (h : Row w g T k off pre l post) {i m : Nat} (hi : i + m ≤ l.length) :
    Row w g T k (off + i) (pre ++ iv k (l.take i)) ((l.drop i).take m) (iv k (l.drop (i + m)) ++ post) := by
  refine ⟨?_, by rw [List.length_append, iv_length, List.length_take, h.off]; omega⟩
  rw [h.blk]
  have e : l = l.take i ++ ((l.drop i).take m ++ l.drop (i + m)) := by
    rw [← List.drop_drop, List.take_append_drop, List.take_append_drop]
  conv => lhs; rw [e]
  simp only [iv_append, List.append_assoc]
/-- .. and back. -/
theorem Row.whole {i m : Nat} {l1 l2 l3 : List Nat} (h : Row w g T k (off + i) (pre ++ iv k l1) l2 (iv k l3 ++ post)) (hoff : pre.length = off) (_hi : l1.length = i) (_hm : l2.length = m) :
    Row w g T k off pre (l1 ++ l2 ++ l3) post := by
  refine ⟨?_, hoff⟩
  rw [h.blk]
  simp only [iv_append, List.append_assoc]
theorem Row.tail (h : Row w g T k off pre l post) (i : Nat) (hi : i ≤ l.length) : Row w g T k (off + i) (pre ++ iv k (l.take i)) (l.drop i) post := by
  refine ⟨?_, by rw [List.length_append, iv_length, List.length_take, h.off]; omega⟩
  have e : iv k l = iv k (l.take i) ++ iv k (l.drop i) := by rw [← iv_append, List.take_append_drop]
  rw [h.blk, e]
  simp only [List.append_assoc]
theorem Row.untail {i : Nat} {l1 l2 : List Nat} (h : Row w g T k (off + i) (pre ++ iv k l1) l2 post) (hoff : pre.length = off) : Row w g T k off pre (l1 ++ l2) post := by
  refine ⟨?_, hoff⟩
  rw [h.blk, iv_append]
  simp only [List.append_assoc]
theorem Row.tail0 (h : Row w g T k 0 [] l post) (i : Nat) (hi : i ≤ l.length) : Row w g T k i (iv k (l.take i)) (l.drop i) post := by
  have := h.tail i hi
  rwa [Nat.zero_add, List.nil_append] at this
theorem Row.untail0 {i : Nat} {l1 l2 : List Nat} (h : Row w g T k i (iv k l1) l2 post) : Row w g T k 0 [] (l1 ++ l2) post := by
  refine Row.untail (i := i) (off := 0) (pre := []) ?_ rfl
  rw [Nat.zero_add, List.nil_append]
  exact h
theorem Row.mid0 (h : Row w g T k 0 [] l []) (i n : Nat) (hi : i + n ≤ l.length) : Row w g T k i (iv k (l.take i)) ((l.drop i).take n) (iv k (l.drop (i + n))) := by
  refine ⟨?_, by rw [iv_length, List.length_take]; omega⟩
  rw [h.blk, List.nil_append, List.append_nil, ← iv_append, ← iv_append, List.append_assoc, ← List.drop_drop, List.take_append_drop, List.take_append_drop]
theorem Row.unmid0 {i n : Nat} {l1 l2 l3 : List Nat} (h : Row w g T k i (iv k l1) l2 (iv k l3)) (_hn : l2.length = n) : Row w g T k 0 [] (l1 ++ l2 ++ l3) [] := by
  refine ⟨?_, rfl⟩
  rw [h.blk, List.nil_append, List.append_nil, iv_append, iv_append]
theorem Row.of_made {base : Nat} {cap : Nat} (h : w.ownsRow base T 1 (.slice (some ⟨g, 0, none⟩) cap cap) cap (madeCells (Value.cells (.int k 0)) (cap * 1)).toList) : Row w g T k 0 [] (List.replicate cap 0) [] := by
  obtain ⟨hl, h⟩ := h
  rcases h with ⟨h, _⟩ | ⟨g', cap', cur, hv, _, hb, _, _, hs, ht⟩
  · cases h
  · injection hv with h1 _ h3
    injection h1 with h1
    injection h1 with h1
    subst h1 h3
    refine ⟨?_, rfl⟩
    rw [hb]
    have e : cur.toList = (madeCells (Value.cells (.int k 0)) (cap * 1)).toList := by
      rw [← ht, List.take_of_length_le (by simp; omega)]
    have e2 : (madeCells (Value.cells (.int k 0)) (cap * 1)).toList = List.replicate cap (Value.int k 0) := by
      have := toList_madeCells_one (Value.int k 0) (cap * 1)
      rw [Nat.mul_one] at this ⊢
      exact this
    have e3 : cur = (([] : List Value) ++ iv k (List.replicate cap 0) ++ []).toArray := by
      apply Array.toList_inj.1
      rw [e, e2, iv_replicate]
      simp
    rw [← e3]
theorem Row.of_own {base : Nat} {v : Value} (h : w.ownsRow base T 1 v n (iv k l)) (hn : n ≠ 0) : ∃ g cap post, v = .slice (some ⟨g, 0, none⟩) n cap ∧ base ≤ g ∧ n ≤ cap ∧ cap ≤ maxLen ∧ Row w g T k 0 [] l post := by
  obtain ⟨hl, h⟩ := h
  rcases h with ⟨_, h⟩ | ⟨g', cap', cur, hv, hb0, hb, hc, hm, hs, ht⟩
  · exact absurd h hn
  · refine ⟨g', cap', cur.toList.drop (n * 1), hv, hb0, hc, hm, ?_, rfl⟩
    rw [hb, ← ht, List.nil_append, List.take_append_drop]
end

theorem grownBy_trans {a b c : World} {row : Option Nat} (h : a.grownBy b row) (h' : b.grownBy c row) : a.grownBy c row :=
  ⟨h'.os.trans h.os, h'.tape.trans h.tape, h'.output.trans h.output, Nat.le_trans h.size h'.size, fun k hk hne => (h'.block k (Nat.lt_of_lt_of_le hk h.size) hne).trans (h.block k hk hne)⟩
theorem grownBy_set (w : World) (g i : Nat) (u : Value) : w.grownBy (w.setCell ⟨g, i, none⟩ u) (some g) :=
  ⟨rfl, rfl, rfl, by simp [World.setCell], fun k _ hne => Below.heap_setCell w _ u k (by intro e; exact hne (by rw [e]))⟩
theorem grownBy_drew {w w' : World} {row : Option Nat} (h : w.grownBy w' row) : w.grownBy w'.drew row := ⟨h.os, h.tape, h.output, h.size, h.block⟩
theorem grownBy_drewN {w w' : World} {row : Option Nat} (h : w.grownBy w' row) (m : Nat) : w.grownBy (w'.drewN m) row := ⟨h.os, h.tape, h.output, h.size, h.block⟩
theorem grownBy_none {w w' : World} (h : w.grownBy w' none) (row : Option Nat) : w.grownBy w' row := ⟨h.os, h.tape, h.output, h.size, fun k hk _ => h.block k hk (by intro e; cases e)⟩
theorem grownBy_below {w w' : World} (h : Below w.heap.size w w') (row : Option Nat) : w.grownBy w' row := ⟨h.os, h.tape, h.output, h.size, fun k hk _ => h.block k hk⟩
theorem below_none {w w' : World} (h : w.grownBy w' none) : Below w.heap.size w w' := (Below.refl _ _).grown h (Nat.le_refl _) (fun _ e => by cases e)
theorem below_drewN {b : Nat} {w w' : World} (h : Below b w w') (m : Nat) : Below b w (w'.drewN m) := ⟨h.os, h.tape, h.output, h.size, h.block⟩

theorem ret_eq {v u : Value} (h : v = u) : Ending.returned v = .returned u := by rw [h]
end Go.Proofs.YtdklekiknhhfdaaDoor
