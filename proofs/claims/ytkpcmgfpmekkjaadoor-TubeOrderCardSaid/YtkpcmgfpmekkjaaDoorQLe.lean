/-
  Rows of numbers that a call owns: how one more is appended; contracts of slices' MinFunc and MaxFunc over rows of numbers, of arith's least and greatest, at this translation. Condition: the slices read as limbs, the table of math/bits reads as its text lays it.
-/
import Derived.Test.YtkpcmgfpmekkjaaDoorQLb
import Derived.Test.YtkpcmgfpmekkjaaDoorQIi
import Derived.Test.YtkpcmgfpmekkjaaDoorQRj
import Derived.Maps.AppendAt
namespace Go.Proofs.YtkpcmgfpmekkjaaDoor
open Go.RowKit

/-- a row of the call's own, none of whose cells is a limb -/
def RowN (w : World) (base : Nat) (e : TypeId) (size : Nat) (v : Value) (n : Nat) (xs : List Value) : Prop :=
  w.ownsRow base e size v n xs ∧ ∀ g, v.ownBlock = some g → ∀ i x : Nat, w.cell? ⟨g, i, none⟩ ≠ some (.int .u64 (x : Int))
def NoL (u : Value) : Prop := ∀ x : Nat, u ≠ .int .u64 (x : Int)
theorem rown_nil (w : World) (base : Nat) (e : TypeId) (size : Nat) : RowN w base e size (.slice none 0 0) 0 [] := ⟨World.ownsRow_nil .., fun g h => by cases h⟩
theorem nol_at {cs : Array Value} (h : ∀ u ∈ cs, NoL u) (i x : Nat) : cs[i]? ≠ some (.int .u64 (x : Int)) := by
  intro h2
  obtain ⟨hi, h3⟩ := Array.getElem?_eq_some_iff.1 h2
  exact h _ (Array.getElem_mem hi) x h3
theorem nol_zero {z : Array Value} (n : Nat) (hz : ∀ u ∈ z, NoL u) : ∀ u ∈ Builtin.zeroCells z n, NoL u := by
  intro u hu
  unfold Builtin.zeroCells at hu
  rw [Array.mem_map] at hu
  obtain ⟨i, hi, rfl⟩ := hu
  rw [Array.mem_range] at hi
  have h0 : 0 < z.size := by rcases Nat.eq_zero_or_pos z.size with h | h; (rw [h] at hi; simp at hi); exact h
  have hlt := Nat.mod_lt i h0
  rw [getElem!_pos z (i % z.size) hlt]
  exact hz _ (Array.getElem_mem hlt)
theorem nol_mem {xs : List Value} {cs : Array Value} (h1 : ∀ u ∈ xs, NoL u) (h2 : ∀ u ∈ cs, NoL u) : ∀ u ∈ xs.toArray ++ cs, NoL u := by
  intro u hu
  rw [Array.mem_append] at hu
  rcases hu with hu | hu
  · exact h1 u (by simpa using hu)
  · exact h2 u hu
theorem RowN.mem {w : World} {base : Nat} {e : TypeId} {size : Nat} {v : Value} {n : Nat} {xs : List Value} (h : RowN w base e size v n xs) : ∀ u ∈ xs, NoL u := by
  intro u hu x hx
  subst hx
  rcases h.1.2 with ⟨_, h0⟩ | ⟨g, cap, cur, hv, hb, hg, _, _, _, ht⟩
  · have : xs = [] := List.eq_nil_of_length_eq_zero (by rw [h.1.1, h0, Nat.zero_mul])
    rw [this] at hu; cases hu
  · rw [← ht] at hu
    obtain ⟨i, hi, h2⟩ := List.getElem_of_mem (List.mem_of_mem_take hu)
    refine h.2 g (by rw [hv]; rfl) i x ?_
    rw [cell_of_row w g i cur e (0, 0) hg, Array.getElem?_eq_some_iff]
    exact ⟨by simpa using hi, by simpa using h2⟩
theorem RowN.lt {w : World} {base : Nat} {e : TypeId} {size : Nat} {v : Value} {n : Nat} {xs : List Value} (h : RowN w base e size v n xs) : ∀ k, v.ownBlock = some k → base ≤ k ∧ k < w.heap.size := h.1.lt
theorem RowN.next {w X w2 : World} {base : Nat} {e : TypeId} {size : Nat} {v : Value} {n : Nat} {xs : List Value} (h : RowN w base e size v n xs) (b : Below X.heap.size X w2) (he : X.heap = w.heap) : RowN w2 base e size v n xs := by
  have key : ∀ g, g < w.heap.size → w2.heap[g]? = w.heap[g]? := fun g hg => by
    rw [← he] at hg ⊢
    exact b.block g hg
  refine ⟨⟨h.1.1, ?_⟩, fun g hg i x => ?_⟩
  · rcases h.1.2 with h2 | ⟨g, cap, cur, hv, hb, hg, h3⟩
    · exact .inl h2
    · exact .inr ⟨g, cap, cur, hv, hb, (key g (Array.getElem?_eq_some_iff.1 hg).1).trans hg, h3⟩
  · have h2 := h.2 g hg i x
    have h3 := key g (h.lt g hg).2
    unfold World.cell? at h2 ⊢
    simpa [h3] using h2
/-- append of some -/
theorem run_append_n {w : World} {base : Nat} {t ty e : TypeId} {i : TypeInfo} {z : Value} {size bytes : Nat} (ht : Tryd.prog.underlying t = some (.slice e)) (hi : Tryd.prog.info? e = some i) (hz : i.zero = some z)
    (hsize : i.size = size) (hby : i.bytes = bytes) (hzs : z.cells.size = size) (hsz : 0 < size) (hzn : ∀ u ∈ z.cells, NoL u)
    {v : Value} {n : Nat} {xs : List Value} (hown : RowN w base e size v n xs)
    {a : Addr} {m c : Nat} {news : List Value} (hl : news.length = m * size) (hnews : ∀ j u, news[j]? = some u → w.cell? (a.add j) = some u) (h1 : ∀ u ∈ news, u.oneCell' = true) (hnn : ∀ u ∈ news, NoL u)
    (hm : 0 < m) (h63 : n + m ≤ maxLen) (hbytes : (n + m) * bytes ≤ 140737488355328) (hbase : base ≤ w.heap.size) :
    ∃ v' w', (Builtin.append_ #[t, t] ty #[v, .slice (some a) m c]).run Tryd.prog w = .ok v' w' ∧ RowN w' base e size v' (n + m) (xs ++ news) ∧ w.grownBy w' v.ownBlock ∧ (v'.ownBlock = v.ownBlock ∨ v'.ownBlock = some w.heap.size) := by
  obtain ⟨v', w', hr, h2, h3, _, h5⟩ := run_append_own_at w base t ty e i z size bytes ht hi hz hsize hby hzs hsz v n xs hown.1 a m c news hl hnews h1 h63 hbytes hbase
  refine ⟨v', w', hr, ⟨h2, ?_⟩, h3, h5⟩
  have hxn := hown.mem
  have hb := hbytes
  have h64 : n + m ≤ 9223372036854775807 := by unfold maxLen at h63; omega
  subst hsize
  subst hby
  have hsmall : (((n + m : Nat)) : Int) ≤ 9223372036854775807 := by omega
  rcases hown.1.2 with ⟨rfl, rfl⟩ | ⟨g, cap, cur, rfl, hbg, hg, hnc, hcm, hcs, htake⟩
  · have hr' := run_append_nil (P := Tryd.prog) w t ty e i z ht hi hz a m c news hl hnews hm (by omega) (by rw [Nat.zero_add] at hb; omega)
    rw [hr] at hr'
    injection hr' with e1 e2
    subst e1 e2
    intro g hg j x
    cases hg
    have := heap_alloc_new w.drew (.cells (news.toArray ++ Builtin.zeroCells z.cells (grownCap w m 0 e - m)) e)
    have e9 := cell_of_row _ _ j _ e (0, 0) this
    show World.cell? _ ⟨w.drew.heap.size, j, none⟩ ≠ _
    rw [e9]
    exact nol_at (nol_mem hnn (nol_zero _ hzn)) j x
  · have holds : ∀ j u, xs[j]? = some u → w.cell? ((⟨g, 0, none⟩ : Addr).add j) = some u := hown.1.cells (g := g) rfl
    by_cases hroom : n + m ≤ cap
    · have hfit : n * i.size + news.length ≤ cur.size := by rw [hl, hcs, ← Nat.add_mul]; exact Nat.mul_le_mul_right _ hroom
      have hr' := run_append_room (P := Tryd.prog) w t ty e i ht hi g n cap cur hg a m c news hl hnews h1 hroom hfit
      rw [hr] at hr'
      injection hr' with e1 e2
      subst e1 e2
      intro g' hg' j x
      cases hg'
      rw [cell_of_row _ _ j _ e (0, 0) (setRow_heap w g cur _ e _ hg)]
      have hc : ∀ u ∈ cur.toList, NoL u := fun u hu y hy => by
        subst hy
        obtain ⟨k, hk, h6⟩ := List.getElem_of_mem hu
        refine hown.2 g rfl k y ?_
        rw [cell_of_row w g k cur e (0, 0) hg, Array.getElem?_eq_some_iff]
        exact ⟨by simpa using hk, by simpa using h6⟩
      refine nol_at (fun u hu => ?_) j x
      rw [List.mem_toArray, List.mem_append, List.mem_append] at hu
      rcases hu with (hu | hu) | hu
      · exact hc u (List.mem_of_mem_take hu)
      · exact hnn u hu
      · exact hc u (List.mem_of_mem_drop hu)
    · have hr' := run_append_grow (P := Tryd.prog) w t ty e i z ht hi hz ⟨g, 0, none⟩ n cap xs hown.1.1 holds a m c news hl hnews (by omega) hsmall (growslice_fits (by omega) hbytes)
      rw [hr] at hr'
      injection hr' with e1 e2
      subst e1 e2
      intro g' hg' j x
      cases hg'
      have := heap_alloc_new w.drew (.cells (xs.toArray ++ news.toArray ++ Builtin.zeroCells z.cells (grownCap w (n + m) cap e - (n + m))) e)
      have e9 := cell_of_row _ _ j _ e (0, 0) this
      show World.cell? _ ⟨w.drew.heap.size, j, none⟩ ≠ _
      rw [e9]
      refine nol_at (fun u hu => ?_) j x
      rw [Array.mem_append, Array.mem_append] at hu
      rcases hu with (hu | hu) | hu
      · exact hxn u (by simpa using hu)
      · exact hnn u (by simpa using hu)
      · exact nol_zero _ hzn u hu

/-- the cells of some numbers, one behind the other -/
def Cels (w : World) : List Rw → List Value → Prop
  | [], xs => xs = []
  | a :: L, xs => ∃ A n c ys, xs = .bool a.s :: .slice A n c :: .int .i64 a.e :: ys ∧ Rd w .u64 Go.Proofs.YtkpcmgfpmekkjaaDoor.W A n c a.l ∧ Cels w L ys
theorem Cels.mv {w w' : World} (f : ∀ A n c l, Rd w .u64 Go.Proofs.YtkpcmgfpmekkjaaDoor.W A n c l → Rd w' .u64 Go.Proofs.YtkpcmgfpmekkjaaDoor.W A n c l) : ∀ {L : List Rw} {xs : List Value}, Cels w L xs → Cels w' L xs
  | [], _, h => h
  | _ :: _, _, ⟨A, n, c, ys, h1, h2, h3⟩ => ⟨A, n, c, ys, h1, f _ _ _ _ h2, h3.mv f⟩
theorem Cels.snoc {w : World} {a : Rw} {A : Option Addr} {n c : Nat} (hr : Rd w .u64 Go.Proofs.YtkpcmgfpmekkjaaDoor.W A n c a.l) : ∀ {L : List Rw} {xs : List Value}, Cels w L xs → Cels w (L ++ [a]) (xs ++ [.bool a.s, .slice A n c, .int .i64 a.e])
  | [], _, h => by
    have h : _ = [] := h
    subst h
    exact ⟨A, n, c, [], rfl, hr, rfl⟩
  | _ :: _, _, ⟨A', n', c', ys, h1, h2, h3⟩ => ⟨A', n', c', ys ++ [.bool a.s, .slice A n c, .int .i64 a.e], by rw [h1]; rfl, h2, h3.snoc hr⟩
theorem Cels.get {w : World} : ∀ {L : List Rw} {xs : List Value}, Cels w L xs → ∀ i, i < L.length → ∃ A n c, xs[i * 3]? = some (.bool (L.getD i Rw.zero).s) ∧ xs[i * 3 + 1]? = some (.slice A n c) ∧ xs[i * 3 + 2]? = some (.int .i64 (L.getD i Rw.zero).e) ∧ Rd w .u64 Go.Proofs.YtkpcmgfpmekkjaaDoor.W A n c (L.getD i Rw.zero).l
  | [], _, _, i, hi => absurd hi (Nat.not_lt_zero _)
  | a :: L, _, ⟨A, n, c, ys, h1, h2, h3⟩, 0, _ => by subst h1; exact ⟨A, n, c, rfl, rfl, rfl, h2⟩
  | a :: L, _, ⟨A, n, c, ys, h1, h2, h3⟩, i + 1, hi => by
    subst h1
    obtain ⟨A', n', c', g1, g2, g3, g4⟩ := h3.get i (by simpa using hi)
    have e0 : (i + 1) * 3 = i * 3 + 3 := by omega
    refine ⟨A', n', c', ?_, ?_, ?_, ?_⟩
    · rw [e0]; simpa using g1
    · rw [show (i + 1) * 3 + 1 = (i * 3 + 1) + 3 by omega]; simpa using g2
    · rw [show (i + 1) * 3 + 2 = (i * 3 + 2) + 3 by omega]; simpa using g3
    · simpa using g4
def QRow (w : World) (base : Nat) (v : Value) (L : List Rw) : Prop := ∃ xs, RowN w base 28 3 v L.length xs ∧ Cels w L xs
instance {w w2 : World} {base : Nat} {v : Value} {L : List Rw} : Moves w w2 (QRow w base v L) (QRow w2 base v L) := ⟨fun _ b e h => by
  obtain ⟨xs, h1, h2⟩ := h
  exact ⟨xs, h1.next b e, h2.mv fun _ _ _ _ hr => hr.next b e⟩⟩
/-- a number in a row -/
def QAt (w : World) (g o : Nat) (a : Rw) : Prop := ∃ A n c, (w.cell? ⟨g, o, none⟩ = some (.bool a.s) ∧ w.cell? ⟨g, o + 1, none⟩ = some (.slice A n c) ∧ w.cell? ⟨g, o + 2, none⟩ = some (.int .i64 a.e)) ∧ Rd w .u64 Go.Proofs.YtkpcmgfpmekkjaaDoor.W A n c a.l
def Qs (w : World) (g : Nat) (L : List Rw) : Prop := ∀ i, i < L.length → QAt w g (i * 3) (L.getD i Rw.zero)
theorem QAt.next {w X w2 : World} {g o : Nat} {a : Rw} (h : QAt w g o a) (b : Below X.heap.size X w2) (e : X.heap = w.heap) : QAt w2 g o a := by
  obtain ⟨A, n, c, ⟨h0, h1, h2⟩, r⟩ := h
  have key : ∀ (p : Addr) (v : Value), w.cell? p = some v → w2.cell? p = some v := fun p v h => by
    have h1 : X.cell? p = some v := by rw [← h]; unfold World.cell?; rw [e]
    exact (b.cell (World.block_lt_of_cell? X _ h1)).trans h1
  exact ⟨A, n, c, ⟨key _ _ h0, key _ _ h1, key _ _ h2⟩, r.next b e⟩
instance {w w2 : World} {g o : Nat} {a : Rw} : Moves w w2 (QAt w g o a) (QAt w2 g o a) := ⟨fun _ b e h => h.next b e⟩
theorem Qs.next {w X w2 : World} {g : Nat} {L : List Rw} (h : Qs w g L) (b : Below X.heap.size X w2) (e : X.heap = w.heap) : Qs w2 g L := fun i hi => (h i hi).next b e
instance {w w2 : World} {g : Nat} {L : List Rw} : Moves w w2 (Qs w g L) (Qs w2 g L) := ⟨fun _ b e h => h.next b e⟩
theorem QRow.form {w : World} {base : Nat} {v : Value} {L : List Rw} (h : QRow w base v L) (h0 : L ≠ []) : ∃ g cap, v = .slice (some ⟨g, 0, none⟩) L.length cap ∧ L.length ≤ cap ∧ cap ≤ 9223372036854775807 ∧ g < w.heap.size ∧ Qs w g L := by
  obtain ⟨xs, h1, h2⟩ := h
  have hlt := h1.lt
  rcases h1.1.2 with ⟨_, h3⟩ | ⟨g, cap, cur, hv, hb, hg, hc, hm, _, ht⟩
  · exact absurd (List.eq_nil_of_length_eq_zero h3) h0
  · have hcell := h1.1.cells (g := g) (by rw [hv]; rfl)
    have key : ∀ j u, xs[j]? = some u → w.cell? ⟨g, j, none⟩ = some u := fun j u hu => by
      have := hcell j u hu
      rwa [show (⟨g, 0, none⟩ : Addr).add j = ⟨g, j, none⟩ by unfold Addr.add; split <;> simp_all] at this
    refine ⟨g, cap, hv, hc, by unfold maxLen at hm; omega, (hlt g (by rw [hv]; rfl)).2, fun i hi => ?_⟩
    obtain ⟨A, n, c, g1, g2, g3, g4⟩ := h2.get i hi
    exact ⟨A, n, c, ⟨key _ _ g1, key _ _ g2, key _ _ g3⟩, g4⟩
theorem info_partsD {i : TypeId} {v : Value} {s b : Nat} (h : (Tryd.prog.info? i).map (fun i => (i.zero, i.size, i.bytes)) = some (some v, s, b)) : ∃ i0, Tryd.prog.info? i = some i0 ∧ i0.zero = some v ∧ i0.size = s ∧ i0.bytes = b := by
  cases hi : Tryd.prog.info? i with
  | none => rw [hi] at h; cases h
  | some i0 =>
    rw [hi] at h
    simp only [Option.map_some, Option.some.injEq, Prod.mk.injEq] at h
    exact ⟨i0, rfl, h.1, h.2.1, h.2.2⟩
end Go.Proofs.YtkpcmgfpmekkjaaDoor
