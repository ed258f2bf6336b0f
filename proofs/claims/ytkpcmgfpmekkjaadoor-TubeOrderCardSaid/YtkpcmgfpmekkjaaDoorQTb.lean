/-
  Contract of arith's corners, whatever is asked of each two ends, at this translation. Condition: the slices read as limbs, the table of math/bits reads as its text lays it.
-/
import Derived.Test.YtkpcmgfpmekkjaaDoorQLe
import Derived.Test.YtkpcmgfpmekkjaaDoorQLb
import Derived.Test.YtkpcmgfpmekkjaaDoorQIi
import Derived.Test.YtkpcmgfpmekkjaaDoorQRj
import Derived.Test.YtkpcmgfpmekkjaaDoorQIv
namespace Go.Proofs.YtkpcmgfpmekkjaaDoor
open Go.RowKit

section
variable {w w' : World} {row : Option Nat}
theorem grown_below {b0 : Nat} {w0 : World} (hg : w.grownBy w' row) (h : Below b0 w0 w) (hr : ∀ k, row = some k → b0 ≤ k) (hs : b0 ≤ w.heap.size) : Below b0 w0 w' := h.grown hg hs hr
end
theorem QRow.lt {w : World} {base : Nat} {v : Value} {L : List Rw} (h : QRow w base v L) : ∀ k, v.ownBlock = some k → base ≤ k ∧ k < w.heap.size := by
  obtain ⟨xs, h1, _⟩ := h
  exact h1.lt

end Go.Proofs.YtkpcmgfpmekkjaaDoor
namespace Go.Proofs.YtkpcmgfpmekkjaaDoor
open Go.RowKit

theorem len_at {w : World} {A : Option Addr} {n c : Nat} {l : List Nat} (h : Rd w .u64 Go.Proofs.YtkpcmgfpmekkjaaDoor.W A n c l) (hl : l.length ≤ 10000000000000) : n ≤ 10000000000000 := by rw [← h.len]; exact hl

end Go.Proofs.YtkpcmgfpmekkjaaDoor
namespace Go.Proofs.YtkpcmgfpmekkjaaDoor
open Go.RowKit

theorem cell_next {w X w2 : World} (b : Below X.heap.size X w2) (e : X.heap = w.heap) {p : Addr} {v : Value} (h : w.cell? p = some v) : w2.cell? p = some v := by
  have h1 : X.cell? p = some v := by rw [← h]; unfold World.cell?; rw [e]
  exact (b.cell (World.block_lt_of_cell? X _ h1)).trans h1
/-- a block of the call's own, cell for cell -/
structure Blk (w : World) (g : Nat) (cs : Array Value) (T : TypeId) : Prop where
  blk : w.heap[g]? = some (.cells cs T (0, 0))
section
variable {w w' : World} {g : Nat} {cs : Array Value} {T : TypeId}
theorem Blk.gl (h : Blk w g cs T) : g < w.heap.size := by
  rcases Nat.lt_or_ge g w.heap.size with hlt | hge
  · exact hlt
  · have := h.blk; rw [Array.getElem?_eq_none hge] at this; cases this
theorem Blk.at (h : Blk w g cs T) (i : Nat) {v : Value} (hv : cs[i]? = some v := by rfl) : w.cell? ⟨g, i, none⟩ = some v := (cell_of_row w g i _ T (0, 0) h.blk).trans hv
theorem Blk.frozen (h : Blk w g cs T) (i : Nat) : w.frozen? ⟨g, i, none⟩ = false := by
  have := h.blk
  simp [World.frozen?, this]
theorem Blk.next {X w2 : World} (h : Blk w g cs T) (b : Below X.heap.size X w2) (he : X.heap = w.heap) : Blk w2 g cs T := ⟨by
  have h1 : X.heap[g]? = some (.cells cs T (0, 0)) := by rw [he]; exact h.blk
  exact (b.block g (Array.getElem?_eq_some_iff.1 h1).1).trans h1⟩
theorem Blk.new (w : World) (cs : Array Value) (T : TypeId) : Blk (w.alloc (.cells cs T)) w.heap.size cs T := ⟨heap_alloc_new w _⟩
end
instance {w w2 : World} {g : Nat} {cs : Array Value} {T : TypeId} : Moves w w2 (Blk w g cs T) (Blk w2 g cs T) := ⟨fun _ b e h => h.next b e⟩
/-- a line that lies in nine cells -/
def LnAt (w : World) (g o : Nat) (l : Ln) : Prop := ∃ A1 n1 c1 A2 n2 c2, (w.cell? ⟨g, o, none⟩ = some (.int .i64 l.op) ∧ w.cell? ⟨g, o + 1, none⟩ = some (.int .i64 l.a) ∧ w.cell? ⟨g, o + 2, none⟩ = some (.int .i64 l.b) ∧ w.cell? ⟨g, o + 3, none⟩ = some (.bool l.k.lo.s) ∧ w.cell? ⟨g, o + 4, none⟩ = some (.slice A1 n1 c1) ∧ w.cell? ⟨g, o + 5, none⟩ = some (.int .i64 l.k.lo.e) ∧ w.cell? ⟨g, o + 6, none⟩ = some (.bool l.k.hi.s) ∧ w.cell? ⟨g, o + 7, none⟩ = some (.slice A2 n2 c2) ∧ w.cell? ⟨g, o + 8, none⟩ = some (.int .i64 l.k.hi.e)) ∧ Rd w .u64 Go.Proofs.YtkpcmgfpmekkjaaDoor.W A1 n1 c1 l.k.lo.l ∧ Rd w .u64 Go.Proofs.YtkpcmgfpmekkjaaDoor.W A2 n2 c2 l.k.hi.l
theorem LnAt.next {w X w2 : World} {g o : Nat} {l : Ln} (h : LnAt w g o l) (b : Below X.heap.size X w2) (e : X.heap = w.heap) : LnAt w2 g o l := by
  obtain ⟨A1, n1, c1, A2, n2, c2, ⟨h0, h1, h2, h3, h4, h5, h6, h7, h8⟩, r1, r2⟩ := h
  exact ⟨A1, n1, c1, A2, n2, c2, ⟨cell_next b e h0, cell_next b e h1, cell_next b e h2, cell_next b e h3, cell_next b e h4, cell_next b e h5, cell_next b e h6, cell_next b e h7, cell_next b e h8⟩, r1.next b e, r2.next b e⟩
instance {w w2 : World} {g o : Nat} {l : Ln} : Moves w w2 (LnAt w g o l) (LnAt w2 g o l) := ⟨fun _ b e h => h.next b e⟩
/-- a slice whose elements read as lines -/
structure RdL (w : World) (A : Option Addr) (n c : Nat) (L : Nat → Ln) : Prop where
  cap : n ≤ c
  max : c ≤ 9223372036854775807
  at_ : n ≠ 0 → ∃ b o, A = some ⟨b, o, none⟩ ∧ ∀ i, i < n → LnAt w b (o + i * 9) (L i)
theorem RdL.next {w X w2 : World} {A : Option Addr} {n c : Nat} {L : Nat → Ln} (h : RdL w A n c L) (b : Below X.heap.size X w2) (e : X.heap = w.heap) : RdL w2 A n c L :=
  ⟨h.cap, h.max, fun hn => by
    obtain ⟨g, o, ha, hc⟩ := h.at_ hn
    exact ⟨g, o, ha, fun i hi => (hc i hi).next b e⟩⟩
instance {w w2 : World} {A : Option Addr} {n c : Nat} {L : Nat → Ln} : Moves w w2 (RdL w A n c L) (RdL w2 A n c L) := ⟨fun _ b e h => h.next b e⟩
/-- a slice whose elements are numbers -/
structure RdZ (w : World) (A : Option Addr) (n c : Nat) (O : Nat → Int) : Prop where
  cap : n ≤ c
  max : c ≤ 9223372036854775807
  at_ : n ≠ 0 → ∃ b o, A = some ⟨b, o, none⟩ ∧ ∀ i, i < n → w.cell? ⟨b, o + i, none⟩ = some (.int .i64 (O i))
theorem RdZ.next {w X w2 : World} {A : Option Addr} {n c : Nat} {O : Nat → Int} (h : RdZ w A n c O) (b : Below X.heap.size X w2) (e : X.heap = w.heap) : RdZ w2 A n c O :=
  ⟨h.cap, h.max, fun hn => by
    obtain ⟨g, o, ha, hc⟩ := h.at_ hn
    exact ⟨g, o, ha, fun i hi => cell_next b e (hc i hi)⟩⟩
instance {w w2 : World} {A : Option Addr} {n c : Nat} {O : Nat → Int} : Moves w w2 (RdZ w A n c O) (RdZ w2 A n c O) := ⟨fun _ b e h => h.next b e⟩
theorem RdS.next {w Y w2 : World} {A : Option Addr} {n c : Nat} {X : Nat → Iv} (h : RdS w A n c X) (b : Below Y.heap.size Y w2) (e : Y.heap = w.heap) : RdS w2 A n c X :=
  ⟨h.cap, h.max, fun hn => by
    obtain ⟨g, o, ha, hc⟩ := h.at_ hn
    exact ⟨g, o, ha, hc.next b e⟩⟩
instance {w w2 : World} {A : Option Addr} {n c : Nat} {X : Nat → Iv} : Moves w w2 (RdS w A n c X) (RdS w2 A n c X) := ⟨fun _ b e h => h.next b e⟩
/-- an environment's value and what its slices read as -/
structure RdE (w : World) (E : En) (A1 : Option Addr) (n1 c1 : Nat) (A2 : Option Addr) (n2 c2 : Nat) (AX : Option Addr) (cX : Nat) (AU : Option Addr) (cU : Nat) (AP : Option Addr) (cP : Nat) : Prop where
  lo : Rd w .u64 Go.Proofs.YtkpcmgfpmekkjaaDoor.W A1 n1 c1 E.t.lo.l
  hi : Rd w .u64 Go.Proofs.YtkpcmgfpmekkjaaDoor.W A2 n2 c2 E.t.hi.l
  X : RdS w AX E.nx cX E.X
  U : RdS w AU E.nu cU E.U
  P : RdS w AP E.np cP E.P
instance {w w2 : World} {E : En} {A1 : Option Addr} {n1 c1 : Nat} {A2 : Option Addr} {n2 c2 : Nat} {AX : Option Addr} {cX : Nat} {AU : Option Addr} {cU : Nat} {AP : Option Addr} {cP : Nat} : Moves w w2 (RdE w E A1 n1 c1 A2 n2 c2 AX cX AU cU AP cP) (RdE w2 E A1 n1 c1 A2 n2 c2 AX cX AU cU AP cP) := ⟨fun _ b e h => ⟨h.lo.next b e, h.hi.next b e, h.X.next b e, h.U.next b e, h.P.next b e⟩⟩

/-- the cells of some intervals, one behind the other -/
def Celi (w : World) : List Iv → List Value → Prop
  | [], xs => xs = []
  | x :: L, xs => ∃ A n c B m d ys, xs = .bool x.lo.s :: .slice A n c :: .int .i64 x.lo.e :: .bool x.hi.s :: .slice B m d :: .int .i64 x.hi.e :: ys ∧ Rd w .u64 Go.Proofs.YtkpcmgfpmekkjaaDoor.W A n c x.lo.l ∧ Rd w .u64 Go.Proofs.YtkpcmgfpmekkjaaDoor.W B m d x.hi.l ∧ Celi w L ys
theorem Celi.mv {w w' : World} (f : ∀ A n c l, Rd w .u64 Go.Proofs.YtkpcmgfpmekkjaaDoor.W A n c l → Rd w' .u64 Go.Proofs.YtkpcmgfpmekkjaaDoor.W A n c l) : ∀ {L : List Iv} {xs : List Value}, Celi w L xs → Celi w' L xs
  | [], _, h => h
  | _ :: _, _, ⟨A, n, c, B, m, d, ys, h1, h2, h3, h4⟩ => ⟨A, n, c, B, m, d, ys, h1, f _ _ _ _ h2, f _ _ _ _ h3, h4.mv f⟩
theorem Celi.snoc {w : World} {x : Iv} {A : Option Addr} {n c : Nat} {B : Option Addr} {m d : Nat} (hr : Rd w .u64 Go.Proofs.YtkpcmgfpmekkjaaDoor.W A n c x.lo.l) (hs : Rd w .u64 Go.Proofs.YtkpcmgfpmekkjaaDoor.W B m d x.hi.l) : ∀ {L : List Iv} {xs : List Value}, Celi w L xs → Celi w (L ++ [x]) (xs ++ [.bool x.lo.s, .slice A n c, .int .i64 x.lo.e, .bool x.hi.s, .slice B m d, .int .i64 x.hi.e])
  | [], _, h => by
    have h : _ = [] := h
    subst h
    exact ⟨A, n, c, B, m, d, [], rfl, hr, hs, rfl⟩
  | _ :: _, _, ⟨A', n', c', B', m', d', ys, h1, h2, h3, h4⟩ => ⟨A', n', c', B', m', d', ys ++ [.bool x.lo.s, .slice A n c, .int .i64 x.lo.e, .bool x.hi.s, .slice B m d, .int .i64 x.hi.e], by rw [h1]; rfl, h2, h3, h4.snoc hr hs⟩
theorem Celi.get {w : World} : ∀ {L : List Iv} {xs : List Value}, Celi w L xs → ∀ i, i < L.length → ∃ A n c B m d, xs[i * 6]? = some (.bool (L.getD i Iv.zero).lo.s) ∧ xs[i * 6 + 1]? = some (.slice A n c) ∧ xs[i * 6 + 2]? = some (.int .i64 (L.getD i Iv.zero).lo.e) ∧ xs[i * 6 + 3]? = some (.bool (L.getD i Iv.zero).hi.s) ∧ xs[i * 6 + 4]? = some (.slice B m d) ∧ xs[i * 6 + 5]? = some (.int .i64 (L.getD i Iv.zero).hi.e) ∧ Rd w .u64 Go.Proofs.YtkpcmgfpmekkjaaDoor.W A n c (L.getD i Iv.zero).lo.l ∧ Rd w .u64 Go.Proofs.YtkpcmgfpmekkjaaDoor.W B m d (L.getD i Iv.zero).hi.l
  | [], _, _, i, hi => absurd hi (Nat.not_lt_zero _)
  | x :: L, _, ⟨A, n, c, B, m, d, ys, h1, h2, h3, h4⟩, 0, _ => by subst h1; exact ⟨A, n, c, B, m, d, rfl, rfl, rfl, rfl, rfl, rfl, h2, h3⟩
  | x :: L, _, ⟨A, n, c, B, m, d, ys, h1, h2, h3, h4⟩, i + 1, hi => by
    subst h1
    obtain ⟨A', n', c', B', m', d', g1, g2, g3, g4, g5, g6, g7, g8⟩ := h4.get i (by simpa using hi)
    have e0 : (i + 1) * 6 = i * 6 + 6 := by omega
    refine ⟨A', n', c', B', m', d', ?_, ?_, ?_, ?_, ?_, ?_, ?_, ?_⟩
    · rw [e0]; simpa using g1
    · rw [show (i + 1) * 6 + 1 = (i * 6 + 1) + 6 by omega]; simpa using g2
    · rw [show (i + 1) * 6 + 2 = (i * 6 + 2) + 6 by omega]; simpa using g3
    · rw [show (i + 1) * 6 + 3 = (i * 6 + 3) + 6 by omega]; simpa using g4
    · rw [show (i + 1) * 6 + 4 = (i * 6 + 4) + 6 by omega]; simpa using g5
    · rw [show (i + 1) * 6 + 5 = (i * 6 + 5) + 6 by omega]; simpa using g6
    · simpa using g7
    · simpa using g8
/-- a row of intervals of the call's own -/
def IRow (w : World) (base : Nat) (v : Value) (L : List Iv) : Prop := ∃ xs, RowN w base 35 6 v L.length xs ∧ Celi w L xs
theorem IRow.next {w X w2 : World} {base : Nat} {v : Value} {L : List Iv} (h : IRow w base v L) (b : Below X.heap.size X w2) (e : X.heap = w.heap) : IRow w2 base v L := by
  obtain ⟨xs, h1, h2⟩ := h
  exact ⟨xs, h1.next b e, h2.mv fun _ _ _ _ hr => hr.next b e⟩
instance {w w2 : World} {base : Nat} {v : Value} {L : List Iv} : Moves w w2 (IRow w base v L) (IRow w2 base v L) := ⟨fun _ b e h => h.next b e⟩
theorem irow_nil (w : World) (base : Nat) : IRow w base (.slice none 0 0) [] := ⟨[], rown_nil .., rfl⟩
theorem IRow.lt {w : World} {base : Nat} {v : Value} {L : List Iv} (h : IRow w base v L) : ∀ k, v.ownBlock = some k → base ≤ k ∧ k < w.heap.size := by
  obtain ⟨xs, h1, _⟩ := h
  exact h1.lt
theorem IRow.no {w : World} {base : Nat} {v : Value} {L : List Iv} (h : IRow w base v L) : ∀ k, v.ownBlock = some k → ∀ i x : Nat, w.cell? ⟨k, i, none⟩ ≠ some (.int .u64 (x : Int)) := by
  obtain ⟨xs, h1, _⟩ := h
  exact h1.2
/-- as a slice that reads as intervals -/
theorem IRow.form {w : World} {base : Nat} {v : Value} {L : List Iv} (h : IRow w base v L) : ∃ A c, v = .slice A L.length c ∧ RdS w A L.length c (fun i => L.getD i Iv.zero) ∧ (L ≠ [] → ∃ g, A = some ⟨g, 0, none⟩ ∧ v.ownBlock = some g ∧ g < w.heap.size ∧ Ivs w g 0 L.length (fun i => L.getD i Iv.zero)) := by
  obtain ⟨xs, h1, h2⟩ := h
  have hlt := h1.lt
  rcases h1.1.2 with ⟨hv, h3⟩ | ⟨g, cap, cur, hv, hb, hg, hc, hm, _, ht⟩
  · refine ⟨none, 0, by rw [hv, h3], ⟨by omega, by omega, fun hn => absurd h3 hn⟩, fun h0 => absurd (List.eq_nil_of_length_eq_zero h3) h0⟩
  · have hcell := h1.1.cells (g := g) (by rw [hv]; rfl)
    have key : ∀ j u, xs[j]? = some u → w.cell? ⟨g, j, none⟩ = some u := fun j u hu => by
      have := hcell j u hu
      rwa [show (⟨g, 0, none⟩ : Addr).add j = ⟨g, j, none⟩ by unfold Addr.add; split <;> simp_all] at this
    have hI : Ivs w g 0 L.length (fun i => L.getD i Iv.zero) := fun i hi => by
      obtain ⟨A, n, c, B, m, d, g1, g2, g3, g4, g5, g6, g7, g8⟩ := h2.get i hi
      rw [show 0 + i * 6 = i * 6 by omega]
      exact ⟨A, n, c, B, m, d, ⟨key _ _ g1, key _ _ g2, key _ _ g3, key _ _ g4, key _ _ g5, key _ _ g6⟩, g7, g8⟩
    exact ⟨some ⟨g, 0, none⟩, cap, hv, ⟨hc, by unfold maxLen at hm; omega, fun _ => ⟨g, 0, rfl, hI⟩⟩, fun _ => ⟨g, rfl, by rw [hv]; rfl, (hlt g (by rw [hv]; rfl)).2, hI⟩⟩
theorem infoIv : (Tryd.prog.info? 35).map (fun i => (i.zero, i.size, i.bytes)) = some (some (.agg #[.bool false, .slice none 0 0, .int .i64 0, .bool false, .slice none 0 0, .int .i64 0]), 6, 80) := by kernel_rfl
end Go.Proofs.YtkpcmgfpmekkjaaDoor
