/-
 Contract of tape's value, by its operation, at this translation. Condition: the slices read as limbs, the table of math/bits reads as its text lays it.
-/
import Derived.Test.YtlpjlmophlikeaaGreatDoorPTd
import Derived.Test.YtlpjlmophlikeaaGreatDoorPLj
import Derived.Test.YtlpjlmophlikeaaGreatDoorPTa
set_option maxHeartbeats 8000000
set_option maxRecDepth 100000
namespace Go.Proofs.YtlpjlmophlikeaaGreatDoor
open Go.RowKit

theorem rds_lt {w : World} {A : Option Addr} {n c : Nat} {X : Nat → Iv} (h : RdS w A n c X) (hn : n ≠ 0) : ∀ g o, A = some ⟨g, o, none⟩ → g < w.heap.size := fun g o e => by
 obtain ⟨g', o', e', hI⟩ := h.at_ hn
 obtain ⟨_, _, _, _, _, _, ⟨r0, _⟩, _⟩ := hI 0 (by omega)
 rw [e] at e'
 injection e' with e'
 injection e' with e1
 subst e1
 exact World.block_lt_of_cell? _ _ r0


theorem tval_start {w : World} {E : En} {V : Nat → Iv} {k : Iv} {A1 : Option Addr} {n1 c1 : Nat} {A2 : Option Addr} {n2 c2 : Nat} {A3 : Option Addr} {n3 c3 : Nat} {A4 : Option Addr} {n4 c4 : Nat} {AV : Option Addr} {nV cV : Nat} {AX : Option Addr} {cX : Nat} {AU : Option Addr} {cU : Nat} {AP : Option Addr} {cP : Nat} {op a b : Int} (hT : Tab w) (h1 : Rd w .u64 Go.Proofs.YtlpjlmophlikeaaGreatDoor.W A1 n1 c1 k.lo.l) (h2 : Rd w .u64 Go.Proofs.YtlpjlmophlikeaaGreatDoor.W A2 n2 c2 k.hi.l) (hV : RdS w AV nV cV V) (hE : RdE w E A3 n3 c3 A4 n4 c4 AX cX AU cU AP cP) :
  (fun wx : World => Below w.heap.size w wx ∧ Ibx wx (w.heap.size + 2) false none 0 0 0 false none 0 0 0 ∧ Tab wx ∧ Rd wx .u64 Go.Proofs.YtlpjlmophlikeaaGreatDoor.W A1 n1 c1 k.lo.l ∧ Rd wx .u64 Go.Proofs.YtlpjlmophlikeaaGreatDoor.W A2 n2 c2 k.hi.l ∧ RdS wx AV nV cV V ∧ RdE wx E A3 n3 c3 A4 n4 c4 AX cX AU cU AP cP ∧ wx.cell? ⟨w.heap.size, 0, none⟩ = some (.int .i64 op) ∧ wx.cell? ⟨w.heap.size, 1, none⟩ = some (.int .i64 a) ∧ wx.cell? ⟨w.heap.size, 2, none⟩ = some (.int .i64 b) ∧ wx.cell? ⟨w.heap.size, 3, none⟩ = some (.bool k.lo.s) ∧ wx.cell? ⟨w.heap.size, 4, none⟩ = some (.slice A1 n1 c1) ∧ wx.cell? ⟨w.heap.size, 5, none⟩ = some (.int .i64 k.lo.e) ∧ wx.cell? ⟨w.heap.size, 6, none⟩ = some (.bool k.hi.s) ∧ wx.cell? ⟨w.heap.size, 7, none⟩ = some (.slice A2 n2 c2) ∧ wx.cell? ⟨w.heap.size, 8, none⟩ = some (.int .i64 k.hi.e) ∧ wx.cell? ⟨w.heap.size + 1, 0, none⟩ = some (.bool E.t.lo.s) ∧ wx.cell? ⟨w.heap.size + 1, 1, none⟩ = some (.slice A3 n3 c3) ∧ wx.cell? ⟨w.heap.size + 1, 2, none⟩ = some (.int .i64 E.t.lo.e) ∧ wx.cell? ⟨w.heap.size + 1, 3, none⟩ = some (.bool E.t.hi.s) ∧ wx.cell? ⟨w.heap.size + 1, 4, none⟩ = some (.slice A4 n4 c4) ∧ wx.cell? ⟨w.heap.size + 1, 5, none⟩ = some (.int .i64 E.t.hi.e) ∧ wx.cell? ⟨w.heap.size + 1, 6, none⟩ = some (.slice AX E.nx cX) ∧ wx.cell? ⟨w.heap.size + 1, 7, none⟩ = some (.slice AU E.nu cU) ∧ wx.cell? ⟨w.heap.size + 1, 8, none⟩ = some (.slice AP E.np cP)) (((w.alloc (.cells #[.int .i64 op, .int .i64 a, .int .i64 b, .bool k.lo.s, .slice A1 n1 c1, .int .i64 k.lo.e, .bool k.hi.s, .slice A2 n2 c2, .int .i64 k.hi.e] 31)).alloc (.cells #[.bool E.t.lo.s, .slice A3 n3 c3, .int .i64 E.t.lo.e, .bool E.t.hi.s, .slice A4 n4 c4, .int .i64 E.t.hi.e, .slice AX E.nx cX, .slice AU E.nu cU, .slice AP E.np cP] 44)).alloc (.cells #[.bool false, .slice none 0 0, .int .i64 0, .bool false, .slice none 0 0, .int .i64 0] 29)) := by
 have BB := three_below w (.cells #[.int .i64 op, .int .i64 a, .int .i64 b, .bool k.lo.s, .slice A1 n1 c1, .int .i64 k.lo.e, .bool k.hi.s, .slice A2 n2 c2, .int .i64 k.hi.e] 31) (.cells #[.bool E.t.lo.s, .slice A3 n3 c3, .int .i64 E.t.lo.e, .bool E.t.hi.s, .slice A4 n4 c4, .int .i64 E.t.hi.e, .slice AX E.nx cX, .slice AU E.nu cU, .slice AP E.np cP] 44) (.cells #[.bool false, .slice none 0 0, .int .i64 0, .bool false, .slice none 0 0, .int .i64 0] 29)
 have xl := mv (two_below (w.alloc (.cells #[.int .i64 op, .int .i64 a, .int .i64 b, .bool k.lo.s, .slice A1 n1 c1, .int .i64 k.lo.e, .bool k.hi.s, .slice A2 n2 c2, .int .i64 k.hi.e] 31)) (.cells #[.bool E.t.lo.s, .slice A3 n3 c3, .int .i64 E.t.lo.e, .bool E.t.hi.s, .slice A4 n4 c4, .int .i64 E.t.hi.e, .slice AX E.nx cX, .slice AU E.nu cU, .slice AP E.np cP] 44) (.cells #[.bool false, .slice none 0 0, .int .i64 0, .bool false, .slice none 0 0, .int .i64 0] 29)) rfl (Blk.new w #[.int .i64 op, .int .i64 a, .int .i64 b, .bool k.lo.s, .slice A1 n1 c1, .int .i64 k.lo.e, .bool k.hi.s, .slice A2 n2 c2, .int .i64 k.hi.e] 31)
 have xe : Blk ((w.alloc (.cells #[.int .i64 op, .int .i64 a, .int .i64 b, .bool k.lo.s, .slice A1 n1 c1, .int .i64 k.lo.e, .bool k.hi.s, .slice A2 n2 c2, .int .i64 k.hi.e] 31)).alloc (.cells #[.bool E.t.lo.s, .slice A3 n3 c3, .int .i64 E.t.lo.e, .bool E.t.hi.s, .slice A4 n4 c4, .int .i64 E.t.hi.e, .slice AX E.nx cX, .slice AU E.nu cU, .slice AP E.np cP] 44)) (w.heap.size + 1) #[.bool E.t.lo.s, .slice A3 n3 c3, .int .i64 E.t.lo.e, .bool E.t.hi.s, .slice A4 n4 c4, .int .i64 E.t.hi.e, .slice AX E.nx cX, .slice AU E.nu cU, .slice AP E.np cP] 44 := by have := Blk.new (w.alloc (.cells #[.int .i64 op, .int .i64 a, .int .i64 b, .bool k.lo.s, .slice A1 n1 c1, .int .i64 k.lo.e, .bool k.hi.s, .slice A2 n2 c2, .int .i64 k.hi.e] 31)) #[.bool E.t.lo.s, .slice A3 n3 c3, .int .i64 E.t.lo.e, .bool E.t.hi.s, .slice A4 n4 c4, .int .i64 E.t.hi.e, .slice AX E.nx cX, .slice AU E.nu cU, .slice AP E.np cP] 44; simpa using this
 replace xe := mv (below_alloc ((w.alloc (.cells #[.int .i64 op, .int .i64 a, .int .i64 b, .bool k.lo.s, .slice A1 n1 c1, .int .i64 k.lo.e, .bool k.hi.s, .slice A2 n2 c2, .int .i64 k.hi.e] 31)).alloc (.cells #[.bool E.t.lo.s, .slice A3 n3 c3, .int .i64 E.t.lo.e, .bool E.t.hi.s, .slice A4 n4 c4, .int .i64 E.t.hi.e, .slice AX E.nx cX, .slice AU E.nu cU, .slice AP E.np cP] 44)) (.cells #[.bool false, .slice none 0 0, .int .i64 0, .bool false, .slice none 0 0, .int .i64 0] 29)) rfl xe
 have r := ibx_two w (.cells #[.int .i64 op, .int .i64 a, .int .i64 b, .bool k.lo.s, .slice A1 n1 c1, .int .i64 k.lo.e, .bool k.hi.s, .slice A2 n2 c2, .int .i64 k.hi.e] 31) (.cells #[.bool E.t.lo.s, .slice A3 n3 c3, .int .i64 E.t.lo.e, .bool E.t.hi.s, .slice A4 n4 c4, .int .i64 E.t.hi.e, .slice AX E.nx cX, .slice AU E.nu cU, .slice AP E.np cP] 44) false none 0 0 0 false none 0 0 0
 have G := mv BB rfl (J5 hT h1 h2 hV hE)
 clear hT h1 h2 hV hE
 obtain ⟨hT, h1, h2, hV, hE⟩ := G
 exact ⟨BB, r, hT, h1, h2, hV, hE, xl.at 0, xl.at 1, xl.at 2, xl.at 3, xl.at 4, xl.at 5, xl.at 6, xl.at 7, xl.at 8, xe.at 0, xe.at 1, xe.at 2, xe.at 3, xe.at 4, xe.at 5, xe.at 6, xe.at 7, xe.at 8⟩

theorem tval_1 (S : Sc) {w : World} {E : En} {V : Nat → Iv} {p : Int} {k : Iv} {A1 : Option Addr} {n1 c1 : Nat} {A2 : Option Addr} {n2 c2 : Nat} {A3 : Option Addr} {n3 c3 : Nat} {A4 : Option Addr} {n4 c4 : Nat} {AV : Option Addr} {nV cV : Nat} {AX : Option Addr} {cX : Nat} {AU : Option Addr} {cU : Nat} {AP : Option Addr} {cP : Nat} (hT : Tab w) (h1 : Rd w .u64 Go.Proofs.YtlpjlmophlikeaaGreatDoor.W A1 n1 c1 k.lo.l) (h2 : Rd w .u64 Go.Proofs.YtlpjlmophlikeaaGreatDoor.W A2 n2 c2 k.hi.l) (hV : RdS w AV nV cV V) (hE : RdE w E A3 n3 c3 A4 n4 c4 AX cX AU cU AP cP) (hm : mayI S.K k = true) (hp1 : 1 ≤ p) (hp2 : p ≤ 300) :
  Calls Tryz.prog 82 #[.agg #[.int .i64 1, .int .i64 0, .int .i64 0, .bool k.lo.s, .slice A1 n1 c1, .int .i64 k.lo.e, .bool k.hi.s, .slice A2 n2 c2, .int .i64 k.hi.e], .slice AV nV cV, .agg #[.bool E.t.lo.s, .slice A3 n3 c3, .int .i64 E.t.lo.e, .bool E.t.hi.s, .slice A4 n4 c4, .int .i64 E.t.hi.e, .slice AX E.nx cX, .slice AU E.nu cU, .slice AP E.np cP], .int .i64 p] w (TellO (valO S ⟨1, 0, 0, k⟩ V E p) w) := by
 unfold TellO
 have hp3 : p ≤ 2000 := by omega
 have G := tval_start (op := 1) (a := 0) (b := 0) hT h1 h2 hV hE
 clear hT h1 h2 hV hE
 obtain ⟨BB, r, hT, h1, h2, hV, hE, m0, m1, m2, m3, m4, m5, m6, m7, m8, e0, e1, e2, e3, e4, e5, e6, e7, e8⟩ := G
 obtain ⟨q, hq⟩ : ∃ q, q = valO S ⟨1, 0, 0, k⟩ V E p := ⟨_, rfl⟩
 rw [← hq]
 replace hq : q = rouI S k p := by rw [hq]; simp [valO]
 have HQ := Lib.hid hq
 clear hq
 go_enter Tryz.func82, Tryz.ntmps82
 go_wp2_with fail
 refine (tello_to HQ.out (iround_tell S hT h1 h2 hm hp1 hp3)).mono ?_
 rintro en w5 ⟨A5, n5, c5, A6, n6, c6, rfl, h5, h6, b⟩
 clear hT h1 h2 hV hE m0 m1 m2 m3 m4 m5 m6 m7 m8 e0 e1 e2 e3 e4 e5 e6 e7 e8
 replace BB := bnx BB b
 replace r := mv b rfl r
 clear b
 obtain ⟨f0, f1, f2, f3, f4, f5⟩ := r.open
 obtain ⟨z0, z1, z2, z3, z4, z5⟩ := r.held
 go_wp2
 have qq := r.put (oiv q).lo.s A5 n5 c5 (oiv q).lo.e (oiv q).hi.s A6 n6 c6 (oiv q).hi.e
 have hN := h5.put6 r (.bool (oiv q).lo.s) (.slice A5 n5 c5) (.int .i64 (oiv q).lo.e) (.bool (oiv q).hi.s) (.slice A6 n6 c6) (.int .i64 (oiv q).hi.e)
 have hM := h6.put6 r (.bool (oiv q).lo.s) (.slice A5 n5 c5) (.int .i64 (oiv q).lo.e) (.bool (oiv q).hi.s) (.slice A6 n6 c6) (.int .i64 (oiv q).hi.e)
 have HB3 := below_put6 (g := w.heap.size + 2) BB (by omega) (.bool (oiv q).lo.s) (.slice A5 n5 c5) (.int .i64 (oiv q).lo.e) (.bool (oiv q).hi.s) (.slice A6 n6 c6) (.int .i64 (oiv q).hi.e)
 obtain ⟨z0, z1, z2, z3, z4, z5⟩ := qq.held
 exact bodyPost_ret (v := .tuple #[.agg #[.bool (oiv q).lo.s, .slice A5 n5 c5, .int .i64 (oiv q).lo.e, .bool (oiv q).hi.s, .slice A6 n6 c6, .int .i64 (oiv q).hi.e], .int .i64 (okc q)]) (by simp [results, Tryz.results82, go_sem, z0, z1, z2, z3, z4, z5]) rfl ⟨_, _, _, _, _, _, rfl, hN, hM, HB3⟩

theorem tval_2 (S : Sc) {w : World} {E : En} {V : Nat → Iv} {p : Int} {k : Iv} {A1 : Option Addr} {n1 c1 : Nat} {A2 : Option Addr} {n2 c2 : Nat} {A3 : Option Addr} {n3 c3 : Nat} {A4 : Option Addr} {n4 c4 : Nat} {AV : Option Addr} {nV cV : Nat} {AX : Option Addr} {cX : Nat} {AU : Option Addr} {cU : Nat} {AP : Option Addr} {cP : Nat} (hT : Tab w) (h1 : Rd w .u64 Go.Proofs.YtlpjlmophlikeaaGreatDoor.W A1 n1 c1 k.lo.l) (h2 : Rd w .u64 Go.Proofs.YtlpjlmophlikeaaGreatDoor.W A2 n2 c2 k.hi.l) (hV : RdS w AV nV cV V) (hE : RdE w E A3 n3 c3 A4 n4 c4 AX cX AU cU AP cP) (hm : mayI S.K E.t = true) (hp1 : 1 ≤ p) (hp2 : p ≤ 300) :
  Calls Tryz.prog 82 #[.agg #[.int .i64 2, .int .i64 0, .int .i64 0, .bool k.lo.s, .slice A1 n1 c1, .int .i64 k.lo.e, .bool k.hi.s, .slice A2 n2 c2, .int .i64 k.hi.e], .slice AV nV cV, .agg #[.bool E.t.lo.s, .slice A3 n3 c3, .int .i64 E.t.lo.e, .bool E.t.hi.s, .slice A4 n4 c4, .int .i64 E.t.hi.e, .slice AX E.nx cX, .slice AU E.nu cU, .slice AP E.np cP], .int .i64 p] w (TellO (valO S ⟨2, 0, 0, k⟩ V E p) w) := by
 unfold TellO
 have hp3 : p ≤ 2000 := by omega
 have G := tval_start (op := 2) (a := 0) (b := 0) hT h1 h2 hV hE
 clear hT h1 h2 hV hE
 obtain ⟨BB, r, hT, h1, h2, hV, hE, m0, m1, m2, m3, m4, m5, m6, m7, m8, e0, e1, e2, e3, e4, e5, e6, e7, e8⟩ := G
 obtain ⟨q, hq⟩ : ∃ q, q = valO S ⟨2, 0, 0, k⟩ V E p := ⟨_, rfl⟩
 rw [← hq]
 replace hq : q = rouI S E.t p := by rw [hq]; simp [valO]
 have HQ := Lib.hid hq
 clear hq
 go_enter Tryz.func82, Tryz.ntmps82
 go_wp2_with fail
 refine (tello_to HQ.out (iround_tell S hT hE.lo hE.hi hm hp1 hp3)).mono ?_
 rintro en w5 ⟨A5, n5, c5, A6, n6, c6, rfl, h5, h6, b⟩
 clear hT h1 h2 hV hE m0 m1 m2 m3 m4 m5 m6 m7 m8 e0 e1 e2 e3 e4 e5 e6 e7 e8
 replace BB := bnx BB b
 replace r := mv b rfl r
 clear b
 obtain ⟨f0, f1, f2, f3, f4, f5⟩ := r.open
 obtain ⟨z0, z1, z2, z3, z4, z5⟩ := r.held
 go_wp2
 have qq := r.put (oiv q).lo.s A5 n5 c5 (oiv q).lo.e (oiv q).hi.s A6 n6 c6 (oiv q).hi.e
 have hN := h5.put6 r (.bool (oiv q).lo.s) (.slice A5 n5 c5) (.int .i64 (oiv q).lo.e) (.bool (oiv q).hi.s) (.slice A6 n6 c6) (.int .i64 (oiv q).hi.e)
 have hM := h6.put6 r (.bool (oiv q).lo.s) (.slice A5 n5 c5) (.int .i64 (oiv q).lo.e) (.bool (oiv q).hi.s) (.slice A6 n6 c6) (.int .i64 (oiv q).hi.e)
 have HB3 := below_put6 (g := w.heap.size + 2) BB (by omega) (.bool (oiv q).lo.s) (.slice A5 n5 c5) (.int .i64 (oiv q).lo.e) (.bool (oiv q).hi.s) (.slice A6 n6 c6) (.int .i64 (oiv q).hi.e)
 obtain ⟨z0, z1, z2, z3, z4, z5⟩ := qq.held
 exact bodyPost_ret (v := .tuple #[.agg #[.bool (oiv q).lo.s, .slice A5 n5 c5, .int .i64 (oiv q).lo.e, .bool (oiv q).hi.s, .slice A6 n6 c6, .int .i64 (oiv q).hi.e], .int .i64 (okc q)]) (by simp [results, Tryz.results82, go_sem, z0, z1, z2, z3, z4, z5]) rfl ⟨_, _, _, _, _, _, rfl, hN, hM, HB3⟩

theorem tval_3 (S : Sc) {w : World} {E : En} {V : Nat → Iv} {p : Int} {k : Iv} {ja : Nat} {A1 : Option Addr} {n1 c1 : Nat} {A2 : Option Addr} {n2 c2 : Nat} {A3 : Option Addr} {n3 c3 : Nat} {A4 : Option Addr} {n4 c4 : Nat} {AV : Option Addr} {nV cV : Nat} {AX : Option Addr} {cX : Nat} {AU : Option Addr} {cU : Nat} {AP : Option Addr} {cP : Nat} (hT : Tab w) (h1 : Rd w .u64 Go.Proofs.YtlpjlmophlikeaaGreatDoor.W A1 n1 c1 k.lo.l) (h2 : Rd w .u64 Go.Proofs.YtlpjlmophlikeaaGreatDoor.W A2 n2 c2 k.hi.l) (hV : RdS w AV nV cV V) (hE : RdE w E A3 n3 c3 A4 n4 c4 AX cX AU cU AP cP) (hja : ja < E.nx) (hm : mayI S.K (E.X ja) = true) (hp1 : 1 ≤ p) (hp2 : p ≤ 300) :
  Calls Tryz.prog 82 #[.agg #[.int .i64 3, .int .i64 (ja : Int), .int .i64 0, .bool k.lo.s, .slice A1 n1 c1, .int .i64 k.lo.e, .bool k.hi.s, .slice A2 n2 c2, .int .i64 k.hi.e], .slice AV nV cV, .agg #[.bool E.t.lo.s, .slice A3 n3 c3, .int .i64 E.t.lo.e, .bool E.t.hi.s, .slice A4 n4 c4, .int .i64 E.t.hi.e, .slice AX E.nx cX, .slice AU E.nu cU, .slice AP E.np cP], .int .i64 p] w (TellO (valO S ⟨3, (ja : Int), 0, k⟩ V E p) w) := by
 unfold TellO
 have hp3 : p ≤ 2000 := by omega
 have G := tval_start (op := 3) (a := (ja : Int)) (b := 0) hT h1 h2 hV hE
 clear hT h1 h2 hV hE
 obtain ⟨BB, r, hT, h1, h2, hV, hE, m0, m1, m2, m3, m4, m5, m6, m7, m8, e0, e1, e2, e3, e4, e5, e6, e7, e8⟩ := G
 obtain ⟨q, hq⟩ : ∃ q, q = valO S ⟨3, (ja : Int), 0, k⟩ V E p := ⟨_, rfl⟩
 rw [← hq]
 replace hq : q = rouI S (E.X ja) p := by rw [hq]; simp [valO]
 obtain ⟨gx, ox, hax, hI⟩ := hE.X.at_ (by omega)
 obtain ⟨A7, n7, c7, A8, n8, c8, ⟨r0, r1, r2, r3, r4, r5⟩, q1, q2⟩ := hI ja hja
 subst hax
 generalize E.X ja = x at *
 clear hI
 have HQ := Lib.hid hq
 clear hq
 have hk0 : (0 : Int) ≤ (ja : Int) := by omega
 have hk1 : (ja : Int) < (E.nx : Int) := by omega
 go_enter Tryz.func82, Tryz.ntmps82
 go_wp2_with fail
 refine (tello_to HQ.out (iround_tell S hT q1 q2 hm hp1 hp3)).mono ?_
 rintro en w5 ⟨A5, n5, c5, A6, n6, c6, rfl, h5, h6, b⟩
 clear hT h1 h2 hV hE m0 m1 m2 m3 m4 m5 m6 m7 m8 e0 e1 e2 e3 e4 e5 e6 e7 e8 r0 r1 r2 r3 r4 r5 q1 q2
 replace BB := bnx BB b
 replace r := mv b rfl r
 clear b
 obtain ⟨f0, f1, f2, f3, f4, f5⟩ := r.open
 obtain ⟨z0, z1, z2, z3, z4, z5⟩ := r.held
 go_wp2
 have qq := r.put (oiv q).lo.s A5 n5 c5 (oiv q).lo.e (oiv q).hi.s A6 n6 c6 (oiv q).hi.e
 have hN := h5.put6 r (.bool (oiv q).lo.s) (.slice A5 n5 c5) (.int .i64 (oiv q).lo.e) (.bool (oiv q).hi.s) (.slice A6 n6 c6) (.int .i64 (oiv q).hi.e)
 have hM := h6.put6 r (.bool (oiv q).lo.s) (.slice A5 n5 c5) (.int .i64 (oiv q).lo.e) (.bool (oiv q).hi.s) (.slice A6 n6 c6) (.int .i64 (oiv q).hi.e)
 have HB3 := below_put6 (g := w.heap.size + 2) BB (by omega) (.bool (oiv q).lo.s) (.slice A5 n5 c5) (.int .i64 (oiv q).lo.e) (.bool (oiv q).hi.s) (.slice A6 n6 c6) (.int .i64 (oiv q).hi.e)
 obtain ⟨z0, z1, z2, z3, z4, z5⟩ := qq.held
 exact bodyPost_ret (v := .tuple #[.agg #[.bool (oiv q).lo.s, .slice A5 n5 c5, .int .i64 (oiv q).lo.e, .bool (oiv q).hi.s, .slice A6 n6 c6, .int .i64 (oiv q).hi.e], .int .i64 (okc q)]) (by simp [results, Tryz.results82, go_sem, z0, z1, z2, z3, z4, z5]) rfl ⟨_, _, _, _, _, _, rfl, hN, hM, HB3⟩

theorem tval_4 (S : Sc) {w : World} {E : En} {V : Nat → Iv} {p : Int} {k : Iv} {ja : Nat} {A1 : Option Addr} {n1 c1 : Nat} {A2 : Option Addr} {n2 c2 : Nat} {A3 : Option Addr} {n3 c3 : Nat} {A4 : Option Addr} {n4 c4 : Nat} {AV : Option Addr} {nV cV : Nat} {AX : Option Addr} {cX : Nat} {AU : Option Addr} {cU : Nat} {AP : Option Addr} {cP : Nat} (hT : Tab w) (h1 : Rd w .u64 Go.Proofs.YtlpjlmophlikeaaGreatDoor.W A1 n1 c1 k.lo.l) (h2 : Rd w .u64 Go.Proofs.YtlpjlmophlikeaaGreatDoor.W A2 n2 c2 k.hi.l) (hV : RdS w AV nV cV V) (hE : RdE w E A3 n3 c3 A4 n4 c4 AX cX AU cU AP cP) (hja : ja < E.nu) (hm : mayI S.K (E.U ja) = true) (hp1 : 1 ≤ p) (hp2 : p ≤ 300) :
  Calls Tryz.prog 82 #[.agg #[.int .i64 4, .int .i64 (ja : Int), .int .i64 0, .bool k.lo.s, .slice A1 n1 c1, .int .i64 k.lo.e, .bool k.hi.s, .slice A2 n2 c2, .int .i64 k.hi.e], .slice AV nV cV, .agg #[.bool E.t.lo.s, .slice A3 n3 c3, .int .i64 E.t.lo.e, .bool E.t.hi.s, .slice A4 n4 c4, .int .i64 E.t.hi.e, .slice AX E.nx cX, .slice AU E.nu cU, .slice AP E.np cP], .int .i64 p] w (TellO (valO S ⟨4, (ja : Int), 0, k⟩ V E p) w) := by
 unfold TellO
 have hp3 : p ≤ 2000 := by omega
 have G := tval_start (op := 4) (a := (ja : Int)) (b := 0) hT h1 h2 hV hE
 clear hT h1 h2 hV hE
 obtain ⟨BB, r, hT, h1, h2, hV, hE, m0, m1, m2, m3, m4, m5, m6, m7, m8, e0, e1, e2, e3, e4, e5, e6, e7, e8⟩ := G
 obtain ⟨q, hq⟩ : ∃ q, q = valO S ⟨4, (ja : Int), 0, k⟩ V E p := ⟨_, rfl⟩
 rw [← hq]
 replace hq : q = rouI S (E.U ja) p := by rw [hq]; simp [valO]
 obtain ⟨gx, ox, hax, hI⟩ := hE.U.at_ (by omega)
 obtain ⟨A7, n7, c7, A8, n8, c8, ⟨r0, r1, r2, r3, r4, r5⟩, q1, q2⟩ := hI ja hja
 subst hax
 generalize E.U ja = x at *
 clear hI
 have HQ := Lib.hid hq
 clear hq
 have hk0 : (0 : Int) ≤ (ja : Int) := by omega
 have hk1 : (ja : Int) < (E.nu : Int) := by omega
 go_enter Tryz.func82, Tryz.ntmps82
 go_wp2_with fail
 refine (tello_to HQ.out (iround_tell S hT q1 q2 hm hp1 hp3)).mono ?_
 rintro en w5 ⟨A5, n5, c5, A6, n6, c6, rfl, h5, h6, b⟩
 clear hT h1 h2 hV hE m0 m1 m2 m3 m4 m5 m6 m7 m8 e0 e1 e2 e3 e4 e5 e6 e7 e8 r0 r1 r2 r3 r4 r5 q1 q2
 replace BB := bnx BB b
 replace r := mv b rfl r
 clear b
 obtain ⟨f0, f1, f2, f3, f4, f5⟩ := r.open
 obtain ⟨z0, z1, z2, z3, z4, z5⟩ := r.held
 go_wp2
 have qq := r.put (oiv q).lo.s A5 n5 c5 (oiv q).lo.e (oiv q).hi.s A6 n6 c6 (oiv q).hi.e
 have hN := h5.put6 r (.bool (oiv q).lo.s) (.slice A5 n5 c5) (.int .i64 (oiv q).lo.e) (.bool (oiv q).hi.s) (.slice A6 n6 c6) (.int .i64 (oiv q).hi.e)
 have hM := h6.put6 r (.bool (oiv q).lo.s) (.slice A5 n5 c5) (.int .i64 (oiv q).lo.e) (.bool (oiv q).hi.s) (.slice A6 n6 c6) (.int .i64 (oiv q).hi.e)
 have HB3 := below_put6 (g := w.heap.size + 2) BB (by omega) (.bool (oiv q).lo.s) (.slice A5 n5 c5) (.int .i64 (oiv q).lo.e) (.bool (oiv q).hi.s) (.slice A6 n6 c6) (.int .i64 (oiv q).hi.e)
 obtain ⟨z0, z1, z2, z3, z4, z5⟩ := qq.held
 exact bodyPost_ret (v := .tuple #[.agg #[.bool (oiv q).lo.s, .slice A5 n5 c5, .int .i64 (oiv q).lo.e, .bool (oiv q).hi.s, .slice A6 n6 c6, .int .i64 (oiv q).hi.e], .int .i64 (okc q)]) (by simp [results, Tryz.results82, go_sem, z0, z1, z2, z3, z4, z5]) rfl ⟨_, _, _, _, _, _, rfl, hN, hM, HB3⟩

theorem tval_5 (S : Sc) {w : World} {E : En} {V : Nat → Iv} {p : Int} {k : Iv} {ja : Nat} {A1 : Option Addr} {n1 c1 : Nat} {A2 : Option Addr} {n2 c2 : Nat} {A3 : Option Addr} {n3 c3 : Nat} {A4 : Option Addr} {n4 c4 : Nat} {AV : Option Addr} {nV cV : Nat} {AX : Option Addr} {cX : Nat} {AU : Option Addr} {cU : Nat} {AP : Option Addr} {cP : Nat} (hT : Tab w) (h1 : Rd w .u64 Go.Proofs.YtlpjlmophlikeaaGreatDoor.W A1 n1 c1 k.lo.l) (h2 : Rd w .u64 Go.Proofs.YtlpjlmophlikeaaGreatDoor.W A2 n2 c2 k.hi.l) (hV : RdS w AV nV cV V) (hE : RdE w E A3 n3 c3 A4 n4 c4 AX cX AU cU AP cP) (hja : ja < E.np) (hm : mayI S.K (E.P ja) = true) (hp1 : 1 ≤ p) (hp2 : p ≤ 300) :
  Calls Tryz.prog 82 #[.agg #[.int .i64 5, .int .i64 (ja : Int), .int .i64 0, .bool k.lo.s, .slice A1 n1 c1, .int .i64 k.lo.e, .bool k.hi.s, .slice A2 n2 c2, .int .i64 k.hi.e], .slice AV nV cV, .agg #[.bool E.t.lo.s, .slice A3 n3 c3, .int .i64 E.t.lo.e, .bool E.t.hi.s, .slice A4 n4 c4, .int .i64 E.t.hi.e, .slice AX E.nx cX, .slice AU E.nu cU, .slice AP E.np cP], .int .i64 p] w (TellO (valO S ⟨5, (ja : Int), 0, k⟩ V E p) w) := by
 unfold TellO
 have hp3 : p ≤ 2000 := by omega
 have G := tval_start (op := 5) (a := (ja : Int)) (b := 0) hT h1 h2 hV hE
 clear hT h1 h2 hV hE
 obtain ⟨BB, r, hT, h1, h2, hV, hE, m0, m1, m2, m3, m4, m5, m6, m7, m8, e0, e1, e2, e3, e4, e5, e6, e7, e8⟩ := G
 obtain ⟨q, hq⟩ : ∃ q, q = valO S ⟨5, (ja : Int), 0, k⟩ V E p := ⟨_, rfl⟩
 rw [← hq]
 replace hq : q = rouI S (E.P ja) p := by rw [hq]; simp [valO]
 obtain ⟨gx, ox, hax, hI⟩ := hE.P.at_ (by omega)
 obtain ⟨A7, n7, c7, A8, n8, c8, ⟨r0, r1, r2, r3, r4, r5⟩, q1, q2⟩ := hI ja hja
 subst hax
 generalize E.P ja = x at *
 clear hI
 have HQ := Lib.hid hq
 clear hq
 have hk0 : (0 : Int) ≤ (ja : Int) := by omega
 have hk1 : (ja : Int) < (E.np : Int) := by omega
 go_enter Tryz.func82, Tryz.ntmps82
 go_wp2_with fail
 refine (tello_to HQ.out (iround_tell S hT q1 q2 hm hp1 hp3)).mono ?_
 rintro en w5 ⟨A5, n5, c5, A6, n6, c6, rfl, h5, h6, b⟩
 clear hT h1 h2 hV hE m0 m1 m2 m3 m4 m5 m6 m7 m8 e0 e1 e2 e3 e4 e5 e6 e7 e8 r0 r1 r2 r3 r4 r5 q1 q2
 replace BB := bnx BB b
 replace r := mv b rfl r
 clear b
 obtain ⟨f0, f1, f2, f3, f4, f5⟩ := r.open
 obtain ⟨z0, z1, z2, z3, z4, z5⟩ := r.held
 go_wp2
 have qq := r.put (oiv q).lo.s A5 n5 c5 (oiv q).lo.e (oiv q).hi.s A6 n6 c6 (oiv q).hi.e
 have hN := h5.put6 r (.bool (oiv q).lo.s) (.slice A5 n5 c5) (.int .i64 (oiv q).lo.e) (.bool (oiv q).hi.s) (.slice A6 n6 c6) (.int .i64 (oiv q).hi.e)
 have hM := h6.put6 r (.bool (oiv q).lo.s) (.slice A5 n5 c5) (.int .i64 (oiv q).lo.e) (.bool (oiv q).hi.s) (.slice A6 n6 c6) (.int .i64 (oiv q).hi.e)
 have HB3 := below_put6 (g := w.heap.size + 2) BB (by omega) (.bool (oiv q).lo.s) (.slice A5 n5 c5) (.int .i64 (oiv q).lo.e) (.bool (oiv q).hi.s) (.slice A6 n6 c6) (.int .i64 (oiv q).hi.e)
 obtain ⟨z0, z1, z2, z3, z4, z5⟩ := qq.held
 exact bodyPost_ret (v := .tuple #[.agg #[.bool (oiv q).lo.s, .slice A5 n5 c5, .int .i64 (oiv q).lo.e, .bool (oiv q).hi.s, .slice A6 n6 c6, .int .i64 (oiv q).hi.e], .int .i64 (okc q)]) (by simp [results, Tryz.results82, go_sem, z0, z1, z2, z3, z4, z5]) rfl ⟨_, _, _, _, _, _, rfl, hN, hM, HB3⟩

theorem tval_6 (S : Sc) {w : World} {E : En} {V : Nat → Iv} {p : Int} {k : Iv} {ja jb : Nat} {A1 : Option Addr} {n1 c1 : Nat} {A2 : Option Addr} {n2 c2 : Nat} {A3 : Option Addr} {n3 c3 : Nat} {A4 : Option Addr} {n4 c4 : Nat} {AV : Option Addr} {nV cV : Nat} {AX : Option Addr} {cX : Nat} {AU : Option Addr} {cU : Nat} {AP : Option Addr} {cP : Nat} (hT : Tab w) (h1 : Rd w .u64 Go.Proofs.YtlpjlmophlikeaaGreatDoor.W A1 n1 c1 k.lo.l) (h2 : Rd w .u64 Go.Proofs.YtlpjlmophlikeaaGreatDoor.W A2 n2 c2 k.hi.l) (hV : RdS w AV nV cV V) (hE : RdE w E A3 n3 c3 A4 n4 c4 AX cX AU cU AP cP) (hja : ja < nV) (hjb : jb < nV) :
  Calls Tryz.prog 82 #[.agg #[.int .i64 6, .int .i64 (ja : Int), .int .i64 (jb : Int), .bool k.lo.s, .slice A1 n1 c1, .int .i64 k.lo.e, .bool k.hi.s, .slice A2 n2 c2, .int .i64 k.hi.e], .slice AV nV cV, .agg #[.bool E.t.lo.s, .slice A3 n3 c3, .int .i64 E.t.lo.e, .bool E.t.hi.s, .slice A4 n4 c4, .int .i64 E.t.hi.e, .slice AX E.nx cX, .slice AU E.nu cU, .slice AP E.np cP], .int .i64 p] w (TellO (valO S ⟨6, (ja : Int), (jb : Int), k⟩ V E p) w) := by
 unfold TellO
 have lgv0 := rds_lt hV (by omega)
 have G := tval_start (op := 6) (a := (ja : Int)) (b := (jb : Int)) hT h1 h2 hV hE
 clear hT h1 h2 hV hE
 obtain ⟨BB, r, hT, h1, h2, hV, hE, m0, m1, m2, m3, m4, m5, m6, m7, m8, e0, e1, e2, e3, e4, e5, e6, e7, e8⟩ := G
 obtain ⟨q, hq⟩ : ∃ q, q = valO S ⟨6, (ja : Int), (jb : Int), k⟩ V E p := ⟨_, rfl⟩
 rw [← hq]
 replace hq : q = face2 S (V ja) (V jb) p (sumO S (V ja) (V jb) p) := by rw [hq]; simp [valO]
 obtain ⟨gv, ov, hav, hI⟩ := hV.at_ (by omega)
 subst hav
 obtain ⟨A7, n7, c7, A8, n8, c8, ⟨r0, r1, r2, r3, r4, r5⟩, q1, q2⟩ := hI ja hja
 obtain ⟨A9, n9, c9, A10, n10, c10, ⟨s0, s1, s2, s3, s4, s5⟩, q3, q4⟩ := hI jb hjb
 generalize V jb = y at *
 generalize hvx : V ja = x at *
 clear hvx
 clear hI
 have HQ := Lib.hid hq
 clear hq
 have hk0 : (0 : Int) ≤ (ja : Int) := by omega
 have hk1 : (ja : Int) < (nV : Int) := by omega
 have hk2 : (0 : Int) ≤ (jb : Int) := by omega
 have hk3 : (jb : Int) < (nV : Int) := by omega
 go_enter Tryz.func82, Tryz.ntmps82
 have lgv := lgv0 gv ov rfl
 clear h1 h2 hV hE e0 e1 e2 e3 e4 e5 e6 e7 e8
 go_wp2_with fail
 generalize (((w.alloc _).alloc _).alloc _) = wx at *
 have b : Below wx.heap.size wx (World.drew wx) := below_drewN (Below.refl _ _) 1
 replace BB := bnx BB b
 have G := mv b rfl (J27 hT m0 m1 m2 m3 m4 m5 m6 m7 m8 r r0 r1 r2 r3 r4 r5 q1 q2 s0 s1 s2 s3 s4 s5 q3 q4)
 clear b hT m0 m1 m2 m3 m4 m5 m6 m7 m8 r r0 r1 r2 r3 r4 r5 q1 q2 s0 s1 s2 s3 s4 s5 q3 q4
 obtain ⟨hT, m0, m1, m2, m3, m4, m5, m6, m7, m8, r, r0, r1, r2, r3, r4, r5, q1, q2, s0, s1, s2, s3, s4, s5, q3, q4⟩ := G
 refine wp_region_held_drew (S := fun w' => w'.cell? ⟨w.heap.size, 1, none⟩ = some (.int .i64 (ja : Int)) ∧ w'.cell? ⟨w.heap.size, 2, none⟩ = some (.int .i64 (jb : Int)) ∧ w'.cell? ⟨gv, ov + ja * 6, none⟩ = some (.bool x.lo.s) ∧ w'.cell? ⟨gv, ov + ja * 6 + 1, none⟩ = some (.slice A7 n7 c7) ∧ w'.cell? ⟨gv, ov + ja * 6 + 2, none⟩ = some (.int .i64 x.lo.e) ∧ w'.cell? ⟨gv, ov + ja * 6 + 3, none⟩ = some (.bool x.hi.s) ∧ w'.cell? ⟨gv, ov + ja * 6 + 4, none⟩ = some (.slice A8 n8 c8) ∧ w'.cell? ⟨gv, ov + ja * 6 + 5, none⟩ = some (.int .i64 x.hi.e) ∧ w'.cell? ⟨gv, ov + jb * 6, none⟩ = some (.bool y.lo.s) ∧ w'.cell? ⟨gv, ov + jb * 6 + 1, none⟩ = some (.slice A9 n9 c9) ∧ w'.cell? ⟨gv, ov + jb * 6 + 2, none⟩ = some (.int .i64 y.lo.e) ∧ w'.cell? ⟨gv, ov + jb * 6 + 3, none⟩ = some (.bool y.hi.s) ∧ w'.cell? ⟨gv, ov + jb * 6 + 4, none⟩ = some (.slice A10 n10 c10) ∧ w'.cell? ⟨gv, ov + jb * 6 + 5, none⟩ = some (.int .i64 y.hi.e)) (by kernel_rfl) (by exact ⟨m1, m2, r0, r1, r2, r3, r4, r5, s0, s1, s2, s3, s4, s5⟩) (fun hHeldv0 => ?_)
 generalize World.drew wx = wd at *
 refine tl 0 ?_
 refine tl 1 ?_
 refine tl 2 ?_
 refine tl 3 ?_
 refine tl 4 ?_
 refine tl 5 ?_
 refine tl 6 ?_
 refine tl 7 ?_
 refine tl 8 ?_
 refine tl 9 ?_
 refine tl 10 ?_
 refine rdy 11 fun K hK => ?_
 go_simp
 refine (tello_to HQ.out (aadd_any S hT q1 q2 q3 q4)).mono ?_
 rintro en w' ⟨A5, n5, c5, A6, n6, c6, rfl, h5, h6, b⟩
 clear q1 q2 q3 q4 hT m0 m3 m4 m5 m6 m7 m8
 replace BB := below_next BB BB.size b (by rfl) (by rfl) (by rfl) (by rfl)
 have G := mv b (by rfl) <| And.intro m1 <| And.intro m2 <| And.intro r <| And.intro r0 <| And.intro r1 <| And.intro r2 <| And.intro r3 <| And.intro r4 <| And.intro r5 <| And.intro s0 <| And.intro s1 <| And.intro s2 <| And.intro s3 <| And.intro s4 <| s5
 clear b m1 m2 r r0 r1 r2 r3 r4 r5 s0 s1 s2 s3 s4 s5
 obtain ⟨m1, m2, r, r0, r1, r2, r3, r4, r5, s0, s1, s2, s3, s4, s5⟩ := G
 obtain ⟨f0, f1, f2, f3, f4, f5⟩ := r.open
 obtain ⟨z0, z1, z2, z3, z4, z5⟩ := r.held
 refine hK.out _ _ (by exact ⟨m1, m2, r0, r1, r2, r3, r4, r5, s0, s1, s2, s3, s4, s5⟩) (fun hHeldv1 => ?_)
 clear hK K hHeldv0
 try simp only [Act.put]
 refine tl 12 ?_
 refine tl 13 ?_
 refine rdy 14 fun K hK => ?_
 go_simp
 refine hK.out _ _ (by exact ⟨cell_oth6 m1 (by omega), cell_oth6 m2 (by omega), cell_oth6 r0 (by omega), cell_oth6 r1 (by omega), cell_oth6 r2 (by omega), cell_oth6 r3 (by omega), cell_oth6 r4 (by omega), cell_oth6 r5 (by omega), cell_oth6 s0 (by omega), cell_oth6 s1 (by omega), cell_oth6 s2 (by omega), cell_oth6 s3 (by omega), cell_oth6 s4 (by omega), cell_oth6 s5 (by omega)⟩) (fun hHeldv2 => ?_)
 clear hK K hHeldv1
 try simp only [Act.put]
 refine tl 15 ?_
 refine wpAnyH_done (by kernel_rfl) ?_ _
 go_wp2
 obtain ⟨f0, f1, f2, f3, f4, f5⟩ := r.open
 obtain ⟨z0, z1, z2, z3, z4, z5⟩ := r.held
 have qq := r.put (oiv q).lo.s A5 n5 c5 (oiv q).lo.e (oiv q).hi.s A6 n6 c6 (oiv q).hi.e
 have hN := h5.put6 r (.bool (oiv q).lo.s) (.slice A5 n5 c5) (.int .i64 (oiv q).lo.e) (.bool (oiv q).hi.s) (.slice A6 n6 c6) (.int .i64 (oiv q).hi.e)
 have hM := h6.put6 r (.bool (oiv q).lo.s) (.slice A5 n5 c5) (.int .i64 (oiv q).lo.e) (.bool (oiv q).hi.s) (.slice A6 n6 c6) (.int .i64 (oiv q).hi.e)
 have HB3 := below_put6 (g := w.heap.size + 2) BB (by omega) (.bool (oiv q).lo.s) (.slice A5 n5 c5) (.int .i64 (oiv q).lo.e) (.bool (oiv q).hi.s) (.slice A6 n6 c6) (.int .i64 (oiv q).hi.e)
 obtain ⟨z0, z1, z2, z3, z4, z5⟩ := qq.held
 exact bodyPost_ret (v := .tuple #[.agg #[.bool (oiv q).lo.s, .slice A5 n5 c5, .int .i64 (oiv q).lo.e, .bool (oiv q).hi.s, .slice A6 n6 c6, .int .i64 (oiv q).hi.e], .int .i64 (okc q)]) (by simp [results, Tryz.results82, go_sem, z0, z1, z2, z3, z4, z5]) rfl ⟨_, _, _, _, _, _, rfl, hN, hM, HB3⟩

theorem tval_7 (S : Sc) {w : World} {E : En} {V : Nat → Iv} {p : Int} {k : Iv} {ja jb : Nat} {A1 : Option Addr} {n1 c1 : Nat} {A2 : Option Addr} {n2 c2 : Nat} {A3 : Option Addr} {n3 c3 : Nat} {A4 : Option Addr} {n4 c4 : Nat} {AV : Option Addr} {nV cV : Nat} {AX : Option Addr} {cX : Nat} {AU : Option Addr} {cU : Nat} {AP : Option Addr} {cP : Nat} (hT : Tab w) (h1 : Rd w .u64 Go.Proofs.YtlpjlmophlikeaaGreatDoor.W A1 n1 c1 k.lo.l) (h2 : Rd w .u64 Go.Proofs.YtlpjlmophlikeaaGreatDoor.W A2 n2 c2 k.hi.l) (hV : RdS w AV nV cV V) (hE : RdE w E A3 n3 c3 A4 n4 c4 AX cX AU cU AP cP) (hja : ja < nV) (hjb : jb < nV) :
  Calls Tryz.prog 82 #[.agg #[.int .i64 7, .int .i64 (ja : Int), .int .i64 (jb : Int), .bool k.lo.s, .slice A1 n1 c1, .int .i64 k.lo.e, .bool k.hi.s, .slice A2 n2 c2, .int .i64 k.hi.e], .slice AV nV cV, .agg #[.bool E.t.lo.s, .slice A3 n3 c3, .int .i64 E.t.lo.e, .bool E.t.hi.s, .slice A4 n4 c4, .int .i64 E.t.hi.e, .slice AX E.nx cX, .slice AU E.nu cU, .slice AP E.np cP], .int .i64 p] w (TellO (valO S ⟨7, (ja : Int), (jb : Int), k⟩ V E p) w) := by
 unfold TellO
 have lgv0 := rds_lt hV (by omega)
 have G := tval_start (op := 7) (a := (ja : Int)) (b := (jb : Int)) hT h1 h2 hV hE
 clear hT h1 h2 hV hE
 obtain ⟨BB, r, hT, h1, h2, hV, hE, m0, m1, m2, m3, m4, m5, m6, m7, m8, e0, e1, e2, e3, e4, e5, e6, e7, e8⟩ := G
 obtain ⟨q, hq⟩ : ∃ q, q = valO S ⟨7, (ja : Int), (jb : Int), k⟩ V E p := ⟨_, rfl⟩
 rw [← hq]
 replace hq : q = face2 S (V ja) (V jb) p (sumO S (V ja) (turnI (V jb)) p) := by rw [hq]; simp [valO]
 obtain ⟨gv, ov, hav, hI⟩ := hV.at_ (by omega)
 subst hav
 obtain ⟨A7, n7, c7, A8, n8, c8, ⟨r0, r1, r2, r3, r4, r5⟩, q1, q2⟩ := hI ja hja
 obtain ⟨A9, n9, c9, A10, n10, c10, ⟨s0, s1, s2, s3, s4, s5⟩, q3, q4⟩ := hI jb hjb
 generalize V jb = y at *
 generalize hvx : V ja = x at *
 clear hvx
 clear hI
 have HQ := Lib.hid hq
 clear hq
 have hk0 : (0 : Int) ≤ (ja : Int) := by omega
 have hk1 : (ja : Int) < (nV : Int) := by omega
 have hk2 : (0 : Int) ≤ (jb : Int) := by omega
 have hk3 : (jb : Int) < (nV : Int) := by omega
 go_enter Tryz.func82, Tryz.ntmps82
 have lgv := lgv0 gv ov rfl
 clear h1 h2 hV hE e0 e1 e2 e3 e4 e5 e6 e7 e8
 go_wp2_with fail
 generalize (((w.alloc _).alloc _).alloc _) = wx at *
 have b : Below wx.heap.size wx (World.drew wx) := below_drewN (Below.refl _ _) 1
 replace BB := bnx BB b
 have G := mv b rfl (J27 hT m0 m1 m2 m3 m4 m5 m6 m7 m8 r r0 r1 r2 r3 r4 r5 q1 q2 s0 s1 s2 s3 s4 s5 q3 q4)
 clear b hT m0 m1 m2 m3 m4 m5 m6 m7 m8 r r0 r1 r2 r3 r4 r5 q1 q2 s0 s1 s2 s3 s4 s5 q3 q4
 obtain ⟨hT, m0, m1, m2, m3, m4, m5, m6, m7, m8, r, r0, r1, r2, r3, r4, r5, q1, q2, s0, s1, s2, s3, s4, s5, q3, q4⟩ := G
 refine wp_region_held_drew (S := fun w' => w'.cell? ⟨w.heap.size, 1, none⟩ = some (.int .i64 (ja : Int)) ∧ w'.cell? ⟨w.heap.size, 2, none⟩ = some (.int .i64 (jb : Int)) ∧ w'.cell? ⟨gv, ov + ja * 6, none⟩ = some (.bool x.lo.s) ∧ w'.cell? ⟨gv, ov + ja * 6 + 1, none⟩ = some (.slice A7 n7 c7) ∧ w'.cell? ⟨gv, ov + ja * 6 + 2, none⟩ = some (.int .i64 x.lo.e) ∧ w'.cell? ⟨gv, ov + ja * 6 + 3, none⟩ = some (.bool x.hi.s) ∧ w'.cell? ⟨gv, ov + ja * 6 + 4, none⟩ = some (.slice A8 n8 c8) ∧ w'.cell? ⟨gv, ov + ja * 6 + 5, none⟩ = some (.int .i64 x.hi.e) ∧ w'.cell? ⟨gv, ov + jb * 6, none⟩ = some (.bool y.lo.s) ∧ w'.cell? ⟨gv, ov + jb * 6 + 1, none⟩ = some (.slice A9 n9 c9) ∧ w'.cell? ⟨gv, ov + jb * 6 + 2, none⟩ = some (.int .i64 y.lo.e) ∧ w'.cell? ⟨gv, ov + jb * 6 + 3, none⟩ = some (.bool y.hi.s) ∧ w'.cell? ⟨gv, ov + jb * 6 + 4, none⟩ = some (.slice A10 n10 c10) ∧ w'.cell? ⟨gv, ov + jb * 6 + 5, none⟩ = some (.int .i64 y.hi.e)) (by kernel_rfl) (by exact ⟨m1, m2, r0, r1, r2, r3, r4, r5, s0, s1, s2, s3, s4, s5⟩) (fun hHeldv0 => ?_)
 generalize World.drew wx = wd at *
 refine tl 0 ?_
 refine tl 1 ?_
 refine tl 2 ?_
 refine tl 3 ?_
 refine tl 4 ?_
 refine tl 5 ?_
 refine tl 6 ?_
 refine tl 7 ?_
 refine tl 8 ?_
 refine tl 9 ?_
 refine tl 10 ?_
 refine rdy 11 fun K hK => ?_
 go_simp
 refine (tello_to HQ.out (asub_any S hT q1 q2 q3 q4)).mono ?_
 rintro en w' ⟨A5, n5, c5, A6, n6, c6, rfl, h5, h6, b⟩
 clear q1 q2 q3 q4 hT m0 m3 m4 m5 m6 m7 m8
 replace BB := below_next BB BB.size b (by rfl) (by rfl) (by rfl) (by rfl)
 have G := mv b (by rfl) <| And.intro m1 <| And.intro m2 <| And.intro r <| And.intro r0 <| And.intro r1 <| And.intro r2 <| And.intro r3 <| And.intro r4 <| And.intro r5 <| And.intro s0 <| And.intro s1 <| And.intro s2 <| And.intro s3 <| And.intro s4 <| s5
 clear b m1 m2 r r0 r1 r2 r3 r4 r5 s0 s1 s2 s3 s4 s5
 obtain ⟨m1, m2, r, r0, r1, r2, r3, r4, r5, s0, s1, s2, s3, s4, s5⟩ := G
 obtain ⟨f0, f1, f2, f3, f4, f5⟩ := r.open
 obtain ⟨z0, z1, z2, z3, z4, z5⟩ := r.held
 refine hK.out _ _ (by exact ⟨m1, m2, r0, r1, r2, r3, r4, r5, s0, s1, s2, s3, s4, s5⟩) (fun hHeldv1 => ?_)
 clear hK K hHeldv0
 try simp only [Act.put]
 refine tl 12 ?_
 refine tl 13 ?_
 refine rdy 14 fun K hK => ?_
 go_simp
 refine hK.out _ _ (by exact ⟨cell_oth6 m1 (by omega), cell_oth6 m2 (by omega), cell_oth6 r0 (by omega), cell_oth6 r1 (by omega), cell_oth6 r2 (by omega), cell_oth6 r3 (by omega), cell_oth6 r4 (by omega), cell_oth6 r5 (by omega), cell_oth6 s0 (by omega), cell_oth6 s1 (by omega), cell_oth6 s2 (by omega), cell_oth6 s3 (by omega), cell_oth6 s4 (by omega), cell_oth6 s5 (by omega)⟩) (fun hHeldv2 => ?_)
 clear hK K hHeldv1
 try simp only [Act.put]
 refine tl 15 ?_
 refine wpAnyH_done (by kernel_rfl) ?_ _
 go_wp2
 obtain ⟨f0, f1, f2, f3, f4, f5⟩ := r.open
 obtain ⟨z0, z1, z2, z3, z4, z5⟩ := r.held
 have qq := r.put (oiv q).lo.s A5 n5 c5 (oiv q).lo.e (oiv q).hi.s A6 n6 c6 (oiv q).hi.e
 have hN := h5.put6 r (.bool (oiv q).lo.s) (.slice A5 n5 c5) (.int .i64 (oiv q).lo.e) (.bool (oiv q).hi.s) (.slice A6 n6 c6) (.int .i64 (oiv q).hi.e)
 have hM := h6.put6 r (.bool (oiv q).lo.s) (.slice A5 n5 c5) (.int .i64 (oiv q).lo.e) (.bool (oiv q).hi.s) (.slice A6 n6 c6) (.int .i64 (oiv q).hi.e)
 have HB3 := below_put6 (g := w.heap.size + 2) BB (by omega) (.bool (oiv q).lo.s) (.slice A5 n5 c5) (.int .i64 (oiv q).lo.e) (.bool (oiv q).hi.s) (.slice A6 n6 c6) (.int .i64 (oiv q).hi.e)
 obtain ⟨z0, z1, z2, z3, z4, z5⟩ := qq.held
 exact bodyPost_ret (v := .tuple #[.agg #[.bool (oiv q).lo.s, .slice A5 n5 c5, .int .i64 (oiv q).lo.e, .bool (oiv q).hi.s, .slice A6 n6 c6, .int .i64 (oiv q).hi.e], .int .i64 (okc q)]) (by simp [results, Tryz.results82, go_sem, z0, z1, z2, z3, z4, z5]) rfl ⟨_, _, _, _, _, _, rfl, hN, hM, HB3⟩

theorem tval_8 (S : Sc) {w : World} {E : En} {V : Nat → Iv} {p : Int} {k : Iv} {ja jb : Nat} {A1 : Option Addr} {n1 c1 : Nat} {A2 : Option Addr} {n2 c2 : Nat} {A3 : Option Addr} {n3 c3 : Nat} {A4 : Option Addr} {n4 c4 : Nat} {AV : Option Addr} {nV cV : Nat} {AX : Option Addr} {cX : Nat} {AU : Option Addr} {cU : Nat} {AP : Option Addr} {cP : Nat} (hT : Tab w) (h1 : Rd w .u64 Go.Proofs.YtlpjlmophlikeaaGreatDoor.W A1 n1 c1 k.lo.l) (h2 : Rd w .u64 Go.Proofs.YtlpjlmophlikeaaGreatDoor.W A2 n2 c2 k.hi.l) (hV : RdS w AV nV cV V) (hE : RdE w E A3 n3 c3 A4 n4 c4 AX cX AU cU AP cP) (hja : ja < nV) (hjb : jb < nV) :
  Calls Tryz.prog 82 #[.agg #[.int .i64 8, .int .i64 (ja : Int), .int .i64 (jb : Int), .bool k.lo.s, .slice A1 n1 c1, .int .i64 k.lo.e, .bool k.hi.s, .slice A2 n2 c2, .int .i64 k.hi.e], .slice AV nV cV, .agg #[.bool E.t.lo.s, .slice A3 n3 c3, .int .i64 E.t.lo.e, .bool E.t.hi.s, .slice A4 n4 c4, .int .i64 E.t.hi.e, .slice AX E.nx cX, .slice AU E.nu cU, .slice AP E.np cP], .int .i64 p] w (TellO (valO S ⟨8, (ja : Int), (jb : Int), k⟩ V E p) w) := by
 unfold TellO
 have lgv0 := rds_lt hV (by omega)
 have G := tval_start (op := 8) (a := (ja : Int)) (b := (jb : Int)) hT h1 h2 hV hE
 clear hT h1 h2 hV hE
 obtain ⟨BB, r, hT, h1, h2, hV, hE, m0, m1, m2, m3, m4, m5, m6, m7, m8, e0, e1, e2, e3, e4, e5, e6, e7, e8⟩ := G
 obtain ⟨q, hq⟩ : ∃ q, q = valO S ⟨8, (ja : Int), (jb : Int), k⟩ V E p := ⟨_, rfl⟩
 rw [← hq]
 replace hq : q = face2 S (V ja) (V jb) p (mulI S (V ja) (V jb) p) := by rw [hq]; simp [valO]
 obtain ⟨gv, ov, hav, hI⟩ := hV.at_ (by omega)
 subst hav
 obtain ⟨A7, n7, c7, A8, n8, c8, ⟨r0, r1, r2, r3, r4, r5⟩, q1, q2⟩ := hI ja hja
 obtain ⟨A9, n9, c9, A10, n10, c10, ⟨s0, s1, s2, s3, s4, s5⟩, q3, q4⟩ := hI jb hjb
 generalize V jb = y at *
 generalize hvx : V ja = x at *
 clear hvx
 clear hI
 have HQ := Lib.hid hq
 clear hq
 have hk0 : (0 : Int) ≤ (ja : Int) := by omega
 have hk1 : (ja : Int) < (nV : Int) := by omega
 have hk2 : (0 : Int) ≤ (jb : Int) := by omega
 have hk3 : (jb : Int) < (nV : Int) := by omega
 go_enter Tryz.func82, Tryz.ntmps82
 have lgv := lgv0 gv ov rfl
 clear h1 h2 hV hE e0 e1 e2 e3 e4 e5 e6 e7 e8
 go_wp2_with fail
 generalize (((w.alloc _).alloc _).alloc _) = wx at *
 have b : Below wx.heap.size wx (World.drew wx) := below_drewN (Below.refl _ _) 1
 replace BB := bnx BB b
 have G := mv b rfl (J27 hT m0 m1 m2 m3 m4 m5 m6 m7 m8 r r0 r1 r2 r3 r4 r5 q1 q2 s0 s1 s2 s3 s4 s5 q3 q4)
 clear b hT m0 m1 m2 m3 m4 m5 m6 m7 m8 r r0 r1 r2 r3 r4 r5 q1 q2 s0 s1 s2 s3 s4 s5 q3 q4
 obtain ⟨hT, m0, m1, m2, m3, m4, m5, m6, m7, m8, r, r0, r1, r2, r3, r4, r5, q1, q2, s0, s1, s2, s3, s4, s5, q3, q4⟩ := G
 refine wp_region_held_drew (S := fun w' => w'.cell? ⟨w.heap.size, 1, none⟩ = some (.int .i64 (ja : Int)) ∧ w'.cell? ⟨w.heap.size, 2, none⟩ = some (.int .i64 (jb : Int)) ∧ w'.cell? ⟨gv, ov + ja * 6, none⟩ = some (.bool x.lo.s) ∧ w'.cell? ⟨gv, ov + ja * 6 + 1, none⟩ = some (.slice A7 n7 c7) ∧ w'.cell? ⟨gv, ov + ja * 6 + 2, none⟩ = some (.int .i64 x.lo.e) ∧ w'.cell? ⟨gv, ov + ja * 6 + 3, none⟩ = some (.bool x.hi.s) ∧ w'.cell? ⟨gv, ov + ja * 6 + 4, none⟩ = some (.slice A8 n8 c8) ∧ w'.cell? ⟨gv, ov + ja * 6 + 5, none⟩ = some (.int .i64 x.hi.e) ∧ w'.cell? ⟨gv, ov + jb * 6, none⟩ = some (.bool y.lo.s) ∧ w'.cell? ⟨gv, ov + jb * 6 + 1, none⟩ = some (.slice A9 n9 c9) ∧ w'.cell? ⟨gv, ov + jb * 6 + 2, none⟩ = some (.int .i64 y.lo.e) ∧ w'.cell? ⟨gv, ov + jb * 6 + 3, none⟩ = some (.bool y.hi.s) ∧ w'.cell? ⟨gv, ov + jb * 6 + 4, none⟩ = some (.slice A10 n10 c10) ∧ w'.cell? ⟨gv, ov + jb * 6 + 5, none⟩ = some (.int .i64 y.hi.e)) (by kernel_rfl) (by exact ⟨m1, m2, r0, r1, r2, r3, r4, r5, s0, s1, s2, s3, s4, s5⟩) (fun hHeldv0 => ?_)
 generalize World.drew wx = wd at *
 refine tl 0 ?_
 refine tl 1 ?_
 refine tl 2 ?_
 refine tl 3 ?_
 refine tl 4 ?_
 refine tl 5 ?_
 refine tl 6 ?_
 refine tl 7 ?_
 refine tl 8 ?_
 refine tl 9 ?_
 refine tl 10 ?_
 refine rdy 11 fun K hK => ?_
 go_simp
 refine (tello_to HQ.out (amul_any S hT q1 q2 q3 q4)).mono ?_
 rintro en w' ⟨A5, n5, c5, A6, n6, c6, rfl, h5, h6, b⟩
 clear q1 q2 q3 q4 hT m0 m3 m4 m5 m6 m7 m8
 replace BB := below_next BB BB.size b (by rfl) (by rfl) (by rfl) (by rfl)
 have G := mv b (by rfl) <| And.intro m1 <| And.intro m2 <| And.intro r <| And.intro r0 <| And.intro r1 <| And.intro r2 <| And.intro r3 <| And.intro r4 <| And.intro r5 <| And.intro s0 <| And.intro s1 <| And.intro s2 <| And.intro s3 <| And.intro s4 <| s5
 clear b m1 m2 r r0 r1 r2 r3 r4 r5 s0 s1 s2 s3 s4 s5
 obtain ⟨m1, m2, r, r0, r1, r2, r3, r4, r5, s0, s1, s2, s3, s4, s5⟩ := G
 obtain ⟨f0, f1, f2, f3, f4, f5⟩ := r.open
 obtain ⟨z0, z1, z2, z3, z4, z5⟩ := r.held
 refine hK.out _ _ (by exact ⟨m1, m2, r0, r1, r2, r3, r4, r5, s0, s1, s2, s3, s4, s5⟩) (fun hHeldv1 => ?_)
 clear hK K hHeldv0
 try simp only [Act.put]
 refine tl 12 ?_
 refine tl 13 ?_
 refine rdy 14 fun K hK => ?_
 go_simp
 refine hK.out _ _ (by exact ⟨cell_oth6 m1 (by omega), cell_oth6 m2 (by omega), cell_oth6 r0 (by omega), cell_oth6 r1 (by omega), cell_oth6 r2 (by omega), cell_oth6 r3 (by omega), cell_oth6 r4 (by omega), cell_oth6 r5 (by omega), cell_oth6 s0 (by omega), cell_oth6 s1 (by omega), cell_oth6 s2 (by omega), cell_oth6 s3 (by omega), cell_oth6 s4 (by omega), cell_oth6 s5 (by omega)⟩) (fun hHeldv2 => ?_)
 clear hK K hHeldv1
 try simp only [Act.put]
 refine tl 15 ?_
 refine wpAnyH_done (by kernel_rfl) ?_ _
 go_wp2
 obtain ⟨f0, f1, f2, f3, f4, f5⟩ := r.open
 obtain ⟨z0, z1, z2, z3, z4, z5⟩ := r.held
 have qq := r.put (oiv q).lo.s A5 n5 c5 (oiv q).lo.e (oiv q).hi.s A6 n6 c6 (oiv q).hi.e
 have hN := h5.put6 r (.bool (oiv q).lo.s) (.slice A5 n5 c5) (.int .i64 (oiv q).lo.e) (.bool (oiv q).hi.s) (.slice A6 n6 c6) (.int .i64 (oiv q).hi.e)
 have hM := h6.put6 r (.bool (oiv q).lo.s) (.slice A5 n5 c5) (.int .i64 (oiv q).lo.e) (.bool (oiv q).hi.s) (.slice A6 n6 c6) (.int .i64 (oiv q).hi.e)
 have HB3 := below_put6 (g := w.heap.size + 2) BB (by omega) (.bool (oiv q).lo.s) (.slice A5 n5 c5) (.int .i64 (oiv q).lo.e) (.bool (oiv q).hi.s) (.slice A6 n6 c6) (.int .i64 (oiv q).hi.e)
 obtain ⟨z0, z1, z2, z3, z4, z5⟩ := qq.held
 exact bodyPost_ret (v := .tuple #[.agg #[.bool (oiv q).lo.s, .slice A5 n5 c5, .int .i64 (oiv q).lo.e, .bool (oiv q).hi.s, .slice A6 n6 c6, .int .i64 (oiv q).hi.e], .int .i64 (okc q)]) (by simp [results, Tryz.results82, go_sem, z0, z1, z2, z3, z4, z5]) rfl ⟨_, _, _, _, _, _, rfl, hN, hM, HB3⟩

theorem nat_below {a : Int} {n : Nat} (h : belowB a n = true) : ∃ j : Nat, a = (j : Int) ∧ j < n := by
 obtain ⟨h1, h2⟩ := belowB_iff.1 h
 exact ⟨a.toNat, by omega, by omega⟩
theorem tvalue_any (S : Sc) {w : World} {l : Ln} {E : En} {V : Nat → Iv} {p : Int} {A1 : Option Addr} {n1 c1 : Nat} {A2 : Option Addr} {n2 c2 : Nat} {A3 : Option Addr} {n3 c3 : Nat} {A4 : Option Addr} {n4 c4 : Nat} {AV : Option Addr} {nV cV : Nat} {AX : Option Addr} {cX : Nat} {AU : Option Addr} {cU : Nat} {AP : Option Addr} {cP : Nat} (hT : Tab w) (h1 : Rd w .u64 Go.Proofs.YtlpjlmophlikeaaGreatDoor.W A1 n1 c1 l.k.lo.l) (h2 : Rd w .u64 Go.Proofs.YtlpjlmophlikeaaGreatDoor.W A2 n2 c2 l.k.hi.l) (hV : RdS w AV nV cV V) (hE : RdE w E A3 n3 c3 A4 n4 c4 AX cX AU cU AP cP) (hml : mayLn S.K l nV E.nx E.nu E.np = true) (hme : mayE S.K E = true) (hp1 : 1 ≤ p) (hp2 : p ≤ 300) (hpl : l.op ≤ 8) :
  Calls Tryz.prog 82 #[.agg #[.int .i64 l.op, .int .i64 l.a, .int .i64 l.b, .bool l.k.lo.s, .slice A1 n1 c1, .int .i64 l.k.lo.e, .bool l.k.hi.s, .slice A2 n2 c2, .int .i64 l.k.hi.e], .slice AV nV cV, .agg #[.bool E.t.lo.s, .slice A3 n3 c3, .int .i64 E.t.lo.e, .bool E.t.hi.s, .slice A4 n4 c4, .int .i64 E.t.hi.e, .slice AX E.nx cX, .slice AU E.nu cU, .slice AP E.np cP], .int .i64 p] w (TellO (valO S l V E p) w) := by
 obtain ⟨op, a, b, k⟩ := l
 obtain ⟨hmt, hmx, hmu, hmp⟩ := mayE_iff.1 hme
 by_cases d1 : op = 1
 ·subst d1
  simp [mayLn] at hml
  obtain ⟨g1, rfl, rfl⟩ := hml
  exact tval_1 S hT h1 h2 hV hE g1 hp1 hp2
 by_cases d2 : op = 2
 ·subst d2
  simp [mayLn] at hml
  obtain ⟨rfl, rfl, _⟩ := hml
  exact tval_2 S hT h1 h2 hV hE hmt hp1 hp2
 by_cases d3 : op = 3
 ·subst d3
  simp [mayLn] at hml
  obtain ⟨g1, rfl, _⟩ := hml
  obtain ⟨ja, rfl, hj⟩ := nat_below g1
  exact tval_3 S hT h1 h2 hV hE hj (hmx ja hj) hp1 hp2
 by_cases d4 : op = 4
 ·subst d4
  simp [mayLn] at hml
  obtain ⟨g1, rfl, _⟩ := hml
  obtain ⟨ja, rfl, hj⟩ := nat_below g1
  exact tval_4 S hT h1 h2 hV hE hj (hmu ja hj) hp1 hp2
 by_cases d5 : op = 5
 ·subst d5
  simp [mayLn] at hml
  obtain ⟨g1, rfl, _⟩ := hml
  obtain ⟨ja, rfl, hj⟩ := nat_below g1
  exact tval_5 S hT h1 h2 hV hE hj (hmp ja hj) hp1 hp2
 by_cases d6 : op = 6
 ·subst d6
  simp [mayLn] at hml
  obtain ⟨g1, g2, _⟩ := hml
  obtain ⟨ja, rfl, hj⟩ := nat_below g1
  obtain ⟨jb, rfl, hj2⟩ := nat_below g2
  exact tval_6 S hT h1 h2 hV hE hj hj2
 by_cases d7 : op = 7
 ·subst d7
  simp [mayLn] at hml
  obtain ⟨g1, g2, _⟩ := hml
  obtain ⟨ja, rfl, hj⟩ := nat_below g1
  obtain ⟨jb, rfl, hj2⟩ := nat_below g2
  exact tval_7 S hT h1 h2 hV hE hj hj2
 by_cases d8 : op = 8
 ·subst d8
  simp [mayLn] at hml
  obtain ⟨g1, g2, _⟩ := hml
  obtain ⟨ja, rfl, hj⟩ := nat_below g1
  obtain ⟨jb, rfl, hj2⟩ := nat_below g2
  exact tval_8 S hT h1 h2 hV hE hj hj2
 have hp8 : op ≤ 8 := hpl
 have d9 : ¬ op = 9 := by omega
 have d10 : ¬ op = 10 := by omega
 have d11 : ¬ op = 11 := by omega
 have d12 : ¬ op = 12 := by omega
 have d13 : ¬ op = 13 := by omega
 exact absurd hml (by simp [mayLn, d1, d2, d3, d4, d5, d6, d7, d8, d9, d10, d11, d12, d13])

end Go.Proofs.YtlpjlmophlikeaaGreatDoor
