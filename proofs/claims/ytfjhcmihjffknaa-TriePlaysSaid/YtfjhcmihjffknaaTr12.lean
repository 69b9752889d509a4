/-
  Package trie: what a table drops and finds; how it is made. No condition but that New made it.
-/
import Derived.Test.YtfjhcmihjffknaaTr11
namespace Go.Proofs.Ytfjhcmihjffknaa
set_option linter.unusedVariables false
set_option linter.unusedSimpArgs false
open Go.ChangeShapes Go.WideShapes Go.ChangeAt Go.RowKit
attribute [local go_sem] alloc_drewN setCell_drewN

theorem bp_genT {P : Program} {f : Func} {Q : Ending → World → Prop} {ex : Exit} {a : Act} {w : World} (h : ∀ v, v = w → bodyPost P f Q ex a v) : bodyPost P f Q ex a w := h w rfl
section
variable {w w' : World} {base T : Nat} {t : Tr} {cnt : Int} {bs : List Nat} {a n : Int}
set_option maxRecDepth 100000 in
theorem tdrop_nil (a n : Int) (w : World) : Calls Try.prog 33 #[.pointer none, .agg #[.int .u32 a, .int .i64 n]] w fun e w' => e = .returned (.tuple #[.int .i64 0, .bool false]) ∧ Below w.heap.size w w' := by
  obtain ⟨hb, hp, hsz⟩ := prefix_box w a n
  obtain ⟨p0, p1⟩ := box2 hp
  have HB := Lib.hid hb
  clear hb hp hsz
  go_enter Try.func33, Try.ntmps33
  go_wp2_with fail
  refine (tget_nil a n _).mono ?_
  rintro e w1 ⟨rfl, b1⟩
  have B1 := Lib.hid (HB.out.trans (b1.mono HB.out.size))
  clear b1
  go_wp2
  go_ret2
  exact ⟨rfl, B1.out⟩
set_option maxRecDepth 100000 in
theorem tdrop_none (h : TabAt w base T t cnt bs) (ha : 0 ≤ a ∧ a ≤ 4294967295) (hn : -9223372036854775808 ≤ n ∧ n ≤ 9223372036854775807) (hg : tget a n t = none) : Calls Try.prog 33 #[.pointer (some ⟨T, 0, none⟩), .agg #[.int .u32 a, .int .i64 n]] w fun e w' => e = .returned (.tuple #[.int .i64 0, .bool false]) ∧ Below w.heap.size w w' := by
  obtain ⟨hb, hp, hsz⟩ := prefix_box w a n
  obtain ⟨p0, p1⟩ := box2 hp
  have HB := Lib.hid hb
  have GT := tget_in (h.below hb) ha hn
  rw [hg] at GT
  have GT := Lib.hid GT
  clear hb hp hsz h
  go_enter Try.func33, Try.ntmps33
  go_wp2_with fail
  refine GT.out.mono ?_
  rintro e w1 ⟨rfl, b1⟩
  have B1 := Lib.hid (HB.out.trans (b1.mono HB.out.size))
  clear b1
  go_wp2
  go_ret2
  exact ⟨rfl, B1.out⟩
set_option maxRecDepth 100000 in
set_option maxHeartbeats 8000000 in
theorem tdrop_ok (h : TabAt w base T t cnt bs) (ha : 0 ≤ a ∧ a ≤ 4294967295) (hn : -9223372036854775808 ≤ n ∧ n ≤ 9223372036854775807) {z : Int} (hg : tget a n t = some z) (hcn : 1 ≤ cnt) : Calls Try.prog 33 #[.pointer (some ⟨T, 0, none⟩), .agg #[.int .u32 a, .int .i64 n]] w fun e w' => e = .returned (.tuple #[.int .i64 z, .bool true]) ∧ ∃ bs', TabAt w' base T (tdrop a n t) (cnt - 1) bs' ∧ MvS w w' (fun j => j ∈ T :: bs) (fun j => j ∈ T :: bs') := by
  obtain ⟨hb, hp, hsz⟩ := prefix_box w a n
  have HB := Lib.hid hb
  have HP := Lib.hid hp
  have SZ := Lib.hid hsz
  have HH := Lib.hid (h.below hb)
  have H0 := Lib.hid h
  have GT := tget_in (h.below hb) ha hn
  rw [hg] at GT
  have GT := Lib.hid GT
  have TA := Lib.hid (show tat a n t ≠ none from fun e => by unfold tget at hg; rw [e] at hg; cases hg)
  obtain ⟨p0, p1⟩ := box2 hp
  have hw1 : IntKind.i64.wrap (cnt - 1) = cnt - 1 := by rw [IntKind.wrap_i64]; have := h.2.2.1; omega
  have CN := Lib.hid (show 0 ≤ cnt - 1 ∧ cnt - 1 ≤ 4096 by have := h.2.2.1; omega)
  clear hb hp hsz h hcn hg
  go_enter Try.func33, Try.ntmps33
  go_wp2_with fail
  refine GT.out.mono ?_
  rintro e w3 ⟨rfl, b3⟩
  generalize w.alloc (.cells #[.int .u32 a, .int .i64 n] 70) = W at *
  have H3 := Lib.hid (HH.out.below b3)
  have B3 := Lib.hid (HB.out.trans (b3.mono HB.out.size))
  have P3 := Lib.hid ((b3.block _ SZ.out).trans HP.out)
  obtain ⟨r0, r1⟩ := box2 P3.out
  have S3 := Lib.hid (Nat.lt_of_lt_of_le SZ.out b3.size)
  clear b3 GT p0 p1
  obtain ⟨g1, g2, g3, g4, B, g5, g6⟩ := H3.out
  obtain ⟨c0, c1, -⟩ := tab_cells g5
  have ROOT := Lib.hid (show ∃ c, w.heap[T]? = some (.cells #[.pointer (some ⟨B, 0, none⟩), .int .i64 c] 128 (0, 0)) by
    obtain ⟨-, -, -, -, B', e5, -⟩ := H0.out
    have e := (B3.out.block T H0.out.inlt.2.1).trans e5
    rw [g5] at e
    exact ⟨cnt, e5.trans (by rw [← e])⟩)
  have PB := Lib.hid (drop_any (n := n) ha t (g6.below ((Below.refl _ w3).drew)) TA.out)
  have NN := Lib.hid g1
  clear g1 g2 g3 g4 g5 g6
  go_wp2
  go_region_held3 (fun v => v.cell? ⟨T, 0, none⟩ = some (.pointer (some ⟨B, 0, none⟩)) ∧ v.cell? ⟨w.heap.size, 0, none⟩ = some (.int .u32 a) ∧ v.cell? ⟨w.heap.size, 1, none⟩ = some (.int .i64 n)) ((first | exact JP | exact ⟨c0, r0, r1⟩)) (first
    | (go_at_call 63; refine PB.out.mono ?_; rintro e w4 ⟨⟨p, -, rfl, -, -⟩, bs4, t4, m4⟩; have FIN := Lib.hid (H0.out.turn (B3.out.drew) t4 ROOT.out (tdrop_isNil a n NN.out) m4 (cnt - 1) CN.out); obtain ⟨k0, k1, k2⟩ := tab_cells FIN.out.1; have PNI : w.heap.size ∉ bs := (fun hin => (by have := (H0.out.inlt.2.2 _ hin).2; omega)); have PN := Lib.hid (show w4.heap[w.heap.size]? = some _ from (m4.block _ S3.out PNI).trans P3.out); have JP : w4.cell? ⟨T, 0, none⟩ = some (.pointer (some ⟨B, 0, none⟩)) ∧ w4.cell? ⟨w.heap.size, 0, none⟩ = some (.int .u32 a) ∧ w4.cell? ⟨w.heap.size, 1, none⟩ = some (.int .i64 n) := ⟨k0, box2 PN.out⟩; clear t4 m4)
    | fail)
  clear c0 c1 r0 r1 JP PB
  go_wp2
  go_ret2
  exact ⟨rfl, bs4, FIN.out.2.1, FIN.out.2.2⟩
set_option maxRecDepth 100000 in
set_option maxHeartbeats 4000000 in
theorem tfind_nil (a : Int) (w : World) : Calls Try.prog 34 #[.pointer none, .int .u32 a] w fun e w' => e = .returned (.tuple #[.agg #[.int .u32 0, .int .i64 0], .int .i64 0, .bool false]) ∧ Below w.heap.size w w' := by
  obtain ⟨hb, hp, hsz⟩ := prefix_box w 0 0
  have HB := Lib.hid hb
  have HP := Lib.hid hp
  have f0 := frozen_of_row _ _ 0 _ _ hp
  have f1 := frozen_of_row _ _ 1 _ _ hp
  obtain ⟨p0, p1⟩ := box2 hp
  clear hb hp hsz
  go_enter Try.func34, Try.ntmps34
  go_wp2_with fail
  refine (tmade_nil _).mono ?_
  rintro e w1 ⟨rfl, rfl⟩
  go_wp2
  refine bodyPost_ret (v := .tuple #[.agg #[.int .u32 0, .int .i64 0], .int .i64 0, .bool false]) (by simp [results, Try.results34, go_sem, p0, p1]) rfl ⟨rfl, HB.out⟩
set_option maxRecDepth 100000 in
set_option maxHeartbeats 4000000 in
theorem tfind_none (h : TabAt w base T t cnt bs) (ha : 0 ≤ a ∧ a ≤ 4294967295) (hg : tfind a t = none) : Calls Try.prog 34 #[.pointer (some ⟨T, 0, none⟩), .int .u32 a] w fun e w' => e = .returned (.tuple #[.agg #[.int .u32 0, .int .i64 0], .int .i64 0, .bool false]) ∧ Below w.heap.size w w' := by
  obtain ⟨hb, hp, hsz⟩ := prefix_box w 0 0
  have MD := Lib.hid (tmade (h.below hb))
  have HB := Lib.hid hb
  have HP := Lib.hid hp
  have SZ := Lib.hid hsz
  obtain ⟨g1, g2, g3, g4, B, g5, g6⟩ := h.below hb
  obtain ⟨c0, c1, -⟩ := tab_cells g5
  have FD := find_any ha t g6 _ (Below.refl _ _)
  rw [hg] at FD
  have FD := Lib.hid FD
  clear hb hp hsz h g1 g2 g3 g4 g5 g6
  go_enter Try.func34, Try.ntmps34
  go_wp2_with fail
  refine MD.out.mono ?_
  rintro e w1 ⟨rfl, rfl⟩
  clear MD
  generalize w.alloc (.cells #[.int .u32 0, .int .i64 0] 70) = W at *
  go_wp2_with fail
  refine FD.out.mono ?_
  rintro e w2 ⟨⟨v, rfl, hv⟩, b2⟩
  have hv : v = .pointer none := hv
  subst hv
  have B2 := Lib.hid (HB.out.trans (b2.mono HB.out.size))
  have P2 := (b2.block _ SZ.out).trans HP.out
  have f0 := frozen_of_row _ _ 0 _ _ P2
  have f1 := frozen_of_row _ _ 1 _ _ P2
  obtain ⟨q0, q1⟩ := box2 P2
  have Z0 := heap_set P2 0 (.int .u32 0)
  have Z1 := Lib.hid (heap_set Z0 1 (.int .i64 0))
  clear b2 P2 FD Z0
  go_wp2
  refine bp_genT ?_
  intro vz hvz
  have P : vz.heap[w.heap.size]? = some (.cells #[.int .u32 0, .int .i64 0] 70 (0, 0)) := by
    rw [hvz]
    simpa using Z1.out
  have Q : Below w.heap.size w vz := by
    rw [hvz]
    exact Below.setCell (Below.setCell B2.out (p := ⟨w.heap.size, 0, none⟩) (Nat.le_refl _) _) (p := ⟨w.heap.size, 1, none⟩) (Nat.le_refl _) _
  clear hvz
  obtain ⟨y0, y1⟩ := box2 P
  refine bodyPost_ret (v := .tuple #[.agg #[.int .u32 0, .int .i64 0], .int .i64 0, .bool false]) (by simp [results, Try.results34, go_sem, y0, y1]) rfl ⟨rfl, Q⟩
set_option maxRecDepth 100000 in
set_option maxHeartbeats 4000000 in
theorem tfind_some (h : TabAt w base T t cnt bs) (ha : 0 ≤ a ∧ a ≤ 4294967295) {b m x : Int} (hg : tfind a t = some (b, m, x)) : Calls Try.prog 34 #[.pointer (some ⟨T, 0, none⟩), .int .u32 a] w fun e w' => e = .returned (.tuple #[.agg #[.int .u32 b, .int .i64 m], .int .i64 x, .bool true]) ∧ Below w.heap.size w w' := by
  obtain ⟨hb, hp, hsz⟩ := prefix_box w 0 0
  have MD := Lib.hid (tmade (h.below hb))
  have HB := Lib.hid hb
  have HP := Lib.hid hp
  have SZ := Lib.hid hsz
  obtain ⟨g1, g2, g3, g4, B, g5, g6⟩ := h.below hb
  obtain ⟨c0, c1, -⟩ := tab_cells g5
  have FD := find_any ha t g6 _ (Below.refl _ _)
  rw [hg] at FD
  have FD := Lib.hid FD
  clear hb hp hsz h g1 g2 g3 g4 g5 g6
  go_enter Try.func34, Try.ntmps34
  go_wp2_with fail
  refine MD.out.mono ?_
  rintro e w1 ⟨rfl, rfl⟩
  clear MD
  generalize w.alloc (.cells #[.int .u32 0, .int .i64 0] 70) = W at *
  go_wp2_with fail
  refine FD.out.mono ?_
  rintro e w2 ⟨⟨v, rfl, hv⟩, b2⟩
  obtain ⟨B2_, th2, vl2, vr2, rfl, hN⟩ := hv
  obtain ⟨d0, d1, -, d3, -, -⟩ := (hN.below b2).cell
  dsimp only at d0 d1 d3
  have B2 := Lib.hid (HB.out.trans (b2.mono HB.out.size))
  have P2 := (b2.block _ SZ.out).trans HP.out
  have f0 := frozen_of_row _ _ 0 _ _ P2
  have f1 := frozen_of_row _ _ 1 _ _ P2
  obtain ⟨q0, q1⟩ := box2 P2
  have Z0 := heap_set P2 0 (.int .u32 b)
  have Z2 : ((w2.setCell ⟨w.heap.size, 0, none⟩ (.int .u32 b)).setCell ⟨w.heap.size, 1, none⟩ (.int .i64 m)).heap[w.heap.size]? = some (.cells #[.int .u32 b, .int .i64 m] 70 (0, 0)) := by simpa using heap_set Z0 1 (.int .i64 m)
  have Z1 := Lib.hid Z2
  clear b2 P2 FD Z0 hN Z2
  go_wp2
  go_region
  (try simp only [Exit.then])
  go_wp2
  refine bp_genT ?_
  intro vz hvz
  have P : vz.heap[w.heap.size]? = some (.cells #[.int .u32 b, .int .i64 m] 70 (0, 0)) := by
    rw [hvz]
    exact Z1.out
  have Q : Below w.heap.size w vz := by
    rw [hvz]
    exact (Below.setCell (Below.setCell B2.out (p := ⟨w.heap.size, 0, none⟩) (Nat.le_refl _) _) (p := ⟨w.heap.size, 1, none⟩) (Nat.le_refl _) _).drew
  clear hvz
  obtain ⟨y0, y1⟩ := box2 P
  refine bodyPost_ret (v := .tuple #[.agg #[.int .u32 b, .int .i64 m], .int .i64 x, .bool true]) (by simp [results, Try.results34, go_sem, y0, y1]) rfl ⟨rfl, Q⟩
set_option maxRecDepth 100000 in
theorem tall_nil (w : World) : Calls Try.prog 37 #[.pointer none] w fun e w' => e = .returned (.slice none 0 0) ∧ w' = w := by
  go_enter Try.func37, Try.ntmps37
  go_wp2_with fail
  refine (tmade_nil _).mono ?_
  rintro e w1 ⟨rfl, rfl⟩
  go_wp2
  go_ret
  exact ⟨rfl, rfl⟩
set_option maxRecDepth 100000 in
theorem tnew (w : World) : Calls Try.prog 39 #[] w fun e w' => e = .returned (.pointer (some ⟨w.heap.size + 1, 0, none⟩)) ∧ TabAt w' w.heap.size (w.heap.size + 1) (.nd 0 0 false 0 .nil .nil) 0 [w.heap.size] ∧ Below w.heap.size w w' := by
  have h0 := heap_alloc_new w (.cells #[.int .u32 0, .int .i64 0, .bool false, .int .i64 0, .pointer none, .pointer none] 126)
  have h1 := heap_alloc_new (w.alloc (.cells #[.int .u32 0, .int .i64 0, .bool false, .int .i64 0, .pointer none, .pointer none] 126)) (.cells #[.pointer (some ⟨w.heap.size, 0, none⟩), .int .i64 0] 128)
  have h2 := Lib.hid ((Below.heap_alloc _ (.cells #[.pointer (some ⟨w.heap.size, 0, none⟩), .int .i64 0] 128) w.heap.size (by simp)).trans h0)
  have h1 := Lib.hid h1
  clear h0
  go_enter Try.func39, Try.ntmps39
  go_wp2
  go_ret
  refine ⟨rfl, ⟨rfl, by omega, by omega, by simp, w.heap.size, by simpa only [World.size_alloc] using h1.out, w.heap.size, _, _, [], [], rfl, rfl, Nat.le_refl _, by omega, by omega, h2.out, ⟨rfl, rfl⟩, ⟨rfl, rfl⟩, by simp⟩, ((Below.refl _ w).alloc (Nat.le_refl _) _).alloc (by simp) _⟩
end
end Go.Proofs.Ytfjhcmihjffknaa
