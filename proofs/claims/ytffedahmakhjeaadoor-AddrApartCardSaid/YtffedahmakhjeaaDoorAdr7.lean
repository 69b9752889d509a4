/-
  Layer 31: the parts of an address, a prefix out of a text, and the example, as the program has them. What the library's variables hold is handed on.
-/
import Derived.Test.YtffedahmakhjeaaDoorAdr6
import Derived.Test.YtffedahmakhjeaaDoorAdr3
namespace Go.Proofs.YtffedahmakhjeaaDoor
set_option linter.unusedVariables false
set_option linter.unusedSimpArgs false
open Go.ChangeShapes Go.WideShapes Go.ChangeAt Go.RowKit
attribute [-go_sem] run_index_string binOp_string_eql binOp_string_neq run_string_add_if run_slice_string_from_if run_slice_string_to_if
attribute [local go_sem] index_at add_fits slice_from slice_to eql_str neq_str alloc_drewN setCell_drewN arr_0 arr_1 arr_2 arr_3

set_option maxRecDepth 100000 in
set_option maxHeartbeats 1000000 in
theorem split_any (a : Int) (a0 : 0 ≤ a) (a1 : a ≤ 4294967295) (w : World) :
    Calls Tryd.prog 31 #[.int .u32 a] w fun e w' => e = .returned (.agg #[.int .u8 (a / 16777216), .int .u8 (a / 65536 % 256), .int .u8 (a / 256 % 256), .int .u8 (a % 256)]) ∧ Below w.heap.size w w' := by
  have e0 : IntKind.u8.wrap (a / 16777216) = a / 16777216 := by rw [IntKind.wrap_u8]; omega
  have e1 : IntKind.u8.wrap (a / 65536) = a / 65536 % 256 := by rw [IntKind.wrap_u8]
  have e2 : IntKind.u8.wrap (a / 256) = a / 256 % 256 := by rw [IntKind.wrap_u8]
  have e3 : IntKind.u8.wrap a = a % 256 := by rw [IntKind.wrap_u8]
  go_enter Tryd.func31, Tryd.ntmps31
  go_wp2
  refine wp_loop_rounds 5 ?_
  rw [rounds_succ]
  go_wp2
  rw [rounds_succ]
  go_wp2
  rw [rounds_succ]
  go_wp2
  rw [rounds_succ]
  go_wp2
  rw [rounds_succ]
  go_wp2
  (try simp only [Exit.inBlock, Exit.then])
  refine bp_gen ?_
  intro vz hvz
  have P : vz.heap[w.heap.size]? = some (.cells #[.int .u8 (a / 16777216), .int .u8 (a / 65536 % 256), .int .u8 (a / 256 % 256), .int .u8 (a % 256)] 49 (0, 0)) := by rw [hvz]; exact blk_old (heap_alloc_new _ _)
  have Q : Below w.heap.size w vz := by rw [hvz]; exact ((Below.refl _ w).alloc (Nat.le_refl _) _).alloc (by simp) _
  clear hvz
  obtain ⟨y0, y1, y2, y3, -⟩ := at4 P
  refine bodyPost_ret (v := .agg #[.int .u8 (a / 16777216), .int .u8 (a / 65536 % 256), .int .u8 (a / 256 % 256), .int .u8 (a % 256)]) (by simp [results, Tryd.results31, go_sem, y0, y1, y2, y3]) rfl ⟨rfl, Q⟩
set_option maxRecDepth 100000 in
set_option maxHeartbeats 2000000 in
theorem aput_four (a n0 n1 n2 n3 : Int) (d0 d1 d2 d3 R : ByteArray) (a0 : 0 ≤ a) (a1 : a ≤ 4294967295) (h0 : a / 16777216 = n0) (h1 : a / 65536 % 256 = n1) (h2 : a / 256 % 256 = n2) (h3 : a % 256 = n3) (g0 : dec n0 = d0) (g1 : dec n1 = d1) (g2 : dec n2 = d2) (g3 : dec n3 = d3)
    (hl : (Lib.join [d0.data.toList, d1.data.toList, d2.data.toList, d3.data.toList] [46]).length ≤ 140737488355328) (hR : (⟨(Lib.join [d0.data.toList, d1.data.toList, d2.data.toList, d3.data.toList] [46]).toArray⟩ : ByteArray) = R) (w : World) (H : Held31 w) :
    Calls Tryd.prog 12 #[.int .u32 a] w fun e w' => e = .returned (.string R) ∧ Below w.heap.size w w' := by
  have SP : Hid (∀ W, Below w.heap.size w W → Calls Tryd.prog 31 #[.int .u32 a] W fun e w' => e = .returned (.agg #[.int .u8 n0, .int .u8 n1, .int .u8 n2, .int .u8 n3]) ∧ Below W.heap.size W w') := Lib.hid (fun W _ => by
    have := split_any a a0 a1 W
    rw [h0, h1, h2, h3] at this
    exact this)
  have D0 : Hid (∀ W, Below w.heap.size w W → Calls Tryd.prog 32 #[.int .u64 n0] W fun e w' => e = .returned (.string d0) ∧ Below W.heap.size W w') := Lib.hid (fun W hW => by
    have := put31 n0 (by omega) (by omega) W (H.below hW)
    rw [g0] at this
    exact this)
  have e0_ : IntKind.u64.wrap n0 = n0 := by rw [IntKind.wrap_u64]; omega
  have D1 : Hid (∀ W, Below w.heap.size w W → Calls Tryd.prog 32 #[.int .u64 n1] W fun e w' => e = .returned (.string d1) ∧ Below W.heap.size W w') := Lib.hid (fun W hW => by
    have := put31 n1 (by omega) (by omega) W (H.below hW)
    rw [g1] at this
    exact this)
  have e1_ : IntKind.u64.wrap n1 = n1 := by rw [IntKind.wrap_u64]; omega
  have D2 : Hid (∀ W, Below w.heap.size w W → Calls Tryd.prog 32 #[.int .u64 n2] W fun e w' => e = .returned (.string d2) ∧ Below W.heap.size W w') := Lib.hid (fun W hW => by
    have := put31 n2 (by omega) (by omega) W (H.below hW)
    rw [g2] at this
    exact this)
  have e2_ : IntKind.u64.wrap n2 = n2 := by rw [IntKind.wrap_u64]; omega
  have D3 : Hid (∀ W, Below w.heap.size w W → Calls Tryd.prog 32 #[.int .u64 n3] W fun e w' => e = .returned (.string d3) ∧ Below W.heap.size W w') := Lib.hid (fun W hW => by
    have := put31 n3 (by omega) (by omega) W (H.below hW)
    rw [g3] at this
    exact this)
  have e3_ : IntKind.u64.wrap n3 = n3 := by rw [IntKind.wrap_u64]; omega
  have JN : Hid (∀ W, (Below w.heap.size w W ∧ W.heap[w.heap.size]? = some (.cells #[.string d0, .string d1, .string d2, .string d3] 61 (0, 0))) → Calls Tryd.prog 33 #[.slice (some ⟨w.heap.size, 0, none⟩) 4 4, .string ⟨#[46]⟩] W fun e w' => e = .returned (.string R) ∧ Below W.heap.size W w') := Lib.hid (fun W hW => by
    have hc := at4 hW.2
    have := Tryd.strings_Join w.heap.size 0 4 [d0, d1, d2, d3] ⟨#[46]⟩ W (fun j x hx => by
      match j, hx with
      | 0, hx => obtain rfl : d0 = x := by simpa using hx
                 exact hc.1
      | 1, hx => obtain rfl : d1 = x := by simpa using hx
                 exact hc.2.1
      | 2, hx => obtain rfl : d2 = x := by simpa using hx
                 exact hc.2.2.1
      | 3, hx => obtain rfl : d3 = x := by simpa using hx
                 exact hc.2.2.2.1
      | z + 4, hx => simp at hx) (lt_blk hW.2) (show (4 : Nat) ≤ 140737488355328 by omega) (show (4 : Nat) ≤ 4 by omega) hl
    rw [show ([d0, d1, d2, d3].map (·.data.toList)) = [d0.data.toList, d1.data.toList, d2.data.toList, d3.data.toList] from rfl] at this
    rw [← hR]
    exact this)
  have B0 : Below w.heap.size w w := Below.refl _ _
  clear h0 h1 h2 h3 g0 g1 g2 g3 hl hR H
  go_enter Tryd.func12, Tryd.ntmps12
  go_wp2_with fail
  refine (SP.out _ (by (repeat' (first | (with_reducible exact B0) | (with_reducible exact Below.refl _ _) | (with_reducible refine below_drewN _ ?_) | (with_reducible refine Below.drew ?_) | (with_reducible refine Below.alloc ?_ (by first | exact Nat.le_refl _ | omega | (have := B0.size; simp; omega) | (simp; done)) _) | (with_reducible refine Below.setCell ?_ (by first | exact Nat.le_refl _ | omega | (have := B0.size; simp; omega) | (simp; done)) _))))).mono ?_
  rintro e wS ⟨rfl, kbwS⟩
  have bwS : Below w.heap.size w wS := bel_call kbwS (by (repeat' (first | (with_reducible exact B0) | (with_reducible exact Below.refl _ _) | (with_reducible refine below_drewN _ ?_) | (with_reducible refine Below.drew ?_) | (with_reducible refine Below.alloc ?_ (by first | exact Nat.le_refl _ | omega | (have := B0.size; simp; omega) | (simp; done)) _) | (with_reducible refine Below.setCell ?_ (by first | exact Nat.le_refl _ | omega | (have := B0.size; simp; omega) | (simp; done)) _)))) (by first | exact Nat.le_refl _ | omega | (have := B0.size; simp; omega) | (simp; done))
  have Zx1 : wS.heap[w.heap.size]? = some (.cells #[.string ⟨#[]⟩, .string ⟨#[]⟩, .string ⟨#[]⟩, .string ⟨#[]⟩] 61 (0, 0)) := blk_call kbwS (by (repeat' (first | (with_reducible exact heap_alloc_new _ _) | (with_reducible exact blk_new (by first | (simp; done) | omega)) | (with_reducible refine blk_drew ?_) | (with_reducible apply put4_0) | (with_reducible apply put4_1) | (with_reducible apply put4_2) | (with_reducible apply put4_3) | (with_reducible apply put2_0) | (with_reducible apply put2_1) | (with_reducible refine blk_else (by omega) ?_) | (with_reducible refine blk_old ?_))))
  obtain ⟨zx0, zx1, zx2, zx3, fx0, fx1, fx2, fx3⟩ := at4 Zx1
  have nx_ := ne_blk Zx1
  have mx_ := Ne.symm nx_
  have lx_ := lt_blk Zx1
  clear kbwS
  go_wp2
  refine wp_loop_rounds 5 ?_
  rw [rounds_succ]
  go_wp2_with fail
  refine (D0.out _ (by (repeat' (first | (with_reducible exact bwS) | (with_reducible exact Below.refl _ _) | (with_reducible refine below_drewN _ ?_) | (with_reducible refine Below.drew ?_) | (with_reducible refine Below.alloc ?_ (by first | exact Nat.le_refl _ | omega | (have := bwS.size; simp; omega) | (simp; done)) _) | (with_reducible refine Below.setCell ?_ (by first | exact Nat.le_refl _ | omega | (have := bwS.size; simp; omega) | (simp; done)) _))))).mono ?_
  rintro e wA ⟨rfl, kbwA⟩
  have bwA : Below w.heap.size w wA := bel_call kbwA (by (repeat' (first | (with_reducible exact bwS) | (with_reducible exact Below.refl _ _) | (with_reducible refine below_drewN _ ?_) | (with_reducible refine Below.drew ?_) | (with_reducible refine Below.alloc ?_ (by first | exact Nat.le_refl _ | omega | (have := bwS.size; simp; omega) | (simp; done)) _) | (with_reducible refine Below.setCell ?_ (by first | exact Nat.le_refl _ | omega | (have := bwS.size; simp; omega) | (simp; done)) _)))) (by first | exact Nat.le_refl _ | omega | (have := bwS.size; simp; omega) | (simp; done))
  have Zx2 : wA.heap[w.heap.size]? = some (.cells #[.string ⟨#[]⟩, .string ⟨#[]⟩, .string ⟨#[]⟩, .string ⟨#[]⟩] 61 (0, 0)) := blk_call kbwA (by (repeat' (first | (with_reducible exact Zx1) | (with_reducible exact heap_alloc_new _ _) | (with_reducible exact blk_new (by first | (simp; done) | omega)) | (with_reducible refine blk_drew ?_) | (with_reducible apply put4_0) | (with_reducible apply put4_1) | (with_reducible apply put4_2) | (with_reducible apply put4_3) | (with_reducible apply put2_0) | (with_reducible apply put2_1) | (with_reducible refine blk_else (by omega) ?_) | (with_reducible refine blk_old ?_))))
  clear Zx1 zx0 zx1 zx2 zx3 nx_ mx_ lx_ fx0 fx1 fx2 fx3
  obtain ⟨zx0, zx1, zx2, zx3, fx0, fx1, fx2, fx3⟩ := at4 Zx2
  have nx_ := ne_blk Zx2
  have mx_ := Ne.symm nx_
  have lx_ := lt_blk Zx2
  clear kbwA
  go_wp2
  rw [rounds_succ]
  go_wp2_with fail
  refine (D1.out _ (by (repeat' (first | (with_reducible exact bwA) | (with_reducible exact Below.refl _ _) | (with_reducible refine below_drewN _ ?_) | (with_reducible refine Below.drew ?_) | (with_reducible refine Below.alloc ?_ (by first | exact Nat.le_refl _ | omega | (have := bwA.size; simp; omega) | (simp; done)) _) | (with_reducible refine Below.setCell ?_ (by first | exact Nat.le_refl _ | omega | (have := bwA.size; simp; omega) | (simp; done)) _))))).mono ?_
  rintro e wB ⟨rfl, kbwB⟩
  have bwB : Below w.heap.size w wB := bel_call kbwB (by (repeat' (first | (with_reducible exact bwA) | (with_reducible exact Below.refl _ _) | (with_reducible refine below_drewN _ ?_) | (with_reducible refine Below.drew ?_) | (with_reducible refine Below.alloc ?_ (by first | exact Nat.le_refl _ | omega | (have := bwA.size; simp; omega) | (simp; done)) _) | (with_reducible refine Below.setCell ?_ (by first | exact Nat.le_refl _ | omega | (have := bwA.size; simp; omega) | (simp; done)) _)))) (by first | exact Nat.le_refl _ | omega | (have := bwA.size; simp; omega) | (simp; done))
  have Zx3 : wB.heap[w.heap.size]? = some (.cells #[.string d0, .string ⟨#[]⟩, .string ⟨#[]⟩, .string ⟨#[]⟩] 61 (0, 0)) := blk_call kbwB (by (repeat' (first | (with_reducible exact Zx2) | (with_reducible exact heap_alloc_new _ _) | (with_reducible exact blk_new (by first | (simp; done) | omega)) | (with_reducible refine blk_drew ?_) | (with_reducible apply put4_0) | (with_reducible apply put4_1) | (with_reducible apply put4_2) | (with_reducible apply put4_3) | (with_reducible apply put2_0) | (with_reducible apply put2_1) | (with_reducible refine blk_else (by omega) ?_) | (with_reducible refine blk_old ?_))))
  clear Zx2 zx0 zx1 zx2 zx3 nx_ mx_ lx_ fx0 fx1 fx2 fx3
  obtain ⟨zx0, zx1, zx2, zx3, fx0, fx1, fx2, fx3⟩ := at4 Zx3
  have nx_ := ne_blk Zx3
  have mx_ := Ne.symm nx_
  have lx_ := lt_blk Zx3
  clear kbwB
  go_wp2
  rw [rounds_succ]
  go_wp2_with fail
  refine (D2.out _ (by (repeat' (first | (with_reducible exact bwB) | (with_reducible exact Below.refl _ _) | (with_reducible refine below_drewN _ ?_) | (with_reducible refine Below.drew ?_) | (with_reducible refine Below.alloc ?_ (by first | exact Nat.le_refl _ | omega | (have := bwB.size; simp; omega) | (simp; done)) _) | (with_reducible refine Below.setCell ?_ (by first | exact Nat.le_refl _ | omega | (have := bwB.size; simp; omega) | (simp; done)) _))))).mono ?_
  rintro e wC ⟨rfl, kbwC⟩
  have bwC : Below w.heap.size w wC := bel_call kbwC (by (repeat' (first | (with_reducible exact bwB) | (with_reducible exact Below.refl _ _) | (with_reducible refine below_drewN _ ?_) | (with_reducible refine Below.drew ?_) | (with_reducible refine Below.alloc ?_ (by first | exact Nat.le_refl _ | omega | (have := bwB.size; simp; omega) | (simp; done)) _) | (with_reducible refine Below.setCell ?_ (by first | exact Nat.le_refl _ | omega | (have := bwB.size; simp; omega) | (simp; done)) _)))) (by first | exact Nat.le_refl _ | omega | (have := bwB.size; simp; omega) | (simp; done))
  have Zx4 : wC.heap[w.heap.size]? = some (.cells #[.string d0, .string d1, .string ⟨#[]⟩, .string ⟨#[]⟩] 61 (0, 0)) := blk_call kbwC (by (repeat' (first | (with_reducible exact Zx3) | (with_reducible exact heap_alloc_new _ _) | (with_reducible exact blk_new (by first | (simp; done) | omega)) | (with_reducible refine blk_drew ?_) | (with_reducible apply put4_0) | (with_reducible apply put4_1) | (with_reducible apply put4_2) | (with_reducible apply put4_3) | (with_reducible apply put2_0) | (with_reducible apply put2_1) | (with_reducible refine blk_else (by omega) ?_) | (with_reducible refine blk_old ?_))))
  clear Zx3 zx0 zx1 zx2 zx3 nx_ mx_ lx_ fx0 fx1 fx2 fx3
  obtain ⟨zx0, zx1, zx2, zx3, fx0, fx1, fx2, fx3⟩ := at4 Zx4
  have nx_ := ne_blk Zx4
  have mx_ := Ne.symm nx_
  have lx_ := lt_blk Zx4
  clear kbwC
  go_wp2
  rw [rounds_succ]
  go_wp2_with fail
  refine (D3.out _ (by (repeat' (first | (with_reducible exact bwC) | (with_reducible exact Below.refl _ _) | (with_reducible refine below_drewN _ ?_) | (with_reducible refine Below.drew ?_) | (with_reducible refine Below.alloc ?_ (by first | exact Nat.le_refl _ | omega | (have := bwC.size; simp; omega) | (simp; done)) _) | (with_reducible refine Below.setCell ?_ (by first | exact Nat.le_refl _ | omega | (have := bwC.size; simp; omega) | (simp; done)) _))))).mono ?_
  rintro e wD ⟨rfl, kbwD⟩
  have bwD : Below w.heap.size w wD := bel_call kbwD (by (repeat' (first | (with_reducible exact bwC) | (with_reducible exact Below.refl _ _) | (with_reducible refine below_drewN _ ?_) | (with_reducible refine Below.drew ?_) | (with_reducible refine Below.alloc ?_ (by first | exact Nat.le_refl _ | omega | (have := bwC.size; simp; omega) | (simp; done)) _) | (with_reducible refine Below.setCell ?_ (by first | exact Nat.le_refl _ | omega | (have := bwC.size; simp; omega) | (simp; done)) _)))) (by first | exact Nat.le_refl _ | omega | (have := bwC.size; simp; omega) | (simp; done))
  have Zx5 : wD.heap[w.heap.size]? = some (.cells #[.string d0, .string d1, .string d2, .string ⟨#[]⟩] 61 (0, 0)) := blk_call kbwD (by (repeat' (first | (with_reducible exact Zx4) | (with_reducible exact heap_alloc_new _ _) | (with_reducible exact blk_new (by first | (simp; done) | omega)) | (with_reducible refine blk_drew ?_) | (with_reducible apply put4_0) | (with_reducible apply put4_1) | (with_reducible apply put4_2) | (with_reducible apply put4_3) | (with_reducible apply put2_0) | (with_reducible apply put2_1) | (with_reducible refine blk_else (by omega) ?_) | (with_reducible refine blk_old ?_))))
  clear Zx4 zx0 zx1 zx2 zx3 nx_ mx_ lx_ fx0 fx1 fx2 fx3
  obtain ⟨zx0, zx1, zx2, zx3, fx0, fx1, fx2, fx3⟩ := at4 Zx5
  have nx_ := ne_blk Zx5
  have mx_ := Ne.symm nx_
  have lx_ := lt_blk Zx5
  clear kbwD
  go_wp2
  rw [rounds_succ]
  go_wp2_with fail
  refine (JN.out _ ⟨(by (repeat' (first | (with_reducible exact bwD) | (with_reducible exact Below.refl _ _) | (with_reducible refine below_drewN _ ?_) | (with_reducible refine Below.drew ?_) | (with_reducible refine Below.alloc ?_ (by first | exact Nat.le_refl _ | omega | (have := bwD.size; simp; omega) | (simp; done)) _) | (with_reducible refine Below.setCell ?_ (by first | exact Nat.le_refl _ | omega | (have := bwD.size; simp; omega) | (simp; done)) _)))), (by (repeat' (first | (with_reducible exact Zx5) | (with_reducible apply put4_0) | (with_reducible apply put4_1) | (with_reducible apply put4_2) | (with_reducible apply put4_3) | (with_reducible refine blk_drew ?_) | (with_reducible refine blk_old ?_))))⟩).mono ?_
  rintro e wJ ⟨rfl, cJ⟩
  have bJ : Below w.heap.size w wJ := bel_call cJ (by (repeat' (first | (with_reducible exact bwD) | (with_reducible exact Below.refl _ _) | (with_reducible refine below_drewN _ ?_) | (with_reducible refine Below.drew ?_) | (with_reducible refine Below.alloc ?_ (by first | exact Nat.le_refl _ | omega | (have := bwD.size; simp; omega) | (simp; done)) _) | (with_reducible refine Below.setCell ?_ (by first | exact Nat.le_refl _ | omega | (have := bwD.size; simp; omega) | (simp; done)) _)))) (by first | exact Nat.le_refl _ | omega | (have := bwD.size; simp; omega) | (simp; done))
  go_wp2
  go_ret
  exact ⟨rfl, bJ⟩
end Go.Proofs.YtffedahmakhjeaaDoor
