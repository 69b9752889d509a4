/-
  Layer 31: an address out of a text of four parts, and out of one that has not as many, as the program reads it. What the library's variables hold is handed on.
-/
import Derived.Test.YtffedahmakhjeaaDoorAdr5
namespace Go.Proofs.YtffedahmakhjeaaDoor
set_option linter.unusedVariables false
set_option linter.unusedSimpArgs false
open Go.ChangeShapes Go.WideShapes Go.ChangeAt Go.RowKit
attribute [-go_sem] run_index_string binOp_string_eql binOp_string_neq run_string_add_if run_slice_string_from_if run_slice_string_to_if
attribute [local go_sem] index_at add_fits slice_from slice_to eql_str neq_str alloc_drewN setCell_drewN

/-- A text of four parts, each one right. -/
structure Four (s p0 p1 p2 p3 : ByteArray) (n0 n1 n2 n3 : Int) : Prop where
  cnt : Lib.countByte s.data.toList 46 = 3
  cntB : Lib.countB s ⟨#[46]⟩ = 3
  spl : Lib.splitB ⟨#[46]⟩ 0 3 s = [p0, p1, p2, p3]
  sz : p0.size ≤ 1000000 ∧ p1.size ≤ 1000000 ∧ p2.size ≤ 1000000 ∧ p3.size ≤ 1000000
  h0 : nb p0 255 = (n0, 0)
  h1 : nb p1 255 = (n1, 0)
  h2 : nb p2 255 = (n2, 0)
  h3 : nb p3 255 = (n3, 0)
  b0 : 0 ≤ n0 ∧ n0 ≤ 255
  b1 : 0 ≤ n1 ∧ n1 ≤ 255
  b2 : 0 ≤ n2 ∧ n2 ≤ 255
  b3 : 0 ≤ n3 ∧ n3 ≤ 255
set_option maxRecDepth 100000 in
theorem aread_form (s : ByteArray) (h : Lib.countByte s.data.toList 46 ≠ 3) (w : World) :
    Calls Tryd.prog 8 #[.string s] w fun e w' => e = .returned (.tuple #[.int .u32 0, .int .i64 3]) ∧ Below w.heap.size w w' := by
  have CN : Hid (∀ W, Calls Tryd.prog 24 #[.string s, .string ⟨#[46]⟩] W fun e w' => e = .returned (.int .i64 (Lib.countByte s.data.toList 46)) ∧ W = w') := Lib.hid (fun W => (Tryd.strings_Count_one s 46 W).mono fun _ _ ⟨a, b⟩ => ⟨a, b.symm⟩)
  have g : (((Lib.countByte s.data.toList 46 : Nat) : Int) != 3) = true := by simp; omega
  generalize Lib.countByte s.data.toList 46 = k at *
  go_enter Tryd.func8, Tryd.ntmps8
  go_wp2_with fail
  refine (CN.out _).mono ?_
  rintro e w1 ⟨rfl, rfl⟩
  go_wp2
  go_ret2
  exact ⟨rfl, Below.refl _ _⟩
set_option maxRecDepth 100000 in
set_option maxHeartbeats 2000000 in
theorem aread_four (s p0 p1 p2 p3 : ByteArray) (n0 n1 n2 n3 : Int) (F : Four s p0 p1 p2 p3 n0 n1 n2 n3) (hs : s.size ≤ 1000000) (w : World) (H : Held31 w) :
    Calls Tryd.prog 8 #[.string s] w fun e w' => e = .returned (.tuple #[.int .u32 (((n0 * 256 + n1) * 256 + n2) * 256 + n3), .int .i64 0]) ∧ Below w.heap.size w w' := by
  have CN : Hid (∀ W, Calls Tryd.prog 24 #[.string s, .string ⟨#[46]⟩] W fun e w' => e = .returned (.int .i64 (Lib.countByte s.data.toList 46)) ∧ W = w') := Lib.hid (fun W => (Tryd.strings_Count_one s 46 W).mono fun _ _ ⟨a, b⟩ => ⟨a, b.symm⟩)
  rw [F.cnt] at CN
  have SP : Hid (∀ W, Below w.heap.size w W → Calls Tryd.prog 25 #[.string s, .string ⟨#[46]⟩] W fun e w' => e = .returned (.slice (some ⟨W.heap.size, 0, none⟩) 4 4) ∧ w' = W.alloc (.cells #[.string p0, .string p1, .string p2, .string p3] 9)) := Lib.hid (fun W hW => by
    obtain ⟨m, hm⟩ := (H.below hW).max
    have := Tryd.strings_Split s ⟨#[46]⟩ m W (by omega) hm (by decide)
    rw [F.cntB, F.spl] at this
    exact this)
  have N0 : Hid (∀ W, Below w.heap.size w W → Calls Tryd.prog 26 #[.string p0, .int .u64 255] W fun e w' => e = .returned (.tuple #[.int .u64 n0, .int .i64 0]) ∧ Below W.heap.size W w') := Lib.hid (fun W hW => by
    have := number_any p0 F.sz.1 255 W (H.below hW)
    rw [F.h0] at this
    exact this)
  have e0_ : IntKind.u8.wrap n0 = n0 := by have := F.b0; rw [IntKind.wrap_u8]; omega
  have N1 : Hid (∀ W, Below w.heap.size w W → Calls Tryd.prog 26 #[.string p1, .int .u64 255] W fun e w' => e = .returned (.tuple #[.int .u64 n1, .int .i64 0]) ∧ Below W.heap.size W w') := Lib.hid (fun W hW => by
    have := number_any p1 F.sz.2.1 255 W (H.below hW)
    rw [F.h1] at this
    exact this)
  have e1_ : IntKind.u8.wrap n1 = n1 := by have := F.b1; rw [IntKind.wrap_u8]; omega
  have N2 : Hid (∀ W, Below w.heap.size w W → Calls Tryd.prog 26 #[.string p2, .int .u64 255] W fun e w' => e = .returned (.tuple #[.int .u64 n2, .int .i64 0]) ∧ Below W.heap.size W w') := Lib.hid (fun W hW => by
    have := number_any p2 F.sz.2.2.1 255 W (H.below hW)
    rw [F.h2] at this
    exact this)
  have e2_ : IntKind.u8.wrap n2 = n2 := by have := F.b2; rw [IntKind.wrap_u8]; omega
  have N3 : Hid (∀ W, Below w.heap.size w W → Calls Tryd.prog 26 #[.string p3, .int .u64 255] W fun e w' => e = .returned (.tuple #[.int .u64 n3, .int .i64 0]) ∧ Below W.heap.size W w') := Lib.hid (fun W hW => by
    have := number_any p3 F.sz.2.2.2 255 W (H.below hW)
    rw [F.h3] at this
    exact this)
  have e3_ : IntKind.u8.wrap n3 = n3 := by have := F.b3; rw [IntKind.wrap_u8]; omega
  have JN : Hid (∀ W, Below w.heap.size w W → Calls Tryd.prog 27 #[.agg #[.int .u8 n0, .int .u8 n1, .int .u8 n2, .int .u8 n3]] W fun e w' => e = .returned (.int .u32 (((n0 * 256 + n1) * 256 + n2) * 256 + n3)) ∧ Below W.heap.size W w') := Lib.hid (fun W _ => join_any n0 n1 n2 n3 F.b0 F.b1 F.b2 F.b3 W)
  have B0 : Below w.heap.size w w := Below.refl _ _
  clear F H
  go_enter Tryd.func8, Tryd.ntmps8
  go_wp2_with fail
  refine (CN.out _).mono ?_
  rintro e w1 ⟨rfl, rfl⟩
  go_wp2_with fail
  refine (SP.out _ (by (repeat' (first | (with_reducible exact B0) | (with_reducible exact Below.refl _ _) | (with_reducible refine below_drewN _ ?_) | (with_reducible refine Below.drew ?_) | (with_reducible refine Below.alloc ?_ (by first | exact Nat.le_refl _ | omega | (have := B0.size; simp; omega) | (simp; done)) _) | (with_reducible refine Below.setCell ?_ (by first | exact Nat.le_refl _ | omega | (have := B0.size; simp; omega) | (simp; done)) _))))).mono ?_
  rintro e w2 ⟨rfl, rfl⟩
  go_wp2
  refine wp_loop_rounds 5 ?_
  rw [rounds_succ]
  go_wp2_with fail
  refine (N0.out _ (by (repeat' (first | (with_reducible exact B0) | (with_reducible exact Below.refl _ _) | (with_reducible refine below_drewN _ ?_) | (with_reducible refine Below.drew ?_) | (with_reducible refine Below.alloc ?_ (by first | exact Nat.le_refl _ | omega | (have := B0.size; simp; omega) | (simp; done)) _) | (with_reducible refine Below.setCell ?_ (by first | exact Nat.le_refl _ | omega | (have := B0.size; simp; omega) | (simp; done)) _))))).mono ?_
  rintro e wA ⟨rfl, kbwA⟩
  have bwA : Below w.heap.size w wA := bel_call kbwA (by (repeat' (first | (with_reducible exact B0) | (with_reducible exact Below.refl _ _) | (with_reducible refine below_drewN _ ?_) | (with_reducible refine Below.drew ?_) | (with_reducible refine Below.alloc ?_ (by first | exact Nat.le_refl _ | omega | (have := B0.size; simp; omega) | (simp; done)) _) | (with_reducible refine Below.setCell ?_ (by first | exact Nat.le_refl _ | omega | (have := B0.size; simp; omega) | (simp; done)) _)))) (by first | exact Nat.le_refl _ | omega | (have := B0.size; simp; omega) | (simp; done))
  have Zs1 : wA.heap[w.heap.size + 1]? = some (.cells #[.string p0, .string p1, .string p2, .string p3] 9 (0, 0)) := blk_call kbwA (by (repeat' (first | (with_reducible exact heap_alloc_new _ _) | (with_reducible exact blk_new (by first | (simp; done) | omega)) | (with_reducible refine blk_drew ?_) | (with_reducible apply put4_0) | (with_reducible apply put4_1) | (with_reducible apply put4_2) | (with_reducible apply put4_3) | (with_reducible apply put2_0) | (with_reducible apply put2_1) | (with_reducible refine blk_else (by omega) ?_) | (with_reducible refine blk_old ?_))))
  have Zp1 : wA.heap[w.heap.size]? = some (.cells #[.int .u8 0, .int .u8 0, .int .u8 0, .int .u8 0] 49 (0, 0)) := blk_call kbwA (by (repeat' (first | (with_reducible exact heap_alloc_new _ _) | (with_reducible exact blk_new (by first | (simp; done) | omega)) | (with_reducible refine blk_drew ?_) | (with_reducible apply put4_0) | (with_reducible apply put4_1) | (with_reducible apply put4_2) | (with_reducible apply put4_3) | (with_reducible apply put2_0) | (with_reducible apply put2_1) | (with_reducible refine blk_else (by omega) ?_) | (with_reducible refine blk_old ?_))))
  obtain ⟨zs0, zs1, zs2, zs3, -⟩ := at4 Zs1
  have ns_ := ne_blk Zs1
  have ms_ := Ne.symm ns_
  have ls_ := lt_blk Zs1
  obtain ⟨zp0, zp1, zp2, zp3, fp0, fp1, fp2, fp3⟩ := at4 Zp1
  have np_ := ne_blk Zp1
  have mp_ := Ne.symm np_
  have lp_ := lt_blk Zp1
  clear kbwA
  go_wp2
  rw [rounds_succ]
  go_wp2_with fail
  refine (N1.out _ (by (repeat' (first | (with_reducible exact bwA) | (with_reducible exact Below.refl _ _) | (with_reducible refine below_drewN _ ?_) | (with_reducible refine Below.drew ?_) | (with_reducible refine Below.alloc ?_ (by first | exact Nat.le_refl _ | omega | (have := bwA.size; simp; omega) | (simp; done)) _) | (with_reducible refine Below.setCell ?_ (by first | exact Nat.le_refl _ | omega | (have := bwA.size; simp; omega) | (simp; done)) _))))).mono ?_
  rintro e wB ⟨rfl, kbwB⟩
  have bwB : Below w.heap.size w wB := bel_call kbwB (by (repeat' (first | (with_reducible exact bwA) | (with_reducible exact Below.refl _ _) | (with_reducible refine below_drewN _ ?_) | (with_reducible refine Below.drew ?_) | (with_reducible refine Below.alloc ?_ (by first | exact Nat.le_refl _ | omega | (have := bwA.size; simp; omega) | (simp; done)) _) | (with_reducible refine Below.setCell ?_ (by first | exact Nat.le_refl _ | omega | (have := bwA.size; simp; omega) | (simp; done)) _)))) (by first | exact Nat.le_refl _ | omega | (have := bwA.size; simp; omega) | (simp; done))
  have Zs2 : wB.heap[w.heap.size + 1]? = some (.cells #[.string p0, .string p1, .string p2, .string p3] 9 (0, 0)) := blk_call kbwB (by (repeat' (first | (with_reducible exact Zs1) | (with_reducible exact heap_alloc_new _ _) | (with_reducible exact blk_new (by first | (simp; done) | omega)) | (with_reducible refine blk_drew ?_) | (with_reducible apply put4_0) | (with_reducible apply put4_1) | (with_reducible apply put4_2) | (with_reducible apply put4_3) | (with_reducible apply put2_0) | (with_reducible apply put2_1) | (with_reducible refine blk_else (by omega) ?_) | (with_reducible refine blk_old ?_))))
  have Zp2 : wB.heap[w.heap.size]? = some (.cells #[.int .u8 n0, .int .u8 0, .int .u8 0, .int .u8 0] 49 (0, 0)) := blk_call kbwB (by (repeat' (first | (with_reducible exact Zp1) | (with_reducible exact heap_alloc_new _ _) | (with_reducible exact blk_new (by first | (simp; done) | omega)) | (with_reducible refine blk_drew ?_) | (with_reducible apply put4_0) | (with_reducible apply put4_1) | (with_reducible apply put4_2) | (with_reducible apply put4_3) | (with_reducible apply put2_0) | (with_reducible apply put2_1) | (with_reducible refine blk_else (by omega) ?_) | (with_reducible refine blk_old ?_))))
  clear Zs1 zs0 zs1 zs2 zs3 ns_ ms_ ls_ Zp1 zp0 zp1 zp2 zp3 np_ mp_ lp_ fp0 fp1 fp2 fp3
  obtain ⟨zs0, zs1, zs2, zs3, -⟩ := at4 Zs2
  have ns_ := ne_blk Zs2
  have ms_ := Ne.symm ns_
  have ls_ := lt_blk Zs2
  obtain ⟨zp0, zp1, zp2, zp3, fp0, fp1, fp2, fp3⟩ := at4 Zp2
  have np_ := ne_blk Zp2
  have mp_ := Ne.symm np_
  have lp_ := lt_blk Zp2
  clear kbwB
  go_wp2
  rw [rounds_succ]
  go_wp2_with fail
  refine (N2.out _ (by (repeat' (first | (with_reducible exact bwB) | (with_reducible exact Below.refl _ _) | (with_reducible refine below_drewN _ ?_) | (with_reducible refine Below.drew ?_) | (with_reducible refine Below.alloc ?_ (by first | exact Nat.le_refl _ | omega | (have := bwB.size; simp; omega) | (simp; done)) _) | (with_reducible refine Below.setCell ?_ (by first | exact Nat.le_refl _ | omega | (have := bwB.size; simp; omega) | (simp; done)) _))))).mono ?_
  rintro e wC ⟨rfl, kbwC⟩
  have bwC : Below w.heap.size w wC := bel_call kbwC (by (repeat' (first | (with_reducible exact bwB) | (with_reducible exact Below.refl _ _) | (with_reducible refine below_drewN _ ?_) | (with_reducible refine Below.drew ?_) | (with_reducible refine Below.alloc ?_ (by first | exact Nat.le_refl _ | omega | (have := bwB.size; simp; omega) | (simp; done)) _) | (with_reducible refine Below.setCell ?_ (by first | exact Nat.le_refl _ | omega | (have := bwB.size; simp; omega) | (simp; done)) _)))) (by first | exact Nat.le_refl _ | omega | (have := bwB.size; simp; omega) | (simp; done))
  have Zs3 : wC.heap[w.heap.size + 1]? = some (.cells #[.string p0, .string p1, .string p2, .string p3] 9 (0, 0)) := blk_call kbwC (by (repeat' (first | (with_reducible exact Zs2) | (with_reducible exact heap_alloc_new _ _) | (with_reducible exact blk_new (by first | (simp; done) | omega)) | (with_reducible refine blk_drew ?_) | (with_reducible apply put4_0) | (with_reducible apply put4_1) | (with_reducible apply put4_2) | (with_reducible apply put4_3) | (with_reducible apply put2_0) | (with_reducible apply put2_1) | (with_reducible refine blk_else (by omega) ?_) | (with_reducible refine blk_old ?_))))
  have Zp3 : wC.heap[w.heap.size]? = some (.cells #[.int .u8 n0, .int .u8 n1, .int .u8 0, .int .u8 0] 49 (0, 0)) := blk_call kbwC (by (repeat' (first | (with_reducible exact Zp2) | (with_reducible exact heap_alloc_new _ _) | (with_reducible exact blk_new (by first | (simp; done) | omega)) | (with_reducible refine blk_drew ?_) | (with_reducible apply put4_0) | (with_reducible apply put4_1) | (with_reducible apply put4_2) | (with_reducible apply put4_3) | (with_reducible apply put2_0) | (with_reducible apply put2_1) | (with_reducible refine blk_else (by omega) ?_) | (with_reducible refine blk_old ?_))))
  clear Zs2 zs0 zs1 zs2 zs3 ns_ ms_ ls_ Zp2 zp0 zp1 zp2 zp3 np_ mp_ lp_ fp0 fp1 fp2 fp3
  obtain ⟨zs0, zs1, zs2, zs3, -⟩ := at4 Zs3
  have ns_ := ne_blk Zs3
  have ms_ := Ne.symm ns_
  have ls_ := lt_blk Zs3
  obtain ⟨zp0, zp1, zp2, zp3, fp0, fp1, fp2, fp3⟩ := at4 Zp3
  have np_ := ne_blk Zp3
  have mp_ := Ne.symm np_
  have lp_ := lt_blk Zp3
  clear kbwC
  go_wp2
  rw [rounds_succ]
  go_wp2_with fail
  refine (N3.out _ (by (repeat' (first | (with_reducible exact bwC) | (with_reducible exact Below.refl _ _) | (with_reducible refine below_drewN _ ?_) | (with_reducible refine Below.drew ?_) | (with_reducible refine Below.alloc ?_ (by first | exact Nat.le_refl _ | omega | (have := bwC.size; simp; omega) | (simp; done)) _) | (with_reducible refine Below.setCell ?_ (by first | exact Nat.le_refl _ | omega | (have := bwC.size; simp; omega) | (simp; done)) _))))).mono ?_
  rintro e wD ⟨rfl, kbwD⟩
  have bwD : Below w.heap.size w wD := bel_call kbwD (by (repeat' (first | (with_reducible exact bwC) | (with_reducible exact Below.refl _ _) | (with_reducible refine below_drewN _ ?_) | (with_reducible refine Below.drew ?_) | (with_reducible refine Below.alloc ?_ (by first | exact Nat.le_refl _ | omega | (have := bwC.size; simp; omega) | (simp; done)) _) | (with_reducible refine Below.setCell ?_ (by first | exact Nat.le_refl _ | omega | (have := bwC.size; simp; omega) | (simp; done)) _)))) (by first | exact Nat.le_refl _ | omega | (have := bwC.size; simp; omega) | (simp; done))
  have Zs4 : wD.heap[w.heap.size + 1]? = some (.cells #[.string p0, .string p1, .string p2, .string p3] 9 (0, 0)) := blk_call kbwD (by (repeat' (first | (with_reducible exact Zs3) | (with_reducible exact heap_alloc_new _ _) | (with_reducible exact blk_new (by first | (simp; done) | omega)) | (with_reducible refine blk_drew ?_) | (with_reducible apply put4_0) | (with_reducible apply put4_1) | (with_reducible apply put4_2) | (with_reducible apply put4_3) | (with_reducible apply put2_0) | (with_reducible apply put2_1) | (with_reducible refine blk_else (by omega) ?_) | (with_reducible refine blk_old ?_))))
  have Zp4 : wD.heap[w.heap.size]? = some (.cells #[.int .u8 n0, .int .u8 n1, .int .u8 n2, .int .u8 0] 49 (0, 0)) := blk_call kbwD (by (repeat' (first | (with_reducible exact Zp3) | (with_reducible exact heap_alloc_new _ _) | (with_reducible exact blk_new (by first | (simp; done) | omega)) | (with_reducible refine blk_drew ?_) | (with_reducible apply put4_0) | (with_reducible apply put4_1) | (with_reducible apply put4_2) | (with_reducible apply put4_3) | (with_reducible apply put2_0) | (with_reducible apply put2_1) | (with_reducible refine blk_else (by omega) ?_) | (with_reducible refine blk_old ?_))))
  clear Zs3 zs0 zs1 zs2 zs3 ns_ ms_ ls_ Zp3 zp0 zp1 zp2 zp3 np_ mp_ lp_ fp0 fp1 fp2 fp3
  obtain ⟨zs0, zs1, zs2, zs3, -⟩ := at4 Zs4
  have ns_ := ne_blk Zs4
  have ms_ := Ne.symm ns_
  have ls_ := lt_blk Zs4
  obtain ⟨zp0, zp1, zp2, zp3, fp0, fp1, fp2, fp3⟩ := at4 Zp4
  have np_ := ne_blk Zp4
  have mp_ := Ne.symm np_
  have lp_ := lt_blk Zp4
  clear kbwD
  go_wp2
  rw [rounds_succ]
  go_wp2_with fail
  refine (JN.out _ (by (repeat' (first | (with_reducible exact bwD) | (with_reducible exact Below.refl _ _) | (with_reducible refine below_drewN _ ?_) | (with_reducible refine Below.drew ?_) | (with_reducible refine Below.alloc ?_ (by first | exact Nat.le_refl _ | omega | (have := bwD.size; simp; omega) | (simp; done)) _) | (with_reducible refine Below.setCell ?_ (by first | exact Nat.le_refl _ | omega | (have := bwD.size; simp; omega) | (simp; done)) _))))).mono ?_
  rintro e wE ⟨rfl, kbwE⟩
  have bwE : Below w.heap.size w wE := bel_call kbwE (by (repeat' (first | (with_reducible exact bwD) | (with_reducible exact Below.refl _ _) | (with_reducible refine below_drewN _ ?_) | (with_reducible refine Below.drew ?_) | (with_reducible refine Below.alloc ?_ (by first | exact Nat.le_refl _ | omega | (have := bwD.size; simp; omega) | (simp; done)) _) | (with_reducible refine Below.setCell ?_ (by first | exact Nat.le_refl _ | omega | (have := bwD.size; simp; omega) | (simp; done)) _)))) (by first | exact Nat.le_refl _ | omega | (have := bwD.size; simp; omega) | (simp; done))
  have Zs5 : wE.heap[w.heap.size + 1]? = some (.cells #[.string p0, .string p1, .string p2, .string p3] 9 (0, 0)) := blk_call kbwE (by (repeat' (first | (with_reducible exact Zs4) | (with_reducible exact heap_alloc_new _ _) | (with_reducible exact blk_new (by first | (simp; done) | omega)) | (with_reducible refine blk_drew ?_) | (with_reducible apply put4_0) | (with_reducible apply put4_1) | (with_reducible apply put4_2) | (with_reducible apply put4_3) | (with_reducible apply put2_0) | (with_reducible apply put2_1) | (with_reducible refine blk_else (by omega) ?_) | (with_reducible refine blk_old ?_))))
  have Zp5 : wE.heap[w.heap.size]? = some (.cells #[.int .u8 n0, .int .u8 n1, .int .u8 n2, .int .u8 n3] 49 (0, 0)) := blk_call kbwE (by (repeat' (first | (with_reducible exact Zp4) | (with_reducible exact heap_alloc_new _ _) | (with_reducible exact blk_new (by first | (simp; done) | omega)) | (with_reducible refine blk_drew ?_) | (with_reducible apply put4_0) | (with_reducible apply put4_1) | (with_reducible apply put4_2) | (with_reducible apply put4_3) | (with_reducible apply put2_0) | (with_reducible apply put2_1) | (with_reducible refine blk_else (by omega) ?_) | (with_reducible refine blk_old ?_))))
  clear Zs4 zs0 zs1 zs2 zs3 ns_ ms_ ls_ Zp4 zp0 zp1 zp2 zp3 np_ mp_ lp_ fp0 fp1 fp2 fp3
  obtain ⟨zs0, zs1, zs2, zs3, -⟩ := at4 Zs5
  have ns_ := ne_blk Zs5
  have ms_ := Ne.symm ns_
  have ls_ := lt_blk Zs5
  obtain ⟨zp0, zp1, zp2, zp3, fp0, fp1, fp2, fp3⟩ := at4 Zp5
  have np_ := ne_blk Zp5
  have mp_ := Ne.symm np_
  have lp_ := lt_blk Zp5
  clear kbwE
  go_wp2
  go_ret2
  exact ⟨rfl, bwE⟩
end Go.Proofs.YtffedahmakhjeaaDoor
