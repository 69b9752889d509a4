/-
  Layer 31: the example, walked. What the library's variables hold is handed on.
-/
import Derived.Test.YtffedahmakhjeaaDoorAdr8
namespace Go.Proofs.YtffedahmakhjeaaDoor
set_option linter.unusedVariables false
set_option linter.unusedSimpArgs false
open Go.ChangeShapes Go.WideShapes Go.ChangeAt Go.RowKit
attribute [-go_sem] run_index_string binOp_string_eql binOp_string_neq run_string_add_if run_slice_string_from_if run_slice_string_to_if
attribute [local go_sem] index_at add_fits slice_from slice_to eql_str neq_str alloc_drewN setCell_drewN

theorem fo_10 : Formed ⟨#[49, 48]⟩ := ⟨by decide, fun k hk => by
  have : k = 0 ∨ k = 1 := by have h : k < 2 := hk; omega
  rcases this with rfl | rfl <;> exact ⟨by decide +kernel, by decide +kernel⟩, fun h => by decide +kernel⟩
theorem rd_10 : rd ⟨#[49, 48]⟩ = (10, 0) := by
  rw [rd_ok _ fo_10 (by decide +kernel)]
  have : nv ⟨#[49, 48]⟩ (⟨#[49, 48]⟩ : ByteArray).size = 10 := by decide +kernel
  rw [this]
theorem nb_10 (m : Int) (h : 10 ≤ m) : nb ⟨#[49, 48]⟩ m = (10, 0) := by
  unfold nb
  rw [rd_10, if_neg (fun z => by have := z.2; dsimp only at this; omega)]
theorem fo_1 : Formed ⟨#[49]⟩ := ⟨by decide, fun k hk => by
  have : k = 0 := by have h : k < 1 := hk; omega
  subst this <;> exact ⟨by decide +kernel, by decide +kernel⟩, fun h => by exact absurd h (by decide)⟩
theorem rd_1 : rd ⟨#[49]⟩ = (1, 0) := by
  rw [rd_ok _ fo_1 (by decide +kernel)]
  have : nv ⟨#[49]⟩ (⟨#[49]⟩ : ByteArray).size = 1 := by decide +kernel
  rw [this]
theorem nb_1 (m : Int) (h : 1 ≤ m) : nb ⟨#[49]⟩ m = (1, 0) := by
  unfold nb
  rw [rd_1, if_neg (fun z => by have := z.2; dsimp only at this; omega)]
theorem fo_0 : Formed ⟨#[48]⟩ := ⟨by decide, fun k hk => by
  have : k = 0 := by have h : k < 1 := hk; omega
  subst this <;> exact ⟨by decide +kernel, by decide +kernel⟩, fun h => by exact absurd h (by decide)⟩
theorem rd_0 : rd ⟨#[48]⟩ = (0, 0) := by
  rw [rd_ok _ fo_0 (by decide +kernel)]
  have : nv ⟨#[48]⟩ (⟨#[48]⟩ : ByteArray).size = 0 := by decide +kernel
  rw [this]
theorem nb_0 (m : Int) (h : 0 ≤ m) : nb ⟨#[48]⟩ m = (0, 0) := by
  unfold nb
  rw [rd_0, if_neg (fun z => by have := z.2; dsimp only at this; omega)]
theorem fo_2 : Formed ⟨#[50]⟩ := ⟨by decide, fun k hk => by
  have : k = 0 := by have h : k < 1 := hk; omega
  subst this <;> exact ⟨by decide +kernel, by decide +kernel⟩, fun h => by exact absurd h (by decide)⟩
theorem rd_2 : rd ⟨#[50]⟩ = (2, 0) := by
  rw [rd_ok _ fo_2 (by decide +kernel)]
  have : nv ⟨#[50]⟩ (⟨#[50]⟩ : ByteArray).size = 2 := by decide +kernel
  rw [this]
theorem nb_2 (m : Int) (h : 2 ≤ m) : nb ⟨#[50]⟩ m = (2, 0) := by
  unfold nb
  rw [rd_2, if_neg (fun z => by have := z.2; dsimp only at this; omega)]
theorem fo_16 : Formed ⟨#[49, 54]⟩ := ⟨by decide, fun k hk => by
  have : k = 0 ∨ k = 1 := by have h : k < 2 := hk; omega
  rcases this with rfl | rfl <;> exact ⟨by decide +kernel, by decide +kernel⟩, fun h => by decide +kernel⟩
theorem rd_16 : rd ⟨#[49, 54]⟩ = (16, 0) := by
  rw [rd_ok _ fo_16 (by decide +kernel)]
  have : nv ⟨#[49, 54]⟩ (⟨#[49, 54]⟩ : ByteArray).size = 16 := by decide +kernel
  rw [this]
theorem nb_16 (m : Int) (h : 16 ≤ m) : nb ⟨#[49, 54]⟩ m = (16, 0) := by
  unfold nb
  rw [rd_16, if_neg (fun z => by have := z.2; dsimp only at this; omega)]
theorem four_a : Four ⟨#[49, 48, 46, 49, 46, 48, 46, 48]⟩ ⟨#[49, 48]⟩ ⟨#[49]⟩ ⟨#[48]⟩ ⟨#[48]⟩ 10 1 0 0 where
  cnt := by decide +kernel
  cntB := by decide +kernel
  spl := by decide +kernel
  sz := by decide +kernel
  h0 := nb_10 255 (by decide)
  b0 := by decide
  h1 := nb_1 255 (by decide)
  b1 := by decide
  h2 := nb_0 255 (by decide)
  b2 := by decide
  h3 := nb_0 255 (by decide)
  b3 := by decide
theorem four_b : Four ⟨#[49, 48, 46, 49, 46, 50, 46, 48]⟩ ⟨#[49, 48]⟩ ⟨#[49]⟩ ⟨#[50]⟩ ⟨#[48]⟩ 10 1 2 0 where
  cnt := by decide +kernel
  cntB := by decide +kernel
  spl := by decide +kernel
  sz := by decide +kernel
  h0 := nb_10 255 (by decide)
  b0 := by decide
  h1 := nb_1 255 (by decide)
  b1 := by decide
  h2 := nb_2 255 (by decide)
  b2 := by decide
  h3 := nb_0 255 (by decide)
  b3 := by decide
set_option maxRecDepth 100000 in
set_option maxHeartbeats 2000000 in
theorem lives31 (w : World) (H : Held31 w) : Calls Tryd.prog 7 #[] w fun e w' => e = .returned (.bool true) ∧ Below w.heap.size w w' := by
  have R1 : Hid (∀ W, Below w.heap.size w W → Calls Tryd.prog 10 #[.string ⟨#[49, 48, 46, 49, 46, 48, 46, 48, 47, 49, 54]⟩] W fun e w' => e = .returned (.tuple #[.agg #[.int .u32 167837696, .int .i64 16], .int .i64 0]) ∧ Below W.heap.size W w') := Lib.hid (fun W hW =>
    rp_ok ⟨#[49, 48, 46, 49, 46, 48, 46, 48, 47, 49, 54]⟩ ⟨#[49, 48, 46, 49, 46, 48, 46, 48]⟩ ⟨#[49, 54]⟩ 167837696 16 (by decide) (by decide) (by decide) (by decide) (by decide +kernel) (by decide +kernel) (by decide +kernel) (by decide +kernel) (nb_16 32 (by decide)) (by decide +kernel) W (H.below hW) (Lib.hid (fun V hV => aread_four ⟨#[49, 48, 46, 49, 46, 48, 46, 48]⟩ _ _ _ _ _ _ _ _ four_a (by decide +kernel) V ((H.below hW).below hV))))
  have R2 : Hid (∀ W, Below w.heap.size w W → Calls Tryd.prog 10 #[.string ⟨#[49, 48, 46, 49, 46, 50, 46, 48, 47, 49, 54]⟩] W fun e w' => e = .returned (.tuple #[.agg #[.int .u32 0, .int .i64 0], .int .i64 6]) ∧ Below W.heap.size W w') := Lib.hid (fun W hW =>
    rp_no ⟨#[49, 48, 46, 49, 46, 50, 46, 48, 47, 49, 54]⟩ ⟨#[49, 48, 46, 49, 46, 50, 46, 48]⟩ ⟨#[49, 54]⟩ 167838208 16 (by decide) (by decide) (by decide) (by decide) (by decide +kernel) (by decide +kernel) (by decide +kernel) (by decide +kernel) (nb_16 32 (by decide)) (by decide +kernel) W (H.below hW) (Lib.hid (fun V hV => aread_four ⟨#[49, 48, 46, 49, 46, 50, 46, 48]⟩ _ _ _ _ _ _ _ _ four_b (by decide +kernel) V ((H.below hW).below hV))))
  have R3 : Hid (∀ W, Below w.heap.size w W → Calls Tryd.prog 8 #[.string ⟨#[49, 48, 46, 49, 46, 50]⟩] W fun e w' => e = .returned (.tuple #[.int .u32 0, .int .i64 3]) ∧ Below W.heap.size W w') := Lib.hid (fun W _ => aread_form ⟨#[49, 48, 46, 49, 46, 50]⟩ (by decide +kernel) W)
  have HA : Hid (∀ W, Below w.heap.size w W → Calls Tryd.prog 18 #[.agg #[.int .u32 167837696, .int .i64 16], .int .u32 167838211] W fun e w' => e = .returned (.bool true) ∧ Below W.heap.size W w') := Lib.hid (fun W _ => by
    have := has_any 167837696 16 167838211 (by decide) (by decide) (by decide) (by decide) (by decide) (by decide) W
    rw [decide_eq_true (by decide +kernel)] at this
    exact this)
  have PU : Hid (∀ W, Below w.heap.size w W → Calls Tryd.prog 12 #[.int .u32 167772161] W fun e w' => e = .returned (.string ⟨#[49, 48, 46, 48, 46, 48, 46, 49]⟩) ∧ Below W.heap.size W w') := Lib.hid (fun W hW =>
    aput_four 167772161 10 0 0 1 ⟨#[49, 48]⟩ ⟨#[48]⟩ ⟨#[48]⟩ ⟨#[49]⟩ ⟨#[49, 48, 46, 48, 46, 48, 46, 49]⟩ (by decide) (by decide) (by decide) (by decide) (by decide) (by decide) (by decide +kernel) (by decide +kernel) (by decide +kernel) (by decide +kernel) (by decide +kernel) (by decide +kernel) W (H.below hW))
  have B0 : Below w.heap.size w w := Below.refl _ _
  clear H
  go_enter Tryd.func7, Tryd.ntmps7
  go_wp2_with fail
  refine (R1.out _ (by (repeat' (first | (with_reducible exact B0) | (with_reducible exact Below.refl _ _) | (with_reducible refine below_drewN _ ?_) | (with_reducible refine Below.drew ?_) | (with_reducible refine Below.alloc ?_ (by first | exact Nat.le_refl _ | omega | (have := B0.size; simp; omega) | (simp; done)) _) | (with_reducible refine Below.setCell ?_ (by first | exact Nat.le_refl _ | omega | (have := B0.size; simp; omega) | (simp; done)) _))))).mono ?_
  rintro e wA ⟨rfl, kbwA⟩
  have bwA : Below w.heap.size w wA := bel_call kbwA (by (repeat' (first | (with_reducible exact B0) | (with_reducible exact Below.refl _ _) | (with_reducible refine below_drewN _ ?_) | (with_reducible refine Below.drew ?_) | (with_reducible refine Below.alloc ?_ (by first | exact Nat.le_refl _ | omega | (have := B0.size; simp; omega) | (simp; done)) _) | (with_reducible refine Below.setCell ?_ (by first | exact Nat.le_refl _ | omega | (have := B0.size; simp; omega) | (simp; done)) _)))) (by first | exact Nat.le_refl _ | omega | (have := B0.size; simp; omega) | (simp; done))
  clear kbwA
  go_wp2_with fail
  refine (R2.out _ (by (repeat' (first | (with_reducible exact bwA) | (with_reducible exact Below.refl _ _) | (with_reducible refine below_drewN _ ?_) | (with_reducible refine Below.drew ?_) | (with_reducible refine Below.alloc ?_ (by first | exact Nat.le_refl _ | omega | (have := bwA.size; simp; omega) | (simp; done)) _) | (with_reducible refine Below.setCell ?_ (by first | exact Nat.le_refl _ | omega | (have := bwA.size; simp; omega) | (simp; done)) _))))).mono ?_
  rintro e wB ⟨rfl, kbwB⟩
  have bwB : Below w.heap.size w wB := bel_call kbwB (by (repeat' (first | (with_reducible exact bwA) | (with_reducible exact Below.refl _ _) | (with_reducible refine below_drewN _ ?_) | (with_reducible refine Below.drew ?_) | (with_reducible refine Below.alloc ?_ (by first | exact Nat.le_refl _ | omega | (have := bwA.size; simp; omega) | (simp; done)) _) | (with_reducible refine Below.setCell ?_ (by first | exact Nat.le_refl _ | omega | (have := bwA.size; simp; omega) | (simp; done)) _)))) (by first | exact Nat.le_refl _ | omega | (have := bwA.size; simp; omega) | (simp; done))
  have Zp2 : wB.heap[wA.heap.size]? = some (.cells #[.int .u32 167837696, .int .i64 16] 30 (0, 0)) := blk_call kbwB (by (repeat' (first | (with_reducible exact heap_alloc_new _ _) | (with_reducible exact blk_new (by first | (simp; done) | omega)) | (with_reducible refine blk_drew ?_) | (with_reducible apply put4_0) | (with_reducible apply put4_1) | (with_reducible apply put4_2) | (with_reducible apply put4_3) | (with_reducible apply put2_0) | (with_reducible apply put2_1) | (with_reducible refine blk_else (by omega) ?_) | (with_reducible refine blk_old ?_))))
  obtain ⟨zp0, zp1, -⟩ := at2 Zp2
  have np_ := ne_blk Zp2
  have mp_ := Ne.symm np_
  have lp_ := lt_blk Zp2
  clear kbwB
  go_wp2_with fail
  refine (R3.out _ (by (repeat' (first | (with_reducible exact bwB) | (with_reducible exact Below.refl _ _) | (with_reducible refine below_drewN _ ?_) | (with_reducible refine Below.drew ?_) | (with_reducible refine Below.alloc ?_ (by first | exact Nat.le_refl _ | omega | (have := bwB.size; simp; omega) | (simp; done)) _) | (with_reducible refine Below.setCell ?_ (by first | exact Nat.le_refl _ | omega | (have := bwB.size; simp; omega) | (simp; done)) _))))).mono ?_
  rintro e wC ⟨rfl, kbwC⟩
  have bwC : Below w.heap.size w wC := bel_call kbwC (by (repeat' (first | (with_reducible exact bwB) | (with_reducible exact Below.refl _ _) | (with_reducible refine below_drewN _ ?_) | (with_reducible refine Below.drew ?_) | (with_reducible refine Below.alloc ?_ (by first | exact Nat.le_refl _ | omega | (have := bwB.size; simp; omega) | (simp; done)) _) | (with_reducible refine Below.setCell ?_ (by first | exact Nat.le_refl _ | omega | (have := bwB.size; simp; omega) | (simp; done)) _)))) (by first | exact Nat.le_refl _ | omega | (have := bwB.size; simp; omega) | (simp; done))
  have Zp3 : wC.heap[wA.heap.size]? = some (.cells #[.int .u32 167837696, .int .i64 16] 30 (0, 0)) := blk_call kbwC (by (repeat' (first | (with_reducible exact Zp2) | (with_reducible exact heap_alloc_new _ _) | (with_reducible exact blk_new (by first | (simp; done) | omega)) | (with_reducible refine blk_drew ?_) | (with_reducible apply put4_0) | (with_reducible apply put4_1) | (with_reducible apply put4_2) | (with_reducible apply put4_3) | (with_reducible apply put2_0) | (with_reducible apply put2_1) | (with_reducible refine blk_else (by omega) ?_) | (with_reducible refine blk_old ?_))))
  clear Zp2 zp0 zp1 np_ mp_ lp_
  obtain ⟨zp0, zp1, -⟩ := at2 Zp3
  have np_ := ne_blk Zp3
  have mp_ := Ne.symm np_
  have lp_ := lt_blk Zp3
  clear kbwC
  go_wp2_with fail
  refine (HA.out _ (by (repeat' (first | (with_reducible exact bwC) | (with_reducible exact Below.refl _ _) | (with_reducible refine below_drewN _ ?_) | (with_reducible refine Below.drew ?_) | (with_reducible refine Below.alloc ?_ (by first | exact Nat.le_refl _ | omega | (have := bwC.size; simp; omega) | (simp; done)) _) | (with_reducible refine Below.setCell ?_ (by first | exact Nat.le_refl _ | omega | (have := bwC.size; simp; omega) | (simp; done)) _))))).mono ?_
  rintro e wD ⟨rfl, kbwD⟩
  have bwD : Below w.heap.size w wD := bel_call kbwD (by (repeat' (first | (with_reducible exact bwC) | (with_reducible exact Below.refl _ _) | (with_reducible refine below_drewN _ ?_) | (with_reducible refine Below.drew ?_) | (with_reducible refine Below.alloc ?_ (by first | exact Nat.le_refl _ | omega | (have := bwC.size; simp; omega) | (simp; done)) _) | (with_reducible refine Below.setCell ?_ (by first | exact Nat.le_refl _ | omega | (have := bwC.size; simp; omega) | (simp; done)) _)))) (by first | exact Nat.le_refl _ | omega | (have := bwC.size; simp; omega) | (simp; done))
  have Zp4 : wD.heap[wA.heap.size]? = some (.cells #[.int .u32 167837696, .int .i64 16] 30 (0, 0)) := blk_call kbwD (by (repeat' (first | (with_reducible exact Zp3) | (with_reducible exact heap_alloc_new _ _) | (with_reducible exact blk_new (by first | (simp; done) | omega)) | (with_reducible refine blk_drew ?_) | (with_reducible apply put4_0) | (with_reducible apply put4_1) | (with_reducible apply put4_2) | (with_reducible apply put4_3) | (with_reducible apply put2_0) | (with_reducible apply put2_1) | (with_reducible refine blk_else (by omega) ?_) | (with_reducible refine blk_old ?_))))
  clear Zp3 zp0 zp1 np_ mp_ lp_
  obtain ⟨zp0, zp1, -⟩ := at2 Zp4
  have np_ := ne_blk Zp4
  have mp_ := Ne.symm np_
  have lp_ := lt_blk Zp4
  clear kbwD
  go_wp2_with fail
  refine (PU.out _ (by (repeat' (first | (with_reducible exact bwD) | (with_reducible exact Below.refl _ _) | (with_reducible refine below_drewN _ ?_) | (with_reducible refine Below.drew ?_) | (with_reducible refine Below.alloc ?_ (by first | exact Nat.le_refl _ | omega | (have := bwD.size; simp; omega) | (simp; done)) _) | (with_reducible refine Below.setCell ?_ (by first | exact Nat.le_refl _ | omega | (have := bwD.size; simp; omega) | (simp; done)) _))))).mono ?_
  rintro e wE ⟨rfl, kbwE⟩
  have bwE : Below w.heap.size w wE := bel_call kbwE (by (repeat' (first | (with_reducible exact bwD) | (with_reducible exact Below.refl _ _) | (with_reducible refine below_drewN _ ?_) | (with_reducible refine Below.drew ?_) | (with_reducible refine Below.alloc ?_ (by first | exact Nat.le_refl _ | omega | (have := bwD.size; simp; omega) | (simp; done)) _) | (with_reducible refine Below.setCell ?_ (by first | exact Nat.le_refl _ | omega | (have := bwD.size; simp; omega) | (simp; done)) _)))) (by first | exact Nat.le_refl _ | omega | (have := bwD.size; simp; omega) | (simp; done))
  have Zp5 : wE.heap[wA.heap.size]? = some (.cells #[.int .u32 167837696, .int .i64 16] 30 (0, 0)) := blk_call kbwE (by (repeat' (first | (with_reducible exact Zp4) | (with_reducible exact heap_alloc_new _ _) | (with_reducible exact blk_new (by first | (simp; done) | omega)) | (with_reducible refine blk_drew ?_) | (with_reducible apply put4_0) | (with_reducible apply put4_1) | (with_reducible apply put4_2) | (with_reducible apply put4_3) | (with_reducible apply put2_0) | (with_reducible apply put2_1) | (with_reducible refine blk_else (by omega) ?_) | (with_reducible refine blk_old ?_))))
  clear Zp4 zp0 zp1 np_ mp_ lp_
  obtain ⟨zp0, zp1, -⟩ := at2 Zp5
  have np_ := ne_blk Zp5
  have mp_ := Ne.symm np_
  have lp_ := lt_blk Zp5
  clear kbwE
  go_wp2
  go_ret
  exact ⟨rfl, bwE⟩
end Go.Proofs.YtffedahmakhjeaaDoor
