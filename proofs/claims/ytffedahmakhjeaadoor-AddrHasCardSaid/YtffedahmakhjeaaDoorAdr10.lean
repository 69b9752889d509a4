/-
  Layer 31: the law on which prefixes are right and what they have, walked: true for any arguments. What the library's variables hold is handed on.
-/
import Derived.Test.YtffedahmakhjeaaDoorAdr9
import Derived.Test.YtffedahmakhjeaaDoorAdr4
import Derived.Deep.CutBlock
import Derived.Deep.DeepCutAuto
namespace Go.Proofs.YtffedahmakhjeaaDoor
set_option linter.unusedVariables false
set_option linter.unusedSimpArgs false
open Go.ChangeShapes Go.WideShapes Go.ChangeAt Go.RowKit
attribute [local go_sem] alloc_drewN setCell_drewN

set_option maxRecDepth 100000 in
set_option maxHeartbeats 4000000 in
theorem addrHas_at (a : Int) (a0 : 0 ≤ a) (a1 : a ≤ 4294967295) (n : Int) (n0 : -9223372036854775808 ≤ n) (n1 : n ≤ 9223372036854775807) (b : Int) (b0 : 0 ≤ b) (b1 : b ≤ 4294967295) (m : Int) (m0 : -9223372036854775808 ≤ m) (m1 : m ≤ 9223372036854775807) (x : Int) (x0 : 0 ≤ x) (x1 : x ≤ 4294967295) (c1 c2 : Int) (hc1 : max n 0 = c1) (hc2 : min c1 32 = c2) (w : World) (H : Held31 w) :
    Calls Tryd.prog 5 #[.agg #[.int .u32 a, .int .i64 n], .agg #[.int .u32 b, .int .i64 m], .int .u32 x] w fun e w' => e = .returned (.bool true) ∧ Below w.heap.size w w' := by
  have C1 := Lib.hid (fun W => right_any a n a0 a1 n0 n1 W)
  have C2 := Lib.hid (fun W => rright_any a n a0 a1 n0 n1 W)
  have C3 := Lib.hid (fun W => has_any a n x a0 a1 n0 n1 x0 x1 W)
  have C4 := Lib.hid (fun W => rhas_any a n x a0 a1 n0 n1 x0 x1 W)
  have C5 := Lib.hid (fun W => covers_any a n a0 a1 n0 n1 b m b0 b1 m0 m1 W)
  have C6 := Lib.hid (fun W => rcovers_any a n a0 a1 n0 n1 b m b0 b1 m0 m1 W)
  have C7 := Lib.hid (fun W => mask_any n n0 n1 W)
  have C8 := Lib.hid (fun W => rmask_any c2 (by omega) (by omega) W)
  rw [show mk31 c2 = mk31 n from by unfold mk31; rw [show max 0 (min c2 32) = max 0 (min n 32) by omega]] at C8
  generalize decide (RtP a n) = D1 at *
  generalize decide (HsP a n x) = D2 at *
  generalize decide (CvP a n b m) = D3 at *
  generalize mk31 n = M at *
  skip
  go_enter Tryd.func5, Tryd.ntmps5
  go_upto_region 3 with (fail)
  obtain ⟨W1, hW1⟩ : ∃ W1, W1 = (w.alloc (.cells #[.int .u32 a, .int .i64 n] 30)).alloc (.cells #[.int .u32 b, .int .i64 m] 30) := ⟨_, rfl⟩
  rw [← hW1]
  have BWH := Lib.hid (show Below w.heap.size w W1 by rw [hW1]; exact ((Below.refl _ w).alloc (Nat.le_refl _) _).alloc (by simp) _)
  have Zp : W1.heap[w.heap.size]? = some (.cells #[.int .u32 a, .int .i64 n] 30 (0, 0)) := by rw [hW1]; exact blk_old (heap_alloc_new _ _)
  have Zq : W1.heap[w.heap.size + 1]? = some (.cells #[.int .u32 b, .int .i64 m] 30 (0, 0)) := by rw [hW1]; exact blk_new (by simp)
  clear hW1
  have SC := Lib.hid (fun (v : World) (h : Below W1.heap.size W1 v) => (⟨(box2 ((h.block _ (lt_blk Zp)).trans Zp)).1, (box2 ((h.block _ (lt_blk Zp)).trans Zp)).2, (box2 ((h.block _ (lt_blk Zq)).trans Zq)).1, (box2 ((h.block _ (lt_blk Zq)).trans Zq)).2⟩ : v.cell? ⟨w.heap.size, 0, none⟩ = some (.int .u32 a) ∧ v.cell? ⟨w.heap.size, 1, none⟩ = some (.int .i64 n) ∧ v.cell? ⟨w.heap.size + 1, 0, none⟩ = some (.int .u32 b) ∧ v.cell? ⟨w.heap.size + 1, 1, none⟩ = some (.int .i64 m)))
  have LV := Lib.hid (fun (W : World) (hW : Below W1.heap.size W1 W) => lives31 W (H.below (BWH.out.trans (hW.mono BWH.out.size))))
  clear Zp Zq
  go_region_held3 (fun v => v.cell? ⟨w.heap.size, 0, none⟩ = some (.int .u32 a) ∧ v.cell? ⟨w.heap.size, 1, none⟩ = some (.int .i64 n) ∧ v.cell? ⟨w.heap.size + 1, 0, none⟩ = some (.int .u32 b) ∧ v.cell? ⟨w.heap.size + 1, 1, none⟩ = some (.int .i64 m))
      ((first | exact SC.out _ y9 | exact SC.out _ y8 | exact SC.out _ y7 | exact SC.out _ y6 | exact SC.out _ y5 | exact SC.out _ y4 | exact SC.out _ y3 | exact SC.out _ y2 | exact SC.out _ y1 | exact SC.out _ (by (repeat' (first | (with_reducible exact Below.refl _ _) | (with_reducible refine below_drewN _ ?_) | (with_reducible refine Below.drew ?_))))))
      (first
        | (go_at_call 16; refine (C1.out _).mono ?_; rintro e uA ⟨rfl, c1⟩; have y1 : Below W1.heap.size W1 uA := bel_call c1 (by (repeat' (first | (with_reducible exact (Below.refl _ _)) | (with_reducible refine below_drewN _ ?_) | (with_reducible refine Below.drew ?_)))) (Nat.le_refl _); clear c1)
        | (go_at_call 17; refine (C2.out _).mono ?_; rintro e uB ⟨rfl, c2⟩; have y2 : Below W1.heap.size W1 uB := bel_call c2 (by (repeat' (first | (with_reducible exact y1) | (with_reducible refine below_drewN _ ?_) | (with_reducible refine Below.drew ?_)))) (Nat.le_refl _); clear c2)
        | (go_at_call 18; refine (C3.out _).mono ?_; rintro e uC ⟨rfl, c3⟩; have y3 : Below W1.heap.size W1 uC := bel_call c3 (by (repeat' (first | (with_reducible exact y2) | (with_reducible refine below_drewN _ ?_) | (with_reducible refine Below.drew ?_)))) (Nat.le_refl _); clear c3)
        | (go_at_call 19; refine (C4.out _).mono ?_; rintro e uD ⟨rfl, c4⟩; have y4 : Below W1.heap.size W1 uD := bel_call c4 (by (repeat' (first | (with_reducible exact y3) | (with_reducible refine below_drewN _ ?_) | (with_reducible refine Below.drew ?_)))) (Nat.le_refl _); clear c4)
        | (go_at_call 20; refine (C5.out _).mono ?_; rintro e uE ⟨rfl, c5⟩; have y5 : Below W1.heap.size W1 uE := bel_call c5 (by (repeat' (first | (with_reducible exact y4) | (with_reducible refine below_drewN _ ?_) | (with_reducible refine Below.drew ?_)))) (Nat.le_refl _); clear c5)
        | (go_at_call 21; refine (C6.out _).mono ?_; rintro e uF ⟨rfl, c6⟩; have y6 : Below W1.heap.size W1 uF := bel_call c6 (by (repeat' (first | (with_reducible exact y5) | (with_reducible refine below_drewN _ ?_) | (with_reducible refine Below.drew ?_)))) (Nat.le_refl _); clear c6)
        | (go_at_call 22; refine (C7.out _).mono ?_; rintro e uG ⟨rfl, r7⟩; have y7 : Below W1.heap.size W1 uG := (by rw [r7]; exact (by (repeat' (first | (with_reducible exact y6) | (with_reducible refine below_drewN _ ?_) | (with_reducible refine Below.drew ?_))))); clear r7)
        | (go_at_call 23; refine (C8.out _).mono ?_; rintro e uH ⟨rfl, r8⟩; have y8 : Below W1.heap.size W1 uH := (by rw [r8]; exact (by (repeat' (first | (with_reducible exact y7) | (with_reducible refine below_drewN _ ?_) | (with_reducible refine Below.drew ?_))))); clear r8)
        | (go_at_call 7; refine (LV.out _ (by (repeat' (first | (with_reducible exact y8) | (with_reducible refine below_drewN _ ?_) | (with_reducible refine Below.drew ?_))))).mono ?_; rintro e uI ⟨rfl, c9⟩; have y9 : Below W1.heap.size W1 uI := bel_call c9 (by (repeat' (first | (with_reducible exact y8) | (with_reducible refine below_drewN _ ?_) | (with_reducible refine Below.drew ?_)))) (Nat.le_refl _); clear c9)
        | fail)
  go_wp2
  go_ret
  exact ⟨rfl, BWH.out.trans (y9.mono BWH.out.size)⟩
end Go.Proofs.YtffedahmakhjeaaDoor
