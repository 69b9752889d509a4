/-
  Package admit: the example of layer 17, and the law of a gate that nobody made, walked: true. No condition.
-/
import Derived.Test.YtiogfgkfipekbaaAdm5
namespace Go.Proofs.Ytiogfgkfipekbaa
set_option linter.unusedVariables false
set_option linter.unusedSimpArgs false
open Go.ChangeShapes Go.WideShapes Go.ChangeAt Go.RowKit
attribute [local go_sem] alloc_drewN setCell_drewN

/-- The example's configuration. -/
def cfg1 (b : Nat) : Value := .agg #[.int .i64 0, .int .i64 0, .int .i64 0, .int .i64 0, .int .i64 9, .int .u64 100, .int .i64 0, .int .u64 60, .int .u64 0, .int .u64 0, .slice (some ⟨b, 0, none⟩) 1 1]
def arr1 (b : Nat) : Array Value := #[.int .i64 0, .int .i64 0, .int .i64 0, .int .i64 0, .int .i64 9, .int .u64 100, .int .i64 0, .int .u64 60, .int .u64 0, .int .u64 0, .slice (some ⟨b, 0, none⟩) 1 1]
set_option maxRecDepth 100000 in
theorem acaps1 (b : Nat) (w : World) : Calls Try.prog 50 #[.agg #[.int .i64 0, .int .i64 0, .int .i64 0, .int .i64 0, .int .i64 9, .int .u64 100, .int .i64 0, .int .u64 60, .int .u64 0, .int .u64 0, .slice (some ⟨b, 0, none⟩) 1 1]] w fun e w' => e = .returned (.bool true) ∧ Below w.heap.size w w' := by
  go_enter Try.func50, Try.ntmps50
  go_wp2
  go_quiet (fail)
  go_wp2
  go_ret
  refine ⟨rfl, ?_⟩
  repeat' (first | exact Below.refl _ _ | refine below_drewN _ ?_ | refine Below.drew ?_ | refine Below.alloc ?_ (by simp; try omega) _)
set_option maxRecDepth 100000 in
theorem acheck1 (b : Nat) (id co bu sz cp : Int) (w : World) (hb : w.heap[b]? = some (.cells #[.int .u32 id, .int .u64 co, .int .u64 bu, .int .u64 sz, .int .u64 cp] 100 (0, 0))) : Calls Try.prog 12 #[.agg #[.int .i64 0, .int .i64 0, .int .i64 0, .int .i64 0, .int .i64 9, .int .u64 100, .int .i64 0, .int .u64 60, .int .u64 0, .int .u64 0, .slice (some ⟨b, 0, none⟩) 1 1]] w fun e w' => e = .returned (.int .i64 0) ∧ Below w.heap.size w w' := by
  obtain ⟨W0, hW0⟩ : ∃ W0, w.alloc (.cells (arr1 b) 25) = W0 := ⟨_, rfl⟩
  have hc := heap_alloc_new w (.cells (arr1 b) 25)
  have bb : Below w.heap.size w W0 := by rw [← hW0]; exact (Below.refl _ w).alloc (Nat.le_refl _) _
  rw [hW0] at hc
  unfold arr1 at hc hW0
  have HC := Lib.hid hc; have BB := Lib.hid bb
  have CP := Lib.hid (acaps1 b W0)
  have NT := Lib.hid (fun (u : World) (hu : Below w.heap.size w u) => anewT1 b id co bu sz cp u ((hu.block b (Array.getElem?_eq_some_iff.1 hb).1).trans hb))
  clear hc bb hb
  go_enter Try.func12, Try.ntmps12
  have c0 : W0.cell? ⟨w.heap.size, 0, none⟩ = some (.int .i64 0) := cell_of_row W0 w.heap.size 0 _ _ (0, 0) HC.out
  have c1 : W0.cell? ⟨w.heap.size, 1, none⟩ = some (.int .i64 0) := cell_of_row W0 w.heap.size 1 _ _ (0, 0) HC.out
  have c2 : W0.cell? ⟨w.heap.size, 2, none⟩ = some (.int .i64 0) := cell_of_row W0 w.heap.size 2 _ _ (0, 0) HC.out
  have c3 : W0.cell? ⟨w.heap.size, 3, none⟩ = some (.int .i64 0) := cell_of_row W0 w.heap.size 3 _ _ (0, 0) HC.out
  have c4 : W0.cell? ⟨w.heap.size, 4, none⟩ = some (.int .i64 9) := cell_of_row W0 w.heap.size 4 _ _ (0, 0) HC.out
  have c5 : W0.cell? ⟨w.heap.size, 5, none⟩ = some (.int .u64 100) := cell_of_row W0 w.heap.size 5 _ _ (0, 0) HC.out
  have c6 : W0.cell? ⟨w.heap.size, 6, none⟩ = some (.int .i64 0) := cell_of_row W0 w.heap.size 6 _ _ (0, 0) HC.out
  have c7 : W0.cell? ⟨w.heap.size, 7, none⟩ = some (.int .u64 60) := cell_of_row W0 w.heap.size 7 _ _ (0, 0) HC.out
  have c8 : W0.cell? ⟨w.heap.size, 8, none⟩ = some (.int .u64 0) := cell_of_row W0 w.heap.size 8 _ _ (0, 0) HC.out
  have c9 : W0.cell? ⟨w.heap.size, 9, none⟩ = some (.int .u64 0) := cell_of_row W0 w.heap.size 9 _ _ (0, 0) HC.out
  have c10 : W0.cell? ⟨w.heap.size, 10, none⟩ = some (.slice (some ⟨b, 0, none⟩) 1 1) := cell_of_row W0 w.heap.size 10 _ _ (0, 0) HC.out
  go_wp2_with fail
  refine CP.out.mono ?_
  rintro e w1 ⟨rfl, b1⟩
  have d7 := (b1.cell (p := ⟨w.heap.size, 7, none⟩) (Array.getElem?_eq_some_iff.1 HC.out).1).trans c7
  have d10 := (b1.cell (p := ⟨w.heap.size, 10, none⟩) (Array.getElem?_eq_some_iff.1 HC.out).1).trans c10
  have B1 := Lib.hid (below_onto BB.out b1 BB.out.size)
  clear b1 c0 c1 c2 c3 c4 c5 c6 c7 c8 c9 c10
  go_wp2_with fail
  refine (NT.out _ B1.out).mono ?_
  rintro e w2 ⟨rfl, v, bd, t2, l2, h2, b2⟩
  have B2 := Lib.hid (below_onto B1.out b2 B1.out.size)
  clear t2 l2 h2 b2
  go_wp2
  go_ret
  exact ⟨rfl, B2.out⟩
set_option maxRecDepth 100000 in
set_option maxHeartbeats 1000000 in
theorem anew1 (b : Nat) (id co bu sz cp : Int) (p0 : 0 ≤ cp) (p1 : cp ≤ 18446744073709551615) (w : World) (hb : w.heap[b]? = some (.cells #[.int .u32 id, .int .u64 co, .int .u64 bu, .int .u64 sz, .int .u64 cp] 100 (0, 0))) : Calls Try.prog 10 #[.agg #[.int .i64 0, .int .i64 0, .int .i64 0, .int .i64 0, .int .i64 9, .int .u64 100, .int .i64 0, .int .u64 60, .int .u64 0, .int .u64 0, .slice (some ⟨b, 0, none⟩) 1 1]] w fun e w' => ∃ base G T v bd, e = .returned (.tuple #[.pointer (some ⟨G, 0, none⟩), .int .i64 0]) ∧ w.heap.size ≤ base ∧ base ≤ w'.heap.size ∧ AdAt w' base G T 1 v [⟨id, some ⟨bd, 0, none⟩⟩] (fun _ => bd) (fun _ => ⟨0, 0, cp⟩) ⟨9, 100, 0, 60⟩ 0 0 ∧ Below w.heap.size w w' := by
  obtain ⟨W0, hW0⟩ : ∃ W0, w.alloc (.cells (arr1 b) 25) = W0 := ⟨_, rfl⟩
  have hc := heap_alloc_new w (.cells (arr1 b) 25)
  have bb : Below w.heap.size w W0 := by rw [← hW0]; exact (Below.refl _ w).alloc (Nat.le_refl _) _
  rw [hW0] at hc
  unfold arr1 at hc hW0
  have HC := Lib.hid hc; have BB := Lib.hid bb
  have CK := Lib.hid (acheck1 b id co bu sz cp W0 ((bb.block b (Array.getElem?_eq_some_iff.1 hb).1).trans hb))
  have NT := Lib.hid (fun (u : World) (hu : Below w.heap.size w u) => anewT1 b id co bu sz cp u ((hu.block b (Array.getElem?_eq_some_iff.1 hb).1).trans hb))
  clear hc bb hb
  go_enter Try.func10, Try.ntmps10
  have c0 : W0.cell? ⟨w.heap.size, 0, none⟩ = some (.int .i64 0) := cell_of_row W0 w.heap.size 0 _ _ (0, 0) HC.out
  have c1 : W0.cell? ⟨w.heap.size, 1, none⟩ = some (.int .i64 0) := cell_of_row W0 w.heap.size 1 _ _ (0, 0) HC.out
  have c2 : W0.cell? ⟨w.heap.size, 2, none⟩ = some (.int .i64 0) := cell_of_row W0 w.heap.size 2 _ _ (0, 0) HC.out
  have c3 : W0.cell? ⟨w.heap.size, 3, none⟩ = some (.int .i64 0) := cell_of_row W0 w.heap.size 3 _ _ (0, 0) HC.out
  have c4 : W0.cell? ⟨w.heap.size, 4, none⟩ = some (.int .i64 9) := cell_of_row W0 w.heap.size 4 _ _ (0, 0) HC.out
  have c5 : W0.cell? ⟨w.heap.size, 5, none⟩ = some (.int .u64 100) := cell_of_row W0 w.heap.size 5 _ _ (0, 0) HC.out
  have c6 : W0.cell? ⟨w.heap.size, 6, none⟩ = some (.int .i64 0) := cell_of_row W0 w.heap.size 6 _ _ (0, 0) HC.out
  have c7 : W0.cell? ⟨w.heap.size, 7, none⟩ = some (.int .u64 60) := cell_of_row W0 w.heap.size 7 _ _ (0, 0) HC.out
  have c8 : W0.cell? ⟨w.heap.size, 8, none⟩ = some (.int .u64 0) := cell_of_row W0 w.heap.size 8 _ _ (0, 0) HC.out
  have c9 : W0.cell? ⟨w.heap.size, 9, none⟩ = some (.int .u64 0) := cell_of_row W0 w.heap.size 9 _ _ (0, 0) HC.out
  have c10 : W0.cell? ⟨w.heap.size, 10, none⟩ = some (.slice (some ⟨b, 0, none⟩) 1 1) := cell_of_row W0 w.heap.size 10 _ _ (0, 0) HC.out
  go_wp2_with fail
  refine CK.out.mono ?_
  rintro e w1 ⟨rfl, b1⟩
  have X1 := Lib.hid ((b1.block _ (Array.getElem?_eq_some_iff.1 HC.out).1).trans HC.out)
  have B1 := Lib.hid (below_onto BB.out b1 BB.out.size)
  clear b1 c0 c1 c2 c3 c4 c5 c6 c7 c8 c9 c10
  have c10 : w1.cell? ⟨w.heap.size, 10, none⟩ = some (.slice (some ⟨b, 0, none⟩) 1 1) := cell_of_row w1 w.heap.size 10 _ _ (0, 0) X1.out
  go_wp2_with fail
  refine (NT.out _ B1.out).mono ?_
  rintro e w2 ⟨rfl, v, bd, t2, l2, h2, b2⟩
  have B2 := Lib.hid (below_onto B1.out b2 B1.out.size)
  have X2 := Lib.hid ((b2.block _ (Array.getElem?_eq_some_iff.1 X1.out).1).trans X1.out)
  have T2 := Lib.hid t2; have L2 := Lib.hid l2; have D2 := Lib.hid h2
  have S2 := Lib.hid b2.size
  clear t2 l2 h2 b2 c10
  have c4 : w2.cell? ⟨w.heap.size, 4, none⟩ = some (.int .i64 9) := cell_of_row w2 w.heap.size 4 _ _ (0, 0) X2.out
  have c5 : w2.cell? ⟨w.heap.size, 5, none⟩ = some (.int .u64 100) := cell_of_row w2 w.heap.size 5 _ _ (0, 0) X2.out
  have c6 : w2.cell? ⟨w.heap.size, 6, none⟩ = some (.int .i64 0) := cell_of_row w2 w.heap.size 6 _ _ (0, 0) X2.out
  have c7 : w2.cell? ⟨w.heap.size, 7, none⟩ = some (.int .u64 60) := cell_of_row w2 w.heap.size 7 _ _ (0, 0) X2.out
  have OB : Below w2.heap.size w2 (w2.alloc (.cells #[.int .i64 9, .int .u64 100, .int .i64 0, .int .u64 60, .int .i64 0, .int .u64 0, .pointer (some ⟨w1.heap.size, 0, none⟩)] 107)) := (Below.refl _ w2).alloc (Nat.le_refl _) _
  have FIN := Lib.hid (show AdAt (w2.alloc (.cells #[.int .i64 9, .int .u64 100, .int .i64 0, .int .u64 60, .int .i64 0, .int .u64 0, .pointer (some ⟨w1.heap.size, 0, none⟩)] 107)) w1.heap.size w2.heap.size w1.heap.size 1 v [⟨id, some ⟨bd, 0, none⟩⟩] (fun _ => bd) (fun _ => ⟨0, 0, cp⟩) ⟨9, 100, 0, 60⟩ 0 0 from
    ⟨heap_alloc_new w2 _, T2.out.below OB, fun e he => by
      rw [List.mem_singleton] at he
      subst he
      exact ⟨rfl, L2.out, (OB.block bd D2.out.lt).trans D2.out, ⟨(by decide : (-9223372036854775808 : Int) ≤ 0), (by decide : (0 : Int) ≤ 9223372036854775807)⟩, ⟨(by decide : (0 : Int) ≤ 0), (by decide : (0 : Int) ≤ 18446744073709551615)⟩, p0, p1⟩,
     fun e he e' he' _ => by rw [List.mem_singleton] at he he'; rw [he, he'], S2.out, ⟨⟨by decide, by decide⟩, ⟨by decide, by decide⟩, ⟨by decide, by decide⟩, by decide, by decide⟩, by decide, by decide, by decide, by decide, fun e he => (by decide : (0 : Int) ≤ 0), rfl, rfl⟩)
  have HO := Lib.hid OB
  clear OB
  go_wp2
  go_ret2
  refine ⟨w1.heap.size, w2.heap.size, w1.heap.size, v, bd, rfl, B1.out.size, Nat.le_trans S2.out HO.out.size, FIN.out, below_onto B2.out HO.out B2.out.size⟩
set_option maxRecDepth 100000 in
set_option maxHeartbeats 1000000 in
theorem lives17 (w : World) : Calls Try.prog 9 #[] w fun e w' => e = .returned (.bool true) ∧ Below w.heap.size w w' := by
  have NW := Lib.hid (anew1 w.heap.size 7 0 0 0 90 (by decide) (by decide) (w.alloc (.cells #[.int .u32 7, .int .u64 0, .int .u64 0, .int .u64 0, .int .u64 90] 100)) (heap_alloc_new w _))
  go_enter Try.func9, Try.ntmps9
  go_wp2_with fail
  refine NW.out.mono ?_
  rintro e w1 ⟨base, G, T, v, bd, rfl, l1, l2, g1, b1⟩
  have IN := ain_ok g1 l2 7 50 (by decide) (by decide) (by
    have hf : isF (([⟨7, some ⟨bd, 0, none⟩⟩] : List FeP).map FeP.id) 7 = true := by show isF [7] 7 = true; decide
    rw [hf]; decide)
  have IH := Lib.hid IN
  have B1 := Lib.hid (below_onto (show Below w.heap.size w (w.alloc (.cells #[.int .u32 7, .int .u64 0, .int .u64 0, .int .u64 0, .int .u64 90] 100)) from (Below.refl _ w).alloc (Nat.le_refl _) _) b1 (by simp))
  have L1 := Lib.hid (show w.heap.size ≤ base from Nat.le_trans (by simp) l1)
  clear IN g1 b1 l1 l2 NW
  go_wp2_with fail
  refine IH.out.mono ?_
  rintro e w2 ⟨rfl, g2, b2⟩
  have MY := amay g2 7 1 (by decide) (by decide)
  have hf : isF (([⟨7, some ⟨bd, 0, none⟩⟩] : List FeP).map FeP.id) 7 = true := by show isF [7] 7 = true; decide
  rw [hf, updD_at] at MY
  rw [show mayC ⟨9, 100, 0, 60⟩ true (0 + 1) (0 + 50) (Dt.more ⟨0, 0, 90⟩ 50) 1 = 17 from by decide] at MY
  have MH := Lib.hid MY
  have TT := Lib.hid (fun (u : World) (hu : Below w2.heap.size w2 u) => atotal (g2.below hu).gk)
  have B2 := Lib.hid (B1.out.trans (b2.mono L1.out))
  clear MY g2 b2 hf IH
  go_wp2_with fail
  refine MH.out.mono ?_
  rintro e w3 ⟨rfl, b3⟩
  have B3 := Lib.hid (below_onto B2.out b3 B2.out.size)
  have T3 := Lib.hid (TT.out _ b3)
  clear b3 TT MH
  go_wp2_with fail
  refine T3.out.mono ?_
  rintro e w4 ⟨rfl, q, rfl⟩
  go_wp2
  go_ret
  exact ⟨rfl, below_drewN _ B3.out⟩
end Go.Proofs.Ytiogfgkfipekbaa
