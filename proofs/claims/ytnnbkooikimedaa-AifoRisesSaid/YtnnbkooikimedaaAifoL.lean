/-
  The example of layer 13, walked: true; the law of a gate that nobody made. No condition.
-/
import Derived.Test.YtnnbkooikimedaaAifo5
namespace Go.Proofs.Ytnnbkooikimedaa
set_option linter.unusedVariables false
set_option linter.unusedSimpArgs false
open Go.ChangeShapes Go.WideShapes Go.ChangeAt Go.RowKit
attribute [local go_sem] alloc_drewN setCell_drewN

set_option maxRecDepth 100000 in
set_option maxHeartbeats 1000000 in
theorem lives13 (w : World) :
    Calls Try.prog 14 #[] w fun e w' => e = .returned (.bool true) ∧ Below w.heap.size w w' := by
  have NW := Lib.hid (gnew_ok 4 4 0 1 w (by decide) (by decide))
  go_enter Try.func14, Try.ntmps14
  go_wp2_with fail
  refine NW.out.mono ?_
  rintro e w1 ⟨G, R, C, rfl, g1, b1⟩
  have G1 := Lib.hid g1
  have B1 := Lib.hid b1
  clear g1 b1 NW
  go_wp2
  go_loopw [13] (fun x wr => ∃ (i : Nat) (vr vs : Value) (ps : List Int) (f k : Nat) (S : List Int), i ≤ 4 ∧ x = .int .i64 i ∧ GtAt wr w.heap.size G R C 4 4 0 1 i vr vs ps f k S ∧ Hid (cont 0 ps f k = List.replicate i 5) ∧ Below w.heap.size w wr) (fun x _ => 4 - (intOf x).toNat)
  case atStart => exact ⟨0, _, _, _, _, _, _, Nat.zero_le _, rfl, G1.out, Lib.hid rfl, B1.out⟩
  case round =>
    obtain ⟨i, vr, vs, ps, f, k, S, hi, rfl, g, hc, hb⟩ := hrel
    by_cases hlt : i < 4
    · have OF := goffer g 5 hb.size
      have hm : mayP 4 0 1 i (List.replicate i 5) 5 = true ∧ winP (List.replicate i 5) 4 5 = List.replicate (i + 1) 5 := by
        have hcs : i = 0 ∨ i = 1 ∨ i = 2 ∨ i = 3 := by omega
        rcases hcs with rfl | rfl | rfl | rfl <;> decide
      rw [hc.out, hm.1, show (4 : Int).toNat = 4 from rfl, hm.2] at OF
      have OH := Lib.hid OF
      have HG := Lib.hid g
      have HB := Lib.hid hb
      clear OF g hb hm hc
      go_wp2_with fail
      refine OH.out.mono ?_
      rintro e w2 ⟨rfl, vr', vs', ps', f', k', S', g2, hc2, m2⟩
      have B2 := m2.below HB.out (fun j hj => (HG.out.inlt hj).1) HB.out.size
      have HG2 := Lib.hid g2; have HC2 := Lib.hid hc2; have HB2 := Lib.hid B2
      clear g2 hc2 m2 B2 OH
      go_wp2
      go_roundw
      case rel => exact ⟨i + 1, vr', vs', ps', f', k', S', by omega, by go_num, HG2.out, HC2, HB2.out⟩
      case measure => simp [intOf] <;> omega
    · obtain rfl : i = 4 := by omega
      have OF := goffer g 1 hb.size
      have hm : mayP 4 0 1 4 (List.replicate 4 5) 1 = false ∧ winP (List.replicate 4 5) 4 1 = [5, 5, 5, 1] := by decide
      rw [hc.out, hm.1, show (4 : Int).toNat = 4 from rfl, hm.2] at OF
      have OH := Lib.hid OF
      have HG := Lib.hid g
      have HB := Lib.hid hb
      clear OF g hb hm hc
      go_wp2_with fail
      refine OH.out.mono ?_
      rintro e w2 ⟨rfl, vr', vs', ps', f', k', S', g2, hc2, m2⟩
      have B2 := m2.below HB.out (fun j hj => (HG.out.inlt hj).1) HB.out.size
      have g2 : GtAt w2 w.heap.size G R C 4 4 0 1 4 vr' vs' ps' f' k' S' := g2
      have TK := Lib.hid (gtake g2)
      have HG2 := Lib.hid g2; have HC2 := Lib.hid hc2; have HB2 := Lib.hid B2
      clear g2 hc2 m2 B2 OH
      go_wp2_with fail
      refine TK.out.mono ?_
      rintro e w3 ⟨rfl, g3, m3⟩
      have B3 := m3.below HB2.out (fun j hj => (HG2.out.inlt hj).1) HB2.out.size
      have g3 : GtAt w3 w.heap.size G R C 4 4 0 1 3 vr' vs' ps' f' k' S' := g3
      have M6 := gmay g3 6
      rw [HC2.out, show mayP 4 0 1 3 [5, 5, 5, 1] 6 = false by decide] at M6
      have M5 := fun q => gmay (g3.keep (w' := w3.drewN q) (fun _ _ => rfl)) 5
      rw [HC2.out, show mayP 4 0 1 3 [5, 5, 5, 1] 5 = true by decide] at M5
      have H6 := Lib.hid M6; have H5 := Lib.hid M5; have HB3 := Lib.hid B3
      clear g3 m3 B3 M6 M5 TK
      go_wp2_with fail
      refine H6.out.mono ?_
      rintro e w4 ⟨rfl, q, rfl⟩
      go_wp2_with fail
      refine (H5.out q).mono ?_
      rintro e w5 ⟨rfl, q2, rfl⟩
      have B5 := Lib.hid (show Below w.heap.size w (w3.drewN (q + q2)) from ⟨HB3.out.os, HB3.out.tape, HB3.out.output, HB3.out.size, HB3.out.block⟩)
      go_wp2
      go_ret
      exact ⟨rfl, B5.out⟩
end Go.Proofs.Ytnnbkooikimedaa
