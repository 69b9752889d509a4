/-
  The law's own 'stands' of layer 12: queues and the answer hold the same; the answer's SameNumbers. What lay below the heap's end stands. No condition but that New made both.
-/
import Derived.Test.YtkgiaijcgblpbaaSpStandsA
import Derived.Deep.RegionWith
import Derived.Deep.RegionHeld3
namespace Go.Proofs.Ytkgiaijcgblpbaa
set_option linter.unusedVariables false
set_option linter.unusedSimpArgs false
open Go.ChangeShapes Go.WideShapes Go.ChangeAt Go.RowKit
attribute [local go_sem] alloc_drewN setCell_drewN

set_option maxRecDepth 100000 in
set_option maxHeartbeats 40000000 in
theorem stands12 {W0 w : World} {B M : Nat} {room : Int} {vb vq ub ul : Value} {bs : List Int} {rs : List RgI} {vs : List Value} (h : P12 W0 w B M room vb vq ub ul bs rs vs) :
    Calls Try.prog 49 #[.pointer (some ⟨B, 0, none⟩), .pointer (some ⟨M, 0, none⟩)] w fun e w' => e = .returned (.bool true) ∧ Below w.heap.size w w' := by
  have H := Lib.hid h
  obtain ⟨gl, cl, hvl, hcl⟩ := h.rf.formL
  have hlr : (csI rs).length = rs.length := cs_lenI rs
  rw [hlr] at hvl
  have HCL : Hid (∀ i, i < rs.length → ∃ a n c, w.cell? ⟨gl, i, none⟩ = some (.slice a n c) ∧ Its w W0.heap.size (.slice a n c) ((csI rs).getD i [])) := Lib.hid (fun i hi => by
    obtain ⟨a, n, _, c, h1, h2⟩ := hcl i (by rw [hlr]; exact hi)
    exact ⟨a, n, c, h1, h2⟩)
  obtain ⟨c0, c1, c2⟩ := h.rf.cell
  have hMlt : M < w.heap.size := (Array.getElem?_eq_some_iff.1 h.rf.blk).1
  have hLlt : gl < w.heap.size := (World.ownsRow.lt h.rf.ol gl (by rw [hvl]; rfl)).2
  have hn1 := h.sp.n1; have hn0 := h.sp.n0; have hlb := h.sp.lb
  have SQ := Lib.hid (fun i (hi : i < rs.length) W (hW : Below w.heap.size w W) => squeue_in (h.sp.below hW) i hi)
  have SO := Lib.hid (fun i (hi : i < 0 ∨ (rs.length : Int) ≤ i) W (hW : Below w.heap.size w W) => squeue_out (h.sp.below hW) i hi)
  have LS := Lib.hid (fun W (hW : Below w.heap.size w W) => slen2I (h.sp.below hW))
  have LR : Hid (∀ W, Below w.heap.size w W → Calls Try.prog 84 #[.pointer (some ⟨M, 0, none⟩)] W fun e w' => e = .returned (.int .i64 (totI rs)) ∧ w' = W) := Lib.hid (fun W hW => by rw [tot_sl12 rs]; exact len12 (h.rf.below hW))
  have BO : Hid (∀ W, Below w.heap.size w W → Calls Try.prog 50 #[.pointer (some ⟨B, 0, none⟩)] W fun e w' => ∃ v, e = .returned v ∧ (∃ bb, w'.ownsRow bb 48 1 v bs.length (bs.map (Value.int .u64))) ∧ Below W.heap.size W w') := Lib.hid (fun W hW => (sbounds (h.sp.below hW)).mono (fun e w' ⟨x1, x2, x3⟩ => ⟨_, x1, ⟨_, x2⟩, x3⟩))
  have UB : Hid (∀ W, Below w.heap.size w W → W.ownsRow W0.heap.size 48 1 ub bs.length (bs.map (Value.int .u64))) := Lib.hid (fun W hW => (h.rf.below hW).ob)
  have FM : Hid (∀ W : World, Below w.heap.size w W → W.cell? ⟨M, 1, none⟩ = some ub ∧ W.cell? ⟨M, 2, none⟩ = some ul) := Lib.hid (fun W hW => ⟨(h.rf.below hW).cell.2.1, (h.rf.below hW).cell.2.2⟩)
  have XL : Hid (∀ i, i < rs.length → ((csI rs).getD i []).length ≤ 1000000) := Lib.hid (fun i hi => by
    have h1 := sl12_one (csI rs) i (by rw [cs_lenI]; exact hi)
    have h2 := h.rf.sm
    omega)
  subst hvl
  clear hcl hlr c0 h
  go_enter Try.func49, Try.ntmps49
  go_wp2
  go_loopw [11] (fun x wr => ∃ i : Nat, i ≤ rs.length ∧ x = .int .i64 i ∧ Below w.heap.size w wr) (fun x _ => rs.length - (intOf x).toNat)
  case atStart => exact ⟨0, Nat.zero_le _, rfl, Below.refl _ _⟩
  case round =>
    obtain ⟨i, hi, rfl, hb⟩ := hrel
    by_cases hlt : i < rs.length
    · obtain ⟨a, n, c, hq, hI⟩ := HCL.out i hlt
      have HI := Lib.hid hI
      have FL : Hid (∀ W : World, Below w.heap.size w W → W.cell? ⟨gl, i, none⟩ = some (.slice a n c)) := Lib.hid (fun W hW => (hW.cell (p := ⟨gl, i, none⟩) hLlt).trans hq)
      have HB := Lib.hid hb
      have HBD : Hid (∀ k, Below w.heap.size w (wr.drewN k)) := Lib.hid (fun k => below_drewN k HB.out)
      obtain ⟨d1, d2⟩ := FM.out wr hb
      have d3 := FL.out wr hb
      have i0 : (0 : Int) ≤ i := by omega
      have i1 : (i : Int) < rs.length := by omega
      clear hI hq hb c1 c2
      go_wp2
      have SK : Hid (∀ W : World, Below w.heap.size w W → W.cell? ⟨M, 2, none⟩ = some (.slice (some ⟨gl, 0, none⟩) rs.length cl) ∧ W.cell? ⟨gl, i, none⟩ = some (.slice a n c) ∧ Below w.heap.size w W) := Lib.hid (fun W hW => ⟨(FM.out W hW).2, FL.out W hW, hW⟩)
      go_region_held3 (fun v => v.cell? ⟨M, 2, none⟩ = some (.slice (some ⟨gl, 0, none⟩) rs.length cl) ∧ v.cell? ⟨gl, i, none⟩ = some (.slice a n c) ∧ Below w.heap.size w v)
        ((first | exact SK.out _ HB.out.drew | exact SK.out _ B2.out | exact SK.out _ B3.out | exact SK.out _ (HBD.out _) | exact SK.out _ HB.out))
        (first
        | (go_at_call 54; refine (SQ.out i hlt _ HB.out.drew).mono ?_; rintro e w2 ⟨v2, rfl, ho2, b2⟩; have B2 := Lib.hid (HB.out.drew.trans (b2.mono HB.out.drew.size)); have O2 := Lib.hid ho2; clear ho2 b2)
        | (go_at_call 89; refine (same_its12 _ _ v2 _ ((csI rs).getD i []) (XL.out i hlt) w2 O2.out (HI.out.below B2.out)).mono ?_; rintro e w3 ⟨rfl, b3⟩; have B3 := Lib.hid (B2.out.trans (b3.mono B2.out.size)); clear b3))
      all_goals
        go_wp2
        go_roundw
        case rel => exact ⟨i + 1, by omega, by go_num, B3.out⟩
        case measure => simp [intOf] <;> omega
    · obtain rfl : i = rs.length := by omega
      have HB := Lib.hid hb
      have HBD : Hid (∀ k, Below w.heap.size w (wr.drewN k)) := Lib.hid (fun k => below_drewN k HB.out)
      obtain ⟨d1, d2⟩ := FM.out wr hb
      clear hb c1 c2 HCL SQ XL
      have SO1 := Lib.hid (SO.out (-1) (by omega))
      have SO2 := Lib.hid (SO.out (rs.length : Int) (by omega))
      have HB1 := Lib.hid (show 1 ≤ bs.length by omega)
      have HB2 := Lib.hid (show bs.length ≤ 32 by omega)
      clear SO
      generalize totI rs = tt at *
      go_wp2
      have SK : Hid (∀ W : World, Below w.heap.size w W → W.cell? ⟨M, 1, none⟩ = some ub ∧ W.cell? ⟨M, 2, none⟩ = some (.slice (some ⟨gl, 0, none⟩) rs.length cl) ∧ Below w.heap.size w W) := Lib.hid (fun W hW => ⟨(FM.out W hW).1, (FM.out W hW).2, hW⟩)
      go_region_held3 (fun v => v.cell? ⟨M, 1, none⟩ = some ub ∧ v.cell? ⟨M, 2, none⟩ = some (.slice (some ⟨gl, 0, none⟩) rs.length cl) ∧ Below w.heap.size w v)
        ((first | exact SK.out _ HB.out.drew | exact SK.out _ B2.out | exact SK.out _ B3.out | exact SK.out _ (HBD.out _) | exact SK.out _ HB.out))
        (first
        | (go_at_call 51; refine (LS.out _ HB.out.drew).mono ?_; rintro e w' ⟨rfl, hw⟩; subst hw)
        | (go_at_call 84; refine (LR.out _ HB.out.drew).mono ?_; rintro e w' ⟨rfl, hw⟩; subst hw)
        | (go_at_call 50; refine (BO.out _ HB.out.drew).mono ?_; rintro e w2 ⟨v2, rfl, ⟨bb, ho2⟩, b2⟩; have B2 := Lib.hid (HB.out.drew.trans (b2.mono HB.out.drew.size)); have SN := Lib.hid (samenum12 ho2 (UB.out w2 B2.out) HB1.out HB2.out); clear ho2 b2)
        | (go_at_call 90; refine SN.out.mono ?_; rintro e w3 ⟨rfl, b3⟩; have B3 := Lib.hid (B2.out.trans (b3.mono B2.out.size)); have S1 := Lib.hid (SO1.out _ B3.out); clear b3)
        | (go_at_call 54; refine S2.out.mono ?_; rintro e w' ⟨rfl, hw⟩; subst hw)
        | (go_at_call 54; refine S1.out.mono ?_; rintro e w' ⟨rfl, hw⟩; subst hw; have S2 := Lib.hid (SO2.out _ B3.out)))
      all_goals
        go_wp2
        go_ret
        exact ⟨rfl, B3.out⟩
end Go.Proofs.Ytkgiaijcgblpbaa
