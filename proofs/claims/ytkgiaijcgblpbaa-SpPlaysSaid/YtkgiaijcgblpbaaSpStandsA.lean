/-
  The law's own 'stands' of layer 12: queues and the answer hold the same; the answer's SameNumbers. What lay below the heap's end stands. No condition but that New made both.
-/
import Derived.Test.YtkgiaijcgblpbaaR12P
import Derived.Test.YtkgiaijcgblpbaaSpQ
import Derived.Test.YtkgiaijcgblpbaaSame12
import Derived.Deep.RegionWith
import Derived.Deep.RegionHeld3
namespace Go.Proofs.Ytkgiaijcgblpbaa
set_option linter.unusedVariables false
set_option linter.unusedSimpArgs false
open Go.ChangeShapes Go.WideShapes Go.ChangeAt Go.RowKit
attribute [local go_sem] alloc_drewN setCell_drewN

set_option maxHeartbeats 1000000 in
theorem samenum12 {w : World} {b1 b2 : Nat} {v1 v2 : Value} {bs : List Int} (h1 : w.ownsRow b1 48 1 v1 bs.length (bs.map (Value.int .u64))) (h2 : w.ownsRow b2 48 1 v2 bs.length (bs.map (Value.int .u64))) (hn0 : 1 ≤ bs.length) (hn : bs.length ≤ 32) :
    Calls Try.prog 90 #[v1, v2] w fun e w' => e = .returned (.bool true) ∧ Below w.heap.size w w' := by
  obtain ⟨g1, c1, rfl, _, _⟩ := h1.form hn0
  obtain ⟨g2, c2, rfl, _, _⟩ := h2.form hn0
  have hc1 : ∀ i, i < bs.length → w.cell? ⟨g1, i, none⟩ = some (.int .u64 (bs.getD i 0)) := fun i hi => by
    rw [World.ownsRow.cellAt h1 i (by omega), List.getElem?_map, List.getElem?_eq_getElem hi, List.getD_eq_getElem?_getD, List.getElem?_eq_getElem hi]; rfl
  have hc2 : ∀ i, i < bs.length → w.cell? ⟨g2, i, none⟩ = some (.int .u64 (bs.getD i 0)) := fun i hi => by
    rw [World.ownsRow.cellAt h2 i (by omega), List.getElem?_map, List.getElem?_eq_getElem hi, List.getD_eq_getElem?_getD, List.getElem?_eq_getElem hi]; rfl
  have l1 : g1 < w.heap.size := (World.ownsRow.lt h1 g1 rfl).2
  have l2 : g2 < w.heap.size := (World.ownsRow.lt h2 g2 rfl).2
  have HC1 := Lib.hid hc1; have HC2 := Lib.hid hc2
  clear h1 h2 hc1 hc2
  go_enter Try.func90, Try.ntmps90
  go_wp2
  go_loopw [5] (fun x wr => ∃ i : Nat, i ≤ bs.length ∧ x = .int .i64 i ∧ Below w.heap.size w wr) (fun x _ => bs.length - (intOf x).toNat)
  case atStart => exact ⟨0, Nat.zero_le _, rfl, Below.refl _ _⟩
  case round =>
    obtain ⟨i, hi, rfl, hb⟩ := hrel
    by_cases hlt : i < bs.length
    · have d1 := (hb.cell (p := ⟨g1, i, none⟩) l1).trans (HC1.out i hlt)
      have d2 := (hb.cell (p := ⟨g2, i, none⟩) l2).trans (HC2.out i hlt)
      have i0 : (0 : Int) ≤ i := by omega
      have i1 : (i : Int) < bs.length := by omega
      have HB := Lib.hid hb
      clear hb
      generalize bs.getD i 0 = x at *
      go_wp2
      go_quiet (fail)
      go_wp2
      go_roundw
      case rel => exact ⟨i + 1, by omega, by go_num, below_drewN _ HB.out⟩
      case measure => simp [intOf] <;> omega
    · obtain rfl : i = bs.length := by omega
      go_wp2
      go_ret
      exact ⟨rfl, hb⟩
/-- How queues and their answer stand between two acts. -/
structure P12 (W0 w : World) (B M : Nat) (room : Int) (vb vq ub ul : Value) (bs : List Int) (rs : List RgI) (vs : List Value) : Prop where
  sp : SpAtI w W0.heap.size B room vb vq bs rs
  rf : R12 w W0.heap.size M room ub ul bs vs (csI rs)
  ap : ∀ j, inSpI B vb vq rs j → ¬ inR12 M ub ul vs j
  b : Below W0.heap.size W0 w
theorem P12.mvS {W0 w w' : World} {B M : Nat} {room : Int} {vb vq ub ul : Value} {bs bs' : List Int} {rs rs' : List RgI} {vs : List Value} (h : P12 W0 w B M room vb vq ub ul bs rs vs) (m : MvS w w' (inSpI B vb vq rs) (inSpI B vb vq rs')) :
    R12 w' W0.heap.size M room ub ul bs vs (csI rs) ∧ (∀ j, inSpI B vb vq rs' j → ¬ inR12 M ub ul vs j) ∧ Below W0.heap.size W0 w' :=
  ⟨h.rf.keep (fun j hj => m.block j (h.rf.inlt hj).2 (fun e => h.ap j e hj)), fun j hj hx => by
    rcases m.own j hj with h1 | h1
    · have := (h.rf.inlt hx).2; omega
    · exact h.ap j h1 hx, m.below h.b (fun j hj => (h.sp.inlt hj).1) h.b.size⟩
theorem mvR {W0 w w' : World} {B M : Nat} {room : Int} {vb vq ub ul ub' : Value} {bs bs' : List Int} {rs : List RgI} {vs vs' : List Value} {ls : List (List (Int × Int))} (s : SpAtI w W0.heap.size B room vb vq bs' rs) (r : R12 w W0.heap.size M room ub ul bs vs ls) (ap : ∀ j, inSpI B vb vq rs j → ¬ inR12 M ub ul vs j) (b : Below W0.heap.size W0 w) (m : MvS w w' (inR12 M ub ul vs) (inR12 M ub' ul vs')) :
    SpAtI w' W0.heap.size B room vb vq bs' rs ∧ (∀ j, inSpI B vb vq rs j → ¬ inR12 M ub' ul vs' j) ∧ Below W0.heap.size W0 w' :=
  ⟨s.keep (fun j hj => m.block j (s.inlt hj).2 (ap j hj)), fun j hj hx => by
    rcases m.own j hx with h1 | h1
    · have := (s.inlt hj).2; omega
    · exact ap j hj h1, m.below b (fun j hj => (r.inlt hj).1) b.size⟩
theorem P12.on {W0 w w' : World} {B M : Nat} {room : Int} {vb vq ub ul : Value} {bs : List Int} {rs : List RgI} {vs : List Value} (h : P12 W0 w B M room vb vq ub ul bs rs vs) (hb : Below w.heap.size w w') : P12 W0 w' B M room vb vq ub ul bs rs vs :=
  ⟨h.sp.below hb, h.rf.below hb, h.ap, h.b.trans (hb.mono h.b.size)⟩
theorem tot_sl12 (rs : List RgI) : totI rs = sl12 (csI rs) := by
  unfold totI sl12 csI
  rw [List.map_map]
  congr 1
  refine List.map_congr_left (fun r _ => ?_)
  show r.k = r.c.length
  unfold RgI.c
  rw [cont_length]
end Go.Proofs.Ytkgiaijcgblpbaa
