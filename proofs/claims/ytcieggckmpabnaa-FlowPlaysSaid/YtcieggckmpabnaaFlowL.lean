/-
  The example of layer 15, walked: true. No condition.
-/
import Derived.Test.YtcieggckmpabnaaFlowT10
namespace Go.Proofs.Ytcieggckmpabnaa
set_option linter.unusedVariables false
set_option linter.unusedSimpArgs false
open Go.ChangeShapes Go.WideShapes Go.ChangeAt Go.RowKit
attribute [local go_sem] alloc_drewN setCell_drewN

set_option maxRecDepth 100000 in
set_option maxHeartbeats 1000000 in
theorem lives15 (w : World) : Calls Try.prog 12 #[] w fun e w' => e = .returned (.bool true) ∧ Below w.heap.size w w' := by
  go_enter Try.func12, Try.ntmps12
  go_wp2_with fail
  refine (tnewT 2 (by omega) (by omega) _).mono ?_
  rintro e w1 ⟨rfl, h1, b1⟩
  have s1 := b1.size
  have H1 := Lib.hid h1
  have B1 := Lib.hid b1
  clear h1 b1
  go_wp2_with fail
  refine (tput_okT H1.out s1 7 ⟨#[97]⟩ rfl (by simp)).mono ?_
  rintro e w2 ⟨rfl, v2, h2, m2⟩
  have H2 := Lib.hid (show TbAtT w2 w.heap.size w.heap.size 2 v2 [⟨7, ⟨#[97]⟩⟩] from h2)
  have s2 := Nat.le_trans s1 m2.size
  have B2 := Lib.hid (m2.below B1.out (fun j hj => (H1.out.inlt hj).1) s1)
  clear h2 m2 H1 B1
  go_wp2_with fail
  refine (tput_okT H2.out s2 3 ⟨#[98]⟩ rfl (by simp)).mono ?_
  rintro e w3 ⟨rfl, v3, h3, m3⟩
  have H3 := Lib.hid (show TbAtT w3 w.heap.size w.heap.size 2 v3 [⟨3, ⟨#[98]⟩⟩, ⟨7, ⟨#[97]⟩⟩] from h3)
  have s3 := Nat.le_trans s2 m3.size
  have B3 := Lib.hid (m3.below B2.out (fun j hj => (H2.out.inlt hj).1) s2)
  clear h3 m3 H2 B2
  go_wp2_with fail
  refine (tput_fullT H3.out 9 ⟨#[99]⟩ rfl rfl).mono ?_
  rintro e w4 ⟨rfl, b4⟩
  have H4 := Lib.hid (H3.out.below b4)
  have s4 := Nat.le_trans s3 b4.size
  have B4 := Lib.hid (B3.out.trans (b4.mono s3))
  clear H3 B3 b4
  go_wp2_with fail
  refine (tidsT H4.out).mono ?_
  rintro e w5 ⟨l, rfl, hl, b5⟩
  have H5 := Lib.hid (H4.out.below b5)
  have s5 := Nat.le_trans s4 b5.size
  have B5 := Lib.hid (B4.out.trans (b5.mono s4))
  obtain ⟨g, c, rfl, hg, -⟩ := hl.form (by simp)
  have l0 := hl.cellAt 0 (by simp)
  have l1 := hl.cellAt 1 (by simp)
  have hg2 := hl.lt g rfl
  have IN := Lib.hid (fun j (hj : inTb w.heap.size v3 j) => (H4.out.inlt hj).2)
  clear H4 B4 b5 hl
  go_wp2_with fail
  refine (tdrop_atT H5.out s5 7 rfl).mono ?_
  rintro e w6 ⟨he, v6, h6, m6⟩
  obtain rfl : e = .returned (.tuple #[.string ⟨#[97]⟩, .bool true]) := he
  have H6 := Lib.hid (show TbAtT w6 w.heap.size w.heap.size 2 v6 [⟨3, ⟨#[98]⟩⟩] from h6)
  have s6 := Nat.le_trans s5 m6.size
  have B6 := Lib.hid (m6.below B5.out (fun j hj => (H5.out.inlt hj).1) s5)
  have hgb : w6.heap[g]? = w5.heap[g]? := m6.block g hg2.2 (fun hj => by have := IN.out g hj; omega)
  have k0 : w6.cell? ⟨g, 0, none⟩ = some (.int .u32 3) := by
    have := l0
    simp only [World.cell?, hgb] at this ⊢
    exact this
  have k1 : w6.cell? ⟨g, 1, none⟩ = some (.int .u32 7) := by
    have := l1
    simp only [World.cell?, hgb] at this ⊢
    exact this
  clear h6 m6 H5 B5 IN l0 l1 hgb
  go_wp2_with fail
  refine (tput_okT H6.out s6 7 ⟨#[100]⟩ rfl (by simp)).mono ?_
  rintro e w7 ⟨rfl, v7, h7, m7⟩
  have B7 := Lib.hid (m7.below B6.out (fun j hj => (H6.out.inlt hj).1) s6)
  clear h7 m7 H6 B6
  go_wp2
  go_ret
  exact ⟨rfl, B7.out⟩
end Go.Proofs.Ytcieggckmpabnaa
