/-
  Package sppifo for ints: the first item is looked at; all items of a queue. No block turns. No condition but that New made them.
-/
import Derived.Test.YtkgiaijcgblpbaaSpI5
namespace Go.Proofs.Ytkgiaijcgblpbaa
set_option linter.unusedVariables false
set_option linter.unusedSimpArgs false
open Go.ChangeShapes Go.WideShapes Go.ChangeAt Go.RowKit
attribute [local go_sem] alloc_drewN setCell_drewN

/-- What is first. -/
def FrontI (ls : List (List (Int × Int))) (y : Int × Int) : Prop := ∃ (i : Nat) (t : List (Int × Int)), i < ls.length ∧ ls.getD i [] = y :: t ∧ ∀ j, j < i → ls.getD j [] = []
set_option maxHeartbeats 1000000 in
theorem speek {w : World} {base B : Nat} {room : Int} {vb vq : Value} {bs : List Int} {rs : List RgI} (h : SpAtI w base B room vb vq bs rs) :
    Calls Try.prog 47 #[.pointer (some ⟨B, 0, none⟩)] w fun e w' =>
      ((∀ i, i < rs.length → (csI rs).getD i [] = []) ∧ e = .returned (.tuple #[.int .u64 0, .int .i64 0, .bool false]) ∧ Below w.heap.size w w') ∨
      (∃ y, FrontI (csI rs) y ∧ e = .returned (.tuple #[.int .u64 y.1, .int .i64 y.2, .bool true]) ∧ Below w.heap.size w w') := by
  have SF := Lib.hid (sfirstI h)
  have H0 := Lib.hid h
  clear h
  go_enter Try.func47, Try.ntmps47
  go_wp2_with fail
  refine SF.out.mono ?_
  rintro e w' ⟨p, rfl, hF, rfl⟩
  rcases hF with ⟨rfl, hz⟩ | ⟨j, hj, rfl, hk, hz⟩
  · have EM : Hid (∀ i, i < rs.length → (csI rs).getD i [] = []) := Lib.hid (fun i hi => by
      rw [cs_atI rs i hi]
      exact List.eq_nil_of_length_eq_zero (by unfold RgI.c; rw [cont_length]; exact hz i hi))
    have TN := Lib.hid (show Calls Try.prog 88 #[.pointer none] w (fun e w' => e = .returned (.tuple #[.agg #[.int .u64 0, .int .i64 0], .bool false]) ∧ Below w.heap.size w w') from qhead_nilI w)
    clear hz
    go_wp2_with fail
    refine TN.out.mono ?_
    rintro e w2 ⟨rfl, hb⟩
    have HB := Lib.hid hb
    clear hb
    go_wp2
    go_quiet (fail)
    go_wp2
    go_ret3
    exact Or.inl ⟨EM.out, rfl, below_drewN _ (HB.out.alloc HB.out.size _)⟩
  · have he := H0.out.each j hj
    obtain ⟨y, t, hyt⟩ : ∃ y t, (rs[j]).c = y :: t := by
      have hl : (rs[j]).c.length = (rs[j]).k := by unfold RgI.c; rw [cont_length]
      cases hc : (rs[j]).c with
      | nil => rw [hc] at hl; simp at hl; omega
      | cons y t => exact ⟨y, t, rfl⟩
    have TI := qhead_inI he hk
    have hyt' : cont izI (rs[j]).ps (rs[j]).f (rs[j]).k = y :: t := hyt
    rw [hyt'] at TI
    have TT := Lib.hid (show Calls Try.prog 88 #[.pointer (some ⟨(rs[j]).B, 0, none⟩)] w (fun e w' => e = .returned (.tuple #[.agg #[.int .u64 y.1, .int .i64 y.2], .bool true]) ∧ Below w.heap.size w w') from TI)
    have FIN : Hid (FrontI (csI rs) y) := Lib.hid ⟨j, t, by rw [cs_lenI]; exact hj, by rw [cs_atI rs j hj]; exact hyt, fun i hi => by
        rw [cs_atI rs i (by omega)]
        exact List.eq_nil_of_length_eq_zero (by unfold RgI.c; rw [cont_length]; exact hz i (by omega) hi)⟩
    clear he TI hyt hyt' hz hk
    generalize (rs[j]).B = Bj at *
    obtain ⟨y1, y2⟩ := y
    dsimp only at TT
    go_wp2_with fail
    refine TT.out.mono ?_
    rintro e w2 ⟨rfl, hb⟩
    have HB := Lib.hid hb
    clear hb
    go_wp2
    go_quiet (fail)
    go_wp2
    go_ret3
    exact Or.inr ⟨(y1, y2), FIN.out, rfl, below_drewN _ (HB.out.alloc HB.out.size _)⟩
theorem squeue_in {w : World} {base B : Nat} {room : Int} {vb vq : Value} {bs : List Int} {rs : List RgI} (h : SpAtI w base B room vb vq bs rs) (i : Nat) (hi : i < rs.length) :
    Calls Try.prog 54 #[.pointer (some ⟨B, 0, none⟩), .int .i64 i] w fun e w' => ∃ v, e = .returned v ∧ w'.ownsRow w.heap.size 94 2 v ((csI rs).getD i []).length (((csI rs).getD i []).flatMap icellI) ∧ Below w.heap.size w w' := by
  obtain ⟨c0, c1, c2⟩ := h.cell
  obtain ⟨g, c, rfl, hq⟩ := h.formQ
  have QA := qallI (h.each i hi)
  have hn1 := h.n1
  have cq := hq i hi
  have CE := Lib.hid (cs_atI rs i hi)
  have CL : Hid ((rs[i]).c.length = (rs[i]).k) := Lib.hid (by unfold RgI.c; rw [cont_length])
  have i1 : ¬ ((rs.length : Int) ≤ i) := by omega
  have i2 : ¬ ((i : Int) < 0) := by omega
  have i3 : ((i : Int) < rs.length) := by omega
  rw [CE.out, CL.out]
  have QA := Lib.hid (show Calls Try.prog 95 #[.pointer (some ⟨(rs[i]).B, 0, none⟩)] w (fun e w' => e = .returned (.slice (some ⟨w.heap.size, 0, none⟩) (rs[i]).k (rs[i]).k) ∧ w'.ownsRow w.heap.size 94 2 (.slice (some ⟨w.heap.size, 0, none⟩) (rs[i]).k (rs[i]).k) (rs[i]).k ((rs[i]).c.flatMap icellI) ∧ Below w.heap.size w w') from QA)
  clear h hq c0 c1 CE CL
  generalize (rs[i]).B = Bi at *
  generalize (rs[i]).k = ki at *
  generalize (rs[i]).c = ci at *
  go_enter Try.func54, Try.ntmps54
  go_wp2_with fail
  refine QA.out.mono ?_
  rintro e w2 ⟨rfl, ho, hb⟩
  go_wp2
  go_ret
  exact ⟨_, rfl, ho, hb⟩
theorem squeue_out {w : World} {base B : Nat} {room : Int} {vb vq : Value} {bs : List Int} {rs : List RgI} (h : SpAtI w base B room vb vq bs rs) (i : Int) (hi : i < 0 ∨ (rs.length : Int) ≤ i) :
    Calls Try.prog 54 #[.pointer (some ⟨B, 0, none⟩), .int .i64 i] w fun e w' => e = .returned (.slice none 0 0) ∧ w' = w := by
  obtain ⟨c0, c1, c2⟩ := h.cell
  obtain ⟨g, c, rfl, -⟩ := h.formQ
  have hi' : i < 0 ∨ (¬ i < 0 ∧ (rs.length : Int) ≤ i) := by omega
  clear h c0 c1 hi
  rcases hi' with hi | ⟨h0, hi⟩
  all_goals
    go_enter Try.func54, Try.ntmps54
    go_wp2
    go_ret
    exact ⟨rfl, rfl⟩
end Go.Proofs.Ytkgiaijcgblpbaa
