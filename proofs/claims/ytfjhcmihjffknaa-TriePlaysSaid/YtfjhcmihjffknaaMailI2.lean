/-
  Package mail at elements of type int: a thing is sent. No block turns but the box's own. No condition but that New made the box.
-/
import Derived.Test.YtfjhcmihjffknaaMailI1
import Derived.Test.YtfjhcmihjffknaaLone
import Derived.KernelRfl
import Derived.Laws.Rows
namespace Go.Proofs.Ytfjhcmihjffknaa
set_option linter.unusedVariables false
set_option linter.unusedSimpArgs false
open Go.Conc Go.RowKit

section
variable {w : World} {ba B c room : Nat} {sh : Bool} {l : List Int} {ps : List Nat}
set_option maxRecDepth 100000 in
set_option maxHeartbeats 2000000 in
theorem msend_okI (h : BoxAtI w ba B c room false l ps) (hl : l.length < room) (hb : ba ≤ w.heap.size) (x : Int) : Calls Try.prog 20 #[.pointer (some ⟨B, 0, none⟩), Value.int .i64 x] w fun e w' => e = .returned (.bool true) ∧ BoxAtI w' ba B c room false (l ++ [x]) (ps ++ [w.heap.size]) ∧ MvS w w' (inBxI B c ps) (inBxI B c (ps ++ [w.heap.size])) := by
  have H1 := Lib.hid (h.below ((Below.refl _ w).alloc (Nat.le_refl _) (.cells #[Value.int .i64 x] 3)))
  obtain ⟨c0, -, -⟩ := H1.out.cell
  have HP := Lib.hid h.lp
  obtain ⟨s, r, hch⟩ := H1.out.ch
  refine calls_of_loneTo fun cs => ?_
  have e : Frame.enter Try.prog 20 #[.pointer (some ⟨B, 0, none⟩), Value.int .i64 x] .normal = (Go.Conc.base 20).at ⟨#[.pointer (some ⟨B, 0, none⟩), Value.int .i64 x, undef, undef, undef, undef, undef, undef, undef, undef, undef, undef, undef, undef, undef], []⟩ [.code (Try.f20.body.getD .skip)] := by
    simp [Frame.enter, Frame.at, Try.func20, Go.Conc.base, Try.f20]
  rw [e]
  refine LoneTo.goes (n := 100) ?_
  simp only [Try.f20, Option.getD_some]
  s_c stepG_seq
  s_reg
  s_op
  s_op
  s_c stepG_region_end
  s_c stepG_seq
  s_c stepG_seq
  s_reg
  s_op
  s_stop
  refine lone_call rfl rfl (by decide) rfl Try.func23 (by kernel_rfl) rfl (mopenI H1.out) (by simp [Act.eval]) ?_
  rintro e w1 ⟨rfl, rfl⟩
  refine ⟨_, rfl, ?_⟩
  rw [Frame.finish_at]
  walk_nrm
  refine LoneTo.goes (n := 100) ?_
  s_op
  s_c stepG_region_end
  s_cond false
  s_c stepG_skip
  s_c stepG_seq
  s_reg
  s_op
  s_op
  s_op
  s_op
  s_c stepG_region_end
  s_c stepG_seq
  s_reg
  s_stop
  refine LoneTo.step (step_lone_sel_send_room (k := 0) (c := c) (v := .pointer (some ⟨w.heap.size, 0, none⟩)) (z := .pointer none) (cap := room) (buf := (ps.map (fun p => Value.pointer (some ⟨p, 0, none⟩))).toArray) (s := s) (r := r) (tm := false)
    (stepG_comm (cases := #[scase c (.pointer (some ⟨w.heap.size, 0, none⟩)) (.pointer none)]) (blocking := false) (shape := .select) (w' := w.alloc (.cells #[Value.int .i64 x] 3)) rfl rfl (by decide) (by simp [go_sem, execOp, scase, Act.eval]))
    rfl (fun m c' hm hc' => ?_) hch (by simp [HP.out]; omega)) ?_
  · rcases m with _ | m
    · exact absurd rfl hm
    · simp at hc'
  rw [Frame.finish_at, res_s_sent]
  walk_nrm
  refine LoneTo.goes (n := 100) ?_
  s_op
  s_op
  s_c stepG_region_end
  s_c stepG_block
  s_cond true
  s_c stepG_seq
  s_reg
  s_op
  s_c stepG_region_end
  s_c stepG_ret'
  s_stop
  refine LoneTo.done ⟨.returned (.bool true), _, rfl, ⟨rfl, ?_⟩, rfl, rfl, rfl, rfl, _, Try.func20, by simp [results, Try.f20, Frame.at]⟩
  have FIN := h.sent hl hb x (s + 1) r
  rw [List.push_toArray] at FIN
  exact FIN
set_option maxRecDepth 100000 in
set_option maxHeartbeats 2000000 in
theorem msend_fullI (h : BoxAtI w ba B c room false l ps) (hl : ¬ l.length < room) (hb : ba ≤ w.heap.size) (x : Int) : Calls Try.prog 20 #[.pointer (some ⟨B, 0, none⟩), Value.int .i64 x] w fun e w' => e = .returned (.bool false) ∧ BoxAtI w' ba B c room false l ps ∧ MvS w w' (inBxI B c ps) (inBxI B c ps) := by
  have H1 := Lib.hid (h.below ((Below.refl _ w).alloc (Nat.le_refl _) (.cells #[Value.int .i64 x] 3)))
  obtain ⟨c0, -, -⟩ := H1.out.cell
  have HP := Lib.hid h.lp
  obtain ⟨s, r, hch⟩ := H1.out.ch
  refine calls_of_loneTo fun cs => ?_
  have e : Frame.enter Try.prog 20 #[.pointer (some ⟨B, 0, none⟩), Value.int .i64 x] .normal = (Go.Conc.base 20).at ⟨#[.pointer (some ⟨B, 0, none⟩), Value.int .i64 x, undef, undef, undef, undef, undef, undef, undef, undef, undef, undef, undef, undef, undef], []⟩ [.code (Try.f20.body.getD .skip)] := by
    simp [Frame.enter, Frame.at, Try.func20, Go.Conc.base, Try.f20]
  rw [e]
  refine LoneTo.goes (n := 100) ?_
  simp only [Try.f20, Option.getD_some]
  s_c stepG_seq
  s_reg
  s_op
  s_op
  s_c stepG_region_end
  s_c stepG_seq
  s_c stepG_seq
  s_reg
  s_op
  s_stop
  refine lone_call rfl rfl (by decide) rfl Try.func23 (by kernel_rfl) rfl (mopenI H1.out) (by simp [Act.eval]) ?_
  rintro e w1 ⟨rfl, rfl⟩
  refine ⟨_, rfl, ?_⟩
  rw [Frame.finish_at]
  walk_nrm
  refine LoneTo.goes (n := 100) ?_
  s_op
  s_c stepG_region_end
  s_cond false
  s_c stepG_skip
  s_c stepG_seq
  s_reg
  s_op
  s_op
  s_op
  s_op
  s_c stepG_region_end
  s_c stepG_seq
  s_reg
  s_stop
  refine LoneTo.step (step_lone_sel_default
    (stepG_comm (cases := #[scase c (.pointer (some ⟨w.heap.size, 0, none⟩)) (.pointer none)]) (blocking := false) (shape := .select) (w' := w.alloc (.cells #[Value.int .i64 x] 3)) rfl rfl (by decide) (by simp [go_sem, execOp, scase, Act.eval]))
    (fun cc hcc => ?_)) ?_
  · simp only [List.mem_toArray, List.mem_cons, List.not_mem_nil, or_false] at hcc
    subst hcc
    exact noWay_send hch (by simp [HP.out]; omega)
  rw [Frame.finish_at, res_s_default]
  walk_nrm
  refine LoneTo.goes (n := 100) ?_
  s_op
  s_op
  s_c stepG_region_end
  s_c stepG_block
  s_cond false
  s_c stepG_seq
  s_reg
  s_op
  s_c stepG_region_end
  s_c stepG_ret'
  s_stop
  refine LoneTo.done ⟨.returned (.bool false), _, rfl, ⟨rfl, ?_⟩, rfl, rfl, rfl, rfl, _, Try.func20, by simp [results, Try.f20, Frame.at]⟩
  exact ⟨H1.out, MvS.of_below _ ((Below.refl _ w).alloc (Nat.le_refl _) _)⟩
set_option maxRecDepth 100000 in
theorem msend_shutI (h : BoxAtI w ba B c room true l ps) (hb : ba ≤ w.heap.size) (x : Int) : Calls Try.prog 20 #[.pointer (some ⟨B, 0, none⟩), Value.int .i64 x] w fun e w' => e = .returned (.bool false) ∧ BoxAtI w' ba B c room true l ps ∧ MvS w w' (inBxI B c ps) (inBxI B c ps) := by
  have H1 := Lib.hid (h.below ((Below.refl _ w).alloc (Nat.le_refl _) (.cells #[Value.int .i64 x] 3)))
  have MO := Lib.hid (mopenI H1.out)
  clear h
  go_enter Try.func20, Try.ntmps20
  go_wp2_with fail
  refine MO.out.mono ?_
  rintro e w1 ⟨rfl, rfl⟩
  go_wp2
  go_ret
  exact ⟨rfl, H1.out, MvS.of_below _ ((Below.refl _ w).alloc (Nat.le_refl _) _)⟩
/-- A thing is sent: it stands behind, where there is room and the box is open. -/
theorem msendI (h : BoxAtI w ba B c room sh l ps) (hb : ba ≤ w.heap.size) (x : Int) : Calls Try.prog 20 #[.pointer (some ⟨B, 0, none⟩), Value.int .i64 x] w fun e w' => e = .returned (.bool (!sh && decide (l.length < room))) ∧ ∃ ps', BoxAtI w' ba B c room sh (if sh = false ∧ l.length < room then l ++ [x] else l) ps' ∧ MvS w w' (inBxI B c ps) (inBxI B c ps') := by
  cases sh with
  | true => exact (msend_shutI h hb x).mono fun e w' ⟨h1, h2, h3⟩ => ⟨h1, ps, by simpa using h2, h3⟩
  | false =>
    by_cases hl : l.length < room
    · exact (msend_okI h hl hb x).mono fun e w' ⟨h1, h2, h3⟩ => ⟨by rw [h1]; simp [hl], ps ++ [w.heap.size], by simpa [hl] using h2, h3⟩
    · exact (msend_fullI h hl hb x).mono fun e w' ⟨h1, h2, h3⟩ => ⟨by rw [h1]; simp [hl], ps, by simpa [hl] using h2, h3⟩
set_option maxRecDepth 100000 in
theorem msend_nilI (w : World) (x : Int) : Calls Try.prog 20 #[.pointer none, Value.int .i64 x] w fun e w' => e = .returned (.bool false) ∧ Below w.heap.size w w' := by
  have MO := Lib.hid (mopen_nilI (w.alloc (.cells #[Value.int .i64 x] 3)))
  go_enter Try.func20, Try.ntmps20
  go_wp2_with fail
  refine MO.out.mono ?_
  rintro e w1 ⟨rfl, rfl⟩
  go_wp2
  go_ret
  exact ⟨rfl, (Below.refl _ w).alloc (Nat.le_refl _) _⟩
end
end Go.Proofs.Ytfjhcmihjffknaa
