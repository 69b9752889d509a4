/-
  Package mail at elements of type int: a thing is taken; how many there are; it is shut; it is made. No block turns but the box's own. No condition but that New made the box.
-/
import Derived.Test.YtfjhcmihjffknaaMailI2
import Derived.Test.YtfjhcmihjffknaaLone
import Derived.KernelRfl
import Derived.Laws.Rows
namespace Go.Proofs.Ytfjhcmihjffknaa
set_option linter.unusedVariables false
set_option linter.unusedSimpArgs false
open Go.Conc Go.RowKit

section
variable {w : World} {ba B c room : Nat} {sh : Bool} {l : List Int} {ps : List Nat}
set_option maxRecDepth 100000 in
set_option maxHeartbeats 2000000 in
theorem mtake_someI {x : Int} {p : Nat} (h : BoxAtI w ba B c room sh (x :: l) (p :: ps)) : Calls Try.prog 14 #[.pointer (some ⟨B, 0, none⟩)] w fun e w' => e = .returned (.tuple #[Value.int .i64 x, .bool true]) ∧ BoxAtI w' ba B c room sh l ps ∧ MvS w w' (inBxI B c (p :: ps)) (inBxI B c ps) := by
  have H1 := Lib.hid h
  have HP := Lib.hid h.lp
  obtain ⟨c0, -, -⟩ := h.cell
  obtain ⟨s, r, hch⟩ := h.ch
  have NX : ∀ bf, bf = (ps.map (fun p => Value.pointer (some ⟨p, 0, none⟩))).toArray → _ := fun bf hbf => h.took bf hbf s (r + 1)
  have HX := Lib.hid NX
  clear NX
  refine calls_of_loneTo fun cs => ?_
  have e : Frame.enter Try.prog 14 #[.pointer (some ⟨B, 0, none⟩)] .normal = (Go.Conc.base 14).at ⟨#[.pointer (some ⟨B, 0, none⟩), undef, undef, undef, undef, undef, undef, undef, undef, undef, undef, undef, undef, undef, undef, undef, undef, undef, undef, undef], []⟩ [.code (Try.f14.body.getD .skip)] := by
    simp [Frame.enter, Frame.at, Try.func14, Go.Conc.base, Try.f14]
  rw [e]
  refine LoneTo.goes (n := 100) ?_
  simp only [Try.f14, Option.getD_some]
  s_c stepG_seq
  s_reg
  s_op
  s_op
  s_c stepG_region_end
  s_c stepG_seq
  s_c stepG_seq
  s_reg
  s_op
  s_stop
  refine lone_call rfl rfl (by decide) rfl Try.func50 (by kernel_rfl) rfl (mmadeI H1.out) (by simp [Act.eval]) ?_
  rintro e w1 ⟨rfl, rfl⟩
  refine ⟨_, rfl, ?_⟩
  rw [Frame.finish_at]
  walk_nrm
  refine LoneTo.goes (n := 100) ?_
  s_c stepG_region_end
  s_cond true
  s_c stepG_seq
  s_reg
  s_op
  s_op
  s_op
  s_op
  s_c stepG_region_end
  s_c stepG_seq
  s_reg
  s_stop
  refine LoneTo.step (step_lone_sel_recv_buf (k := 0) (c := c) (z := .pointer none) (cap := room) (buf := ((p :: ps).map (fun p => Value.pointer (some ⟨p, 0, none⟩))).toArray) (closed := false) (s := s) (r := r) (tm := false)
    (stepG_comm (cases := #[rcase c (.pointer none)]) (blocking := false) (shape := .select) (w' := w) rfl rfl (by decide) (by simp [go_sem, execOp, rcase, Act.eval]))
    rfl (fun m c' hm hc' => ?_) hch (by simp)) ?_
  · rcases m with _ | m
    · exact absurd rfl hm
    · simp at hc'
  obtain ⟨b1, b2, b3⟩ := HX.out (((p :: ps).map (fun p => Value.pointer (some ⟨p, 0, none⟩))).toArray.extract 1 ((p :: ps).map (fun p => Value.pointer (some ⟨p, 0, none⟩))).toArray.size) (by simp; exact List.take_of_length_le (by simp))
  have HV : (((p :: ps).map (fun p => Value.pointer (some ⟨p, 0, none⟩))).toArray.getD 0 undef) = Value.pointer (some ⟨p, 0, none⟩) := by simp
  rw [Frame.finish_at, res_r_got, HV]
  clear HX HV hch c0 e
  generalize w.setChan c room (((p :: ps).map (fun p => Value.pointer (some ⟨p, 0, none⟩))).toArray.extract 1 ((p :: ps).map (fun p => Value.pointer (some ⟨p, 0, none⟩))).toArray.size) false s (r + 1) false = W at *
  have FIN := Lib.hid (And.intro b1 b2)
  have cp : W.cell? ⟨p, 0, none⟩ = some (Value.int .i64 x) := cell_of_row W p 0 _ _ (0, 0) b3
  clear b1 b2 b3
  walk_nrm
  refine LoneTo.goes (n := 100) ?_
  s_op
  s_op
  s_c stepG_region_end
  s_c stepG_block
  s_cond true
  s_c stepG_seq
  s_reg
  s_op
  s_op
  s_c stepG_region_end
  s_c stepG_seq
  s_reg
  s_op
  s_op
  s_op
  s_op
  s_op
  s_c stepG_region_end
  s_c stepG_ret'
  s_stop
  refine LoneTo.done ⟨.returned (.tuple #[Value.int .i64 x, .bool true]), _, rfl, ⟨rfl, FIN.out⟩, rfl, rfl, rfl, rfl, _, Try.func14, by simp [results, Try.f14, Frame.at]⟩
set_option maxRecDepth 100000 in
set_option maxHeartbeats 2000000 in
theorem mtake_noneI (h : BoxAtI w ba B c room sh [] []) : Calls Try.prog 14 #[.pointer (some ⟨B, 0, none⟩)] w fun e w' => e = .returned (.tuple #[Value.int .i64 0, .bool false]) ∧ w' = w := by
  have H1 := Lib.hid h
  have HP := Lib.hid h.lp
  obtain ⟨c0, -, -⟩ := h.cell
  obtain ⟨s, r, hch⟩ := h.ch
  refine calls_of_loneTo fun cs => ?_
  have e : Frame.enter Try.prog 14 #[.pointer (some ⟨B, 0, none⟩)] .normal = (Go.Conc.base 14).at ⟨#[.pointer (some ⟨B, 0, none⟩), undef, undef, undef, undef, undef, undef, undef, undef, undef, undef, undef, undef, undef, undef, undef, undef, undef, undef, undef], []⟩ [.code (Try.f14.body.getD .skip)] := by
    simp [Frame.enter, Frame.at, Try.func14, Go.Conc.base, Try.f14]
  rw [e]
  refine LoneTo.goes (n := 100) ?_
  simp only [Try.f14, Option.getD_some]
  s_c stepG_seq
  s_reg
  s_op
  s_op
  s_c stepG_region_end
  s_c stepG_seq
  s_c stepG_seq
  s_reg
  s_op
  s_stop
  refine lone_call rfl rfl (by decide) rfl Try.func50 (by kernel_rfl) rfl (mmadeI H1.out) (by simp [Act.eval]) ?_
  rintro e w1 ⟨rfl, rfl⟩
  refine ⟨_, rfl, ?_⟩
  rw [Frame.finish_at]
  walk_nrm
  refine LoneTo.goes (n := 100) ?_
  s_c stepG_region_end
  s_cond true
  s_c stepG_seq
  s_reg
  s_op
  s_op
  s_op
  s_op
  s_c stepG_region_end
  s_c stepG_seq
  s_reg
  s_stop
  refine LoneTo.step (step_lone_sel_default
    (stepG_comm (cases := #[rcase c (.pointer none)]) (blocking := false) (shape := .select) (w' := w) rfl rfl (by decide) (by simp [go_sem, execOp, rcase, Act.eval]))
    (fun cc hcc => ?_)) ?_
  · simp only [List.mem_toArray, List.mem_cons, List.not_mem_nil, or_false] at hcc
    subst hcc
    exact noWay_recv hch
  rw [Frame.finish_at, res_r_default]
  walk_nrm
  refine LoneTo.goes (n := 100) ?_
  s_op
  s_op
  s_c stepG_region_end
  s_c stepG_block
  s_cond false
  repeat (first | s_c stepG_skip | s_c stepG_inBlock)
  s_c stepG_seq
  s_reg
  s_op
  s_c stepG_region_end
  s_c stepG_seq
  s_reg
  s_op
  s_op
  s_op
  s_c stepG_region_end
  s_c stepG_ret'
  s_stop
  refine LoneTo.done ⟨.returned (.tuple #[Value.int .i64 0, .bool false]), _, rfl, ⟨rfl, rfl⟩, rfl, rfl, rfl, rfl, _, Try.func14, by simp [results, Try.f14, Frame.at]⟩
/-- A thing is taken: the first one, where there is one. -/
theorem mtakeI (h : BoxAtI w ba B c room sh l ps) : Calls Try.prog 14 #[.pointer (some ⟨B, 0, none⟩)] w fun e w' => e = .returned (.tuple #[Value.int .i64 (l.headD 0), .bool (decide (l ≠ []))]) ∧ BoxAtI w' ba B c room sh l.tail ps.tail ∧ MvS w w' (inBxI B c ps) (inBxI B c ps.tail) := by
  cases l with
  | nil =>
    have hp : ps = [] := List.length_eq_zero_iff.1 h.lp
    subst hp
    refine (mtake_noneI h).mono fun e w' ⟨h1, h2⟩ => ?_
    subst h2
    exact ⟨h1, h, MvS.refl _ _⟩
  | cons x l =>
    cases ps with
    | nil => exact absurd h.lp (by simp)
    | cons p ps => exact (mtake_someI h).mono fun e w' ⟨h1, h2, h3⟩ => ⟨by rw [h1]; simp, h2, h3⟩
set_option maxRecDepth 100000 in
theorem mtake_nilI (w : World) : Calls Try.prog 14 #[.pointer none] w fun e w' => e = .returned (.tuple #[Value.int .i64 0, .bool false]) ∧ w = w' := by
  have MO := Lib.hid (mmade_nilI w)
  go_enter Try.func14, Try.ntmps14
  go_wp2_with fail
  refine MO.out.mono ?_
  rintro e w1 ⟨rfl, rfl⟩
  go_wp2
  go_ret2
  exact ⟨rfl, rfl⟩
theorem BoxAtI.shutB (h : BoxAtI w ba B c room sh l ps) : BoxAtI (w.setCell ⟨B, 1, none⟩ (.bool true)) ba B c room true l ps ∧ MvS w (w.setCell ⟨B, 1, none⟩ (.bool true)) (inBxI B c ps) (inBxI B c ps) := by
  have hBl := (h.inlt (Or.inl rfl)).2
  have hne : c ≠ B := fun e => by
    obtain ⟨s, r, hc⟩ := h.ch
    rw [e, h.blk] at hc
    exact absurd hc (by simp)
  have hel : ∀ i q, ps[i]? = some q → q ≠ B := fun i q hp e => by
    have h1 := (h.el i q hp).2
    rw [e, h.blk] at h1
    exact absurd (congrArg (fun o => match o with | some (Obj.cells a t m) => a.size | _ => 0) h1) (by simp)
  have hold : ∀ k, k ≠ B → (w.setCell ⟨B, 1, none⟩ (.bool true)).heap[k]? = w.heap[k]? := fun k hk => Below.heap_setCell w _ _ k hk
  obtain ⟨s, r, hc⟩ := h.ch
  refine ⟨⟨by simpa using heap_set h.blk 1 (.bool true), ⟨s, r, (hold c hne).trans hc⟩, h.lowB, h.lowc, h.r0, h.r1, h.lp, h.le, fun i q hp => ⟨(h.el i q hp).1, (hold q (hel i q hp)).trans (h.el i q hp).2⟩⟩, ⟨rfl, rfl, rfl, by simp, fun k hk hn => hold k (fun e => hn (Or.inl e)), fun j hj => Or.inr hj⟩⟩
set_option maxRecDepth 100000 in
/-- The box is shut, for good. -/
theorem mshutI (h : BoxAtI w ba B c room sh l ps) : Calls Try.prog 19 #[.pointer (some ⟨B, 0, none⟩)] w fun e w' => e = .returned (.bool (!sh)) ∧ BoxAtI w' ba B c room true l ps ∧ MvS w w' (inBxI B c ps) (inBxI B c ps) := by
  have MO := Lib.hid (mopenI h)
  obtain ⟨c0, c1, f1⟩ := h.cell
  have FIN := Lib.hid h.shutB
  cases sh with
  | true =>
    go_enter Try.func19, Try.ntmps19
    go_wp2_with fail
    refine MO.out.mono ?_
    rintro e w1 ⟨rfl, rfl⟩
    go_wp2
    go_ret
    exact ⟨rfl, h, MvS.refl _ _⟩
  | false =>
    clear h
    go_enter Try.func19, Try.ntmps19
    go_wp2_with fail
    refine MO.out.mono ?_
    rintro e w1 ⟨rfl, rfl⟩
    go_wp2
    go_ret
    exact ⟨rfl, FIN.out⟩
set_option maxRecDepth 100000 in
theorem mshut_nilI (w : World) : Calls Try.prog 19 #[.pointer none] w fun e w' => e = .returned (.bool false) ∧ w = w' := by
  have MO := Lib.hid (mopen_nilI w)
  go_enter Try.func19, Try.ntmps19
  go_wp2_with fail
  refine MO.out.mono ?_
  rintro e w1 ⟨rfl, rfl⟩
  go_wp2
  go_ret
  exact ⟨rfl, rfl⟩
set_option maxRecDepth 100000 in
theorem mlenI (h : BoxAtI w ba B c room sh l ps) : Calls Try.prog 22 #[.pointer (some ⟨B, 0, none⟩)] w fun e w' => e = .returned (.int .i64 l.length) ∧ w = w' := by
  have MO := Lib.hid (mmadeI h)
  obtain ⟨c0, c1, f1⟩ := h.cell
  obtain ⟨s, r, hch⟩ := h.ch
  have hlen := fun ty => run_len_chan (P := Try.prog) 94 ty Try.underlying94 hch
  have HP := h.lp
  have e0 : (ps.map (fun p => Value.pointer (some ⟨p, 0, none⟩))).toArray.size = l.length := by simp [HP]
  rw [e0] at hlen
  clear h hch HP e0
  go_enter Try.func22, Try.ntmps22
  go_wp2_with fail
  refine MO.out.mono ?_
  rintro e w1 ⟨rfl, rfl⟩
  go_wp2
  go_ret
  exact ⟨rfl, rfl⟩
set_option maxRecDepth 100000 in
theorem mlen_nilI (w : World) : Calls Try.prog 22 #[.pointer none] w fun e w' => e = .returned (.int .i64 0) ∧ w = w' := by
  have MO := Lib.hid (mmade_nilI w)
  go_enter Try.func22, Try.ntmps22
  go_wp2_with fail
  refine MO.out.mono ?_
  rintro e w1 ⟨rfl, rfl⟩
  go_wp2
  go_ret
  exact ⟨rfl, rfl⟩
set_option maxRecDepth 100000 in
theorem mnew_noI (w : World) (room : Int) (hr : ¬ (1 ≤ room ∧ room ≤ 4096)) : Calls Try.prog 11 #[.int .i64 room] w fun e w' => e = .returned (.tuple #[.pointer none, .int .i64 25]) ∧ w = w' := by
  by_cases h1 : room < 1
  · go_enter Try.func11, Try.ntmps11
    go_wp2
    go_ret2
    exact ⟨rfl, rfl⟩
  · have h2 : 4096 < room := by omega
    go_enter Try.func11, Try.ntmps11
    go_wp2
    go_ret2
    exact ⟨rfl, rfl⟩
theorem bytesMI : ∃ i, Try.prog.info? 103 = some i ∧ i.bytes = 8 := by
  have h : (Try.prog.info? 103).map (·.bytes) = some 8 := by kernel_rfl
  obtain ⟨i, hi, hb⟩ := Option.map_eq_some_iff.1 h
  exact ⟨i, hi, hb⟩
set_option maxRecDepth 100000 in
/-- A box is made: it is open, and has nothing. -/
theorem mnewI (w : World) (room : Nat) (h0 : 1 ≤ room) (h1 : room ≤ 4096) : Calls Try.prog 11 #[.int .i64 room] w fun e w' => ∃ B, e = .returned (.tuple #[.pointer (some ⟨B, 0, none⟩), .int .i64 0]) ∧ (∃ c, BoxAtI w' w.heap.size B c room false [] []) ∧ Below w.heap.size w w' := by
  obtain ⟨i, hi, hb⟩ := bytesMI
  have hmc := fun w => run_makeChan (P := Try.prog) (w := w) Try.underlying94 hi .i64 room (by omega) (by rw [hb]; omega)
  have g1 : ¬ ((room : Int) < 1) := by omega
  have g2 : ¬ (4096 < (room : Int)) := by omega
  clear hi hb
  go_enter Try.func11, Try.ntmps11
  go_wp2
  go_ret2
  refine ⟨w.heap.size + 1, rfl, ⟨w.heap.size, ?_, ⟨0, 0, ?_⟩, by simp, Nat.le_refl _, h0, h1, rfl, by simp, fun i p hp => by simp at hp⟩, ((Below.refl _ w).alloc (Nat.le_refl _) _).alloc (by simp) _⟩
  · have h3 := heap_alloc_new (w.alloc (.chan room #[] false 0 0 false)) (.cells #[.chan (some w.heap.size), .bool false] 96)
    simpa only [World.size_alloc] using h3
  · exact (Below.heap_alloc _ _ _ (by simp)).trans (heap_alloc_new w _)
end
end Go.Proofs.Ytfjhcmihjffknaa
