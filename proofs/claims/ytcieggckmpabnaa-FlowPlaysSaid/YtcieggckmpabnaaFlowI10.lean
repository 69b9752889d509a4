/-
  Package flow for elements of type int: IDs: all numbers, in a row of its own. No block that lay there turns. No condition but that New made the table.
-/
import Derived.Test.YtcieggckmpabnaaFlowI9
namespace Go.Proofs.Ytcieggckmpabnaa
set_option linter.unusedVariables false
set_option linter.unusedSimpArgs false
open Go.ChangeShapes Go.WideShapes Go.ChangeAt Go.RowKit Go.Shelf
attribute [local go_sem] Oper.semAt_some

theorem ids_infoI : (Try.prog.info? 29).map (fun i => (i.zero, i.size, i.bytes)) = some (some (.int .u32 0), 1, 4) := by kernel_rfl
set_option maxRecDepth 100000 in
set_option maxHeartbeats 1000000 in
theorem tidsI {w : World} {base B : Nat} {room : Int} {v : Value} {es : List FeI} (h : TbAtI w base B room v es) :
    Calls Try.prog 76 #[.pointer (some ⟨B, 0, none⟩)] w fun e W' => ∃ v', e = .returned v' ∧ W'.ownsRow w.heap.size 29 1 v' es.length (es.map fun e => Value.int .u32 e.id) ∧ Below w.heap.size w W' := by
  obtain ⟨i0, hi, hz0, hz1, hz2⟩ := info_parts ids_infoI
  have LN := Lib.hid (fun n => (callsIn_wide (n := n)).2 (tlenI h))
  have hle := h.le; have hr1 := h.r1
  obtain ⟨w1, hmk, ho1, hg1⟩ := run_make_own (P := Try.prog) w w.heap.size 147 29 i0 (.int .u32 0) 1 Try.underlying147 hi hz0 hz1 .i64 .i64 es.length (by rw [hz2]; omega) (by unfold maxLen; omega) (Nat.le_refl _)
  have HO1 := Lib.hid ho1; have HG1 := Lib.hid hg1; have TB := Lib.hid h
  clear ho1 hg1 h
  refine (callsIn_wide (n := 3)).1 ?_
  refine callsIn_of_wp_marks Try.func76 rfl trivial ?_ rfl
  simp only [Try.ntmps76, List.size_toArray, List.length_cons, List.length_nil, Nat.reduceAdd, Nat.reduceSub, Array.replicate_succ, Array.replicate_zero, List.push_toArray, List.append_toArray, List.nil_append, List.cons_append]
  gi_wp2_with (refine ⟨trivial, ?_⟩; gi_at_call 77; refine (LN.out _).mono ?_; rintro e w' ⟨rfl, rfl⟩)
  obtain ⟨n₀, hn₀⟩ : ∃ n₀, n₀ = w'.heap.size := ⟨_, rfl⟩
  obtain ⟨W0, hW0⟩ : ∃ W0, w1.alloc (.cells #[.slice (some ⟨w'.heap.size, 0, none⟩) 0 es.length] 147) = W0 := ⟨_, rfl⟩
  obtain ⟨s, hs⟩ : ∃ s, s = w1.heap.size := ⟨_, rfl⟩
  have bS0 : Boxed W0 s 147 (.slice (some ⟨w'.heap.size, 0, none⟩) 0 es.length) := by rw [← hW0, hs]; exact Boxed.new w1 _ _
  have hsz1 : n₀ ≤ w1.heap.size := by rw [hn₀]; exact HG1.out.size
  have hB0 : Below n₀ w' W0 := by
    rw [← hW0]
    exact ((Below.refl n₀ w').grown HG1.out (by omega) (fun k h => by cases h)).alloc hsz1 _
  have hR0 : W0.ownsRow n₀ 29 1 (.slice (some ⟨w'.heap.size, 0, none⟩) 0 es.length) 0 [] := by rw [← hW0, hn₀]; exact HO1.out.alloc _
  have hsz0 : W0.heap.size = w1.heap.size + 1 := by rw [← hW0]; simp
  have TBW := Lib.hid (fun (V : World) (hV : Below n₀ w' V) => TB.out.below (hn₀ ▸ hV))
  rw [hW0, ← hs]
  rw [← hn₀] at bS0 hR0 ⊢
  have hns : n₀ ≤ s := by omega
  have hn0 : n₀ ≤ W0.heap.size := by omega
  have hnw : n₀ ≤ w'.heap.size := by omega
  have HN := Lib.hid hn₀
  clear HG1 HO1 hmk hW0 TB LN hs hn₀ hsz0 hsz1
  refine range_method rfl (by omega) (gf := 78) (recv := .pointer (some ⟨B, 0, none⟩)) rfl trivial (enters_of Try.func78 (by kernel_rfl) rfl)
    (each_tellsI (base := base) (room := room) (v := v) (es := es) _) (fun _ => rfl)
    (fun pre V => (∃ v', Boxed V s 147 v' ∧ V.ownsRow n₀ 29 1 v' pre.length (pre.map fun e => Value.int .u32 e.id) ∧ True) ∧ Below n₀ w' V)
    (OwnFrom.and (Own.from (holdsRow_own n₀ s 147 29 1 (fun pre : List FeI => pre.length) (fun pre => pre.map fun e => Value.int .u32 e.id) (fun _ _ => True)) _) (ownFrom_below hnw hn0))
    (fun pre V h => TBW.out V h.2)
    (fun x => { tmps := #[.pointer (some ⟨B, 0, none⟩), undef, .slice none 0 0, .pointer (some ⟨s, 0, none⟩), .int .u32 x.id, .pointer (some ⟨B, 0, none⟩), .int .i64 es.length, .slice (some ⟨n₀, 0, none⟩) 0 es.length, .pointer (some ⟨B, 0, none⟩), .func (.func 78) #[.pointer (some ⟨B, 0, none⟩)] #[], .int .u32 x.id, Value.int .i64 x.x, undef, undef, undef, undef, undef], defers := [] }) ?assign ?body ?done
    ⟨⟨_, bS0, hR0, trivial⟩, hB0⟩
  case assign =>
    intro l x W K hK
    gi_wp2
    exact hK
  case body =>
    rintro l pre x rest W hx ⟨⟨v', hv, hrow, -⟩, hB⟩
    obtain ⟨a, c, rfl⟩ := row_slice hrow
    have hcell := hv.cell
    have hsW := hB.size
    have hlt' : pre.length < 65536 := by have : pre.length ≤ es.length := by rw [hx]; simp
                                         omega
    gi_wp2_with (gi_at_builtin; refine wpListIn_append_own _ rfl _ _ 147 rfl n₀ 29 i0 (.int .u32 0) 1 4 Try.underlying147 hi hz0 hz1 hz2 rfl (by decide) _ _ _ rfl (hrow.alloc _) ⟨W.heap.size, 0, none⟩ 1 1 [.int .u32 x.id] rfl rfl (cell_one_new _ _ _) (by simp [Value.oneCell']) (by unfold maxLen; omega) (by omega) (by simp; omega) ?_; intro v'' w2 hown' hgrow _; obtain ⟨g', cap', rfl⟩ := ownsRow_succ hown'; obtain ⟨hv1, hv2, hr2, hk2, hb2⟩ := hv.appended (n₀ := n₀) (by decide) hrow (by omega) (by omega) hown' hgrow; have hc1 := hv1.cell; have hf1 := hv1.frozen)
    exact ⟨⟨_, hv2, hr2⟩, hB.trans hb2⟩
  case done =>
    rintro D W hD ⟨⟨v', hv, hrow, -⟩, hB⟩ hK
    obtain ⟨a, c, rfl⟩ := row_slice hrow
    have hcell := hv.cell
    gi_wp2
    refine ⟨by simp, .inl ⟨_, _, rfl, run_takeDeferred hK, ?_⟩⟩
    exact ⟨_, results_tmp rfl _ _ _, _, rfl, ownsRow_putObj (HN.out ▸ hrow) _ hK rfl, HN.out ▸ hB.trans (belowK_b (w := W0) (by omega) W D _ _ hD hK rfl rfl)⟩
end Go.Proofs.Ytcieggckmpabnaa
