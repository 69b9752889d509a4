/-
  Package flow: IDs of a table that nobody made: none; FlowNobody, walked. No condition.
-/
import Derived.Test.YtnnbkooikimedaaFlowI10
import Derived.Test.YtnnbkooikimedaaFlowL
import Derived.Test.YtnnbkooikimedaaFlowNil
namespace Go.Proofs.Ytnnbkooikimedaa
set_option linter.unusedVariables false
set_option linter.unusedSimpArgs false
open Go.ChangeShapes Go.WideShapes Go.ChangeAt Go.RowKit Go.Shelf
section
attribute [local go_sem] Oper.semAt_some

theorem each_tells_nil (n : Nat) : Tells Fence.wide n Try.prog 49 (.pointer none) (fun e : FeI => #[Value.int .u32 e.id, Value.int .i64 e.x]) [] (fun _ => True) := fun l J W hJ hG hY h0 => by
  refine ((callsIn_wide (n := n)).2 (teach_nil (.func (.yield l) #[] #[]) W)).mono ?_
  rintro e w' ⟨rfl, rfl⟩
  exact ⟨⟨_, rfl⟩, h0⟩
set_option maxRecDepth 100000 in
set_option maxHeartbeats 1000000 in
theorem tids_nil (w : World) :
    Calls Try.prog 53 #[.pointer none] w fun e W' => ∃ a c, e = .returned (.slice a 0 c) ∧ Below w.heap.size w W' := by
  obtain ⟨i0, hi, hz0, hz1, hz2⟩ := info_parts ids_infoI
  have LN := Lib.hid (fun n => (callsIn_wide (n := n)).2 (tlen_nil w))
  obtain ⟨w1, hmk0, ho1, hg1⟩ := run_make_own (P := Try.prog) w w.heap.size 97 86 i0 (.int .u32 0) 1 Try.underlying97 hi hz0 hz1 .i64 .i64 0 (by omega) (by omega) (Nat.le_refl _)
  have hmk : (Instr.makeSlice 97 (.int .i64 0) (.int .i64 0)).run Try.prog w = .ok (.slice (some ⟨w.heap.size, 0, none⟩) 0 0) w1 := hmk0
  have HG1 := Lib.hid hg1
  clear ho1 hg1 hmk0
  refine (callsIn_wide (n := 3)).1 ?_
  refine callsIn_of_wp_marks Try.func53 rfl trivial ?_ rfl
  simp only [Try.ntmps53, List.size_toArray, List.length_cons, List.length_nil, Nat.reduceAdd, Nat.reduceSub, Array.replicate_succ, Array.replicate_zero, List.push_toArray, List.append_toArray, List.nil_append, List.cons_append]
  gi_wp2_with (refine ⟨trivial, ?_⟩; gi_at_call 52; refine (LN.out _).mono ?_; rintro e w' ⟨rfl, rfl⟩)
  obtain ⟨n₀, hn₀⟩ : ∃ n₀, n₀ = w'.heap.size := ⟨_, rfl⟩
  obtain ⟨W0, hW0⟩ : ∃ W0, w1.alloc (.cells #[.slice (some ⟨w'.heap.size, 0, none⟩) 0 0] 97) = W0 := ⟨_, rfl⟩
  obtain ⟨s, hs⟩ : ∃ s, s = w1.heap.size := ⟨_, rfl⟩
  have bS0 : Boxed W0 s 97 (.slice (some ⟨w'.heap.size, 0, none⟩) 0 0) := by rw [← hW0, hs]; exact Boxed.new w1 _ _
  have hsz1 : n₀ ≤ w1.heap.size := by rw [hn₀]; exact HG1.out.size
  have hB0 : Below n₀ w' W0 := by
    rw [← hW0]
    exact ((Below.refl n₀ w').grown HG1.out (by omega) (fun k h => by cases h)).alloc hsz1 _
  have hsz0 : W0.heap.size = w1.heap.size + 1 := by rw [← hW0]; simp
  rw [hW0, ← hs]
  rw [← hn₀] at bS0 ⊢
  have hns : n₀ ≤ s := by omega
  have hn0 : n₀ ≤ W0.heap.size := by omega
  have hnw : n₀ ≤ w'.heap.size := by omega
  have HN := Lib.hid hn₀
  clear HG1 hmk hW0 LN hs hn₀ hsz0 hsz1
  refine range_method rfl (by omega) (gf := 49) (recv := .pointer none) rfl trivial (enters_of Try.func49 (by kernel_rfl) rfl)
    (each_tells_nil _) (fun _ => rfl)
    (fun pre V => V.cell? ⟨s, 0, none⟩ = some (.slice (some ⟨n₀, 0, none⟩) 0 0) ∧ Below n₀ w' V)
    (OwnFrom.and (Own.from (fun s A B row hs hg hr => cell_kept hs hg hr) _) (ownFrom_below hnw hn0))
    (fun pre V h => trivial)
    (fun x => { tmps := #[.pointer none, undef, .slice none 0 0, .pointer (some ⟨s, 0, none⟩), .int .u32 x.id, .pointer none, .int .i64 0, .slice (some ⟨n₀, 0, none⟩) 0 0, .pointer none, .func (.func 49) #[.pointer none] #[], .int .u32 x.id, .int .i64 x.x, undef, undef, undef, undef, undef], defers := [] }) ?assign ?body ?done
    ⟨bS0.cell, hB0⟩
  case assign =>
    intro l x W K hK
    gi_wp2
    exact hK
  case body =>
    rintro l pre x rest W hx
    cases pre <;> cases hx
  case done =>
    rintro D W hD ⟨hcell, hB⟩ hK
    gi_wp2
    refine ⟨by simp, .inl ⟨_, _, rfl, run_takeDeferred hK, ?_⟩⟩
    exact ⟨_, results_tmp rfl _ _ _, _, _, rfl, HN.out ▸ hB.trans (belowK_b (w := W0) (by omega) W D _ _ hD hK rfl rfl)⟩
end
section
attribute [local go_sem] alloc_drewN setCell_drewN
theorem teach_nil_any (y : Value) (w : World) : Calls Try.prog 49 #[.pointer none, y] w fun e w' => e = .returned (.tuple #[]) ∧ w' = w := teach_nil y w
set_option maxRecDepth 100000 in
set_option maxHeartbeats 1000000 in
theorem walk_flowNobody (id : Int) (i0 : 0 ≤ id) (i1 : id ≤ 4294967295) (x : Int) (x0 : -9223372036854775808 ≤ x) (x1 : x ≤ 9223372036854775807) (w : World) :
    Calls Try.prog 8 #[.int .u32 id, .int .i64 x] w fun e w' => e = .returned (.bool true) ∧ Below w.heap.size w w' := by
  have LV := Lib.hid (fun W => lives15 W)
  go_enter Try.func8, Try.ntmps8
  go_wp2_with fail
  refine (tget_nil _ _).mono ?_
  rintro e w' ⟨rfl, rfl⟩
  go_wp2_with fail
  refine (tdrop_nil _ _).mono ?_
  rintro e w' ⟨rfl, rfl⟩
  go_wp2_with fail
  refine (teach_nil _ _).mono ?_
  rintro e w' ⟨rfl, rfl⟩
  generalize hW : w'.alloc (.cells #[.int .i64 0] 3) = W1
  have hc : W1.cell? ⟨w'.heap.size, 0, none⟩ = some (.int .i64 0) := by rw [← hW]; exact (Boxed.new w' 3 (.int .i64 0)).cell
  have HB := Lib.hid (show Below w'.heap.size w' W1 by rw [← hW]; exact (Below.refl _ w').alloc (Nat.le_refl _) _)
  clear hW
  go_wp2_with fail
  refine (tput_nil _ _ _).mono ?_
  rintro e w2 ⟨rfl, rfl⟩
  go_wp2_with fail
  refine (tset_nil _ _ _).mono ?_
  rintro e w2 ⟨rfl, rfl⟩
  go_wp2_with fail
  refine (tlen_nil _).mono ?_
  rintro e w2 ⟨rfl, rfl⟩
  go_wp2_with fail
  refine (tids_nil _).mono ?_
  rintro e w3 ⟨a, c, rfl, b3⟩
  have HB3 := Lib.hid (HB.out.trans (b3.mono HB.out.size))
  clear b3 HB
  go_wp2_with fail
  refine (LV.out _).mono ?_
  rintro e w4 ⟨rfl, b4⟩
  have HB4 := Lib.hid (HB3.out.trans (b4.mono HB3.out.size))
  clear b4 HB3
  go_wp2
  go_ret
  exact ⟨rfl, HB4.out⟩
end
end Go.Proofs.Ytnnbkooikimedaa
