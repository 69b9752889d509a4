/-
  The library's Delete of one entry, for elements of type int. No block turns but the row's own. No condition.
-/
import Derived.Test.YtcieggckmpabnaaFlowI4
namespace Go.Proofs.Ytcieggckmpabnaa
set_option linter.unusedVariables false
set_option linter.unusedSimpArgs false
open Go.ChangeShapes Go.WideShapes Go.ChangeAt Go.RowKit
attribute [local go_sem] alloc_drewN setCell_drewN

theorem step_appendKI {P : Program} {ops : Array Oper} {o : Oper} {a : Act} {w : World} {K : Act → World → Prop} {Q : Exit → Act → World → Prop} {E : Prop}
    (hg : o.guard = none) (s x : Operand) (t tn : TypeId) (hop : o.op = .call { callee := .builtin .append, args := #[s, x], argTypes := #[t, tn] }) (vs vx : Value) (hs : a.eval s = vs) (hx : a.eval x = vx)
    (v' : Value) (w' : World) (hr : (Builtin.append_ #[t, tn] o.type #[vs, vx]).run P w = .ok v' w') (hK : K (a.put o.dst v') w') : if Region.wanted o (yielded ops a.tmps) = true then Oper.wp P o a w K Q else E := by
  rw [if_pos (by simp [Region.wanted, hg])]
  exact Lib.wp_append_run w s x t tn hop vs vx hs hx v' w' hr hK
theorem wpList_clearKI {P : Program} {ops : Array Oper} {rest : List Oper} {o : Oper} {a : Act} {w : World} {Q : Exit → Act → World → Prop} (hgd : o.guard = none) (s : Operand) (t : TypeId)
    (ho : o.op = .call { callee := .builtin .clear, args := #[s], argTypes := #[t] }) (u : Value) (hs : a.eval s = u) {v' : Value} {w' : World}
    (hr : (Builtin.clear_ #[t] o.type #[u]).run P w = .ok v' w') (h : wpList P ops Q rest (a.put o.dst v') w') : wpList P ops Q (o :: rest) a w :=
  wpList_plain hgd fun K hK => by
    unfold Oper.wp
    simp [execOp, ho, resolve, invoke, builtin, hs, hr, Result.andThen]
    exact hK _ _ h
theorem zero2I : (Builtin.zeroCells (Value.agg #[.int .u32 0, Value.int .i64 0]).cells 1).toList = [.int .u32 0, Value.int .i64 0] := by
  simp [Builtin.zeroCells, Value.cells, List.range, List.range.loop]
set_option maxRecDepth 100000 in
set_option maxHeartbeats 2000000 in
theorem delI {w : World} {base g c : Nat} {es : List FeI} (h : FesAtI w base (.slice (some ⟨g, 0, none⟩) es.length c) es) (hn : es.length < 100000) (i : Nat) (hi : i < es.length) :
    Calls Try.prog 113 #[.slice (some ⟨g, 0, none⟩) es.length c, .int .i64 i, .int .i64 ((i : Int) + 1)] w fun e w' => ∃ v', e = .returned v' ∧ InsdI w base (.slice (some ⟨g, 0, none⟩) es.length c) (es.take i ++ es.drop (i + 1)) v' w' := by
  obtain ⟨i0, hif, hz0, hz1, hz2⟩ := info_parts infoFeI
  obtain ⟨cur, hg, hcs, hcm, hct, hnc⟩ : ∃ cur : Array Value, w.heap[g]? = some (.cells cur 162 (0, 0)) ∧ cur.size = c * 2 ∧ c ≤ maxLen ∧ cur.toList.take (es.length * 2) = fesI es ∧ es.length ≤ c := by
    rcases h.2 with ⟨h1, h2⟩ | ⟨g', cap, cur, h1, _, h3, h7, h4, h5, h6⟩
    · cases h1
    · injection h1 with e1 e2 e3
      injection e1 with e1
      injection e1 with e1
      subst e1 e3
      exact ⟨cur, h3, h5, h4, h6, h7⟩
  have hgl := World.ownsRow.lt h g rfl
  have hfl := fes_lenI es
  obtain ⟨n, hN⟩ : ∃ n, es.length = n := ⟨_, rfl⟩
  rw [hN] at hn hi hct hfl hnc ⊢
  obtain ⟨cs, hCS⟩ : ∃ cs, (fesI es).drop ((i + 1) * 2) = cs := ⟨_, rfl⟩
  have hcl : cs.length = (n - (i + 1)) * 2 := by rw [← hCS, List.length_drop, hfl]; omega
  have hap : ∀ ty (off sc : Nat), (off = (i + 1) * 2 ∨ n = i + 1) → (Builtin.append_ #[140, 140] ty #[.slice (some ⟨g, 0, none⟩) i c, .slice (some ⟨g, off, none⟩) (n - (i + 1)) sc]).run Try.prog w.drew = .ok (.slice (some ⟨g, 0, none⟩) (n - 1) c) (w.drew.setRow g (cur.toList.take (i * 2) ++ cs ++ cur.toList.drop (i * 2 + cs.length)).toArray) := fun ty off sc hoff => by
    have := run_append_room (P := Try.prog) w.drew 140 ty 162 i0 Try.underlying140 hif g i c cur hg ⟨g, off, none⟩ (n - (i + 1)) sc cs (by rw [hz1]; exact hcl)
      (fun j v hj => by
        have hjl := (List.getElem?_eq_some_iff.1 hj).1
        rcases hoff with rfl | h0
        · have e : ((⟨g, (i + 1) * 2, none⟩ : Addr).add j) = ⟨g, (i + 1) * 2 + j, none⟩ := by simp [Addr.add]
          rw [← hCS, List.getElem?_drop] at hj
          rw [e]
          exact (h.cellAt ((i + 1) * 2 + j) (by rw [hN]; omega)).trans hj
        · rw [hcl] at hjl; omega)
      (fun v hv => fes_oneI es v (List.mem_of_mem_drop (by rw [hCS]; exact hv))) (by omega) (by rw [hz1, hcl, hcs]; omega)
    rw [this, hz1, show i + (n - (i + 1)) = n - 1 by omega]
  obtain ⟨W1, hW1⟩ : ∃ W1, w.drew.setRow g (cur.toList.take (i * 2) ++ cs ++ cur.toList.drop (i * 2 + cs.length)).toArray = W1 := ⟨_, rfl⟩
  have hg1 : W1.heap[g]? = some (.cells (cur.toList.take (i * 2) ++ cs ++ cur.toList.drop (i * 2 + cs.length)).toArray 162 (0, 0)) := by rw [← hW1]; exact setRow_heap w.drew g cur _ _ _ hg
  have ho1 : ∀ k, k ≠ g → W1.heap[k]? = w.heap[k]? := fun k hk => by rw [← hW1]; exact setRow_other w.drew g k _ hk
  have hsz1 : W1.heap.size = w.heap.size := by rw [← hW1]; exact setRow_size w.drew g _
  have hos1 : W1.os = w.os ∧ W1.tape = w.tape ∧ W1.output = w.output := by rw [← hW1]; exact ⟨rfl, rfl, rfl⟩
  have hlz : (cur.toList.take (i * 2) ++ cs ++ cur.toList.drop (i * 2 + cs.length)).length = c * 2 := by simp [hcs, hcl]; omega
  have ASP : cur.toList = fesI es ++ cur.toList.drop (n * 2) := by rw [← hct]; exact (List.take_append_drop _ _).symm
  have LST : cur.toList.take (i * 2) ++ cs = fesI (es.take i ++ es.drop (i + 1)) := by
    rw [ASP, List.take_append_of_le_length (by rw [hfl]; omega), ← hCS, (fes_cutI es i (by rw [hN]; omega)).1, (fes_cutI es (i + 1) (by rw [hN]; omega)).2, fes_appI]
  have NLN : (es.take i ++ es.drop (i + 1)).length = n - 1 := by simp; omega
  have F1 : FesAtI W1 base (.slice (some ⟨g, 0, none⟩) (n - 1) c) (es.take i ++ es.drop (i + 1)) := by
    unfold FesAtI
    rw [NLN]
    refine ⟨by rw [fes_lenI, NLN], Or.inr ⟨g, c, _, rfl, hgl.1, hg1, by omega, hcm, ?_, ?_⟩⟩
    · show (cur.toList.take (i * 2) ++ cs ++ cur.toList.drop (i * 2 + cs.length)).length = _
      exact hlz
    · show (cur.toList.take (i * 2) ++ cs ++ _).take _ = _
      rw [LST, List.take_append_of_le_length (by rw [fes_lenI, NLN]; exact Nat.le_refl _), List.take_of_length_le (by rw [fes_lenI, NLN]; exact Nat.le_refl _)]
  rw [hW1] at hap
  have hcc : ∀ j, j < 2 → (W1.cell? ⟨g, (n - 1) * 2 + j, none⟩).isSome = true ∧ W1.frozen? ⟨g, (n - 1) * 2 + j, none⟩ = false := fun j hj => by
    refine ⟨?_, frozen_of_row W1 g _ _ _ hg1⟩
    rw [cell_of_row W1 g _ _ _ (0, 0) hg1]
    simp only [List.getElem?_toArray]
    rw [List.getElem?_eq_getElem (by rw [hlz]; omega)]
    rfl
  have hclr : ∀ ty cc, (Builtin.clear_ #[140] ty #[.slice (some ⟨g, (n - 1) * 2, none⟩) 1 cc]).run Try.prog W1 = .ok (.tuple #[]) (W1.setCells g ((n - 1) * 2) [.int .u32 0, Value.int .i64 0]) := fun ty cc =>
    run_clear_one W1 140 162 ty (.agg #[.int .u32 0, Value.int .i64 0]) [.int .u32 0, Value.int .i64 0] Try.underlying140 Try.zeroValue162 zero2I (fun y hy => by simp at hy; rcases hy with rfl | rfl <;> rfl) g ((n - 1) * 2) cc (fun j hj => (hcc j hj).1) (fun j hj => (hcc j hj).2)
  have FIN := Lib.hid (show InsdI w base (.slice (some ⟨g, 0, none⟩) n c) (es.take i ++ es.drop (i + 1)) (.slice (some ⟨g, 0, none⟩) (n - 1) c) (W1.setCells g ((n - 1) * 2) [.int .u32 0, Value.int .i64 0]) from by
    have r1 := row_put (show W1.ownsRow base 162 2 (.slice (some ⟨g, 0, none⟩) (es.take i ++ es.drop (i + 1)).length c) (es.take i ++ es.drop (i + 1)).length (fesI (es.take i ++ es.drop (i + 1))) by rw [NLN]; have := F1; unfold FesAtI at this; rw [NLN] at this; exact this) ((n - 1) * 2) (.int .u32 0)
    have r2 := row_put r1 ((n - 1) * 2 + 1) (Value.int .i64 0)
    rw [List.set_eq_of_length_le (by rw [List.length_set, fes_lenI, NLN]; omega), List.set_eq_of_length_le (by rw [fes_lenI, NLN]; exact Nat.le_refl _), NLN] at r2
    have hh : ∀ k, k ≠ g → (W1.setCells g ((n - 1) * 2) [.int .u32 0, Value.int .i64 0]).heap[k]? = w.heap[k]? := fun k hk =>
      (Below.heap_setCell _ ⟨g, (n - 1) * 2 + 1, none⟩ _ k hk).trans ((Below.heap_setCell W1 ⟨g, (n - 1) * 2, none⟩ _ k hk).trans (ho1 k hk))
    refine ⟨?_, ⟨hos1.1, hos1.2.1, hos1.2.2, ?_, fun k hk hkg => hh k (fun e => hkg (by rw [e]; rfl))⟩, Or.inl rfl⟩
    · unfold FesAtI
      rw [NLN]
      exact r2
    · show w.heap.size ≤ ((W1.setCell _ _).setCell _ _).heap.size
      simp [World.setCell, hsz1])
  clear F1 LST ASP hct hg1 ho1 NLN hlz hcc hCS hW1
  have w2 : IntKind.i64.wrap ((i : Int) + 1) = (i : Int) + 1 := by rw [IntKind.wrap_i64]; omega
  have b0 : (0 : Int) ≤ (i : Int) + 1 := by omega
  have t1 : ((i : Int) + 1).toNat = i + 1 := by omega
  have d1 : ¬ (i : Int) = (i : Int) + 1 := by omega
  have d4 : ¬ c = i := by omega
  have d5 : (i : Int) + 1 ≤ n := by omega
  have d6 : i + 1 ≤ n := by omega
  have d7 : ¬ c = n - 1 := by omega
  have d8 : n - (n - 1) = 1 := by omega
  have d9 : ((n - 1 : Nat) : Int) ≤ n := by omega
  have d10 : (i : Int) ≤ c := by omega
  have d11 : (n : Int) ≤ c := by omega
  have d12 : n - 1 ≤ n := by omega
  have d13 : i ≤ c := by omega
  go_enter Try.func113, Try.ntmps113
  by_cases hce : c = i + 1
  · obtain rfl : n = i + 1 := by omega
    subst hce
    simp only [Nat.sub_self, Nat.add_sub_cancel] at hap hclr FIN
    clear d9 d12 d7 d8
    have d14 : (i : Int) ≤ (i : Int) + 1 := by omega
    go_wp2
    go_region_law (refine step_appendKI rfl _ _ 140 140 rfl (.slice (some ⟨g, 0, none⟩) i (i + 1)) (.slice (some ⟨g, 0, none⟩) 0 0) (by simp [Act.eval, Act.put]) (by simp [Act.eval, Act.put]) (.slice (some ⟨g, 0, none⟩) i (i + 1)) W1 (hap _ _ _ (by simp)) ?_)
    go_wp2_with (at_builtin; refine wpList_clearKI rfl _ 140 rfl _ rfl (hclr _ _) ?_)
    go_ret
    exact ⟨_, rfl, FIN.out⟩
  · go_wp2
    go_region_law (refine step_appendKI rfl _ _ 140 140 rfl (.slice (some ⟨g, 0, none⟩) i c) (.slice (some ⟨g, (i + 1) * 2, none⟩) (n - (i + 1)) (c - (i + 1))) (by simp [Act.eval, Act.put]) (by simp [Act.eval, Act.put]) (.slice (some ⟨g, 0, none⟩) (n - 1) c) W1 (hap _ _ _ (Or.inl rfl)) ?_)
    go_wp2_with (at_builtin; refine wpList_clearKI rfl _ 140 rfl _ rfl (hclr _ _) ?_)
    go_ret
    exact ⟨_, rfl, FIN.out⟩
end Go.Proofs.Ytcieggckmpabnaa
