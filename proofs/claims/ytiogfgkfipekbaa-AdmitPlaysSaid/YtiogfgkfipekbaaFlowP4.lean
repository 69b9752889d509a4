/-
  The library's Insert of one entry, for elements of type *pacemaker/admit.data, where there is no room: a new row. No block turns. No condition.
-/
import Derived.Test.YtiogfgkfipekbaaFlowP3
namespace Go.Proofs.Ytiogfgkfipekbaa
set_option linter.unusedVariables false
set_option linter.unusedSimpArgs false
open Go.ChangeShapes Go.WideShapes Go.ChangeAt Go.RowKit
attribute [local go_sem] alloc_drewN setCell_drewN

set_option maxRecDepth 100000 in
set_option maxHeartbeats 2000000 in
theorem ins_growP {w : World} {base g c : Nat} {es : List FeP} (h : FesAtP w base (.slice (some ⟨g, 0, none⟩) es.length c) es) (hn : es.length < 100000) (hbase : base ≤ w.heap.size) (i : Nat) (hi : i < es.length) (hroom : c < es.length + 1) (id : Int) (x : Option Addr) (vb : Nat) (hb : w.heap[vb]? = some (.cells #[.int .u32 id, Value.pointer x] 171 (0, 0))) :
    Calls Try.prog 116 #[.slice (some ⟨g, 0, none⟩) es.length c, .int .i64 i, .slice (some ⟨vb, 0, none⟩) 1 1] w fun e w' => ∃ v', e = .returned v' ∧ InsdP w base (.slice (some ⟨g, 0, none⟩) es.length c) (es.take i ++ ⟨id, x⟩ :: es.drop i) v' w' := by
  obtain ⟨i0, hif, hz0, hz1, hz2⟩ := info_parts infoFeP
  have hsz : (Try.prog.info? 171).map (·.size) = some 2 := by rw [hif]; simp [hz1]
  obtain ⟨cur, hg, hcs, hcm, hct, hnc⟩ : ∃ cur : Array Value, w.heap[g]? = some (.cells cur 171 (0, 0)) ∧ cur.size = c * 2 ∧ c ≤ maxLen ∧ cur.toList.take (es.length * 2) = fesP es ∧ es.length ≤ c := by
    rcases h.2 with ⟨h1, h2⟩ | ⟨g', cap, cur, h1, _, h3, h7, h4, h5, h6⟩
    · cases h1
    · injection h1 with e1 e2 e3
      injection e1 with e1
      injection e1 with e1
      subst e1 e3
      exact ⟨cur, h3, h5, h4, h6, h7⟩
  have hgl := World.ownsRow.lt h g rfl
  have hbl := (Array.getElem?_eq_some_iff.1 hb).1
  have hfl := fes_lenP es
  obtain ⟨n, hN⟩ : ∃ n, es.length = n := ⟨_, rfl⟩
  rw [hN] at hn hi hroom hct hfl hnc ⊢
  obtain rfl : c = n := by omega
  obtain ⟨G, hG⟩ : ∃ G, w.heap.size = G := ⟨_, rfl⟩
  obtain ⟨q, hq⟩ : ∃ q, grownCap w (i + (c + 1 - i)) c 171 = q := ⟨_, rfl⟩
  have hq0 : c + 1 ≤ q := by have := grownCap_ge w (i + (c + 1 - i)) c 171; rw [hq] at this; omega
  have hq1 : q ≤ maxLen := by rw [← hq]; exact grownCap_le_maxLen w _ c _ (by unfold maxLen; omega)
  obtain ⟨cs, hCS⟩ : ∃ cs, (fesP es).drop (i * 2) = cs := ⟨_, rfl⟩
  have hcl : cs.length = c * 2 - i * 2 := by rw [← hCS, List.length_drop, hfl]
  obtain ⟨os, hOS⟩ : ∃ os, (fesP es).take (i * 2) = os := ⟨_, rfl⟩
  have hol : os.length = i * 2 := by rw [← hOS, List.length_take, hfl]; omega
  have hcell : ∀ j v, (fesP es)[j]? = some v → w.cell? ⟨g, j, none⟩ = some v := fun j v hj => by
    have hjl := (List.getElem?_eq_some_iff.1 hj).1
    exact (h.cellAt j (by rw [hN]; omega)).trans hj
  obtain ⟨Z, hZ⟩ : ∃ Z, (Builtin.zeroCells (Value.agg #[.int .u32 0, Value.pointer none]).cells (c + 1 - i)).toList ++ (Builtin.zeroCells (Value.agg #[.int .u32 0, Value.pointer none]).cells (q - (i + (c + 1 - i)))).toList = Z := ⟨_, rfl⟩
  have hzl : Z.length = q * 2 - i * 2 := by
    rw [← hZ, List.length_append, Array.length_toList, Array.length_toList, size_zeroCells, size_zeroCells, show (Value.agg #[.int .u32 0, Value.pointer none]).cells.size = 2 from rfl]
    omega
  have hap : ∀ ty, (Builtin.append_ #[172, 3] ty #[.slice (some ⟨g, 0, none⟩) i c, .int .i64 ((c + 1 - i : Nat) : Int)]).run Try.prog w = .ok (.slice (some ⟨G, 0, none⟩) (c + 1) q) (w.drew.alloc (.cells (os ++ Z).toArray 171)) := fun ty => by
    have := Lib.run_append_grow_zeros (P := Try.prog) w 172 3 ty 171 i0 (.agg #[.int .u32 0, Value.pointer none]) .i64 .i64 Try.underlying172 Try.underlying3 hif hz0 (some ⟨g, 0, none⟩) i c os
      (by
        rw [hz1]
        exact run_firstCells_some w.drew 2 i ⟨g, 0, none⟩ i c os hol (fun j v hj => by
          have e : ((⟨g, 0, none⟩ : Addr).add j) = ⟨g, j, none⟩ := by simp [Addr.add]; omega
          have hjl := (List.getElem?_eq_some_iff.1 hj).1
          rw [e]
          rw [← hOS, List.getElem?_take, if_pos (by omega)] at hj
          exact hcell j v hj))
      (c + 1 - i) (by omega) (by rw [hz1]; omega) (by omega) (by omega) (by rw [hz2]; omega) (by rw [hz2]; exact growslice_fits (by omega) (by omega))
    rw [this, hq, hG, show i + (c + 1 - i) = c + 1 by omega] 
    rw [show i + (c + 1 - i) = c + 1 by omega] at hZ
    congr 3
    rw [← hZ]
    simp [Array.append_assoc]
  obtain ⟨W0, hW0⟩ : ∃ W0, w.drew.alloc (.cells (os ++ Z).toArray 171) = W0 := ⟨_, rfl⟩
  have hg0 : W0.heap[G]? = some (.cells (os ++ Z).toArray 171 (0, 0)) := by rw [← hW0, ← hG]; exact heap_alloc_new w.drew _
  have ho0 : ∀ k, k < G → W0.heap[k]? = w.heap[k]? := fun k hk => by rw [← hW0]; exact heap_alloc_old w.drew _ (show k < w.heap.size by omega)
  have hs0 : W0.heap.size = G + 1 := by rw [← hW0, ← hG]; simp
  have hw0 : W0.os = w.os ∧ W0.tape = w.tape ∧ W0.output = w.output := by rw [← hW0]; exact ⟨rfl, rfl, rfl⟩
  rw [hW0] at hap
  have hb0 : W0.heap[vb]? = some (.cells #[.int .u32 id, Value.pointer x] 171 (0, 0)) := (ho0 vb (by omega)).trans hb
  have hcp1 : ∀ ty dc, (Builtin.copy_ #[172, 172] ty #[.slice (some ⟨G, i * 2, none⟩) (c + 1 - i) dc, .slice (some ⟨vb, 0, none⟩) 1 1]).run Try.prog W0 = .ok (goInt (Nat.min 1 (c + 1 - i))) (W0.setRow G (os ++ [.int .u32 id, Value.pointer x] ++ Z.drop 2).toArray) := fun ty dc => by
    have := run_copy_rowK (P := Try.prog) W0 172 172 ty 171 2 G (i * 2) (c + 1 - i) dc ⟨vb, 0, none⟩ 1 1 _ 171 [.int .u32 id, Value.pointer x] Try.underlying172 hsz hg0 (by simp only [Nat.min_def]; split <;> simp <;> omega)
      (World.news_of_block hb0) (by simp [hol, hzl]; omega) (fun y hy => by simp at hy; rcases hy with rfl | rfl <;> rfl)
    rw [this]
    congr 3
    show (os ++ Z).take (i * 2) ++ [.int .u32 id, Value.pointer x] ++ (os ++ Z).drop (i * 2 + 2) = _
    rw [← hol, List.take_left, List.drop_append]
    simp
  obtain ⟨W1, hW1⟩ : ∃ W1, W0.setRow G (os ++ [.int .u32 id, Value.pointer x] ++ Z.drop 2).toArray = W1 := ⟨_, rfl⟩
  have hg1 : W1.heap[G]? = some (.cells (os ++ [.int .u32 id, Value.pointer x] ++ Z.drop 2).toArray 171 (0, 0)) := by rw [← hW1]; exact setRow_heap W0 G _ _ _ _ hg0
  have ho1 : ∀ k, k < G → W1.heap[k]? = w.heap[k]? := fun k hk => by rw [← hW1, setRow_other W0 G k _ (by omega)]; exact ho0 k hk
  have hs1 : W1.heap.size = G + 1 := by rw [← hW1, setRow_size]; exact hs0
  have hw1 : W1.os = w.os ∧ W1.tape = w.tape ∧ W1.output = w.output := by rw [← hW1]; exact hw0
  rw [hW1] at hcp1
  have hcp2 : ∀ ty dc sc, (Builtin.copy_ #[172, 172] ty #[.slice (some ⟨G, (i + 1) * 2, none⟩) (c - i) dc, .slice (some ⟨g, i * 2, none⟩) (c - i) sc]).run Try.prog W1.drew = .ok (goInt (Nat.min (c - i) (c - i))) (W1.drew.setRow G (fesP (es.take i ++ ⟨id, x⟩ :: es.drop i) ++ (Z.drop 2).drop cs.length).toArray) := fun ty dc sc => by
    have := run_copy_rowK (P := Try.prog) W1.drew 172 172 ty 171 2 G ((i + 1) * 2) (c - i) dc ⟨g, i * 2, none⟩ (c - i) sc _ 171 cs Try.underlying172 hsz hg1 (by rw [hcl]; simp only [Nat.min_def]; split <;> omega)
      (fun j v hj => by
        have e : ((⟨g, i * 2, none⟩ : Addr).add j) = ⟨g, i * 2 + j, none⟩ := by simp [Addr.add]
        rw [← hCS, List.getElem?_drop] at hj
        rw [e]
        have h3 := hcell _ v hj
        unfold World.cell? at h3 ⊢
        rw [show W1.drew.heap = W1.heap from rfl, ho1 g (by omega)]
        exact h3)
      (by simp [hol, hzl, hcl]; omega) (fun v hv => fes_oneP es v (List.mem_of_mem_drop (by rw [hCS]; exact hv)))
    rw [this]
    congr 3
    show (os ++ [.int .u32 id, Value.pointer x] ++ Z.drop 2).take ((i + 1) * 2) ++ cs ++ (os ++ [.int .u32 id, Value.pointer x] ++ Z.drop 2).drop ((i + 1) * 2 + cs.length) = _
    have e2 : (os ++ [.int .u32 id, Value.pointer x]).length = (i + 1) * 2 := by simp [hol]; omega
    rw [← e2, List.take_left, List.drop_append, List.drop_of_length_le (by omega), List.nil_append, Nat.add_sub_cancel_left, fes_appP, ← (fes_cutP es i (by rw [hN]; omega)).1, hOS]
    have e3 : fesP (⟨id, x⟩ :: es.drop i) = [.int .u32 id, Value.pointer x] ++ cs := by
      rw [← hCS, (fes_cutP es i (by rw [hN]; omega)).2]; rfl
    rw [e3]
    simp [List.append_assoc]
  have NLN : (es.take i ++ (⟨id, x⟩ : FeP) :: es.drop i).length = c + 1 := by simp; omega
  have FIN := Lib.hid (show InsdP w base (.slice (some ⟨g, 0, none⟩) c c) (es.take i ++ ⟨id, x⟩ :: es.drop i) (.slice (some ⟨G, 0, none⟩) (c + 1) q) (W1.drew.setRow G (fesP (es.take i ++ ⟨id, x⟩ :: es.drop i) ++ (Z.drop 2).drop cs.length).toArray) from by
    refine ⟨?_, ⟨hw1.1, hw1.2.1, hw1.2.2, by rw [setRow_size]; show w.heap.size ≤ W1.heap.size; omega, fun k hk hkg => ?_⟩, Or.inr ⟨G, rfl, by omega⟩⟩
    · unfold FesAtP
      rw [NLN]
      refine ⟨by rw [fes_lenP, NLN], Or.inr ⟨G, q, _, rfl, by omega, setRow_heap W1.drew G _ _ _ _ hg1, hq0, hq1, ?_, ?_⟩⟩
      · simp [fes_lenP, hzl, hcl]; omega
      · show (fesP _ ++ _).take _ = _
        rw [List.take_append_of_le_length (by rw [fes_lenP, NLN]; exact Nat.le_refl _), List.take_of_length_le (by rw [fes_lenP, NLN]; exact Nat.le_refl _)]
    · rw [setRow_other W1.drew G k _ (by omega)]
      exact ho1 k (by omega))
  obtain ⟨RW, hRW⟩ : ∃ RW, (fesP (es.take i ++ ⟨id, x⟩ :: es.drop i) ++ (Z.drop 2).drop cs.length).toArray = RW := ⟨_, rfl⟩
  rw [hRW] at FIN hcp2
  clear hRW hcl hzl hol
  clear NLN hg1 hg0 hb0 ho1 ho0 hCS hOS hZ hcell hq hW0 hW1
  have w1 : IntKind.i64.wrap ((c : Int) + 1) = (c : Int) + 1 := by rw [IntKind.wrap_i64]; omega
  have w2 : IntKind.i64.wrap ((i : Int) + 1) = (i : Int) + 1 := by rw [IntKind.wrap_i64]; omega
  have w3 : IntKind.i64.wrap ((c : Int) + 1 - i) = ((c + 1 - i : Nat) : Int) := by rw [IntKind.wrap_i64]; omega
  have w4 : (c : Int) + 1 - i = ((c + 1 - i : Nat) : Int) := by omega
  have b0 : (0 : Int) ≤ (i : Int) + 1 := by omega
  have t1 : ((i : Int) + 1).toNat = i + 1 := by omega
  have d1 : ¬ (i : Int) = (c : Int) := by omega
  have d2 : (c : Int) < (c : Int) + 1 := by omega
  have d3 : ¬ q = i + 1 := by omega
  have d4 : ¬ q = i := by omega
  have d5 : (i : Int) ≤ (c : Int) + 1 := by omega
  have d6 : i ≤ c := by omega
  have d8 : ¬ c = i := by omega
  go_enter Try.func116, Try.ntmps116
  go_wp2_with (first
    | (at_builtin; refine Lib.wpList_append_run _ rfl _ _ _ _ rfl _ _ rfl rfl _ _ (hap _) ?_)
    | (at_builtin; refine wpList_copyK rfl _ _ 172 172 rfl _ _ rfl rfl (hcp1 _ _) ?_))
  go_region_law (refine step_copyK rfl _ _ 172 172 rfl _ _ (by simp [Act.eval, Act.put]) (by simp [Act.eval, Act.put]) (hcp2 _ _ _) ?_)
  go_wp2
  go_ret
  exact ⟨_, rfl, FIN.out⟩
end Go.Proofs.Ytiogfgkfipekbaa
