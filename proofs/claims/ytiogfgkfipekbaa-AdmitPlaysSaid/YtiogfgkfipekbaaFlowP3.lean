/-
  The library's Insert of one entry, for elements of type *pacemaker/admit.data, where there is room: what stands from the place on is moved. No block turns but the row's own. No condition.
-/
import Derived.Test.YtiogfgkfipekbaaFlowP2
import Derived.Test.YtiogfgkfipekbaaShiftL
import Derived.RegionTactic
import Derived.Deep.RegionWith
import Derived.Laws.Externs
namespace Go.Proofs.Ytiogfgkfipekbaa
set_option linter.unusedVariables false
set_option linter.unusedSimpArgs false
open Go.ChangeShapes Go.WideShapes Go.ChangeAt Go.RowKit
attribute [local go_sem] alloc_drewN setCell_drewN

theorem fes_appP (a b : List FeP) : fesP (a ++ b) = fesP a ++ fesP b := List.flatMap_append
theorem fes_cutP (es : List FeP) (i : Nat) (hi : i ≤ es.length) : (fesP es).take (i * 2) = fesP (es.take i) ∧ (fesP es).drop (i * 2) = fesP (es.drop i) := by
  have hl : (fesP (es.take i)).length = i * 2 := by rw [fes_lenP, List.length_take, Nat.min_eq_left hi]
  have e : fesP es = fesP (es.take i) ++ fesP (es.drop i) := by rw [← fes_appP, List.take_append_drop]
  constructor
  · rw [e, ← hl]; exact List.take_left
  · rw [e, ← hl]; exact List.drop_left
theorem fes_oneP (es : List FeP) : ∀ v ∈ fesP es, v.oneCell' = true := fun v hv => by
  obtain ⟨e, _, h⟩ := List.mem_flatMap.1 hv
  simp [FeP.cells] at h
  rcases h with rfl | rfl <;> rfl
set_option maxRecDepth 100000 in
set_option maxHeartbeats 2000000 in
theorem ins_shiftP {w : World} {base g c : Nat} {es : List FeP} (h : FesAtP w base (.slice (some ⟨g, 0, none⟩) es.length c) es) (hn : es.length < 100000) (i : Nat) (hi : i < es.length) (hroom : es.length + 1 ≤ c) (id : Int) (x : Option Addr) (vb : Nat) (hb : w.heap[vb]? = some (.cells #[.int .u32 id, Value.pointer x] 171 (0, 0))) (hne : vb ≠ g) :
    Calls Try.prog 116 #[.slice (some ⟨g, 0, none⟩) es.length c, .int .i64 i, .slice (some ⟨vb, 0, none⟩) 1 1] w fun e w' => ∃ v', e = .returned v' ∧ InsdP w base (.slice (some ⟨g, 0, none⟩) es.length c) (es.take i ++ ⟨id, x⟩ :: es.drop i) v' w' := by
  obtain ⟨i0, hif, hz0, hz1, hz2⟩ := info_parts infoFeP
  have hsz : (Try.prog.info? 171).map (·.size) = some 2 := by rw [hif]; simp [hz1]
  obtain ⟨cur, hg, hcs, hcm, hct⟩ : ∃ cur : Array Value, w.heap[g]? = some (.cells cur 171 (0, 0)) ∧ cur.size = c * 2 ∧ c ≤ maxLen ∧ cur.toList.take (es.length * 2) = fesP es := by
    rcases h.2 with ⟨h1, h2⟩ | ⟨g', cap, cur, h1, _, h3, _, h4, h5, h6⟩
    · cases h1
    · injection h1 with e1 e2 e3
      injection e1 with e1
      injection e1 with e1
      subst e1 e3
      exact ⟨cur, h3, h5, h4, h6⟩
  have hgl := World.ownsRow.lt h g rfl
  have hbl := (Array.getElem?_eq_some_iff.1 hb).1
  have hfl := fes_lenP es
  have hsa : w.shape? vb = some (171, 2) := by unfold World.shape?; rw [hb]; rfl
  have hsb : w.shape? g = some (171, cur.size) := by unfold World.shape?; rw [hg]
  have hov : ∀ off lb cb, (callFunc 125 #[.slice (some ⟨vb, 0, none⟩) 1 1, .slice (some ⟨g, off, none⟩) lb cb]).run Try.prog w = .ok (.value (.bool false)) w := fun off lb cb => by
    rw [run_callFunc_extern Try.func125 (by kernel_rfl) (by kernel_rfl) (by kernel_rfl) (e := Extern.SlicesOverlaps.overlaps #[172, 172] #[4]) (by kernel_rfl),
      Lib.run_overlaps_apart w 172 4 171 Try.underlying172 2 Try.sizeOf171 ⟨vb, 0, none⟩ ⟨g, off, none⟩ 1 1 lb cb hne _ _ _ _ hsa hsb (by omega) (frozen_of_row w vb 0 _ _ hb) (frozen_of_row w vb 2 _ _ hb)]
    rfl
  obtain ⟨n, hN⟩ : ∃ n, es.length = n := ⟨_, rfl⟩
  rw [hN] at hn hi hroom hct hfl ⊢
  obtain ⟨cs, hCS⟩ : ∃ cs, (fesP es).drop (i * 2) = cs := ⟨_, rfl⟩
  have hcl : cs.length = n * 2 - i * 2 := by rw [← hCS, List.length_drop, hfl]
  have hcp1 : ∀ ty dc sc, (Builtin.copy_ #[172, 172] ty #[.slice (some ⟨g, (i + 1) * 2, none⟩) (n - i) dc, .slice (some ⟨g, i * 2, none⟩) (n + 1 - i) sc]).run Try.prog w.drew = .ok (goInt (Nat.min (n + 1 - i) (n - i))) (w.drew.setRow g (cur.toList.take ((i + 1) * 2) ++ cs ++ cur.toList.drop ((i + 1) * 2 + cs.length)).toArray) := fun ty dc sc =>
    run_copy_rowK w.drew _ _ ty 171 2 g ((i + 1) * 2) (n - i) dc ⟨g, i * 2, none⟩ (n + 1 - i) sc cur 171 cs Try.underlying172 hsz hg (by rw [hcl]; simp only [Nat.min_def]; split <;> omega)
      (fun j v hj => by
        have hjl := (List.getElem?_eq_some_iff.1 hj).1
        have e : ((⟨g, i * 2, none⟩ : Addr).add j) = ⟨g, i * 2 + j, none⟩ := by simp [Addr.add]
        have h2 := h.cellAt (i * 2 + j) (by rw [hN]; omega)
        rw [← hCS, List.getElem?_drop] at hj
        rw [e]
        exact (show w.cell? ⟨g, i * 2 + j, none⟩ = _ from h2).trans hj)
      (by rw [hcs, hcl]; omega) (fun v hv => fes_oneP es v (List.mem_of_mem_drop (by rw [hCS]; exact hv)))
  obtain ⟨W1, hW1⟩ : ∃ W1, w.drew.setRow g (cur.toList.take ((i + 1) * 2) ++ cs ++ cur.toList.drop ((i + 1) * 2 + cs.length)).toArray = W1 := ⟨_, rfl⟩
  have hg1 : W1.heap[g]? = some (.cells (cur.toList.take ((i + 1) * 2) ++ cs ++ cur.toList.drop ((i + 1) * 2 + cs.length)).toArray 171 (0, 0)) := by rw [← hW1]; exact setRow_heap w.drew g cur _ _ _ hg
  have ho1 : ∀ k, k ≠ g → W1.heap[k]? = w.heap[k]? := fun k hk => by rw [← hW1]; exact setRow_other w.drew g k _ hk
  have hb1 : W1.heap[vb]? = some (.cells #[.int .u32 id, Value.pointer x] 171 (0, 0)) := (ho1 vb hne).trans hb
  have hsz1 : W1.heap.size = w.heap.size := by rw [← hW1]; exact setRow_size w.drew g _
  have hos1 : W1.os = w.os ∧ W1.tape = w.tape ∧ W1.output = w.output := by rw [← hW1]; exact ⟨rfl, rfl, rfl⟩
  have ASP : cur.toList = fesP es ++ cur.toList.drop (n * 2) := by rw [← hct]; exact (List.take_append_drop _ _).symm
  obtain ⟨SP, hSP⟩ : ∃ SP, cur.toList.drop (n * 2) = SP := ⟨_, rfl⟩
  rw [hSP] at ASP
  have hspl : SP.length = c * 2 - n * 2 := by rw [← hSP, List.length_drop]; simp [hcs]
  have LST : ((cur.toList.take ((i + 1) * 2) ++ cs ++ cur.toList.drop ((i + 1) * 2 + cs.length)).take (i * 2) ++ [.int .u32 id, Value.pointer x] ++ (cur.toList.take ((i + 1) * 2) ++ cs ++ cur.toList.drop ((i + 1) * 2 + cs.length)).drop (i * 2 + 2)) = fesP (es.take i ++ ⟨id, x⟩ :: es.drop i) ++ SP.drop 2 := by
    have := shift_list (fesP es) SP [.int .u32 id, Value.pointer x] (i * 2) 2 (by rw [hfl]; omega) rfl (by rw [hspl]; omega)
    simp only at this
    rw [← ASP, hCS, show i * 2 + 2 = (i + 1) * 2 by omega] at this
    simp only [List.length_cons, List.length_nil, Nat.zero_add, Nat.reduceAdd] at this
    rw [this, ← hCS, (fes_cutP es i (by rw [hN]; omega)).1, (fes_cutP es i (by rw [hN]; omega)).2, fes_appP]
    simp [fesP, FeP.cells]
  have hcp2 : ∀ ty dc, (Builtin.copy_ #[172, 172] ty #[.slice (some ⟨g, i * 2, none⟩) (n + 1 - i) dc, .slice (some ⟨vb, 0, none⟩) 1 1]).run Try.prog W1 = .ok (goInt (Nat.min 1 (n + 1 - i))) (W1.setRow g (fesP (es.take i ++ ⟨id, x⟩ :: es.drop i) ++ SP.drop 2).toArray) := fun ty dc => by
    have := run_copy_rowK (P := Try.prog) W1 172 172 ty 171 2 g (i * 2) (n + 1 - i) dc ⟨vb, 0, none⟩ 1 1 _ 171 [.int .u32 id, Value.pointer x] Try.underlying172 hsz hg1 (by simp only [Nat.min_def]; split <;> simp <;> omega)
      (World.news_of_block hb1) (by simp; omega) (fun y hy => by simp at hy; rcases hy with rfl | rfl <;> rfl)
    rw [this]
    congr 2
    exact congrArg List.toArray LST
  have NLN : (es.take i ++ (⟨id, x⟩ : FeP) :: es.drop i).length = n + 1 := by simp; omega
  have FIN := Lib.hid (show InsdP w base (.slice (some ⟨g, 0, none⟩) n c) (es.take i ++ ⟨id, x⟩ :: es.drop i) (.slice (some ⟨g, 0, none⟩) (n + 1) c) (W1.setRow g (fesP (es.take i ++ ⟨id, x⟩ :: es.drop i) ++ SP.drop 2).toArray) from by
    refine ⟨?_, ⟨hos1.1, hos1.2.1, hos1.2.2, by rw [setRow_size, hsz1]; exact Nat.le_refl _, fun k hk hkg => ?_⟩, Or.inl rfl⟩
    · unfold FesAtP
      rw [NLN]
      refine ⟨by rw [fes_lenP, NLN], Or.inr ⟨g, c, _, rfl, hgl.1, setRow_heap W1 g _ _ _ _ hg1, hroom, hcm, ?_, ?_⟩⟩
      · simp [fes_lenP, hspl]; omega
      · show (fesP _ ++ SP.drop 2).take _ = _
        rw [List.take_append_of_le_length (by rw [fes_lenP, NLN]; exact Nat.le_refl _), List.take_of_length_le (by rw [fes_lenP, NLN]; exact Nat.le_refl _)]
    · have hkg' : k ≠ g := fun e => hkg (by rw [e]; rfl)
      rw [setRow_other W1 g k _ hkg']
      exact ho1 k hkg')
  rw [hW1] at hcp1
  clear LST ASP hct hg1 hb1 ho1 NLN hspl hSP hCS
  have w1 : IntKind.i64.wrap ((n : Int) + 1) = (n : Int) + 1 := by rw [IntKind.wrap_i64]; omega
  have w2 : IntKind.i64.wrap ((i : Int) + 1) = (i : Int) + 1 := by rw [IntKind.wrap_i64]; omega
  have b0 : (0 : Int) ≤ (i : Int) + 1 := by omega
  have b1 : (0 : Int) ≤ (n : Int) + 1 := by omega
  have t1 : ((i : Int) + 1).toNat = i + 1 := by omega
  have t2 : ((n : Int) + 1).toNat = n + 1 := by omega
  have d1 : ¬ (i : Int) = (n : Int) := by omega
  have d2 : ¬ (c : Int) < (n : Int) + 1 := by omega
  have d3 : ¬ c = i + 1 := by omega
  have d4 : ¬ c = i := by omega
  have d5 : (i : Int) ≤ (n : Int) + 1 := by omega
  have d6 : i ≤ n := by omega
  have d7 : (n : Int) + 1 ≤ c := by omega
  go_enter Try.func116, Try.ntmps116
  go_wp2_with (simp only [hov])
  go_region_law (refine step_copyK rfl _ _ 172 172 rfl _ _ (by simp [Act.eval, Act.put]) (by simp [Act.eval, Act.put]) (hcp1 _ _ _) ?_)
  go_wp2_with (at_builtin; refine wpList_copyK rfl _ _ 172 172 rfl _ _ rfl rfl (hcp2 _ _) ?_)
  go_ret
  exact ⟨_, rfl, FIN.out⟩
end Go.Proofs.Ytiogfgkfipekbaa
