/-
  What package ring does when there is no place left in a row of elements of type int: more places. No block turns but the ring's own. No condition but that the ring is one that New made and has room.
-/
import Derived.Test.YtiogfgkfipekbaaDq3
import Derived.Test.YtiogfgkfipekbaaRingMv
import Derived.StillTailTactics
import Derived.Test.YtiogfgkfipekbaaCopyK
namespace Go.Proofs.Ytiogfgkfipekbaa
set_option linter.unusedVariables false
set_option linter.unusedSimpArgs false
open Go.ChangeShapes Go.WideShapes Go.ChangeAt Go.RowKit
attribute [local go_sem] alloc_drewN setCell_drewN

set_option maxRecDepth 100000 in
set_option maxHeartbeats 1000000 in
theorem qgrow_anyI {w : World} {base B : Nat} {room : Int} {v : Value} {ps : List (Int × Int)} {f k : Nat} (h : RqAtI w base B room v ps f k) (hk : k = ps.length) (hr : (k : Int) < room) (hbase : base ≤ w.heap.size) :
    Calls Try.prog 109 #[.pointer (some ⟨B, 0, none⟩)] w fun e w' => e = .returned (.tuple #[]) ∧ ∃ v' ps', RqAtI w' base B room v' ps' 0 k ∧ k < ps'.length ∧ cont izI ps' 0 k = cont izI ps f k ∧ Mv w w' B v v' := by
  obtain ⟨i0, hi, hz0, hz1, hz2⟩ := info_parts qinfoI
  obtain ⟨q, hq⟩ : ∃ q : Nat, (2 * (ps.length : Int) + 1 ≤ room ∧ (q : Int) = 2 * ps.length + 1) ∨ (room < 2 * ps.length + 1 ∧ (q : Int) = room) := by
    by_cases h1 : 2 * (ps.length : Int) + 1 ≤ room
    · exact ⟨2 * ps.length + 1, Or.inl ⟨h1, by omega⟩⟩
    · have := h.r0
      exact ⟨room.toNat, Or.inr ⟨by omega, by omega⟩⟩
  have hr1 := h.r1; have hr0 := h.r0
  have hqk : k < q ∧ (q : Int) ≤ room := by omega
  obtain ⟨hq1, hq2⟩ := hqk
  obtain ⟨c0, c1, c2, c3⟩ := h.cell
  have hv : ∃ ao co, v = .slice ao ps.length co := by
    rcases h.own.2 with ⟨rfl, h0⟩ | ⟨g, cap, cur, rfl, _⟩
    · exact ⟨none, 0, by rw [h0]⟩
    · exact ⟨_, _, rfl⟩
  obtain ⟨ao, co, hv⟩ := hv
  have HV := Lib.hid hv
  rw [hv] at c1
  have H := Lib.hid h; have HK := Lib.hid hk
  clear hv h hk
  have hlen : (ps.length : Int) ≤ 65536 := by have := H.out.lr; omega
  have hlen0 : (0 : Int) ≤ ps.length := by omega
  have a1 : IntKind.i64.wrap (2 * (ps.length : Int)) = 2 * (ps.length : Int) := by rw [IntKind.wrap_i64]; omega
  have a2 : IntKind.i64.wrap (2 * (ps.length : Int) + 1) = 2 * (ps.length : Int) + 1 := by rw [IntKind.wrap_i64]; omega
  rcases hq with ⟨hqa, hqb⟩ | ⟨hqa, hqb⟩
  all_goals
    have HQ := Lib.hid hqb
    clear hqb
    go_enter Try.func109, Try.ntmps109
    go_wp2
    go_still_tail 12, (by kernel_rfl)
    change wpList _ _ _ _ _ w.drew
    go_wp2_with (at_make; go_loud (refine wpList_make_full _ rfl _ _ 185 rfl w.heap.size 155 i0 (.agg #[.int .u64 0, Value.int .i64 0]) 2 Try.underlying185 hi hz0 hz1 _ _ _ _ q rfl rfl (by have := HQ.out; omega) (by have := HQ.out; omega) (by rw [hz2]; omega) (by unfold maxLen; omega) (Nat.le_refl _) ?_); intro w1 ho1 hg1)
    have hb1 : Below w.heap.size w w1 := (Below.refl _ _).drew.grown hg1 (Nat.le_refl _) (by simp)
    have hR := H.out.below hb1
    have AL := Lib.hid (qallI hR)
    go_wp2_with fail
    refine AL.out.mono ?_
    rintro e w2 ⟨rfl, ho2, hb2⟩
    have hg0 := own_fullK ho1
    obtain ⟨hg0, -, -⟩ := hg0
    have hsz1 : w.heap.size < w1.heap.size := (Array.getElem?_eq_some_iff.1 hg0).1
    have hg02 := (hb2.block w.heap.size hsz1).trans hg0
    have hb12 : Below w.heap.size w w2 := hb1.trans (hb2.mono hb1.size)
    have hm : (madeCells (Value.agg #[.int .u64 0, Value.int .i64 0]).cells (q * 2)).toList = (List.replicate q izI).flatMap icellI := by
      exact qmadeI q
    rw [hm] at hg02
    have HG := Lib.hid hg02
    have hsz : (Try.prog.info? 155).map (·.size) = some 2 := by rw [hi]; exact congrArg some hz1
    have HZ := Lib.hid hsz
    obtain ⟨cs, hcs⟩ : ∃ cs, cs = (cont izI ps f k).flatMap icellI := ⟨_, rfl⟩
    rw [← hcs] at ho2
    have hcl : cs.length = k * 2 := by rw [hcs, irow_lenI, cont_length]
    have HN : Hid (k = Nat.min k q) := Lib.hid (Nat.min_eq_left (Nat.le_of_lt hq1)).symm
    have HP : Hid (∀ j v, cs[j]? = some v → w2.cell? ((⟨w1.heap.size, 0, none⟩ : Addr).add j) = some v) := Lib.hid (fun j v hj => ho2.cells (g := w1.heap.size) rfl j v hj)
    have HF : Hid (0 + cs.length ≤ ((List.replicate q izI).flatMap icellI).length) := Lib.hid (by rw [hcl, irow_lenI, List.length_replicate]; omega)
    have H1 : Hid (∀ v ∈ cs, v.oneCell' = true) := Lib.hid (fun v hv => by rw [hcs] at hv; obtain ⟨x, _, hx⟩ := List.mem_flatMap.1 hv; simp [icellI] at hx; rcases hx with rfl | rfl <;> rfl)
    have HC := Lib.hid hcs; have HL := Lib.hid hcl
    have HO2 := Lib.hid ho2
    have HS1 := Lib.hid hsz1
    clear hg02 hg0 ho1 hm ho2 hsz hcs hcl hsz1
    have hBlt : B < w.heap.size := (Array.getElem?_eq_some_iff.1 H.out.blk).1
    have BLK : Hid (∀ w3, Below w.heap.size w w3 → w3.cell? ⟨B, 1, none⟩ = some v ∧ w3.cell? ⟨B, 2, none⟩ = some (.int .i64 f) ∧ w3.frozen? ⟨B, 1, none⟩ = false ∧ w3.frozen? ⟨B, 2, none⟩ = false ∧ Hid (w3.heap[B]? = some (.cells #[.int .i64 room, v, .int .i64 f, .int .i64 k] 187 (0, 0))) ∧ Hid (Below w.heap.size w w3)) := Lib.hid (fun w3 hb3 => by
      have hblk3 := (hb3.block B hBlt).trans H.out.blk
      exact ⟨cell_of_row w3 B 1 _ _ (0, 0) hblk3, cell_of_row w3 B 2 _ _ (0, 0) hblk3, frozen_of_row w3 B 1 _ _ hblk3, frozen_of_row w3 B 2 _ _ hblk3, Lib.hid hblk3, Lib.hid hb3⟩)
    go_wp2_with (with_reducible refine wpList_copy_spliceK (o := ⟨some 19, _, _, _, _, _⟩) rfl _ _ 185 185 rfl 155 2 (by decide) Try.underlying185 HZ.out _ _ _ _ _ _ rfl rfl w.heap.size 0 ((List.replicate q izI).flatMap icellI) 155 HG.out k cs HN.out HL.out (fun _ => ⟨rfl, _, rfl, HP.out⟩) HF.out H1.out w.heap.size w hb12 (Nat.le_refl _) ?_; intro w3 HG3 hb3; obtain ⟨d1, d2, e1, e2, HB3, HBB⟩ := BLK.out w3 hb3; clear hb3)
    go_end0
    have es : splice ((List.replicate q izI).flatMap icellI) 0 cs = (cont izI ps f k ++ List.replicate (q - k) izI).flatMap icellI := by
      unfold splice
      rw [List.take_zero, List.nil_append, Nat.zero_add, HL.out, replicate_flat icellI izI 2 rfl, List.flatMap_append, HC.out]
    have el2 : (cont izI ps f k ++ List.replicate (q - k) izI).length = q := by rw [List.length_append, cont_length, List.length_replicate]; omega
    have el : ((cont izI ps f k ++ List.replicate (q - k) izI).flatMap icellI).length = q * 2 := by
      rw [irow_lenI, el2]
    have hg3 := HG3.out
    rw [es] at hg3
    have hbb := HBB.out
    have hh : ∀ (u x : Value) (i : Nat), i ≠ B → (((w3.setCell ⟨B, 1, none⟩ u).setCell ⟨B, 2, none⟩ x).heap[i]? = w3.heap[i]?) := fun u x i hi => (Below.heap_setCell _ ⟨B, 2, none⟩ x i hi).trans (Below.heap_setCell _ ⟨B, 1, none⟩ u i hi)
    refine ⟨rfl, .slice (some ⟨w.heap.size, 0, none⟩) q q, cont izI ps f k ++ List.replicate (q - k) izI, ⟨?_, H.out.low, ?_, hr0, hr1, ?_, ?_, ?_⟩, ?_, ?_, ?_⟩
    · have := heap_set (heap_set HB3.out 1 (.slice (some ⟨w.heap.size, 0, none⟩) q q)) 2 (.int .i64 0)
      simpa using this
    · rw [el2]
      exact own_of_fullK ((hh _ _ _ (by omega)).trans hg3) hbase (by unfold maxLen; omega) el
    · rw [el2]; omega
    · rw [el2]; omega
    · intro hp; rw [el2]; omega
    · rw [el2]; omega
    · have := cont_grow izI (cont izI ps f k) (List.replicate (q - k) izI)
      rw [cont_length] at this
      exact this
    · refine ⟨hbb.os, hbb.tape, hbb.output, by simpa [World.setCell] using hbb.size, fun i hi h1 h2 => (hh _ _ i h1).trans (hbb.block i hi), fun j hj => Or.inl ?_⟩
      injection hj with hj
      exact Nat.le_of_eq hj
end Go.Proofs.Ytiogfgkfipekbaa
