/-
  Package heappifo for elements of type string: a heap is made, is looked at, an item is pushed. No block turns but the heap's own. No condition but that the heap is one that New made.
-/
import Derived.Test.YtkgiaijcgblpbaaHeapT3
import Derived.Maps.AppendAt
import Derived.Deep.RegionHeld3
import Derived.Deep.RegionLaw
namespace Go.Proofs.Ytkgiaijcgblpbaa
set_option linter.unusedVariables false
set_option linter.unusedSimpArgs false
open Go.ChangeShapes Go.WideShapes Go.ChangeAt Go.RowKit
attribute [local go_sem] alloc_drewN setCell_drewN

theorem infoHT : (Try.prog.info? 171).map (fun i => (i.zero, i.size, i.bytes)) = some (some (.agg #[.int .u64 0, Value.string ⟨#[]⟩, .int .u64 0]), 3, 32) := by kernel_rfl
theorem hnew_okT (room : Int) (r0 : 1 ≤ room) (r1 : room ≤ 4096) (w : World) :
    Calls Try.prog 67 #[.int .i64 room] w fun e w' => e = .returned (.tuple #[.pointer (some ⟨w.heap.size, 0, none⟩), .int .i64 0]) ∧ HeapAtT w' w.heap.size w.heap.size room 0 (.slice none 0 0) [] ∧ Below w.heap.size w w' := by
  have h0 : ¬ room < 1 := by omega
  have h1 : ¬ 4096 < room := by omega
  have R0 := Lib.hid r0; have R1 := Lib.hid r1
  clear r0 r1
  go_enter Try.func67, Try.ntmps67
  go_wp2
  go_ret2
  exact ⟨rfl, ⟨heap_alloc_new w _, Nat.le_refl _, World.ownsRow_nil _ _ _ _, R0.out, R1.out, by have := R0.out; simp; omega⟩, (Below.refl _ w).alloc (Nat.le_refl _) _⟩
theorem hnew_noT (room : Int) (h : room < 1 ∨ 4096 < room) (w : World) :
    Calls Try.prog 67 #[.int .i64 room] w fun e w' => e = .returned (.tuple #[.pointer none, .int .i64 25]) ∧ w' = w := by
  have h' : room < 1 ∨ (¬ room < 1 ∧ 4096 < room) := by omega
  clear h
  rcases h' with h | ⟨h1, h⟩
  all_goals
    go_enter Try.func67, Try.ntmps67
    go_wp2
    go_ret2
    exact ⟨rfl, rfl⟩
theorem hlenT {w : World} {base B : Nat} {room pd : Int} {v : Value} {es : List (Ent ByteArray)} (h : HeapAtT w base B room pd v es) :
    Calls Try.prog 70 #[.pointer (some ⟨B, 0, none⟩)] w fun e w' => e = .returned (.int .i64 es.length) ∧ w' = w := by
  obtain ⟨c0, c1, c2⟩ := h.cell
  obtain ⟨ao, co, rfl⟩ := row_slice h.own
  clear h
  go_enter Try.func70, Try.ntmps70
  go_wp2
  go_ret
  exact ⟨rfl, rfl⟩
theorem hpeek_noT {w : World} {base B : Nat} {room pd : Int} {v : Value} (h : HeapAtT w base B room pd v []) :
    Calls Try.prog 101 #[.pointer (some ⟨B, 0, none⟩)] w fun e w' => e = .returned (.tuple #[.int .u64 0, Value.string ⟨#[]⟩, .bool false]) ∧ w' = w := by
  have LN := Lib.hid (hlenT h)
  clear h
  go_enter Try.func101, Try.ntmps101
  go_wp2_with (go_at_call 70; refine LN.out.mono ?_; rintro e w' ⟨rfl, rfl⟩)
  go_ret3
  exact ⟨rfl, rfl⟩
theorem hpeek_inT {w : World} {base B : Nat} {room pd : Int} {v : Value} {es : List (Ent ByteArray)} (h : HeapAtT w base B room pd v es) (h0 : 0 < es.length) :
    Calls Try.prog 101 #[.pointer (some ⟨B, 0, none⟩)] w fun e w' => e = .returned (.tuple #[.int .u64 (es[0]).rk, Value.string (es[0]).x, .bool true]) ∧ ∃ n, w' = w.drewN n := by
  have LN := Lib.hid (hlenT h)
  obtain ⟨c0, c1, c2⟩ := h.cell
  obtain ⟨g, c, rfl, _, _⟩ := h.own.form (by omega)
  obtain ⟨a0, a1, a2⟩ := h.entAt 0 h0
  simp only [Nat.zero_mul, Nat.zero_add] at a0 a1 a2
  have l0 : ¬ ((es.length : Int) = 0) := by omega
  have l1 : (0 : Int) < es.length := by omega
  clear h
  generalize (es[0]).rk = ark at *
  generalize (es[0]).x = ax at *
  go_enter Try.func101, Try.ntmps101
  go_wp2_with (go_at_call 70; refine LN.out.mono ?_; rintro e w' ⟨rfl, rfl⟩)
  go_quiet (fail)
  go_wp2
  go_ret3
  exact ⟨rfl, _, rfl⟩
theorem hpush_fullT {w : World} {base B : Nat} {room pd : Int} {v : Value} {es : List (Ent ByteArray)} (h : HeapAtT w base B room pd v es) (hf : room ≤ (es.length : Int)) (rk : Int) (x : ByteArray) :
    Calls Try.prog 68 #[.pointer (some ⟨B, 0, none⟩), .int .u64 rk, Value.string x] w fun e w' => e = .returned (.bool false) ∧ ∃ n, w' = w.drewN n := by
  obtain ⟨c0, c1, c2⟩ := h.cell
  obtain ⟨ao, co, rfl⟩ := row_slice h.own
  clear h
  go_enter Try.func68, Try.ntmps68
  go_wp2
  go_quiet (fail)
  go_wp2
  go_ret
  exact ⟨rfl, _, rfl⟩
theorem HeapAtT.grown {w : World} {base B : Nat} {room pd : Int} {v : Value} {es : List (Ent ByteArray)} (h : HeapAtT w base B room pd v es) (rk : Int) (x : ByteArray) (w3 : World) (v' : Value)
    (ho : w3.ownsRow base 171 3 v' (es.length + 1) (hrowT es ++ [.int .u64 rk, Value.string x, .int .u64 pd]))
    (hg : (w.alloc (.cells #[.int .u64 rk, Value.string x, .int .u64 pd] 171)).grownBy w3 v.ownBlock)
    (hb : w3.heap[B]? = some (.cells #[.int .i64 room, .int .u64 pd, v] 167 (0, 0)))
    (ha : v'.ownBlock = v.ownBlock ∨ ∃ j, v'.ownBlock = some j ∧ w.heap.size ≤ j) (hl : (es.length : Int) < room) :
    HeapAtT ((w3.setCell ⟨B, 2, none⟩ v').setCell ⟨B, 1, none⟩ (.int .u64 (pd + 1))) base B room (pd + 1) v' (es ++ [⟨rk, x, pd⟩]) ∧ Mv w ((w3.setCell ⟨B, 2, none⟩ v').setCell ⟨B, 1, none⟩ (.int .u64 (pd + 1))) B v v' := by
  have hne : v'.ownBlock ≠ some B := own_ne_blk ho hb (by decide)
  have hsz : w.heap.size ≤ w3.heap.size := Nat.le_trans (by simp) hg.size
  have hB : B < w.heap.size := (Array.getElem?_eq_some_iff.1 h.blk).1
  have el : (es ++ [(⟨rk, x, pd⟩ : Ent ByteArray)]).length = es.length + 1 := by simp
  refine ⟨⟨?_, h.low, ?_, h.r0, h.r1, ?_⟩, ?_⟩
  · have e := heap_set (heap_set hb 2 v') 1 (.int .u64 (pd + 1))
    simpa using e
  · have e : hrowT (es ++ [(⟨rk, x, pd⟩ : Ent ByteArray)]) = hrowT es ++ [.int .u64 rk, Value.string x, .int .u64 pd] := by simp [hrowT, hcellT]
    rw [el, e]
    exact ownsRow_setCell_other (a := ⟨B, 1, none⟩) (ownsRow_setCell_other (a := ⟨B, 2, none⟩) ho hne v') hne _
  · rw [el]; omega
  · refine ⟨hg.os, hg.tape, hg.output, by simpa [World.setCell] using hsz, fun i hi h1 h2 => ?_, fun j hj => ?_⟩
    · exact (Below.heap_setCell _ ⟨B, 1, none⟩ _ i h1).trans ((Below.heap_setCell w3 ⟨B, 2, none⟩ v' i h1).trans ((hg.block i (by simp; omega) h2).trans (heap_alloc_old w _ hi)))
    · rcases ha with ha | ⟨k, ha, hk⟩
      · exact Or.inr (ha ▸ hj)
      · left
        rw [ha] at hj
        injection hj with hj
        omega
set_option maxRecDepth 100000 in
set_option maxHeartbeats 2000000 in
theorem hpush_okT {w : World} {base B : Nat} {room pd : Int} {v : Value} {es : List (Ent ByteArray)} (h : HeapAtT w base B room pd v es) (hl : (es.length : Int) < room) (hh : Hp (fn es) es.length) (p0 : 0 ≤ pd) (p1 : pd < 18446744073709551615) (rk : Int) (x : ByteArray) (hbase : base ≤ w.heap.size) :
    Calls Try.prog 68 #[.pointer (some ⟨B, 0, none⟩), .int .u64 rk, Value.string x] w fun e w' => e = .returned (.bool true) ∧ ∃ v' es', HeapAtT w' base B room (pd + 1) v' es' ∧ es'.Perm (es ++ [⟨rk, x, pd⟩]) ∧ Hp (fn es') es'.length ∧ Mv w w' B v v' := by
  obtain ⟨i0, hi, hz0, hz1, hz2⟩ := info_parts infoHT
  obtain ⟨c0, c1, c2⟩ := h.cell
  obtain ⟨ao, co, rfl⟩ := row_slice h.own
  have H := Lib.hid h; have HH := Lib.hid hh
  have hm1 := h.r1
  have hB : B < w.heap.size := (Array.getElem?_eq_some_iff.1 h.blk).1
  clear h hh
  have hw : IntKind.u64.wrap (pd + 1) = pd + 1 := by rw [IntKind.wrap_u64]; omega
  have hn : ¬ (room ≤ (es.length : Int)) := by omega
  have a1 : IntKind.i64.wrap (((es.length + 1 : Nat) : Int) - 1) = (es.length : Int) := by rw [IntKind.wrap_i64]; omega
  have a2 : (((es.length + 1 : Nat) : Int) - 1) = (es.length : Int) := by omega
  obtain ⟨u, hu⟩ : ∃ u : Obj, u = .cells #[.int .u64 rk, Value.string x, .int .u64 pd] 171 := ⟨_, rfl⟩
  have KB := Lib.hid (fun (W w3 : World) (hg' : W.grownBy w3 (Value.slice ao es.length co).ownBlock) (eh : W.heap = (w.alloc (.cells #[.int .u64 rk, Value.string x, .int .u64 pd] 171)).heap) (eo : W.os = w.os) (et : W.tape = w.tape) (ep : W.output = w.output) =>
    have hg : (w.alloc (.cells #[.int .u64 rk, Value.string x, .int .u64 pd] 171)).grownBy w3 (Value.slice ao es.length co).ownBlock := ⟨hg'.os.trans eo, hg'.tape.trans et, hg'.output.trans ep, by rw [← eh]; exact hg'.size, by rw [← eh]; exact hg'.block⟩
    have e1 : (w.alloc (.cells #[.int .u64 rk, Value.string x, .int .u64 pd] 171)).heap[B]? = some (.cells #[.int .i64 room, .int .u64 pd, .slice ao es.length co] 167 (0, 0)) := (heap_alloc_old w _ hB).trans H.out.blk
    have e2 : w3.heap[B]? = some (.cells #[.int .i64 room, .int .u64 pd, .slice ao es.length co] 167 (0, 0)) := (hg.block B (by simp; omega) (fun e => H.out.ne e.symm)).trans e1
    (⟨⟨cell_of_row w3 B 1 _ _ (0, 0) e2, cell_of_row w3 B 2 _ _ (0, 0) e2⟩, frozen_of_row w3 B 1 _ _ e2, frozen_of_row w3 B 2 _ _ e2, Lib.hid e2, Lib.hid hg⟩ : (w3.cell? ⟨B, 1, none⟩ = some (.int .u64 pd) ∧ w3.cell? ⟨B, 2, none⟩ = some (.slice ao es.length co)) ∧ w3.frozen? ⟨B, 1, none⟩ = false ∧ w3.frozen? ⟨B, 2, none⟩ = false ∧ Hid (w3.heap[B]? = some (.cells #[.int .i64 room, .int .u64 pd, .slice ao es.length co] 167 (0, 0))) ∧ Hid ((w.alloc (.cells #[.int .u64 rk, Value.string x, .int .u64 pd] 171)).grownBy w3 (Value.slice ao es.length co).ownBlock)))
  have OE := Lib.hid (fun (W : World) (eh : W.heap = (w.alloc (.cells #[.int .u64 rk, Value.string x, .int .u64 pd] 171)).heap) => show W.ownsRow base 171 3 (.slice ao es.length co) es.length (hrowT es) by
    have ho := H.out.own.alloc (.cells #[.int .u64 rk, Value.string x, .int .u64 pd] 171)
    unfold World.ownsRow at ho ⊢
    rw [eh]; exact ho)
  have NW := Lib.hid (fun (W : World) (eh : W.heap = (w.alloc (.cells #[.int .u64 rk, Value.string x, .int .u64 pd] 171)).heap) => World.news_of_block (w := W) (B := w.heap.size) (by rw [eh]; exact heap_alloc_new w _))
  have OC := Lib.hid (show ∀ y ∈ ([.int .u64 rk, Value.string x, .int .u64 pd] : List Value), y.oneCell' = true from fun y hy => by simp at hy; rcases hy with rfl | rfl | rfl <;> rfl)
  have KC := Lib.hid (fun (o : Obj) => show (w.alloc o).cell? ⟨B, 1, none⟩ = some (.int .u64 pd) ∧ (w.alloc o).cell? ⟨B, 2, none⟩ = some (.slice ao es.length co) from ⟨(World.cell?_alloc_lt w o _ (World.block_lt_of_cell? w _ c1)).trans c1, (World.cell?_alloc_lt w o _ (World.block_lt_of_cell? w _ c2)).trans c2⟩)
  have m63 : es.length + 1 ≤ maxLen := by unfold maxLen; omega
  have mby : (es.length + 1) * 32 ≤ 140737488355328 := by omega
  have mba : base ≤ w.heap.size + 1 := by omega
  clear hu
  go_enter Try.func68, Try.ntmps68
  go_wp2
  go_quiet (fail)
  go_wp2
  go_region_law
    ((refine step_append_lies _ (by rfl) _ _ 165 (by rfl) base 171 i0 (.agg #[.int .u64 0, Value.string ⟨#[]⟩, .int .u64 0]) 3 32 Try.underlying165 hi hz0 hz1 hz2 (by rfl) (by decide) (.slice ao es.length co) es.length (hrowT es) (by rfl) (OE.out _ rfl) ⟨w.heap.size, 0, none⟩ 1 1 [.int .u64 rk, Value.string x, .int .u64 pd] (by rfl) (by rfl) (NW.out _ rfl) OC.out (by decide) m63 mby (by simp; omega) _ rfl ?_; intro g cap w3 hown3 hgrow3 hat3 hlt3; obtain ⟨⟨d1, d2⟩, d3, d4, HB3, HG3⟩ := KB.out _ w3 hgrow3 rfl rfl rfl rfl))
  all_goals
    have FIN := Lib.hid (H.out.grown rk x w3 (.slice (some ⟨g, 0, none⟩) (es.length + 1) cap) hown3 HG3.out HB3.out (by
      rcases hat3 with e | e
      · exact Or.inl e.symm
      · exact Or.inr ⟨g, rfl, by rw [e]; simp⟩) hl)
    clear hown3 hgrow3 hat3 hlt3 HG3 HB3 KB OE NW OC KC
    have RS := Lib.hid (hriseT FIN.out.1 es.length (by simp) (by rw [List.length_append]; exact HpUp.push HH.out (fn_push es _).1))
    go_wp2_with (go_at_call 100; refine RS.out.mono ?_; rintro e w4 ⟨rfl, es4, h4, h5, h6, h7⟩)
    go_ret
    exact ⟨rfl, _, es4, h4, h5, h6, FIN.out.2.trans h7⟩
end Go.Proofs.Ytkgiaijcgblpbaa
