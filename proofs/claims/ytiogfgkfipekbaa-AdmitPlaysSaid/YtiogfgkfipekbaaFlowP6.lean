/-
  Package flow: a table in memory for elements of type *pacemaker/admit.data: where a number stands; an element is put. No block turns but its own. No condition but that New made it.
-/
import Derived.Test.YtiogfgkfipekbaaFlowP5
import Derived.RegionTactic
namespace Go.Proofs.Ytiogfgkfipekbaa
set_option linter.unusedVariables false
set_option linter.unusedSimpArgs false
open Go.ChangeShapes Go.WideShapes Go.ChangeAt Go.RowKit
attribute [local go_sem] alloc_drewN setCell_drewN

theorem ins_anyP {w : World} {base : Nat} {v : Value} {es : List FeP} (h : FesAtP w base v es) (hn : es.length < 100000) (hbase : base ≤ w.heap.size) (i : Nat) (hi : i ≤ es.length) (id : Int) (x : Option Addr) (vb : Nat) (hb : w.heap[vb]? = some (.cells #[.int .u32 id, Value.pointer x] 171 (0, 0))) (hne : v.ownBlock ≠ some vb) :
    Calls Try.prog 116 #[v, .int .i64 i, .slice (some ⟨vb, 0, none⟩) 1 1] w fun e w' => ∃ v', e = .returned v' ∧ InsdP w base v (es.take i ++ ⟨id, x⟩ :: es.drop i) v' w' := by
  by_cases he : i = es.length
  · subst he
    rw [List.take_length, List.drop_length]
    exact ins_endP h hn id x vb hb hbase
  · obtain ⟨g, c, rfl, _⟩ := World.ownsRow.form (show w.ownsRow base 171 2 v es.length (fesP es) from h) (by omega)
    by_cases hr : es.length + 1 ≤ c
    · exact ins_shiftP h hn i (by omega) hr id x vb hb (fun e => hne (by rw [e]; rfl))
    · exact ins_growP h hn hbase i (by omega) (by omega) id x vb hb
/-- A table. -/
structure TbAtP (w : World) (base B : Nat) (room : Int) (v : Value) (es : List FeP) : Prop where
  blk : w.heap[B]? = some (.cells #[.int .i64 room, v] 174 (0, 0))
  low : base ≤ B
  fe : FesAtP w base v es
  so : (es.map FeP.id).Pairwise (· < ·)
  r0 : 1 ≤ room
  r1 : room ≤ 4096
  le : (es.length : Int) ≤ room
section
variable {w : World} {base B : Nat} {room : Int} {v : Value} {es : List FeP}
theorem TbAtP.cell (h : TbAtP w base B room v es) : w.cell? ⟨B, 0, none⟩ = some (.int .i64 room) ∧ w.cell? ⟨B, 1, none⟩ = some v ∧ w.frozen? ⟨B, 1, none⟩ = false :=
  ⟨cell_of_row w B 0 _ _ (0, 0) h.blk, cell_of_row w B 1 _ _ (0, 0) h.blk, frozen_of_row w B 1 _ _ h.blk⟩
theorem TbAtP.inlt (h : TbAtP w base B room v es) {j : Nat} (hj : inTb B v j) : base ≤ j ∧ j < w.heap.size := by
  rcases hj with rfl | hj
  · exact ⟨h.low, (Array.getElem?_eq_some_iff.1 h.blk).1⟩
  · exact World.ownsRow.lt (show w.ownsRow base 171 2 v es.length (fesP es) from h.fe) j hj
theorem fown_keepP {w w' : World} {base : Nat} {v : Value} {es : List FeP} (h : FesAtP w base v es) (hk : ∀ j, v.ownBlock = some j → w'.heap[j]? = w.heap[j]?) : FesAtP w' base v es := by
  rcases h with ⟨h1, h2⟩
  refine ⟨h1, ?_⟩
  rcases h2 with ⟨rfl, h0⟩ | ⟨g, cap, cur, rfl, hb, hg, rest⟩
  · exact Or.inl ⟨rfl, h0⟩
  · exact Or.inr ⟨g, cap, cur, rfl, hb, (hk g rfl).trans hg, rest⟩
theorem TbAtP.keep {w' : World} (h : TbAtP w base B room v es) (hk : ∀ j, inTb B v j → w'.heap[j]? = w.heap[j]?) : TbAtP w' base B room v es :=
  ⟨(hk B (Or.inl rfl)).trans h.blk, h.low, fown_keepP h.fe (fun j hj => hk j (Or.inr hj)), h.so, h.r0, h.r1, h.le⟩
theorem TbAtP.below {w' : World} (h : TbAtP w base B room v es) (hb : Below w.heap.size w w') : TbAtP w' base B room v es := h.keep (fun j hj => hb.block j (h.inlt hj).2)
theorem TbAtP.ne (h : TbAtP w base B room v es) : v.ownBlock ≠ some B := own_ne_blk (show w.ownsRow base 171 2 v es.length (fesP es) from h.fe) h.blk (by decide)
/-- Other entries stand now, and the table knows of them. -/
theorem TbAtP.swap (h : TbAtP w base B room v es) (es' : List FeP) (v' : Value) (w1 w3 : World) (hb1 : Below w.heap.size w w1) (hi : InsdP w1 base v es' v' w3) (hs : (es'.map FeP.id).Pairwise (· < ·)) (hl : (es'.length : Int) ≤ room) :
    TbAtP (w3.setCell ⟨B, 1, none⟩ v') base B room v' es' ∧ MvS w (w3.setCell ⟨B, 1, none⟩ v') (inTb B v) (inTb B v') := by
  obtain ⟨hf, hg, ha⟩ := hi
  have hB := h.inlt (Or.inl rfl)
  have hb : w3.heap[B]? = some (.cells #[.int .i64 room, v] 174 (0, 0)) := (hg.block B (Nat.lt_of_lt_of_le hB.2 hb1.size) (fun e => h.ne e.symm)).trans ((hb1.block B hB.2).trans h.blk)
  have hne : v'.ownBlock ≠ some B := own_ne_blk (show w3.ownsRow base 171 2 v' es'.length (fesP es') from hf) hb (by decide)
  have hh : ∀ j, j ≠ B → (w3.setCell ⟨B, 1, none⟩ v').heap[j]? = w3.heap[j]? := fun j hj => Below.heap_setCell w3 ⟨B, 1, none⟩ v' j hj
  refine ⟨⟨by simpa using heap_set hb 1 v', h.low, fown_keepP hf (fun j hj => hh j (fun e => hne (e ▸ hj))), hs, h.r0, h.r1, hl⟩, ⟨hg.os.trans hb1.os, hg.tape.trans hb1.tape, hg.output.trans hb1.output, by simpa [World.setCell] using Nat.le_trans hb1.size hg.size, fun j hj hS => ?_, fun j hj => ?_⟩⟩
  · exact (hh j (fun e => hS (Or.inl e))).trans ((hg.block j (Nat.lt_of_lt_of_le hj hb1.size) (fun e => hS (Or.inr e.symm))).trans (hb1.block j hj))
  · rcases hj with hj | hj
    · exact Or.inr (Or.inl hj)
    · rcases ha with e | ⟨g, e, hgl⟩
      · exact Or.inr (Or.inr (e ▸ hj))
      · left
        rw [e] at hj
        injection hj with hj
        rw [← hj]
        exact Nat.le_trans hb1.size hgl
theorem tmadeP (h : TbAtP w base B room v es) : Calls Try.prog 115 #[.pointer (some ⟨B, 0, none⟩)] w fun e w' => e = .returned (.bool true) ∧ w' = w := by
  obtain ⟨c0, c1, -⟩ := h.cell
  have hm : 0 < room := by have := h.r0; omega
  clear h
  go_enter Try.func115, Try.ntmps115
  go_wp2
  go_ret
  exact ⟨rfl, rfl⟩
theorem tfindP (h : TbAtP w base B room v es) (id : Int) : Calls Try.prog 93 #[.pointer (some ⟨B, 0, none⟩), .int .u32 id] w fun e w' => e = .returned (.tuple #[.int .i64 (lessC (es.map FeP.id) id : Nat), .bool (isF (es.map FeP.id) id)]) ∧ Below w.heap.size w w' := by
  have BS := Lib.hid (bsfP h.fe h.so (by have := h.r1; have := h.le; omega) id)
  obtain ⟨c0, c1, -⟩ := h.cell
  clear h
  generalize lessC (es.map FeP.id) id = k at *
  generalize isF (es.map FeP.id) id = b at *
  go_enter Try.func93, Try.ntmps93
  go_wp2_with fail
  refine BS.out.mono ?_
  rintro e w' ⟨rfl, hb⟩
  have HB := Lib.hid hb
  clear hb
  go_wp2
  go_ret2
  exact ⟨rfl, HB.out⟩
theorem tnewP (room : Int) (r0 : 1 ≤ room) (r1 : room ≤ 4096) (w : World) : Calls Try.prog 91 #[.int .i64 room] w fun e w' => e = .returned (.tuple #[.pointer (some ⟨w.heap.size, 0, none⟩), .int .i64 0]) ∧ TbAtP w' w.heap.size w.heap.size room (.slice none 0 0) [] ∧ Below w.heap.size w w' := by
  have q1 : ¬ room < 1 := by omega
  have q2 : ¬ 4096 < room := by omega
  have R := Lib.hid (show TbAtP (w.alloc (.cells #[.int .i64 room, .slice none 0 0] 174)) w.heap.size w.heap.size room (.slice none 0 0) [] from ⟨heap_alloc_new w _, Nat.le_refl _, World.ownsRow_nil _ _ _ _, List.Pairwise.nil, r0, r1, by simp; omega⟩)
  go_enter Try.func91, Try.ntmps91
  go_wp2
  go_ret2
  exact ⟨rfl, R.out, (Below.refl _ w).alloc (Nat.le_refl _) _⟩
end
end Go.Proofs.Ytiogfgkfipekbaa
