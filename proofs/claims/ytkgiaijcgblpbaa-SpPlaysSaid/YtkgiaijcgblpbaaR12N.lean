/-
  The answer of layer 12: New. No condition.
-/
import Derived.Test.YtkgiaijcgblpbaaR12P
namespace Go.Proofs.Ytkgiaijcgblpbaa
set_option linter.unusedVariables false
set_option linter.unusedSimpArgs false
open Go.ChangeShapes Go.WideShapes Go.ChangeAt Go.RowKit
attribute [local go_sem] alloc_drewN setCell_drewN

theorem infoIL : (Try.prog.info? 58).map (fun i => (i.zero, i.size, i.bytes)) = some (some (.slice none 0 0), 1, 24) := by kernel_rfl
/-- Half made. -/
structure Half12 (w0 w : World) (M : Nat) (room : Int) (ub ul : Value) (k1 k2 : Nat) : Prop where
  blk : w.heap[M]? = some (.cells #[.int .i64 room, ub, ul] 150 (0, 0))
  low : w0.heap.size ≤ M
  ob : w.ownsRow w0.heap.size 48 1 ub k1 (List.replicate k1 (Value.int .u64 0))
  ol : w.ownsRow w0.heap.size 58 1 ul k2 (List.replicate k2 (Value.slice none 0 0))
  b : Below w0.heap.size w0 w
theorem Half12.one {w0 w w4 : World} {M : Nat} {room : Int} {ub ul v' : Value} {k1 k2 : Nat} (h : Half12 w0 w M room ub ul k1 k2) (o : Obj) (hg : (w.alloc o).grownBy w4 ub.ownBlock) (ho : w4.ownsRow w0.heap.size 48 1 v' (k1 + 1) (List.replicate k1 (Value.int .u64 0) ++ [.int .u64 0])) (hat : v'.ownBlock = ub.ownBlock ∨ v'.ownBlock = some (w.alloc o).heap.size) :
    Half12 w0 (w4.setCell ⟨M, 1, none⟩ v') M room v' ul (k1 + 1) k2 := by
  have hMlt : M < w.heap.size := (Array.getElem?_eq_some_iff.1 h.blk).1
  have ho' : w4.ownsRow w0.heap.size 48 1 v' (k1 + 1) (List.replicate (k1 + 1) (Value.int .u64 0)) := by rw [List.replicate_succ']; exact ho
  have hbl : ∀ j, j < w.heap.size → ub.ownBlock ≠ some j → w4.heap[j]? = w.heap[j]? := fun j hj hn => (hg.block j (by simp; omega) (fun e => hn e.symm)).trans (((Below.refl _ w).alloc (Nat.le_refl _) o).block j hj)
  have hMne : ub.ownBlock ≠ some M := own_ne_blk h.ob h.blk (by decide)
  have hM4 := (hbl M hMlt hMne).trans h.blk
  have hMv : v'.ownBlock ≠ some M := own_ne_blk ho' hM4 (by decide)
  have hMl : ul.ownBlock ≠ some M := own_ne_blk h.ol h.blk (by decide)
  refine ⟨?_, h.low, ownsRow_setCell_other (a := ⟨M, 1, none⟩) ho' hMv v', ownsRow_setCell_other (a := ⟨M, 1, none⟩) (own_onSI h.ol (fun j hj => hbl j (World.ownsRow.lt h.ol j hj).2 (fun e => ?_))) hMl v', ?_⟩
  · have e := heap_set hM4 1 v'
    simpa using e
  · rcases row_apart h.ob h.ol (by decide) with h3 | h3
    · rw [h3] at e; cases e
    · exact h3 (by rw [hj, e])
  · exact below_set ((h.b.alloc h.b.size o).grown hg (by have := h.b.size; simp; omega) (fun j hj => (World.ownsRow.lt h.ob j hj).1)) h.low
theorem Half12.two {w0 w w4 : World} {M : Nat} {room : Int} {ub ul v' : Value} {k1 k2 : Nat} (h : Half12 w0 w M room ub ul k1 k2) (o : Obj) (hg : (w.alloc o).grownBy w4 ul.ownBlock) (ho : w4.ownsRow w0.heap.size 58 1 v' (k2 + 1) (List.replicate k2 (Value.slice none 0 0) ++ [.slice none 0 0])) :
    Half12 w0 (w4.setCell ⟨M, 2, none⟩ v') M room ub v' k1 (k2 + 1) := by
  have hMlt : M < w.heap.size := (Array.getElem?_eq_some_iff.1 h.blk).1
  have ho' : w4.ownsRow w0.heap.size 58 1 v' (k2 + 1) (List.replicate (k2 + 1) (Value.slice none 0 0)) := by rw [List.replicate_succ']; exact ho
  have hbl : ∀ j, j < w.heap.size → ul.ownBlock ≠ some j → w4.heap[j]? = w.heap[j]? := fun j hj hn => (hg.block j (by simp; omega) (fun e => hn e.symm)).trans (((Below.refl _ w).alloc (Nat.le_refl _) o).block j hj)
  have hMne : ul.ownBlock ≠ some M := own_ne_blk h.ol h.blk (by decide)
  have hM4 := (hbl M hMlt hMne).trans h.blk
  have hMv : v'.ownBlock ≠ some M := own_ne_blk ho' hM4 (by decide)
  have hMl : ub.ownBlock ≠ some M := own_ne_blk h.ob h.blk (by decide)
  refine ⟨?_, h.low, ownsRow_setCell_other (a := ⟨M, 2, none⟩) (own_onSI h.ob (fun j hj => hbl j (World.ownsRow.lt h.ob j hj).2 (fun e => ?_))) hMl v', ownsRow_setCell_other (a := ⟨M, 2, none⟩) ho' hMv v', ?_⟩
  · have e := heap_set hM4 2 v'
    simpa using e
  · rcases row_apart h.ol h.ob (by decide) with h3 | h3
    · rw [h3] at e; cases e
    · exact h3 (by rw [hj, e])
  · exact below_set ((h.b.alloc h.b.size o).grown hg (by have := h.b.size; simp; omega) (fun j hj => (World.ownsRow.lt h.ol j hj).1)) h.low
theorem Half12.far {w0 w w4 : World} {M : Nat} {room : Int} {ub ul : Value} {k1 k2 : Nat} (h : Half12 w0 w M room ub ul k1 k2) (o : Obj) {row : Option Nat} (hg : (w.alloc o).grownBy w4 row) (hr : row ≠ some M) : w4.heap[M]? = some (.cells #[.int .i64 room, ub, ul] 150 (0, 0)) := by
  have hMlt : M < w.heap.size := (Array.getElem?_eq_some_iff.1 h.blk).1
  exact ((hg.block M (by simp; omega) (fun e => hr e.symm)).trans (((Below.refl _ w).alloc (Nat.le_refl _) o).block M hMlt)).trans h.blk
theorem cells_set12 (w : World) (M : Nat) (a : Option Addr) (n c : Nat) (t : TypeId) : ∀ j u, [Value.slice none 0 0][j]? = some u → ((w.setCell ⟨M, 1, none⟩ (.slice a n c)).alloc (.cells #[.slice none 0 0] t)).cell? ((⟨w.heap.size, 0, none⟩ : Addr).add j) = some u := by
  have h := cells_oneSI (w.setCell ⟨M, 1, none⟩ (.slice a n c)) (.slice none 0 0) t
  rw [show (w.setCell ⟨M, 1, none⟩ (.slice a n c)).heap.size = w.heap.size by simp [World.setCell]] at h
  exact h
theorem sl12_rep (n : Nat) : sl12 (List.replicate n []) = 0 := by
  unfold sl12
  simp
set_option maxRecDepth 100000 in
set_option maxHeartbeats 2000000 in
theorem new12 (room : Int) (n : Nat) (n0 : 1 ≤ n) (n1 : n ≤ 32) (w : World) :
    Calls Try.prog 42 #[.int .i64 room, .int .i64 n] w fun e w' => ∃ M, e = .returned (.pointer (some ⟨M, 0, none⟩)) ∧ Below w.heap.size w w' ∧ w.heap.size ≤ M ∧ ∃ ub ul vs, R12 w' w.heap.size M room ub ul (List.replicate n 0) vs (List.replicate n []) := by
  obtain ⟨i0, hi, hz0, hz1, hz2⟩ := info_parts sinfoBI
  obtain ⟨j0, hj, hy0, hy1, hy2⟩ := info_parts infoIL
  have H1 : Hid (Half12 w (w.alloc (.cells #[.int .i64 room, .slice none 0 0, .slice none 0 0] 150)) w.heap.size room (.slice none 0 0) (.slice none 0 0) 0 0) := Lib.hid ⟨heap_alloc_new w _, Nat.le_refl _, World.ownsRow_nil _ _ _ _, World.ownsRow_nil _ _ _ _, (Below.refl _ w).alloc (Nat.le_refl _) _⟩
  go_enter Try.func42, Try.ntmps42
  go_wp2
  generalize w.heap.size = M at *
  go_loopw [6] (fun x wr => ∃ (i : Nat) (ub ul : Value), i ≤ n ∧ x = .int .i64 i ∧ Half12 w wr M room ub ul i i) (fun x _ => n - (intOf x).toNat)
  case atStart => exact ⟨0, _, _, Nat.zero_le _, rfl, H1.out⟩
  case round =>
    clear H1
    obtain ⟨i, ub, ul, him, rfl, hH⟩ := hrel
    by_cases hlt : i < n
    · have HH := Lib.hid hH
      have i1 : (i : Int) < n := by omega
      have c1 := cell_of_row wr M 1 _ _ (0, 0) hH.blk
      have f1 := frozen_of_row wr M 1 _ _ hH.blk
      have hs := Lib.hid hH.b.size
      have c2 := cell_of_row wr M 2 _ _ (0, 0) hH.blk
      have hn1 : Hid (ub.ownBlock ≠ some M) := Lib.hid (own_ne_blk hH.ob hH.blk (by decide))
      have hn2 : Hid (ul.ownBlock ≠ some M) := Lib.hid (own_ne_blk hH.ol hH.blk (by decide))
      clear hH
      go_wp2_with (first
        | (at_builtin; refine wpList_append_own_at _ rfl _ _ 82 rfl w.heap.size 48 i0 (.int .u64 0) 1 8 Try.underlying82 hi hz0 hz1 hz2 rfl (by decide) ub _ _ rfl (World.ownsRow.alloc HH.out.ob _) ⟨wr.heap.size, 0, none⟩ 1 1 [.int .u64 0] rfl rfl (cells_oneSI _ _ _) (fun x hx => by simp at hx; subst hx; rfl) (by unfold maxLen; omega) (by omega) (by have := hs.out; simp; omega) ?_; intro v3 w3 ho3 hg3 hn3 hat3; clear hn3; obtain ⟨a3, c3, hv3⟩ := row_slice ho3; subst hv3; have H3 := Lib.hid (HH.out.one _ hg3 ho3 hat3); have e3 := HH.out.far _ hg3 hn1.out; have d1 := cell_of_row w3 M 1 _ _ (0, 0) e3; have f3 := frozen_of_row w3 M 1 _ _ e3; have d2 := cell_of_row w3 M 2 _ _ (0, 0) e3; have d4 := cell_of_row _ M 2 _ _ (0, 0) H3.out.blk; clear e3 ho3 hg3 hat3; have hs3 := Lib.hid H3.out.b.size; have NC := Lib.hid (cells_set12 w3 M a3 (i + 1) c3))
        | (at_builtin; refine wpList_append_own_at _ rfl _ _ 92 rfl w.heap.size 58 j0 (.slice none 0 0) 1 24 Try.underlying92 hj hy0 hy1 hy2 rfl (by decide) ul _ _ rfl (World.ownsRow.alloc H3.out.ol _) ⟨w3.heap.size, 0, none⟩ 1 1 [.slice none 0 0] rfl rfl (NC.out _) (fun x hx => by simp at hx; subst hx; rfl) (by unfold maxLen; omega) (by omega) (by have := hs3.out; simp at this ⊢; omega) ?_; intro v5 w5 ho5 hg5 hn5 hat5; clear hn5 hat5; obtain ⟨a5, c5, hv5⟩ := row_slice ho5; subst hv5; have H5 := Lib.hid (H3.out.two _ hg5 ho5); have e5 := H3.out.far _ hg5 hn2.out; have d5 := cell_of_row w5 M 2 _ _ (0, 0) e5; have f5 := frozen_of_row w5 M 2 _ _ e5; clear e5 ho5 hg5)
        | fail)
      go_roundw
      case rel => exact ⟨i + 1, _, _, by omega, by go_num, H5.out⟩
      case measure => simp [intOf] <;> omega
    · obtain rfl : i = n := by omega
      have HH := Lib.hid hH
      clear hH
      go_wp2
      go_ret
      refine ⟨M, rfl, HH.out.b, HH.out.low, ub, ul, List.replicate i (.slice none 0 0), HH.out.blk, HH.out.low, ?_, ?_, fun j hj => ?_, ?_, ?_, ?_, ?_, ?_⟩
      · rw [List.length_replicate, List.map_replicate]; exact HH.out.ob
      · rw [List.length_replicate]; exact HH.out.ol
      · rw [List.getElem_replicate]
        have e : (List.replicate i ([] : List (Int × Int))).getD j [] = [] := by
          rw [List.getD_eq_getElem?_getD, List.getElem?_replicate]
          split <;> rfl
        rw [e]
        exact Its.nil _ _
      · rw [List.length_replicate, List.length_replicate]
      · rw [List.length_replicate, List.length_replicate]
      · rw [List.length_replicate]; exact n0
      · rw [List.length_replicate]; exact n1
      · rw [sl12_rep]; omega
end Go.Proofs.Ytkgiaijcgblpbaa
