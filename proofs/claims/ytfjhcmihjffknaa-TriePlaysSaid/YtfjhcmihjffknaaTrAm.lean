/-
  Package trie: each and All: the prefixes of a tree, in order. No condition but that New made the table.
-/
import Derived.Test.YtfjhcmihjffknaaTrAl
namespace Go.Proofs.Ytfjhcmihjffknaa
set_option linter.unusedVariables false
set_option linter.unusedSimpArgs false
open Go.ChangeShapes Go.WideShapes Go.ChangeAt Go.RowKit
attribute [local go_sem] alloc_drewN setCell_drewN

theorem ix_0 (vl vr : Value) (w : World) : (Instr.index 124 (.agg #[vl, vr]) (.int .i64 0)).run Try.prog w = .ok vl w := by
  have z1 := Try.sizeOf122
  simp [Instr.index, run_underlying Try.underlying124, asIntOf, go_sem, part, z1]
theorem ix_1 (vl vr : Value) (w : World) : (Instr.index 124 (.agg #[vl, vr]) (.int .i64 1)).run Try.prog w = .ok vr w := by
  have z1 := Try.sizeOf122
  simp [Instr.index, run_underlying Try.underlying124, asIntOf, go_sem, part, z1]
attribute [local go_sem] ix_0 ix_1
def EachT (V0 : World) (v : Value) (l : List (Int × Int × Int)) : Prop := ∀ V es, Gat V0 V es → es.length + l.length ≤ 100000 →
    Calls Try.prog 68 #[v, .func (.func 69) #[] #[.pointer (some ⟨V0.heap.size, 0, none⟩)]] V fun e V' => e = .returned (.tuple #[]) ∧ Gat V0 V' (es ++ l)
set_option maxRecDepth 100000 in
set_option maxHeartbeats 2000000 in
theorem each_nil (V0 : World) : EachT V0 (.pointer none) [] := by
  intro V es hg hl
  have HG := Lib.hid hg
  clear hg
  go_enter Try.func68, Try.ntmps68
  go_wp2
  refine bodyPost_ret (results_none rfl _ _ _) rfl ?_
  exact ⟨rfl, by rw [List.append_nil]; exact HG.out⟩
section
variable {V0 : World} {B : Nat} {b m x : Int} {vl vr : Value} {tl tr : List (Int × Int × Int)}
set_option maxRecDepth 100000 in
set_option maxHeartbeats 4000000 in
theorem each_true (hN : NodeAt V0 B b m true x vl vr) (hEL : EachT V0 vl tl) (hER : EachT V0 vr tr) : EachT V0 (.pointer (some ⟨B, 0, none⟩)) ((b, m, x) :: (tl ++ tr)) := by
  intro V es hg hl
  have EL := Lib.hid hEL; have ER := Lib.hid hER
  have HG := Lib.hid hg
  have NB := Lib.hid (fun W es (h : Gat V0 W es) => (show NodeAt W B b m true x vl vr from (by obtain ⟨-, -, -, h3⟩ := h; exact hN.below h3)).cell)
  obtain ⟨c0, c1, c2, c3, c4, c5⟩ := NB.out V es hg
  have HF := Lib.hid (gat_fn hg (by omega) b m x)
  have LEN := Lib.hid (show (es ++ [(b, m, x)]).length + tl.length + tr.length ≤ 100000 by simp at hl ⊢; omega)
  clear hg hEL hER hN hl
  go_enter Try.func68, Try.ntmps68
  go_wp2_with fail
  refine HF.out.mono ?_
  rintro e W1 ⟨rfl, g1⟩
  have G1 := Lib.hid g1
  clear c0 c1 c2 c3 c4 c5
  obtain ⟨c0, c1, c2, c3, c4, c5⟩ := NB.out _ _ g1
  clear g1 HF
  go_wp2_with fail
  go_loopw [22, 5] (fun z _ wr => (z = .int .i64 0 ∧ Hid (Gat V0 wr (es ++ [(b, m, x)]))) ∨ (z = .int .i64 1 ∧ Hid (Gat V0 wr ((es ++ [(b, m, x)]) ++ tl))) ∨ (z = .int .i64 2 ∧ Hid (Gat V0 wr ((es ++ [(b, m, x)]) ++ (tl ++ tr))))) (fun z _ _ => 2 - (intOf z).toNat)
  case atStart => exact Or.inl ⟨rfl, G1⟩
  case round =>
    rcases hrel with ⟨rfl, HG⟩ | ⟨rfl, HG⟩ | ⟨rfl, HG⟩
    · have HC := Lib.hid (EL.out _ _ HG.out (by have := LEN.out; omega))
      go_wp2_with fail
      refine HC.out.mono ?_
      rintro e W3 ⟨rfl, g3⟩
      have G3 := Lib.hid g3
      clear g3 HC
      go_wp2
      go_roundw
      case rel => exact Or.inr (Or.inl ⟨by go_num, G3⟩)
      case measure => simp [intOf] <;> omega
    · have HC := Lib.hid (ER.out _ _ HG.out (by have := LEN.out; rw [List.length_append]; omega))
      go_wp2_with fail
      refine HC.out.mono ?_
      rintro e W3 ⟨rfl, g3⟩
      have G3 : Hid (Gat V0 W3 ((es ++ [(b, m, x)]) ++ (tl ++ tr))) := Lib.hid (by rw [← List.append_assoc]; exact g3)
      clear g3 HC
      go_wp2
      go_roundw
      case rel => exact Or.inr (Or.inr ⟨by go_num, G3⟩)
      case measure => simp [intOf] <;> omega
    · go_wp2
      go_end0
      exact ⟨rfl, by have := HG.out; simpa using this⟩
set_option maxRecDepth 100000 in
set_option maxHeartbeats 4000000 in
theorem each_false (hN : NodeAt V0 B b m false x vl vr) (hEL : EachT V0 vl tl) (hER : EachT V0 vr tr) : EachT V0 (.pointer (some ⟨B, 0, none⟩)) (tl ++ tr) := by
  intro V es hg hl
  have EL := Lib.hid hEL; have ER := Lib.hid hER
  have HG := Lib.hid hg
  have NB := Lib.hid (fun W es (h : Gat V0 W es) => (show NodeAt W B b m false x vl vr from (by obtain ⟨-, -, -, h3⟩ := h; exact hN.below h3)).cell)
  obtain ⟨c0, c1, c2, c3, c4, c5⟩ := NB.out V es hg
  have LEN := Lib.hid (show es.length + tl.length + tr.length ≤ 100000 by simp at hl ⊢; omega)
  have G1 := HG
  clear hg hEL hER hN hl
  go_enter Try.func68, Try.ntmps68
  go_wp2_with fail
  go_loopw [22, 5] (fun z _ wr => (z = .int .i64 0 ∧ Hid (Gat V0 wr es)) ∨ (z = .int .i64 1 ∧ Hid (Gat V0 wr (es ++ tl))) ∨ (z = .int .i64 2 ∧ Hid (Gat V0 wr (es ++ (tl ++ tr))))) (fun z _ _ => 2 - (intOf z).toNat)
  case atStart => exact Or.inl ⟨rfl, G1⟩
  case round =>
    rcases hrel with ⟨rfl, HG⟩ | ⟨rfl, HG⟩ | ⟨rfl, HG⟩
    · have HC := Lib.hid (EL.out _ _ HG.out (by have := LEN.out; omega))
      go_wp2_with fail
      refine HC.out.mono ?_
      rintro e W3 ⟨rfl, g3⟩
      have G3 := Lib.hid g3
      clear g3 HC
      go_wp2
      go_roundw
      case rel => exact Or.inr (Or.inl ⟨by go_num, G3⟩)
      case measure => simp [intOf] <;> omega
    · have HC := Lib.hid (ER.out _ _ HG.out (by have := LEN.out; rw [List.length_append]; omega))
      go_wp2_with fail
      refine HC.out.mono ?_
      rintro e W3 ⟨rfl, g3⟩
      have G3 : Hid (Gat V0 W3 (es ++ (tl ++ tr))) := Lib.hid (by rw [← List.append_assoc]; exact g3)
      clear g3 HC
      go_wp2
      go_roundw
      case rel => exact Or.inr (Or.inr ⟨by go_num, G3⟩)
      case measure => simp [intOf] <;> omega
    · go_wp2
      go_end0
      exact ⟨rfl, HG.out⟩
end
theorem each_any {V0 : World} {base : Nat} : ∀ {t : Tr} {v : Value} {bs : List Nat}, TrAt V0 base t v bs → EachT V0 v (tlist t)
  | .nil, v, bs, h => by
    obtain ⟨rfl, -⟩ := h
    exact each_nil V0
  | .nd b m th x l r, v, bs, h => by
    obtain ⟨B, vl, vr, bl, br, rfl, -, -, -, -, h2, h3, h4, -⟩ := h
    have hl := each_any h3
    have hr := each_any h4
    cases th with
    | true =>
      have h := each_true h2 hl hr
      rw [tlist]
      simpa using h
    | false =>
      have h := each_false h2 hl hr
      rw [tlist]
      simpa using h
set_option maxRecDepth 100000 in
set_option maxHeartbeats 2000000 in
theorem all_any {w : World} {base T : Nat} {t : Tr} {cnt : Int} {bs : List Nat} (h : TabAt w base T t cnt bs) (hl : (tlist t).length ≤ 100000) :
    Calls Try.prog 37 #[.pointer (some ⟨T, 0, none⟩)] w fun e w' => ∃ v, e = .returned v ∧ (∃ B, w.heap.size ≤ B ∧ Pf32 w' B v (tlist t)) ∧ Below w.heap.size w w' := by
  have MD := Lib.hid (tmade h)
  have HT : ∃ v, TrAt w base t v bs ∧ w.heap[T]? = some (.cells #[v, .int .i64 cnt] 128 (0, 0)) := by
    obtain ⟨-, -, -, -, B, g5, g6⟩ := h
    exact ⟨_, g6, g5⟩
  obtain ⟨v, hT, g5⟩ := HT
  have G0 : Gat w (w.alloc (.cells #[.slice none 0 0] 76)) [] := ⟨_, Boxed.new w _ _, World.ownsRow_nil _ _ _ _, (Below.refl _ w).alloc (Nat.le_refl _) _⟩
  have EA := Lib.hid (each_any hT _ _ G0 (by simpa using hl))
  have TL := (Array.getElem?_eq_some_iff.1 g5).1
  obtain ⟨c0, c1, -⟩ := tab_cells g5
  clear h hT g5 G0
  go_enter Try.func37, Try.ntmps37
  go_wp2_with fail
  refine MD.out.mono ?_
  rintro e w1 ⟨rfl, rfl⟩
  clear MD
  go_wp2_with fail
  refine EA.out.mono ?_
  rintro e w3 ⟨rfl, v3, g1, g2, g3⟩
  have X1 := g1.cell
  have G2 := Lib.hid g2
  have G3 := Lib.hid g3
  clear g1 g2 g3 EA c0 c1
  go_wp2
  go_ret
  exact ⟨_, rfl, ⟨_, Nat.le_succ _, by simpa using G2.out⟩, G3.out⟩
end Go.Proofs.Ytfjhcmihjffknaa
