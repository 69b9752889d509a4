/-
  Package trie: All: the prefixes of a tree, in order, gathered by a closure. No condition but that New made the table.
-/
import Derived.Test.YtfjhcmihjffknaaTrL
import Derived.Test.YtfjhcmihjffknaaTr19
import Derived.Test.YtfjhcmihjffknaaRows
import Derived.Test.YtfjhcmihjffknaaBase
import Derived.Maps.AppendAt
import Derived.Deep.AppendLies
import Derived.Laws.AppendOwnNone
import Derived.RangeFuncBox
namespace Go.Proofs.Ytfjhcmihjffknaa
set_option linter.unusedVariables false
set_option linter.unusedSimpArgs false
open Go.ChangeShapes Go.WideShapes Go.ChangeAt Go.RowKit
attribute [local go_sem] alloc_drewN setCell_drewN

theorem infoPf32 : (Try.prog.info? 70).map (fun i => (i.zero, i.size, i.bytes)) = some (some (.agg #[.int .u32 0, .int .i64 0]), 2, 16) := by kernel_rfl
def itp32 (p : Int × Int × Int) : List Value := [.int .u32 p.1, .int .i64 p.2.1]
/-- A row of prefixes. -/
def Pf32 (w : World) (base : Nat) (v : Value) (xs : List (Int × Int × Int)) : Prop := w.ownsRow base 70 2 v xs.length (xs.flatMap itp32)
theorem Pf32.of_append {w' : World} {base : Nat} {v' : Value} {xs : List (Int × Int × Int)} {x : Int × Int × Int} (h : w'.ownsRow base 70 2 v' (xs.length + 1) (xs.flatMap itp32 ++ [.int .u32 x.1, .int .i64 x.2.1])) : Pf32 w' base v' (xs ++ [x]) := by
  unfold Pf32
  rw [List.length_append, List.flatMap_append]
  simpa [itp32] using h
theorem cells_two32 (w : World) (x y : Value) (t : TypeId) : ∀ j u, [x, y][j]? = some u → (w.alloc (.cells #[x, y] t)).cell? ((⟨w.heap.size, 0, none⟩ : Addr).add j) = some u := by
  intro j u h
  match j with
  | 0 =>
    have : x = u := by simpa using h
    subst this
    simp [go_sem, Addr.add]
  | 1 =>
    have : y = u := by simpa using h
    subst this
    simp [go_sem, Addr.add]
  | j + 2 => simp at h
/-- What the closure has gathered, in its box behind V0's end. -/
def Gat (V0 V : World) (es : List (Int × Int × Int)) : Prop := ∃ v, Boxed V V0.heap.size 76 v ∧ Pf32 V (V0.heap.size + 1) v es ∧ Below V0.heap.size V0 V
set_option maxRecDepth 100000 in
set_option maxHeartbeats 2000000 in
theorem gat_fn {V0 V : World} {es : List (Int × Int × Int)} (h : Gat V0 V es) (hl : es.length ≤ 100000) (a n x : Int) :
    Calls Try.prog 69 #[.agg #[.int .u32 a, .int .i64 n], .pointer (some ⟨V0.heap.size, 0, none⟩)] V fun e V' => e = .returned (.tuple #[]) ∧ Gat V0 V' (es ++ [(a, n, x)]) := by
  obtain ⟨i0, hi, hz0, hz1, hz2⟩ := info_parts infoPf32
  obtain ⟨v, h1, h2, h3⟩ := h
  have HB := Lib.hid h1
  have ho := h2
  have HO := Lib.hid h2
  have H3 := Lib.hid h3
  have c0 := h1.cell
  have f0 := h1.frozen
  have hs := h3.size
  have hs2 : V0.heap.size < V.heap.size := h1.lt
  unfold Pf32 at ho
  clear h1 h2 h3
  go_enter Try.func69, Try.ntmps69
  go_wp2_with (at_builtin; refine wpList_append_own _ rfl _ _ 76 rfl (V0.heap.size + 1) 70 i0 (.agg #[.int .u32 0, .int .i64 0]) 2 16 Try.underlying76 hi hz0 hz1 hz2 rfl (by decide) v _ _ rfl ((ho.alloc _).alloc _) ⟨(V.heap.size + 1), 0, none⟩ 1 1 [.int .u32 a, .int .i64 n] rfl rfl (by simpa using cells_two32 (V.alloc (.cells #[.int .u32 a, .int .i64 n] 70)) _ _ _) (fun x hx => by simp at hx; rcases hx with rfl | rfl <;> rfl) (by unfold maxLen; omega) (by omega) (by simp; omega) ?_; intro v3 w3 ho3 hg3 hn3; clear hn3; obtain ⟨g4, cap4, rfl, -, -⟩ := ho3.form (Nat.succ_pos _); have B3 := Lib.hid (((H3.out.alloc hs _).alloc (by simp; omega) _).grown hg3 (by simp; omega) (fun g hg => Nat.le_of_lt (World.ownsRow.lt HO.out g hg).1)); have X3 := Lib.hid ((((HB.out).alloc _).alloc _).kept hg3 (fun e => by have := (World.ownsRow.lt HO.out _ e.symm).1; omega)); have HO3 := Lib.hid (Pf32.of_append (x := (a, n, x)) ho3); have c3 := X3.out.cell; have f3 := X3.out.frozen; clear ho3 hg3)
  go_end0
  refine ⟨rfl, _, X3.out.set _, ?_, ?_⟩
  · exact World.ownsRow.kept HO3.out (grownBy_setCell' w3 V0.heap.size _) (Or.inr (fun hh => by have := (World.ownsRow.lt HO3.out _ hh).1; omega))
  · exact B3.out.grown (grownBy_setCell' w3 V0.heap.size _) B3.out.size (fun g hg => by injection hg with hg; omega)
end Go.Proofs.Ytfjhcmihjffknaa
