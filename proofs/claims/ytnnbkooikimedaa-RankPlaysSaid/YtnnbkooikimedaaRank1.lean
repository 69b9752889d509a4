/-
  Package rank: ranks in memory; a flow's place; what is asked. No block turns but its own. No condition but that New made them.
-/
import Derived.Test.YtnnbkooikimedaaBase
import Derived.Test.YtnnbkooikimedaaPoolMath
import Derived.Test.YtnnbkooikimedaaOpen16
import Derived.Test.YtnnbkooikimedaaSat
import Derived.Test.YtnnbkooikimedaaShelf
import Derived.Shelf.SlicesQ.IndexFunc
import Derived.Lib.SliceRun
import Derived.Outline
namespace Go.Proofs.Ytnnbkooikimedaa
set_option linter.unusedVariables false
set_option linter.unusedSimpArgs false
open Go.ChangeShapes Go.WideShapes Go.ChangeAt Go.RowKit
attribute [local go_sem] alloc_drewN setCell_drewN

/-- What is kept of a flow: its number, cost, budget, tag. -/
structure Rf where
  id : Int
  co : Int
  bu : Int
  tg : Int
def Rf.cells (e : Rf) : List Value := [.int .u32 e.id, .int .u64 e.co, .int .u64 e.bu, .int .u64 e.tg]
/-- Its tag another one. -/
def Rf.wt (e : Rf) (t : Int) : Rf := ⟨e.id, e.co, e.bu, t⟩
def Rf.nil : Rf := ⟨0, 0, 0, 0⟩
instance : Inhabited Rf := ⟨Rf.nil⟩
def Rf.ok (e : Rf) : Prop := (0 ≤ e.co ∧ e.co ≤ 18446744073709551615) ∧ (0 ≤ e.bu ∧ e.bu ≤ 18446744073709551615) ∧ (0 ≤ e.tg ∧ e.tg ≤ 18446744073709551615)
def rfs (es : List Rf) : List Value := es.flatMap Rf.cells
theorem rfs_len (es : List Rf) : (rfs es).length = es.length * 4 := by
  induction es with
  | nil => rfl
  | cons e es ih =>
    show (Rf.cells e ++ rfs es).length = _
    rw [List.length_append, ih, List.length_cons]
    show 4 + _ = _
    omega
theorem rfs_at (es : List Rf) (h i : Nat) (hh : h < es.length) (hi : i < 4) : (rfs es)[h * 4 + i]? = (es[h]).cells[i]? := by
  induction es generalizing h with
  | nil => exact absurd hh (Nat.not_lt_zero _)
  | cons e es ih =>
    show (Rf.cells e ++ rfs es)[h * 4 + i]? = _
    cases h with
    | zero => rw [Nat.zero_mul, Nat.zero_add, List.getElem?_append_left (by simpa [Rf.cells] using hi)]; rfl
    | succ h =>
      rw [List.getElem?_append_right (by simp [Rf.cells]; omega)]
      have e4 : (h + 1) * 4 + i - (Rf.cells e).length = h * 4 + i := by simp [Rf.cells]; omega
      rw [e4, ih h (by simpa using hh)]; rfl
theorem rf_getD (es : List Rf) (i : Nat) (hi : i < es.length) : es.getD i Rf.nil = es[i] := by
  rw [List.getD_eq_getElem?_getD, List.getElem?_eq_getElem hi]; rfl
theorem rfs_setTag (es : List Rf) (h : Nat) (t : Int) (hh : h < es.length) : (rfs es).set (h * 4 + 3) (.int .u64 t) = rfs (es.set h ((es.getD h Rf.nil).wt t)) := by
  apply List.ext_getElem?
  intro j
  rcases Nat.lt_or_ge j (es.length * 4) with hj | hj
  · obtain ⟨q, r, rfl, hr⟩ : ∃ q r, j = q * 4 + r ∧ r < 4 := ⟨j / 4, j % 4, by omega, Nat.mod_lt _ (by omega)⟩
    have hq : q < es.length := by omega
    rw [rfs_at (es.set h _) q r (by rw [List.length_set]; exact hq) hr, rf_getD es h hh]
    by_cases hqh : h = q
    · subst hqh
      have hL := rfs_len es
      simp only [List.getElem?_set, List.length_set, hL, List.getElem_set_self]
      match r, hr with
      | 0, _ => rw [if_neg (by omega), rfs_at es h 0 hh (by omega)]; rfl
      | 1, _ => rw [if_neg (by omega), rfs_at es h 1 hh (by omega)]; rfl
      | 2, _ => rw [if_neg (by omega), rfs_at es h 2 hh (by omega)]; rfl
      | 3, _ => rw [if_pos rfl, if_pos (by omega)]; rfl
    · rw [List.getElem?_set_ne (by omega), rfs_at es q r hq hr, List.getElem_set_ne hqh]
  · rw [List.getElem?_eq_none (by simp [rfs_len]; omega), List.getElem?_eq_none (by simp [rfs_len]; omega)]
/-- Ranks: of what kind, the virtual time, the flows. -/
structure RanksAt (w : World) (base B : Nat) (kind virt : Int) (ve : Value) (es : List Rf) : Prop where
  blk : w.heap[B]? = some (.cells #[.int .i64 kind, .int .u64 virt, ve] 213 (0, 0))
  low : base ≤ B
  oe : w.ownsRow base 217 4 ve es.length (rfs es)
  wd : ∀ e ∈ es, e.ok
  vt : 0 ≤ virt ∧ virt ≤ 18446744073709551615
  ml : es.length ≤ 64
def inRa (B : Nat) (ve : Value) (j : Nat) : Prop := j = B ∨ ve.ownBlock = some j
section
variable {w : World} {base B : Nat} {kind virt : Int} {ve : Value} {es : List Rf}
theorem RanksAt.cell (h : RanksAt w base B kind virt ve es) : w.cell? ⟨B, 0, none⟩ = some (.int .i64 kind) ∧ w.cell? ⟨B, 1, none⟩ = some (.int .u64 virt) ∧ w.cell? ⟨B, 2, none⟩ = some ve ∧ w.frozen? ⟨B, 1, none⟩ = false ∧ w.frozen? ⟨B, 2, none⟩ = false :=
  ⟨cell_of_row w B 0 _ _ (0, 0) h.blk, cell_of_row w B 1 _ _ (0, 0) h.blk, cell_of_row w B 2 _ _ (0, 0) h.blk, frozen_of_row w B 1 _ _ h.blk, frozen_of_row w B 2 _ _ h.blk⟩
theorem RanksAt.inlt (h : RanksAt w base B kind virt ve es) {j : Nat} (hj : inRa B ve j) : base ≤ j ∧ j < w.heap.size := by
  rcases hj with rfl | hj
  · exact ⟨h.low, (Array.getElem?_eq_some_iff.1 h.blk).1⟩
  · exact World.ownsRow.lt h.oe j hj
theorem own_keep {w w' : World} {base : Nat} {e : TypeId} {size n : Nat} {v : Value} {xs : List Value} (h : w.ownsRow base e size v n xs) (hk : ∀ j, v.ownBlock = some j → w'.heap[j]? = w.heap[j]?) : w'.ownsRow base e size v n xs := by
  rcases h with ⟨h1, h2⟩
  refine ⟨h1, ?_⟩
  rcases h2 with ⟨rfl, h0⟩ | ⟨g, cap, cur, rfl, hb, hg, rest⟩
  · exact Or.inl ⟨rfl, h0⟩
  · exact Or.inr ⟨g, cap, cur, rfl, hb, (hk g rfl).trans hg, rest⟩
theorem RanksAt.keep {w' : World} (h : RanksAt w base B kind virt ve es) (hk : ∀ j, inRa B ve j → w'.heap[j]? = w.heap[j]?) : RanksAt w' base B kind virt ve es :=
  ⟨(hk B (Or.inl rfl)).trans h.blk, h.low, own_keep h.oe (fun j hj => hk j (Or.inr hj)), h.wd, h.vt, h.ml⟩
theorem RanksAt.below {w' : World} (h : RanksAt w base B kind virt ve es) (hb : Below w.heap.size w w') : RanksAt w' base B kind virt ve es := h.keep (fun j hj => hb.block j (h.inlt hj).2)
theorem RanksAt.ne (h : RanksAt w base B kind virt ve es) : ve.ownBlock ≠ some B := own_ne_blk h.oe h.blk (by decide)
theorem RanksAt.at (h : RanksAt w base B kind virt ve es) (i : Nat) (hi : i < es.length) : ∃ g c, ve = .slice (some ⟨g, 0, none⟩) es.length c ∧ base ≤ g ∧ g < w.heap.size ∧ g ≠ B ∧
    w.cell? ⟨g, i * 4, none⟩ = some (.int .u32 (es.getD i Rf.nil).id) ∧ w.cell? ⟨g, i * 4 + 1, none⟩ = some (.int .u64 (es.getD i Rf.nil).co) ∧ w.cell? ⟨g, i * 4 + 2, none⟩ = some (.int .u64 (es.getD i Rf.nil).bu) ∧ w.cell? ⟨g, i * 4 + 3, none⟩ = some (.int .u64 (es.getD i Rf.nil).tg) ∧ w.frozen? ⟨g, i * 4 + 3, none⟩ = false := by
  obtain ⟨g, c, rfl, hb, _⟩ := h.oe.form (by omega)
  have hlt := World.ownsRow.lt h.oe g rfl
  rw [rf_getD es i hi]
  have hc := fun j (hj : j < 4) => (h.oe.cellAt (i * 4 + j) (by omega)).trans (rfs_at es i j hi hj)
  exact ⟨g, c, rfl, hlt.1, hlt.2, fun e => h.ne (by rw [← e]; rfl), hc 0 (by omega), hc 1 (by omega), hc 2 (by omega), hc 3 (by omega), h.oe.frozenAt _⟩
theorem RanksAt.okAt (h : RanksAt w base B kind virt ve es) (i : Nat) (hi : i < es.length) : (es.getD i Rf.nil).ok := by
  rw [rf_getD es i hi]; exact h.wd _ (List.getElem_mem hi)
/-- A tag turns. -/
theorem RanksAt.setTg {g c : Nat} (h : RanksAt w base B kind virt (.slice (some ⟨g, 0, none⟩) es.length c) es) (i : Nat) (hi : i < es.length) (t : Int) (t0 : 0 ≤ t) (t1 : t ≤ 18446744073709551615) :
    RanksAt (w.setCell ⟨g, i * 4 + 3, none⟩ (.int .u64 t)) base B kind virt (.slice (some ⟨g, 0, none⟩) es.length c) (es.set i ((es.getD i Rf.nil).wt t)) ∧ MvS w (w.setCell ⟨g, i * 4 + 3, none⟩ (.int .u64 t)) (inRa B (.slice (some ⟨g, 0, none⟩) es.length c)) (inRa B (.slice (some ⟨g, 0, none⟩) es.length c)) := by
  have hne : g ≠ B := fun e => h.ne (by rw [← e]; rfl)
  have hst := row_put h.oe (i * 4 + 3) (.int .u64 t)
  rw [rfs_setTag es i t hi] at hst
  have hh : ∀ j, j ≠ g → (w.setCell ⟨g, i * 4 + 3, none⟩ (.int .u64 t)).heap[j]? = w.heap[j]? := fun j hj => Below.heap_setCell w ⟨g, i * 4 + 3, none⟩ _ j hj
  refine ⟨⟨(hh B (fun e => hne e.symm)).trans h.blk, h.low, by rw [List.length_set]; exact hst, fun e he => ?_, h.vt, by rw [List.length_set]; exact h.ml⟩, ⟨rfl, rfl, rfl, by simp [World.setCell], fun j _ hS => hh j (fun e => hS (Or.inr (by rw [e]; rfl))), fun j hj => Or.inr hj⟩⟩
  rcases List.mem_or_eq_of_mem_set he with h1 | h1
  · exact h.wd e h1
  · obtain ⟨a1, a2, a3⟩ := h.okAt i hi
    rw [h1]
    exact ⟨a1, a2, t0, t1⟩
/-- The virtual time turns. -/
theorem RanksAt.setV (h : RanksAt w base B kind virt ve es) (t : Int) (t0 : 0 ≤ t) (t1 : t ≤ 18446744073709551615) :
    RanksAt (w.setCell ⟨B, 1, none⟩ (.int .u64 t)) base B kind t ve es ∧ MvS w (w.setCell ⟨B, 1, none⟩ (.int .u64 t)) (inRa B ve) (inRa B ve) := by
  have hh : ∀ j, j ≠ B → (w.setCell ⟨B, 1, none⟩ (.int .u64 t)).heap[j]? = w.heap[j]? := fun j hj => Below.heap_setCell w ⟨B, 1, none⟩ _ j hj
  exact ⟨⟨by simpa using heap_set h.blk 1 (.int .u64 t), h.low, own_keep h.oe (fun j hj => hh j (fun e => h.ne (e ▸ hj))), h.wd, ⟨t0, t1⟩, h.ml⟩, ⟨rfl, rfl, rfl, by simp [World.setCell], fun j _ hS => hh j (fun e => hS (Or.inl e)), fun j hj => Or.inr hj⟩⟩
theorem rmade (h : RanksAt w base B kind virt ve es) (hn : 0 < es.length) : Calls Try.prog 126 #[.pointer (some ⟨B, 0, none⟩)] w fun e w' => e = .returned (.bool true) ∧ w' = w := by
  obtain ⟨c0, c1, c2, -⟩ := h.cell
  obtain ⟨a, c, rfl⟩ := row_slice h.oe
  clear h
  go_enter Try.func126, Try.ntmps126
  go_wp2
  go_ret
  exact ⟨rfl, rfl⟩
theorem rmade_nil (w : World) : Calls Try.prog 126 #[.pointer none] w fun e w' => e = .returned (.bool false) ∧ w' = w := by
  go_enter Try.func126, Try.ntmps126
  go_wp2
  go_ret
  exact ⟨rfl, rfl⟩
theorem rvirtual (h : RanksAt w base B kind virt ve es) : Calls Try.prog 64 #[.pointer (some ⟨B, 0, none⟩)] w fun e w' => e = .returned (.int .u64 virt) ∧ w' = w := by
  obtain ⟨c0, c1, c2, -⟩ := h.cell
  clear h
  go_enter Try.func64, Try.ntmps64
  go_wp2
  go_ret
  exact ⟨rfl, rfl⟩
theorem rvirtual_nil (w : World) : Calls Try.prog 64 #[.pointer none] w fun e w' => e = .returned (.int .u64 0) ∧ w' = w := by
  go_enter Try.func64, Try.ntmps64
  go_wp2
  go_ret
  exact ⟨rfl, rfl⟩
theorem rsent (h : RanksAt w base B kind virt ve es) (hn : 0 < es.length) (v : Int) (v0 : 0 ≤ v) (v1 : v ≤ 18446744073709551615) : Calls Try.prog 58 #[.pointer (some ⟨B, 0, none⟩), .int .u64 v] w fun e w' => e = .returned (.tuple #[]) ∧ RanksAt w' base B kind (if kind = 1 then v else virt) ve es ∧ MvS w w' (inRa B ve) (inRa B ve) := by
  have MD := Lib.hid (rmade h hn)
  have SV := Lib.hid (h.setV v v0 v1)
  obtain ⟨c0, c1, c2, f1, f2⟩ := h.cell
  have HH := Lib.hid h
  clear h
  by_cases hk : kind = 1
  · rw [if_pos hk]
    subst hk
    go_enter Try.func58, Try.ntmps58
    go_wp2_with fail
    refine MD.out.mono ?_
    rintro e w' ⟨rfl, rfl⟩
    go_wp2
    first | go_end0 | refine bodyPost_ret (results_none rfl _ _ _) rfl ?_
    exact ⟨rfl, SV.out.1, SV.out.2⟩
  · rw [if_neg hk]
    go_enter Try.func58, Try.ntmps58
    go_wp2_with fail
    refine MD.out.mono ?_
    rintro e w' ⟨rfl, rfl⟩
    go_wp2
    first | go_end0 | refine bodyPost_ret (results_none rfl _ _ _) rfl ?_
    exact ⟨rfl, HH.out, MvS.refl _ _⟩
theorem rsent_nil (w : World) (v : Int) : Calls Try.prog 58 #[.pointer none, .int .u64 v] w fun e w' => e = .returned (.tuple #[]) ∧ w' = w := by
  have MD := Lib.hid (rmade_nil w)
  go_enter Try.func58, Try.ntmps58
  go_wp2_with fail
  refine MD.out.mono ?_
  rintro e w' ⟨rfl, rfl⟩
  go_wp2
  first | go_end0 | refine bodyPost_ret (results_none rfl _ _ _) rfl ?_
  exact ⟨rfl, rfl⟩
end
end Go.Proofs.Ytnnbkooikimedaa
