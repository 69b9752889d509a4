/-
  Package rank: New: the ranks of some flows, or why there are none. No condition.
-/
import Derived.Test.YtnnbkooikimedaaRank2
import Derived.RegionTactic
import Derived.Deep.RegionWith
import Derived.Deep.RegionHeld3
import Derived.Deep.AppendLies
namespace Go.Proofs.Ytnnbkooikimedaa
set_option linter.unusedVariables false
set_option linter.unusedSimpArgs false
open Go.ChangeShapes Go.WideShapes Go.ChangeAt Go.RowKit
attribute [local go_sem] alloc_drewN setCell_drewN

def initR (kind : Int) (f : Fl) : Rf := ⟨f.id, f.co, f.bu, if kind = 3 then f.sz else 0⟩
def distF (fs : List Fl) (n : Nat) : Prop := ∀ a b, a < b → b < n → (fs.getD a Fl.nil).id ≠ (fs.getD b Fl.nil).id
def Fl.cells (f : Fl) : List Value := [.int .u32 f.id, .int .u64 f.co, .int .u64 f.bu, .int .u64 f.sz, .int .u64 f.cp]
theorem RowFl.atR {w w' : World} {a : Option Addr} {n : Nat} {fs : List Fl} (h : RowFl w a n fs) (hb : Below w.heap.size w w') (i : Nat) (hi : i < n) : ∃ b off, a = some ⟨b, off, none⟩ ∧ b < w.heap.size ∧
    w'.cell? ⟨b, off + i * 5, none⟩ = some (.int .u32 (fs.getD i Fl.nil).id) ∧ w'.cell? ⟨b, off + i * 5 + 1, none⟩ = some (.int .u64 (fs.getD i Fl.nil).co) ∧ w'.cell? ⟨b, off + i * 5 + 2, none⟩ = some (.int .u64 (fs.getD i Fl.nil).bu) ∧ w'.cell? ⟨b, off + i * 5 + 3, none⟩ = some (.int .u64 (fs.getD i Fl.nil).sz) ∧ w'.cell? ⟨b, off + i * 5 + 4, none⟩ = some (.int .u64 (fs.getD i Fl.nil).cp) := by
  obtain ⟨b, off, e, hlt, hc⟩ := h.2.2.2 (by omega)
  obtain ⟨c0, c1, c2, c3, c4⟩ := hc i hi
  exact ⟨b, off, e, hlt, (hb.cell (p := ⟨b, _, none⟩) hlt).trans c0, (hb.cell (p := ⟨b, _, none⟩) hlt).trans c1, (hb.cell (p := ⟨b, _, none⟩) hlt).trans c2, (hb.cell (p := ⟨b, _, none⟩) hlt).trans c3, (hb.cell (p := ⟨b, _, none⟩) hlt).trans c4⟩
theorem RowFl.okR {w : World} {a : Option Addr} {n : Nat} {fs : List Fl} (h : RowFl w a n fs) (i : Nat) (hi : i < n) : (fs.getD i Fl.nil).ok := by
  rw [List.getD_eq_getElem?_getD, List.getElem?_eq_getElem (by rw [h.1]; exact hi)]
  exact h.2.2.1 _ (List.getElem_mem _)
theorem rfirst (kind id co bu sz cp : Int) (w : World) : Calls Try.prog 124 #[.int .i64 kind, .agg #[.int .u32 id, .int .u64 co, .int .u64 bu, .int .u64 sz, .int .u64 cp]] w fun e w' => e = .returned (.int .u64 (if kind = 3 then sz else 0)) ∧ w' = w.alloc (.cells #[.int .u32 id, .int .u64 co, .int .u64 bu, .int .u64 sz, .int .u64 cp] 210) := by
  by_cases hk : kind = 3
  · rw [if_pos hk]
    subst hk
    go_enter Try.func124, Try.ntmps124
    go_wp2
    go_ret
    exact ⟨rfl, rfl⟩
  · rw [if_neg hk]
    go_enter Try.func124, Try.ntmps124
    go_wp2
    go_ret
    exact ⟨rfl, rfl⟩
theorem infoRf : (Try.prog.info? 217).map (fun i => (i.zero, i.size, i.bytes)) = some (some (.agg #[.int .u32 0, .int .u64 0, .int .u64 0, .int .u64 0]), 4, 32) := by kernel_rfl
/-- An entry more. -/
theorem RanksAt.grown {w : World} {base B : Nat} {kind virt : Int} {ve : Value} {es : List Rf} (h : RanksAt w base B kind virt ve es) (e : Rf) (he : e.ok) (hl : es.length < 64) (w1 w3 : World) (v' : Value) (hb1 : Below w.heap.size w w1)
    (ho : w3.ownsRow base 217 4 v' (es.length + 1) (rfs es ++ e.cells)) (hg : w1.grownBy w3 ve.ownBlock) (hbase : base ≤ w.heap.size) (ha : v'.ownBlock = ve.ownBlock ∨ ∃ g, v'.ownBlock = some g ∧ w.heap.size ≤ g) :
    RanksAt (w3.setCell ⟨B, 2, none⟩ v') base B kind virt v' (es ++ [e]) ∧ Below base w (w3.setCell ⟨B, 2, none⟩ v') := by
  have hB := h.inlt (Or.inl rfl)
  have hb : w3.heap[B]? = some (.cells #[.int .i64 kind, .int .u64 virt, ve] 213 (0, 0)) := (hg.block B (Nat.lt_of_lt_of_le hB.2 hb1.size) (fun e => h.ne e.symm)).trans ((hb1.block B hB.2).trans h.blk)
  have hne : v'.ownBlock ≠ some B := own_ne_blk ho hb (by decide)
  have hh : ∀ j, j ≠ B → (w3.setCell ⟨B, 2, none⟩ v').heap[j]? = w3.heap[j]? := fun j hj => Below.heap_setCell w3 ⟨B, 2, none⟩ v' j hj
  have el : (es ++ [e]).length = es.length + 1 := by simp
  have er : rfs (es ++ [e]) = rfs es ++ e.cells := by simp [rfs]
  refine ⟨⟨by simpa using heap_set hb 2 v', h.low, ?_, ?_, h.vt, by rw [el]; omega⟩, ?_⟩
  · rw [el, er]
    exact own_keep ho (fun j hj => hh j (fun e => hne (e ▸ hj)))
  · intro x hx
    rcases List.mem_append.1 hx with hx | hx
    · exact h.wd x hx
    · rw [List.mem_singleton.1 hx]; exact he
  · refine ⟨hg.os.trans hb1.os, hg.tape.trans hb1.tape, hg.output.trans hb1.output, ?_, fun j hj => ?_⟩
    · simpa [World.setCell] using Nat.le_trans hb1.size hg.size
    · refine (hh j (fun e => by have := hB.1; omega)).trans ((hg.block j (Nat.lt_of_lt_of_le (by omega) hb1.size) (fun e => ?_)).trans (hb1.block j (by omega)))
      have := (h.inlt (Or.inr e.symm)).1
      omega
end Go.Proofs.Ytnnbkooikimedaa
