/-
  Layer 22: a row of slots and a row of ticks that grow side by side; a call asks for the slots. Plain laws on worlds. No condition.
-/
import Derived.Test.YtmkgadndfiiacaaGt19
import Derived.Test.YtmkgadndfiiacaaRows2
namespace Go.Proofs.Ytmkgadndfiiacaa
set_option linter.unusedVariables false
set_option linter.unusedSimpArgs false
open Go.ChangeShapes Go.WideShapes Go.ChangeAt Go.RowKit

def Slot22.cells (x : Slot22) : List Value := [.int .u8 x.o, .int .u64 x.s]
theorem slots_len (L : List Slot22) : (L.flatMap Slot22.cells).length = L.length * 2 := by
  induction L with
  | nil => rfl
  | cons x L ih => simp only [List.flatMap_cons, List.length_append, ih, List.length_cons]; simp [Slot22.cells]; omega
theorem slots_at (L : List Slot22) : ∀ i, i < L.length → (L.flatMap Slot22.cells)[i * 2]? = some (.int .u8 (slotN L i).o) ∧ (L.flatMap Slot22.cells)[i * 2 + 1]? = some (.int .u64 (slotN L i).s) := by
  induction L with
  | nil => intro i h; exact absurd h (Nat.not_lt_zero _)
  | cons x L ih =>
    intro i hi
    cases i with
    | zero => exact ⟨rfl, rfl⟩
    | succ i =>
      have h := ih i (by simpa using hi)
      simp only [List.flatMap_cons]
      have e : (Slot22.cells x).length = 2 := rfl
      rw [List.getElem?_append_right (by rw [e]; omega), List.getElem?_append_right (by rw [e]; omega), e, show (i + 1) * 2 - 2 = i * 2 by omega, show (i + 1) * 2 + 1 - 2 = i * 2 + 1 by omega]
      exact h
structure Tk22 (w0 w : World) (Bt : Nat) (lv tv : Value) (L : List Slot22) (ts : List Int) : Prop where
  low : w0.heap.size ≤ Bt
  box : w.heap[Bt]? = some (.cells #[tv] 71 (0, 0))
  tk : NR .u8 5 w w0.heap.size tv ts
  sl : w.ownsRow w0.heap.size 67 2 lv L.length (L.flatMap Slot22.cells)
  b : Below w0.heap.size w0 w
theorem ne_own {w : World} {base g size n : Nat} {e t : TypeId} {v : Value} {xs : List Value} {cs : Array Value} (h : w.ownsRow base e size v n xs) (hg : w.heap[g]? = some (.cells cs t (0, 0))) (hne : e ≠ t) : v.ownBlock ≠ some g := by
  rcases h.2 with ⟨rfl, _⟩ | ⟨b, cap, cur, rfl, _, hh, _⟩
  · intro hx; cases hx
  · intro hx
    injection hx with hx
    have hx : b = g := hx
    subst hx
    rw [hg] at hh
    injection hh with hh
    injection hh with _ ht _
    exact hne ht.symm
theorem own_blk {w : World} {base size n g : Nat} {e : TypeId} {v : Value} {xs : List Value} (h : w.ownsRow base e size v n xs) (hg : v.ownBlock = some g) : ∃ cs, w.heap[g]? = some (.cells cs e (0, 0)) := by
  rcases h.2 with ⟨rfl, _⟩ | ⟨b, cap, cur, rfl, _, hh, _⟩
  · cases hg
  · injection hg with hg
    have hg : b = g := hg
    subst hg
    exact ⟨_, hh⟩
theorem own_keep {w w1 : World} {row : Option Nat} {base size n : Nat} {e : TypeId} {v : Value} {xs : List Value} (h : w.ownsRow base e size v n xs) (hg : w.grownBy w1 row) (hne : ∀ g, v.ownBlock = some g → row ≠ some g) : w1.ownsRow base e size v n xs :=
  World.ownsRow.kept h hg (by
    cases hv : v.ownBlock with
    | none => exact Or.inl rfl
    | some g => exact Or.inr (fun e => hne g hv e.symm))
theorem own_later {w w1 : World} {base size n : Nat} {e : TypeId} {v : Value} {xs : List Value} (h : w.ownsRow base e size v n xs) (hb : Below w.heap.size w w1) : w1.ownsRow base e size v n xs :=
  World.ownsRow.kept (row := some w.heap.size) h ⟨hb.os, hb.tape, hb.output, hb.size, fun k hk _ => hb.block k hk⟩ (Or.inr (fun hh => by have := World.ownsRow.lt h _ hh; omega))
section
variable {w0 w w1 : World} {Bt : Nat} {lv tv : Value} {L : List Slot22} {ts : List Int}
theorem Tk22.later (h : Tk22 w0 w Bt lv tv L ts) (hb : Below w.heap.size w w1) : Tk22 w0 w1 Bt lv tv L ts :=
  ⟨h.low, blk_call hb h.box, h.tk.below hb, own_later h.sl hb, h.b.trans (hb.mono h.b.size)⟩
theorem Tk22.one (h : Tk22 w0 w Bt lv tv L ts) {lv' : Value} {x : Slot22} (hg : w.grownBy w1 lv.ownBlock) (ho : w1.ownsRow w0.heap.size 67 2 lv' (L.length + 1) (L.flatMap Slot22.cells ++ [.int .u8 x.o, .int .u64 x.s])) : Tk22 w0 w1 Bt lv' tv (L ++ [x]) ts := by
  refine ⟨h.low, blk_grown hg (fun e => ne_own h.sl h.box (by decide) e) h.box, ?_, ?_, h.b.grown hg h.b.size (fun j hj => (World.ownsRow.lt h.sl j hj).1)⟩
  · refine own_grown hg (fun g e e2 => ?_) h.tk
    obtain ⟨cs, hc⟩ := own_blk h.tk e
    exact ne_own h.sl hc (by decide) e2
  · rw [List.length_append, List.flatMap_append]
    exact ho
theorem Tk22.two (h : Tk22 w0 w Bt lv tv L ts) {tv' : Value} {x : Int} (hg : w.grownBy w1 tv.ownBlock) (ho : w1.ownsRow w0.heap.size 5 1 tv' (ts.length + 1) (ts.map (Value.int .u8) ++ [.int .u8 x])) : Tk22 w0 (w1.setCell ⟨Bt, 0, none⟩ tv') Bt lv tv' L (ts ++ [x]) := by
  have hbx : w1.heap[Bt]? = some (.cells #[tv] 71 (0, 0)) := blk_grown hg (fun e => h.tk.ne h.box (by decide) e) h.box
  have hnr : NR .u8 5 w1 w0.heap.size tv' (ts ++ [x]) := NR.snoc rfl ho
  have hsl : w1.ownsRow w0.heap.size 67 2 lv L.length (L.flatMap Slot22.cells) := own_keep h.sl hg (fun g e e2 => by
    obtain ⟨cs, hc⟩ := own_blk h.sl e
    exact ne_own h.tk hc (by decide) e2)
  exact ⟨h.low, put1_0 hbx, hnr.put (hnr.ne hbx (by decide)) _, ownsRow_setCell_other (a := ⟨Bt, 0, none⟩) hsl (ne_own hsl hbx (by decide)) _, (h.b.grown hg h.b.size (fun j hj => (World.ownsRow.lt h.tk j hj).1)).setCell (p := ⟨Bt, 0, none⟩) h.low _⟩
/-- The slots as the gate's functions take them. -/
theorem Tk22.row (h : Tk22 w0 w Bt lv tv L ts) (hm : L.length ≤ maxLen) (hok : ∀ x ∈ L, x.ok) : ∃ a c, lv = .slice a L.length c ∧ L.length ≤ c ∧ RowSl w a L.length L := by
  have h' := h.sl
  rcases h'.2 with ⟨rfl, h0⟩ | ⟨g, cap, cur, rfl, hb, hg, h1, _⟩
  · exact ⟨none, 0, by rw [h0], by omega, rfl, hm, hok, fun h => by omega⟩
  · refine ⟨some ⟨g, 0, none⟩, cap, rfl, h1, rfl, hm, hok, fun _ => ⟨g, 0, rfl, (Array.getElem?_eq_some_iff.1 hg).1, fun i hi => ?_⟩⟩
    obtain ⟨c0, c1⟩ := slots_at L i hi
    have e : ∀ o, (⟨g, 0, none⟩ : Addr).add o = ⟨g, 0 + o, none⟩ := fun o => Go.WideShapes.add_plain _ _ _
    have d0 := h.sl.cells (g := g) rfl _ _ c0
    have d1 := h.sl.cells (g := g) rfl _ _ c1
    rw [e] at d0 d1
    exact ⟨d0, d1⟩
end
end Go.Proofs.Ytmkgadndfiiacaa
