/-
  Two rows of numbers that are owned and lie apart, and how they stand behind what grows. Plain laws on worlds. No condition.
-/
import Derived.Test.YtmkgadndfiiacaaVal
import Derived.Test.YtmkgadndfiiacaaSeg
import Derived.Deep.AppendLies
import Derived.Maps.AppendAt
import Derived.Outline
namespace Go.Proofs.Ytmkgadndfiiacaa
set_option linter.unusedVariables false
set_option linter.unusedSimpArgs false
open Go.ChangeShapes Go.WideShapes Go.ChangeAt Go.RowKit

def NR (K : IntKind) (T : TypeId) (w : World) (base : Nat) (v : Value) (xs : List Int) : Prop := w.ownsRow base T 1 v xs.length (xs.map (Value.int K))
theorem NR.nil (K : IntKind) (T : TypeId) (w : World) (base : Nat) : NR K T w base (.slice none 0 0) [] := World.ownsRow_nil _ _ _ _
theorem NR.form {K : IntKind} {T : TypeId} {w : World} {base : Nat} {v : Value} {xs : List Int} (h : NR K T w base v xs) : ∃ a c, v = .slice a xs.length c ∧ xs.length ≤ c ∧ ∀ i, i < xs.length → ∃ g, a = some ⟨g, 0, none⟩ ∧ g < w.heap.size ∧ w.cell? ⟨g, i, none⟩ = some (.int K (xs.getD i 0)) := by
  have h' := h
  unfold NR at h'
  rcases h'.2 with ⟨rfl, h0⟩ | ⟨g, cap, cur, rfl, hb, hg, h1, _⟩
  · exact ⟨none, 0, by rw [h0], by omega, fun i hi => by omega⟩
  · refine ⟨some ⟨g, 0, none⟩, cap, rfl, h1, fun i hi => ⟨g, rfl, (Array.getElem?_eq_some_iff.1 hg).1, ?_⟩⟩
    rw [h'.cellAt i (by omega), List.getElem?_map, List.getElem?_eq_getElem hi, List.getD_eq_getElem?_getD, List.getElem?_eq_getElem hi]
    rfl
theorem NR.snoc {K : IntKind} {T : TypeId} {w : World} {base : Nat} {v : Value} {xs : List Int} {x : Int} {n : Nat} (hn : xs.length = n) (h : w.ownsRow base T 1 v (n + 1) (xs.map (Value.int K) ++ [.int K x])) : NR K T w base v (xs ++ [x]) := by
  unfold NR
  rw [List.length_append, List.map_append, List.length_singleton, hn]
  exact h
theorem NR.lt {K : IntKind} {T : TypeId} {w : World} {base : Nat} {v : Value} {xs : List Int} (h : NR K T w base v xs) : ∀ g, v.ownBlock = some g → base ≤ g ∧ g < w.heap.size := World.ownsRow.lt h
theorem NR.below {K : IntKind} {T : TypeId} {w w' : World} {base : Nat} {v : Value} {xs : List Int} (h : NR K T w base v xs) (hb : Below w.heap.size w w') : NR K T w' base v xs :=
  World.ownsRow.kept (row := some w.heap.size) h ⟨hb.os, hb.tape, hb.output, hb.size, fun k hk _ => hb.block k hk⟩ (Or.inr (fun hh => by have := World.ownsRow.lt h _ hh; omega))
/-- A cell of another block is stored. -/
theorem NR.put {K : IntKind} {T : TypeId} {w : World} {base : Nat} {v : Value} {xs : List Int} (h : NR K T w base v xs) {b i : Nat} (hb : v.ownBlock ≠ some b) (u : Value) : NR K T (w.setCell ⟨b, i, none⟩ u) base v xs := ownsRow_setCell_other h hb u
theorem NR.alloc {K : IntKind} {T : TypeId} {w : World} {base : Nat} {v : Value} {xs : List Int} (h : NR K T w base v xs) (o : Obj) : NR K T (w.alloc o) base v xs := World.ownsRow.alloc h o
theorem NR.drew {K : IntKind} {T : TypeId} {w : World} {base : Nat} {v : Value} {xs : List Int} (h : NR K T w base v xs) : NR K T w.drew base v xs := h
theorem NR.drewN {K : IntKind} {T : TypeId} {w : World} {base n : Nat} {v : Value} {xs : List Int} (h : NR K T w base v xs) : NR K T (w.drewN n) base v xs := h
/-- Of another type than a block. -/
theorem NR.ne {K : IntKind} {T t : TypeId} {w : World} {base g : Nat} {v : Value} {xs : List Int} {cs : Array Value} (h : NR K T w base v xs) (hg : w.heap[g]? = some (.cells cs t (0, 0))) (hne : T ≠ t) : v.ownBlock ≠ some g := by
  rcases h.2 with ⟨rfl, _⟩ | ⟨b, cap, cur, rfl, _, hh, _⟩
  · intro hx; cases hx
  · intro hx
    injection hx with hx
    have hx : b = g := hx
    subst hx
    rw [hg] at hh
    injection hh with hh
    injection hh with _ ht _
    exact hne ht.symm
theorem blk_grown {w w1 : World} {row : Option Nat} {k : Nat} {x : Obj} (hg : w.grownBy w1 row) (hne : row ≠ some k) (h : w.heap[k]? = some x) : w1.heap[k]? = some x := (hg.block k (lt_blk h) (fun e => hne e.symm)).trans h
theorem own_grown {w w1 : World} {row : Option Nat} {base : Nat} {e : TypeId} {n : Nat} {v : Value} {xs : List Value} (hg : w.grownBy w1 row) (hne : ∀ g, v.ownBlock = some g → row ≠ some g) (h : w.ownsRow base e 1 v n xs) : w1.ownsRow base e 1 v n xs :=
  World.ownsRow.kept h hg (by
    cases hv : v.ownBlock with
    | none => exact Or.inl rfl
    | some g => exact Or.inr (fun e => hne g hv e.symm))
theorem row_new {row : Option Nat} {s k : Nat} (h : ∀ g, row = some g → g < s) (hk : s ≤ k) : row ≠ some k := fun e => by have := h k e; omega
theorem apart2 {b1 b2 : Option Nat} {g1 g2 s H1 s1 H2 : Nat} (ap : ∀ g, b1 = some g → b2 ≠ some g) (l1 : ∀ g, b1 = some g → g < s) (l2 : ∀ g, b2 = some g → g < s) (a1 : b1 = some g1 ∨ g1 = H1) (hs : s ≤ H1) (lt1 : g1 < s1) (a2 : b2 = some g2 ∨ g2 = H2) (hs2 : s1 ≤ H2) : g1 ≠ g2 := by
  intro e
  subst e
  rcases a1 with a1 | a1
  · rcases a2 with a2 | a2
    · exact ap _ a1 a2
    · omega
  · rcases a2 with a2 | a2
    · have := l2 _ a2; omega
    · omega
theorem own_new {w w1 : World} {b1 b2 : Option Nat} {g1 s H1 base n c : Nat} {e : TypeId} {xs : List Value} (hg : w.grownBy w1 b2) (ap : ∀ g, b1 = some g → b2 ≠ some g) (l2 : ∀ g, b2 = some g → g < s) (a1 : b1 = some g1 ∨ g1 = H1) (hs : s ≤ H1)
    (h : w.ownsRow base e 1 (.slice (some ⟨g1, 0, none⟩) n c) n xs) : w1.ownsRow base e 1 (.slice (some ⟨g1, 0, none⟩) n c) n xs :=
  own_grown hg (fun g e => by
    have e' : g1 = g := Option.some.inj e
    subst e'
    intro e2
    rcases a1 with a | a
    · exact ap _ a e2
    · have := l2 _ e2; omega) h
theorem apt {g0 g1 n0 c0 n1 c1 : Nat} (h : g0 ≠ g1) : ∀ g, (Value.slice (some ⟨g0, 0, none⟩) n0 c0).ownBlock = some g → (Value.slice (some ⟨g1, 0, none⟩) n1 c1).ownBlock ≠ some g := fun g e e2 => h ((Option.some.inj e).trans (Option.some.inj e2).symm)
theorem blk_drewNr {w : World} {k n : Nat} {x : Option Obj} (h : w.heap[k]? = x) : (w.drewN n).heap[k]? = x := h
end Go.Proofs.Ytmkgadndfiiacaa
