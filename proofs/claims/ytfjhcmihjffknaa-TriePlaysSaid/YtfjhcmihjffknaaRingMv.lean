/-
  What a call leaves that writes an object of one block and its row: all other blocks stand; the new row is the old one or lies behind. Plain words on worlds. No condition.
-/
import Derived.Test.YtfjhcmihjffknaaBase
import Derived.Deep.AppendLies
namespace Go.Proofs.Ytfjhcmihjffknaa
set_option linter.unusedVariables false
set_option linter.unusedSimpArgs false
open Go.ChangeShapes Go.WideShapes Go.ChangeAt Go.RowKit

/-- All but block B and the row of v stands; the row of v' is that row or lies behind. -/
structure Mv (w w' : World) (B : Nat) (v v' : Value) : Prop where
  os : w'.os = w.os
  tape : w'.tape = w.tape
  output : w'.output = w.output
  size : w.heap.size ≤ w'.heap.size
  block : ∀ i, i < w.heap.size → i ≠ B → some i ≠ v.ownBlock → w'.heap[i]? = w.heap[i]?
  own : ∀ j, v'.ownBlock = some j → w.heap.size ≤ j ∨ v.ownBlock = some j
theorem Mv.refl (w : World) (B : Nat) (v : Value) : Mv w w B v v := ⟨rfl, rfl, rfl, Nat.le_refl _, fun _ _ _ _ => rfl, fun _ h => Or.inr h⟩
theorem Mv.trans {a b c : World} {B : Nat} {u v x : Value} (h : Mv a b B u v) (k : Mv b c B v x) : Mv a c B u x :=
  ⟨k.os.trans h.os, k.tape.trans h.tape, k.output.trans h.output, Nat.le_trans h.size k.size, fun i hi h1 h2 => (k.block i (Nat.lt_of_lt_of_le hi h.size) h1 (fun e => by
    rcases h.own i e.symm with h3 | h3
    · omega
    · exact h2 h3.symm)).trans (h.block i hi h1 h2), fun j hj => by
    rcases k.own j hj with h1 | h1
    · exact Or.inl (Nat.le_trans h.size h1)
    · exact h.own j h1⟩
theorem Mv.of_below {w w' : World} (B : Nat) (v : Value) (h : Below w.heap.size w w') : Mv w w' B v v :=
  ⟨h.os, h.tape, h.output, h.size, fun i hi _ _ => h.block i hi, fun _ h => Or.inr h⟩
theorem Mv.drewN {w w' : World} {B : Nat} {v v' : Value} (h : Mv w w' B v v') (n : Nat) : Mv w (w'.drewN n) B v v' := ⟨h.os, h.tape, h.output, h.size, h.block, h.own⟩
theorem Mv.from_heap {w w0 w' : World} {B : Nat} {v v' : Value} (h : Mv w w' B v v') (e : w.heap = w0.heap) (e1 : w.os = w0.os) (e2 : w.tape = w0.tape) (e3 : w.output = w0.output) : Mv w0 w' B v v' :=
  ⟨h.os.trans e1, h.tape.trans e2, h.output.trans e3, by rw [← e]; exact h.size, by rw [← e]; exact h.block, by rw [← e]; exact h.own⟩
theorem Mv.below {a w w' : World} {base B : Nat} {v v' : Value} (h : Mv w w' B v v') (hb : Below base a w) (hB : base ≤ B) (hv : ∀ j, v.ownBlock = some j → base ≤ j) (hs : base ≤ w.heap.size) : Below base a w' :=
  hb.trans ⟨h.os, h.tape, h.output, h.size, fun i hi => h.block i (by omega) (by omega) (fun e => by have := hv i e.symm; omega)⟩
theorem Mv.setCell {w w' : World} {B : Nat} {v v' : Value} (h : Mv w w' B v v') (i : Nat) (u : Value) (x : Value) (hx : x.ownBlock = v'.ownBlock) (hB : B < w.heap.size) : Mv w (w'.setCell ⟨B, i, none⟩ u) B v x :=
  ⟨h.os, h.tape, h.output, by simpa [World.setCell] using h.size, fun j hj h1 h2 => (Below.heap_setCell w' ⟨B, i, none⟩ u j h1).trans (h.block j hj h1 h2), fun j hj => h.own j (by rw [← hx]; exact hj)⟩
/-- A row of another owner stands. -/
theorem Mv.row {w w' : World} {B : Nat} {v v' : Value} (h : Mv w w' B v v') {base : Nat} {e : TypeId} {size n : Nat} {x : Value} {xs : List Value} (ho : w.ownsRow base e size x n xs) (h1 : x.ownBlock ≠ some B) (h2 : x.ownBlock = none ∨ x.ownBlock ≠ v.ownBlock) :
    w'.ownsRow base e size x n xs ∧ (x.ownBlock = none ∨ x.ownBlock ≠ v'.ownBlock) := by
  constructor
  · refine ⟨ho.1, ?_⟩
    rcases ho.2 with hh | ⟨g, cap, cur, rfl, hb, hg, rest⟩
    · exact Or.inl hh
    · refine Or.inr ⟨g, cap, cur, rfl, hb, ?_, rest⟩
      rw [h.block g (Array.getElem?_eq_some_iff.1 hg).1 (fun e => h1 (by rw [e]; rfl)) (by simpa [Value.ownBlock] using h2)]
      exact hg
  · rcases ho.2 with ⟨rfl, _⟩ | ⟨g, cap, cur, rfl, hb, hg, rest⟩
    · exact Or.inl rfl
    · right
      intro e
      have hlt := (Array.getElem?_eq_some_iff.1 hg).1
      rcases h.own g e.symm with h3 | h3
      · omega
      · rcases h2 with h2 | h2
        · cases h2
        · exact h2 h3.symm
theorem heap_set {w : World} {B : Nat} {cs : Array Value} {t : TypeId} (h : w.heap[B]? = some (.cells cs t (0, 0))) (i : Nat) (u : Value) : (w.setCell ⟨B, i, none⟩ u).heap[B]? = some (.cells (cs.setIfInBounds i u) t (0, 0)) := by
  simp [World.setCell, Array.getElem?_modify, h]
theorem own_ne_blk {w : World} {base g : Nat} {e t : TypeId} {size n : Nat} {v : Value} {xs : List Value} {cs : Array Value} (h : w.ownsRow base e size v n xs) (hg : w.heap[g]? = some (.cells cs t (0, 0))) (hne : e ≠ t) : v.ownBlock ≠ some g := by
  rcases h.2 with ⟨rfl, _⟩ | ⟨b, cap, cur, rfl, _, hh, _⟩
  · intro hx; cases hx
  · intro hx
    injection hx with hx
    have hx : b = g := hx
    subst hx
    rw [hg] at hh
    injection hh with hh
    injection hh with _ ht _
    exact hne ht.symm
theorem own_full {w : World} {base g q : Nat} {e : TypeId} {xs : List Value} (h : w.ownsRow base e 1 (.slice (some ⟨g, 0, none⟩) q q) q xs) : w.heap[g]? = some (.cells xs.toArray e (0, 0)) ∧ base ≤ g ∧ q ≤ maxLen := by
  rcases h.2 with ⟨h', _⟩ | ⟨g', cap, cur, hv, hb, hg, h1, h2, h3, h4⟩
  · cases h'
  · injection hv with hv1 hv2 hv3
    injection hv1 with hv1
    injection hv1 with hv1
    subst hv1 hv3
    rw [List.take_of_length_le (by simp; omega)] at h4
    subst h4
    exact ⟨hg, hb, h2⟩
theorem own_of_full {w : World} {base g q : Nat} {e : TypeId} {xs : List Value} (hg : w.heap[g]? = some (.cells xs.toArray e (0, 0))) (hb : base ≤ g) (hq : q ≤ maxLen) (hl : xs.length = q) : w.ownsRow base e 1 (.slice (some ⟨g, 0, none⟩) q q) q xs :=
  ⟨by omega, Or.inr ⟨g, q, xs.toArray, rfl, hb, hg, Nat.le_refl _, hq, by simp; omega, by rw [List.take_of_length_le (by simp; omega)]⟩⟩
end Go.Proofs.Ytfjhcmihjffknaa
