/-
  What a call leaves that writes an object of several blocks: all other blocks stand; what it owns then it owned before, or lies behind. The clearing of one element of several cells. Plain words on worlds. No condition.
-/
import Derived.Test.YtfjhcmihjffknaaBase
import Derived.Test.YtfjhcmihjffknaaRingMv
import Derived.Deep.AppendLies
import Derived.Lib.SliceRun
namespace Go.Proofs.Ytfjhcmihjffknaa
set_option linter.unusedVariables false
set_option linter.unusedSimpArgs false
open Go.ChangeShapes Go.WideShapes Go.ChangeAt Go.RowKit

theorem row_slice {w : World} {base : Nat} {e : TypeId} {size n : Nat} {v : Value} {xs : List Value} (h : w.ownsRow base e size v n xs) : ∃ ao co, v = .slice ao n co := by
  rcases h.2 with ⟨rfl, h0⟩ | ⟨g, cap, cur, rfl, _⟩
  · exact ⟨none, 0, by rw [h0]⟩
  · exact ⟨_, _, rfl⟩
/-- All blocks stand but those of S; S' is S and what lies behind. -/
structure MvS (w w' : World) (S S' : Nat → Prop) : Prop where
  os : w'.os = w.os
  tape : w'.tape = w.tape
  output : w'.output = w.output
  size : w.heap.size ≤ w'.heap.size
  block : ∀ i, i < w.heap.size → ¬ S i → w'.heap[i]? = w.heap[i]?
  own : ∀ j, S' j → w.heap.size ≤ j ∨ S j
theorem MvS.refl (w : World) (S : Nat → Prop) : MvS w w S S := ⟨rfl, rfl, rfl, Nat.le_refl _, fun _ _ _ => rfl, fun _ h => Or.inr h⟩
theorem MvS.trans {a b c : World} {S T U : Nat → Prop} (h : MvS a b S T) (k : MvS b c T U) : MvS a c S U :=
  ⟨k.os.trans h.os, k.tape.trans h.tape, k.output.trans h.output, Nat.le_trans h.size k.size, fun i hi h1 => (k.block i (Nat.lt_of_lt_of_le hi h.size) (fun e => by
    rcases h.own i e with h3 | h3
    · omega
    · exact h1 h3)).trans (h.block i hi h1), fun j hj => by
    rcases k.own j hj with h1 | h1
    · exact Or.inl (Nat.le_trans h.size h1)
    · exact h.own j h1⟩
theorem MvS.of_below {w w' : World} (S : Nat → Prop) (h : Below w.heap.size w w') : MvS w w' S S :=
  ⟨h.os, h.tape, h.output, h.size, fun i hi _ => h.block i hi, fun _ h => Or.inr h⟩
theorem MvS.drewN {w w' : World} {S S' : Nat → Prop} (h : MvS w w' S S') (n : Nat) : MvS w (w'.drewN n) S S' := ⟨h.os, h.tape, h.output, h.size, h.block, h.own⟩
theorem MvS.from_heap {w w0 w' : World} {S S' : Nat → Prop} (h : MvS w w' S S') (e : w.heap = w0.heap) (e1 : w.os = w0.os) (e2 : w.tape = w0.tape) (e3 : w.output = w0.output) : MvS w0 w' S S' :=
  ⟨h.os.trans e1, h.tape.trans e2, h.output.trans e3, by rw [← e]; exact h.size, by rw [← e]; exact h.block, by rw [← e]; exact h.own⟩
theorem MvS.below {a w w' : World} {base : Nat} {S S' : Nat → Prop} (h : MvS w w' S S') (hb : Below base a w) (hS : ∀ j, S j → base ≤ j) (hs : base ≤ w.heap.size) : Below base a w' :=
  hb.trans ⟨h.os, h.tape, h.output, h.size, fun i hi => h.block i (by omega) (fun e => by have := hS i e; omega)⟩
/-- The blocks of a pool. -/
def inP (B : Nat) (ve vf vq : Value) : Nat → Prop := fun i => i = B ∨ ve.ownBlock = some i ∨ vf.ownBlock = some i ∨ vq.ownBlock = some i

/-- 'clear(s[i:i+1])', an element of several cells: its cells hold the zero value; nothing else turns. -/
theorem run_clear_one {P : Program} (w : World) (t e ty : TypeId) (z : Value) (zs : List Value) (ht : P.underlying t = some (.slice e)) (hv : ∀ w, (zeroValue e).run P w = .ok z w) (hz : (Builtin.zeroCells z.cells 1).toList = zs) (h1 : ∀ v ∈ zs, v.oneCell' = true) (b o c : Nat)
    (hc : ∀ j, j < zs.length → (w.cell? ⟨b, o + j, none⟩).isSome = true) (hf : ∀ j, j < zs.length → w.frozen? ⟨b, o + j, none⟩ = false) :
    (Builtin.clear_ #[t] ty #[.slice (some ⟨b, o, none⟩) 1 c]).run P w = .ok (.tuple #[]) (w.setCells b o zs) := by
  have hst := run_storeCells_cells (P := P) b o zs 0 w (by simpa using hc) (by simpa using hf) h1
  simp only [Nat.add_zero] at hst
  simp [Builtin.clear_, run_underlying ht, hv, hz, hst]
theorem cells_newP (w : World) (l : List Value) (t : TypeId) (n : Nat) : ∀ j u, l[j]? = some u → ((w.alloc (.cells l.toArray t)).drewN n).cell? ((⟨w.heap.size, 0, none⟩ : Addr).add j) = some u := by
  intro j u h
  have e : ((⟨w.heap.size, 0, none⟩ : Addr).add j) = ⟨w.heap.size, j, none⟩ := by simp [Addr.add]; omega
  rw [e]
  exact (World.cell?_alloc_mark w l.toArray t (0, 0) j).trans (by simpa using h)
theorem row_apart {w : World} {b1 b2 s1 s2 n1 n2 : Nat} {e1 e2 : TypeId} {v1 v2 : Value} {x1 x2 : List Value} (h1 : w.ownsRow b1 e1 s1 v1 n1 x1) (h2 : w.ownsRow b2 e2 s2 v2 n2 x2) (hne : e1 ≠ e2) : v1.ownBlock = none ∨ v1.ownBlock ≠ v2.ownBlock := by
  rcases h1.2 with ⟨rfl, _⟩ | ⟨g, cap, cur, rfl, _, hg, _⟩
  · exact Or.inl rfl
  · exact Or.inr (fun e => own_ne_blk h2 hg (fun x => hne x.symm) e.symm)
theorem zeroCells_one4 (a b c d : Value) : (Builtin.zeroCells (Value.agg #[a, b, c, d]).cells 1).toList = [a, b, c, d] := by
  simp [Builtin.zeroCells, Value.cells, List.range, List.range.loop]
theorem cells_newA (w : World) (l : List Value) (t : TypeId) : ∀ j u, l[j]? = some u → (w.alloc (.cells l.toArray t)).cell? ((⟨w.heap.size, 0, none⟩ : Addr).add j) = some u := cells_newP w l t 0
/-- A cell of a row is put. -/
theorem row_put {w : World} {base g c n size : Nat} {e : TypeId} {xs : List Value} (h : w.ownsRow base e size (.slice (some ⟨g, 0, none⟩) n c) n xs) (j : Nat) (u : Value) : (w.setCell ⟨g, j, none⟩ u).ownsRow base e size (.slice (some ⟨g, 0, none⟩) n c) n (xs.set j u) := (h.stored j u).1
end Go.Proofs.Ytfjhcmihjffknaa
