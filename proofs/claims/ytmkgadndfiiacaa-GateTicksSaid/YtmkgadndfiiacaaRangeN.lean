/-
  A range over a function that tells nothing.
-/
import Derived.Test.YtmkgadndfiiacaaRangeE
namespace Go.Proofs.Ytmkgadndfiiacaa
set_option linter.unusedVariables false
open Go.RowKit

theorem range_none {F : Fence} {n : Nat} {P : Program} {g : Operand} {ps : Array Tmp} {assign body : Code} {Q : Exit → Act → World → Prop} {a : Act} {w : World} (hround : F.round = none) (hn : 1 ≤ n)
    {gf : Nat} {lb : Array Value} (hg : a.eval g = .func (.func gf) #[] lb) (hgf : F.fn gf) (henter : ∀ args V, (callFunc gf args).run P V = .ok (.enter gf args) V)
    (I : World → Prop) (hI : OwnFrom w.heap.size (fun (_ : Unit) V => I V))
    (hit : ∀ (l : Nat) (V : World), I V → CallsIn F (n - 1) P gf (#[.func (.yield l) #[] #[]] ++ lb) V fun e V' => (∃ v, e = .returned v) ∧ Below V.heap.size V V' ∧ I V')
    (hdone : ∀ (D : Nat) (V : World), w.heap.size ≤ D → I V → V.heap[D]? = some (.deferred (some [])) → Q .normal { a with defers := { target := .collected D, args := #[] } :: a.defers } V)
    (hstart : I w) : (Code.rangeFunc g ps assign body).wpIn F n P Q a w := by
  refine wpIn_rangeFunc fun fn hfn => ?_
  rw [hround]
  obtain ⟨R, hR⟩ : ∃ R : LoopState → Option Code → Loop, R = fun st pe => { state := st, pending := pe, fn, tmps := a.tmps, params := ps, assign, body, defers := w.heap.size } := ⟨_, rfl⟩
  obtain ⟨s, hs⟩ : ∃ s, s = w.heap.size := ⟨_, rfl⟩
  have start : ∃ V, (Instr.enterLoop fn a.tmps ps assign body none).run P w = .ok (s + 1, [{ target := .collected s, args := #[] }]) V ∧ V.heap[s]? = some (.deferred (some [])) ∧ V.heap[s + 1]? = some (.loop (R .ready none)) ∧ I V ∧ s + 1 < V.heap.size := by
    refine ⟨_, by rw [run_enterLoop_outer, ← hs], ?_, ?_, hI.alloc (s := ()) _ (hI.alloc (s := ()) _ hstart), by simp; omega⟩
    · have e1 := World.alloc_heap_new w (.deferred (some []))
      rw [hs]
      exact (Below.heap_alloc _ _ _ (by simp)).trans e1
    · have e2 := World.alloc_heap_new (w.alloc (.deferred (some []))) (.loop (R .ready none))
      rw [World.size_alloc, hR] at e2
      rw [hR, hs]
      exact e2
  obtain ⟨V0, run0, d0, l0, i0, z0⟩ := start
  refine ⟨s + 1, [{ target := .collected s, args := #[] }], V0, { target := .fn (.func gf) lb, args := #[.func (.yield (s + 1)) #[] #[]] }, V0, gf, #[.func (.yield (s + 1)) #[] #[]] ++ lb, V0, run0, ?_, ?_, ?_, fun _ => hn, ?_⟩
  · simp only [resolve, hg]
    simp [go_sem]
  · intro f' hf'
    simp [Target.leads] at hf'
    exact hf' ▸ hgf
  · simp [invoke, go_sem, henter]
  · refine (hit (s + 1) V0 i0).mono ?_
    rintro e V ⟨⟨v, rfl⟩, hb, hi⟩
    have hd : V.heap[s]? = some (.deferred (some [])) := (hb.block _ (Array.getElem?_eq_some_iff.1 d0).1).trans d0
    have hl : V.heap[s + 1]? = some (.loop (R .ready none)) := (hb.block _ (Array.getElem?_eq_some_iff.1 l0).1).trans l0
    have hr := run_endLoop (P := P) hl (by rw [hR]; simp)
    rw [show (R .ready none).pending = none by rw [hR]] at hr
    exact ⟨none, _, hr, hdone s _ (by omega) (hI.putObj (s := ()) _ hi (by omega) hl rfl) ((World.putObj_heap_other (by omega)).trans hd)⟩
end Go.Proofs.Ytmkgadndfiiacaa
