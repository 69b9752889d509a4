/-
  A range over a method value whose body never leaves early: the receiver stands in front of what the iterator is called with.
-/
import Derived.RangeFuncFrom
import Derived.RangeFuncCalls
namespace Go.Proofs.Ytcieggckmpabnaa
set_option linter.unusedVariables false
open Go.RowKit

/-- An iterator of function gf with the receiver in front tells just these elements, whatever is kept from round to round so long as G holds in it. -/
def Tells {α : Type} (F : Fence) (n : Nat) (P : Program) (gf : Nat) (recv : Value) (encs : α → Array Value) (xs : List α) (G : World → Prop) : Prop :=
  ∀ (l : Nat) (J : List α → World → Prop) (W : World), AbidesFrom W.heap.size J → (∀ pre V, J pre V → G V) →
    (∀ pre x rest V, xs = pre ++ x :: rest → J pre V → YieldAt F (n - 1) P l (encs x) V fun e V' => e = .returned (.bool true) ∧ J (pre ++ [x]) V') →
    J [] W → CallsIn F n P gf #[recv, .func (.yield l) #[] #[]] W fun e W' => (∃ v, e = .returned v) ∧ J xs W'

theorem range_method {F : Fence} {n : Nat} {P : Program} {α : Type} {g : Operand} {ps : Array Tmp} {assign body : Code} {Q : Exit → Act → World → Prop} {a : Act} {w : World} (hround : F.round = none) (hn : 1 ≤ n)
    {gf : Nat} {recv : Value} (hg : a.eval g = .func (.func gf) #[recv] #[]) (hgf : F.fn gf) (henter : ∀ args V, (callFunc gf args).run P V = .ok (.enter gf args) V)
    {encs : α → Array Value} {xs : List α} {G : World → Prop} (hit : Tells F (n - 1) P gf recv encs xs G) (henc : ∀ x, (encs x).size = ps.size)
    (I : List α → World → Prop) (hown : OwnFrom w.heap.size I) (hG : ∀ pre V, I pre V → G V) (a₁ : α → Act)
    (hassign : ∀ (l : Nat) (x : α) (V : World) (K : Act → World → Prop), K (a₁ x) V →
      assign.wpIn (F.inRound l) (n - 1 - 1) P (Exit.then K (fun _ _ _ => False)) { tmps := (ps.zip (encs x)).foldl (fun t (p, v) => t.setIfInBounds p v) a.tmps, defers := [] } V)
    (hbody : ∀ (l : Nat) pre x rest V, xs = pre ++ x :: rest → I pre V → body.wpIn (F.inRound l) (n - 1 - 1) P (fun e _ V' => e = .normal ∧ KeepsOthers V V' ∧ I (pre ++ [x]) V') (a₁ x) V)
    (hend : ∀ (D : Nat) V, w.heap.size ≤ D → I xs V → V.heap[D]? = some (.deferred (some [])) → Q .normal { a with defers := { target := .collected D, args := #[] } :: a.defers } V)
    (hstart : I [] w) : (Code.rangeFunc g ps assign body).wpIn F n P Q a w := by
  refine wpIn_rangeFunc fun fn hfn => ?_
  rw [hround]
  obtain ⟨R, hR⟩ : ∃ R : LoopState → Loop, R = fun st => { state := st, pending := none, fn, tmps := a.tmps, params := ps, assign, body, defers := w.heap.size } := ⟨_, rfl⟩
  obtain ⟨s, hs⟩ : ∃ s, s = w.heap.size := ⟨_, rfl⟩
  have start : ∃ V, (Instr.enterLoop fn a.tmps ps assign body none).run P w = .ok (s + 1, [{ target := .collected s, args := #[] }]) V ∧ V.heap[s]? = some (.deferred (some [])) ∧ V.heap[s + 1]? = some (.loop (R .ready)) ∧ I [] V ∧ s + 1 < V.heap.size := by
    refine ⟨_, by rw [run_enterLoop_outer, ← hs], ?_, ?_, hown.alloc _ (hown.alloc _ hstart), by simp; omega⟩
    · have e1 := World.alloc_heap_new w (.deferred (some []))
      rw [hs]
      exact (Below.heap_alloc _ _ _ (by simp)).trans e1
    · have e2 := World.alloc_heap_new (w.alloc (.deferred (some []))) (.loop (R .ready))
      rw [World.size_alloc, hR] at e2
      rw [hR, hs]
      exact e2
  obtain ⟨V0, run0, d0, l0, i0, z0⟩ := start
  have step : ∀ {A B : World} {row : Option Nat} {o : Obj} {k : Nat}, A.grownBy B row → (∀ r, row = some r → ∃ o : Obj, A.heap[r]? = some o ∧ o.isWalk = true) → A.heap[k]? = some o → o.isWalk = false → B.heap[k]? = some o :=
    fun hgr hrow hk hw => (grownBy_keeps hgr hrow hk hw).trans hk
  refine ⟨s + 1, [{ target := .collected s, args := #[] }], V0, { target := .fn (.func gf) #[], args := #[recv, .func (.yield (s + 1)) #[] #[]] }, V0, gf, #[recv, .func (.yield (s + 1)) #[] #[]], V0, run0, ?_, ?_, ?_, fun _ => hn, ?_⟩
  · simp only [resolve, hg]
    simp [go_sem]
  · intro f' hf'
    simp [Target.leads] at hf'
    exact hf' ▸ hgf
  · simp [invoke, go_sem, henter]
  · refine (hit (s + 1) (fun pre V => I pre V ∧ V.heap[s]? = some (.deferred (some [])) ∧ V.heap[s + 1]? = some (.loop (R .ready))) V0 ?_ (fun pre V h => hG pre V h.1) ?_ ⟨i0, d0, l0⟩).mono ?_
    · rintro pre A B row ⟨hi, hd, hl⟩ hgr hrow
      have hrow' : ∀ r, row = some r → ∃ o : Obj, A.heap[r]? = some o ∧ o.isWalk = true := fun r e => (hrow r e).2
      refine ⟨hown pre A B row hi hgr (fun r e => ?_), step hgr hrow' hd rfl, step hgr hrow' hl rfl⟩
      obtain ⟨hb, o, ho, hw⟩ := hrow r e
      exact ⟨by omega, o, ho, Obj.not_cells_of_walk hw⟩
    · rintro pre x rest V hx ⟨hi, hd, hl⟩
      have hy := run_yield (P := P) (args := encs x) hl (by rw [hR]; exact henc x)
      rw [hR] at hy
      have zl := (Array.getElem?_eq_some_iff.1 hl).1
      refine ⟨fn, _, assign, body, hy, roundIn_of_wpIn hfn (hassign _ x V _ ⟨_, run_beginRound hl (by rw [hR]), ?_⟩)⟩
      refine wpIn_mono (hbody _ pre x rest _ hx (hown.putObj _ hi (by omega) hl rfl)) ?_
      rintro e a3 V3 ⟨rfl, hk, hi3⟩
      have hl3 := hk.same _ _ (World.putObj_heap_same zl) rfl
      have hd3 := hk.same _ _ ((World.putObj_heap_other (by omega)).trans hd) rfl
      have hr := run_endRound (P := P) none hl3
      have hl4 := (Array.getElem?_eq_some_iff.1 hl3).1
      refine ⟨_, _, hr, rfl, hown.putObj _ hi3 (by omega) hl3 rfl, (World.putObj_heap_other (by omega)).trans hd3, ?_⟩
      rw [World.putObj_heap_same hl4]
      simp [hR]
    · rintro e V ⟨⟨v, rfl⟩, hi, hd, hl⟩
      have hr := run_endLoop (P := P) hl (by rw [hR]; simp)
      rw [show (R .ready).pending = none by rw [hR]] at hr
      exact ⟨none, _, hr, hend s _ (by omega) (hown.putObj _ hi (by omega) hl rfl) ((World.putObj_heap_other (by omega)).trans hd)⟩
end Go.Proofs.Ytcieggckmpabnaa
