/-
  A range over a function that goes on without end: the body leaves within so many rounds.
-/
import Derived.RangeFuncFrom
import Derived.RangeFuncCalls
import Derived.RangeFuncKeeps
namespace Go.Proofs.Ytmkgadndfiiacaa
set_option linter.unusedVariables false
open Go.RowKit

/-- What stands when nothing that there is turns. -/
def Stays {β : Type} (J : β → World → Prop) : Prop := ∀ k V V', J k V → Below V.heap.size V V' → J k V'
/-- An iterator tells the elements of a sequence without an end, so long as G holds in what is kept from round to round. -/
def Goes {α : Type} (F : Fence) (n : Nat) (P : Program) (gf : Nat) (lb : Array Value) (encs : α → Array Value) (seq : Nat → α) (G : World → Prop) : Prop :=
  ∀ (l N : Nat) (J : Nat → World → Prop) (Jx : World → Prop) (W : World), Stays J → (∀ k V, J k V → G V) → 0 < N →
    (∀ k V, k < N → J k V → YieldAt F (n - 1) P l (encs (seq k)) V fun e V' =>
      (e = .returned (.bool true) ∧ k + 1 < N ∧ J (k + 1) V') ∨ (e = .returned (.bool false) ∧ Jx V')) →
    J 0 W → CallsIn F n P gf (#[.func (.yield l) #[] #[]] ++ lb) W fun e W' => (∃ v, e = .returned v) ∧ Jx W'

/-- How a round's body may be left. -/
def earlyPost (N k : Nat) (I : Nat → World → Prop) (Ix : Code → World → Prop) (W : World) : Exit → Act → World → Prop
  | .normal, _, W' => KeepsOthers W W' ∧ k + 1 < N ∧ I (k + 1) W'
  | .ret, _, W' => KeepsOthers W W' ∧ Ix .ret W'
  | .exit id, _, W' => KeepsOthers W W' ∧ Ix (.exit id) W'
  | .goto t, _, W' => KeepsOthers W W' ∧ Ix (.goto t) W'
  | .panic _, _, _ => False
  | .outgrown, _, _ => False

theorem range_early {F : Fence} {n : Nat} {P : Program} {α : Type} {g : Operand} {ps : Array Tmp} {assign body : Code} {Q : Exit → Act → World → Prop} {a : Act} {w : World} (hround : F.round = none) (hn : 1 ≤ n)
    {gf : Nat} {lb : Array Value} (hg : a.eval g = .func (.func gf) #[] lb) (hgf : F.fn gf) (henter : ∀ args V, (callFunc gf args).run P V = .ok (.enter gf args) V)
    {encs : α → Array Value} {seq : Nat → α} {G : World → Prop} (hit : Goes F (n - 1) P gf lb encs seq G) (henc : ∀ x, (encs x).size = ps.size) (N : Nat) (hN : 0 < N)
    (I : Nat → World → Prop) (Ix : Code → World → Prop) (Ax : Nat → Act → World → Prop) (hI : OwnFrom w.heap.size I) (hIb : Stays I) (hIG : ∀ k V, I k V → G V) (hIx : ∀ c, OwnFrom w.heap.size (fun (_ : Unit) V => Ix c V)) (hAx : ∀ a', OwnFrom w.heap.size (fun k V => Ax k a' V))
    (hassign : ∀ (l k : Nat) (V : World), k < N → I k V →
      assign.wpIn (F.inRound l) (n - 1 - 1) P (Exit.then (fun a' V' => KeepsOthers V V' ∧ Ax k a' V') (fun _ _ _ => False)) { tmps := (ps.zip (encs (seq k))).foldl (fun t (p, v) => t.setIfInBounds p v) a.tmps, defers := [] } V)
    (hbody : ∀ (l k : Nat) (a' : Act) (V : World), k < N → Ax k a' V → body.wpIn (F.inRound l) (n - 1 - 1) P (earlyPost N k I Ix V) a' V)
    (hstop : ∀ (D : Nat) (c : Code) (V : World), w.heap.size ≤ D → Ix c V → V.heap[D]? = some (.deferred (some [])) → c.wpIn F n P Q { a with defers := { target := .collected D, args := #[] } :: a.defers } V)
    (hstart : I 0 w) : (Code.rangeFunc g ps assign body).wpIn F n P Q a w := by
  refine wpIn_rangeFunc fun fn hfn => ?_
  rw [hround]
  obtain ⟨R, hR⟩ : ∃ R : LoopState → Option Code → Loop, R = fun st pe => { state := st, pending := pe, fn, tmps := a.tmps, params := ps, assign, body, defers := w.heap.size } := ⟨_, rfl⟩
  obtain ⟨s, hs⟩ : ∃ s, s = w.heap.size := ⟨_, rfl⟩
  have start : ∃ V, (Instr.enterLoop fn a.tmps ps assign body none).run P w = .ok (s + 1, [{ target := .collected s, args := #[] }]) V ∧ V.heap[s]? = some (.deferred (some [])) ∧ V.heap[s + 1]? = some (.loop (R .ready none)) ∧ I 0 V ∧ s + 1 < V.heap.size := by
    refine ⟨_, by rw [run_enterLoop_outer, ← hs], ?_, ?_, hI.alloc _ (hI.alloc _ hstart), by simp; omega⟩
    · have e1 := World.alloc_heap_new w (.deferred (some []))
      rw [hs]
      exact (Below.heap_alloc _ _ _ (by simp)).trans e1
    · have e2 := World.alloc_heap_new (w.alloc (.deferred (some []))) (.loop (R .ready none))
      rw [World.size_alloc, hR] at e2
      rw [hR, hs]
      exact e2
  obtain ⟨V0, run0, d0, l0, i0, z0⟩ := start
  have step : ∀ {A B : World} {row : Option Nat} {o : Obj} {k : Nat}, A.grownBy B row → (∀ r, row = some r → ∃ o : Obj, A.heap[r]? = some o ∧ o.isWalk = true) → A.heap[k]? = some o → o.isWalk = false → B.heap[k]? = some o :=
    fun hgr hrow hk hw => (grownBy_keeps hgr hrow hk hw).trans hk
  refine ⟨s + 1, [{ target := .collected s, args := #[] }], V0, { target := .fn (.func gf) lb, args := #[.func (.yield (s + 1)) #[] #[]] }, V0, gf, #[.func (.yield (s + 1)) #[] #[]] ++ lb, V0, run0, ?_, ?_, ?_, fun _ => hn, ?_⟩
  · simp only [resolve, hg]
    simp [go_sem]
  · intro f' hf'
    simp [Target.leads] at hf'
    exact hf' ▸ hgf
  · simp [invoke, go_sem, henter]
  · refine (hit (s + 1) N (fun k V => I k V ∧ V.heap[s]? = some (.deferred (some [])) ∧ V.heap[s + 1]? = some (.loop (R .ready none)))
      (fun V => ∃ c, Ix c V ∧ V.heap[s]? = some (.deferred (some [])) ∧ V.heap[s + 1]? = some (.loop (R .done (some c)))) V0 ?_ (fun k V h => hIG k V h.1) hN ?_ ⟨i0, d0, l0⟩).mono ?_
    · rintro k A B ⟨hi, hd, hl⟩ hb
      exact ⟨hIb k A B hi hb, (hb.block _ (Array.getElem?_eq_some_iff.1 hd).1).trans hd, (hb.block _ (Array.getElem?_eq_some_iff.1 hl).1).trans hl⟩
    · rintro k V hk ⟨hi, hd, hl⟩
      have hy := run_yield (P := P) (args := encs (seq k)) hl (by rw [hR]; exact henc (seq k))
      rw [hR] at hy
      have zl := (Array.getElem?_eq_some_iff.1 hl).1
      refine ⟨fn, _, assign, body, hy, roundIn_of_wpIn hfn (wpIn_mono (hassign (s + 1) k V hk hi) ?_)⟩
      rintro e a1 V1 hp
      cases e with
      | normal =>
        obtain ⟨hk1, hax⟩ := hp
        have hl1 := hk1.same _ _ hl rfl
        have hd1 := hk1.same _ _ hd rfl
        have zl1 := (Array.getElem?_eq_some_iff.1 hl1).1
        refine ⟨_, run_beginRound hl1 (by rw [hR]), ?_⟩
        refine wpIn_mono (hbody (s + 1) k a1 _ hk ((hAx a1).putObj _ hax (by omega) hl1 rfl)) ?_
        have hl2 := World.putObj_heap_same (o := .loop { R .ready none with state := .busy }) zl1
        have hd2 : (V1.putObj (s + 1) (.loop { R .ready none with state := .busy })).heap[s]? = some (.deferred (some [])) := (World.putObj_heap_other (by omega)).trans hd1
        rintro e2 a3 V3 hp3
        cases e2 with
        | normal =>
          obtain ⟨hk3, hlt3, hi3⟩ := hp3
          have hl3 := hk3.same _ _ hl2 rfl
          refine ⟨_, _, run_endRound (P := P) none hl3, .inl ⟨rfl, hlt3, hI.putObj _ hi3 (by omega) hl3 rfl, (World.putObj_heap_other (by omega)).trans (hk3.same _ _ hd2 rfl), ?_⟩⟩
          rw [World.putObj_heap_same (Array.getElem?_eq_some_iff.1 hl3).1]
          simp [hR]
        | ret =>
          obtain ⟨hk3, hi3⟩ := hp3
          have hl3 := hk3.same _ _ hl2 rfl
          refine ⟨_, _, run_endRound (P := P) (some (.ret)) hl3, .inr ⟨rfl, .ret, (hIx _).putObj (s := ()) _ hi3 (by omega) hl3 rfl, (World.putObj_heap_other (by omega)).trans (hk3.same _ _ hd2 rfl), ?_⟩⟩
          rw [World.putObj_heap_same (Array.getElem?_eq_some_iff.1 hl3).1]
          simp [hR]
        | exit id =>
          obtain ⟨hk3, hi3⟩ := hp3
          have hl3 := hk3.same _ _ hl2 rfl
          refine ⟨_, _, run_endRound (P := P) (some (.exit id)) hl3, .inr ⟨rfl, .exit id, (hIx _).putObj (s := ()) _ hi3 (by omega) hl3 rfl, (World.putObj_heap_other (by omega)).trans (hk3.same _ _ hd2 rfl), ?_⟩⟩
          rw [World.putObj_heap_same (Array.getElem?_eq_some_iff.1 hl3).1]
          simp [hR]
        | goto t =>
          obtain ⟨hk3, hi3⟩ := hp3
          have hl3 := hk3.same _ _ hl2 rfl
          refine ⟨_, _, run_endRound (P := P) (some (.goto t)) hl3, .inr ⟨rfl, .goto t, (hIx _).putObj (s := ()) _ hi3 (by omega) hl3 rfl, (World.putObj_heap_other (by omega)).trans (hk3.same _ _ hd2 rfl), ?_⟩⟩
          rw [World.putObj_heap_same (Array.getElem?_eq_some_iff.1 hl3).1]
          simp [hR]
        | panic ch => exact hp3.elim
        | outgrown => exact hp3.elim
      | exit id => exact hp.elim
      | goto t => exact hp.elim
      | ret => exact hp.elim
      | panic ch => exact hp.elim
      | outgrown => exact hp.elim
    · rintro e V ⟨⟨v, rfl⟩, c, hi, hd, hl⟩
      have hr := run_endLoop (P := P) hl (by rw [hR]; simp)
      rw [show (R .done (some c)).pending = some c by rw [hR]] at hr
      exact ⟨some c, _, hr, hstop s c _ (by omega) ((hIx c).putObj (s := ()) _ hi (by omega) hl rfl) ((World.putObj_heap_other (by omega)).trans hd)⟩
end Go.Proofs.Ytmkgadndfiiacaa
