/-
  How this seat's arguments of layer 15 are opened: an act (a kind, a number, an element). Plain laws on how data read. No condition.
-/
import Derived.Test.YtnnbkooikimedaaOpen2
namespace Go.Proofs.Ytnnbkooikimedaa
set_option linter.unusedVariables false
set_option linter.unusedSimpArgs false
open Go.ChangeShapes Go.WideShapes Go.ChangeAt Go.RowKit

section
variable {H : Type} {enc : TypeId × Value → H} {P : Program} {w : World} {base : Nat} {spare : Nat → Bool} {held : Bool}
theorem open_act15 {r : Reach} {b0 : Nat} {t : TypeId} {f0 f1 f2 : Field} {v : Value} {d : DataW H} {ps : List MemPlace} (he : P.underlying t = some (.struct #[f0, f1, f2])) (hE : P.cellsOf t = 3)
    (o0 : f0.offset = 0) (o1 : f1.offset = 1) (o2 : f2.offset = 2) (c0 : P.cellsOf f0.type = 1) (c1 : P.cellsOf f1.type = 1) (c2 : P.cellsOf f2.type = 1)
    (u0 : P.underlying f0.type = some (.int .u8)) (u1 : P.underlying f1.type = some (.int .u32)) (u2 : P.underlying f2.type = some (.int .i64))
    (hval : Value.okWide P w r b0 t v) (hd : DataW.Trod enc P w base spare held t v d ps) :
    ∃ k id x, v = .agg #[.int .u8 k, .int .u32 id, .int .i64 x] ∧ (Lit.int .u8 k).wf = true ∧ (Lit.int .u32 id).wf = true ∧ (Lit.int .i64 x).wf = true := by
  obtain ⟨cs, rfl, hsz⟩ := okWide_struct he hval
  rw [hE] at hsz
  obtain ⟨l⟩ := cs
  match l, hsz with
  | [d0, d1, d2], _ =>
    obtain ⟨fuel, hf⟩ := hd
    obtain ⟨xs, n', _, _, _, hxl, hx⟩ := DataW.trod_struct he hf
    have h0 := hx 0 f0 rfl
    have h1 := hx 1 f1 rfl
    have h2 := hx 2 f2 rfl
    rw [o0, c0] at h0; rw [o1, c1] at h1; rw [o2, c2] at h2
    match xs, hxl with
    | [y0, y1, y2], _ =>
      simp [Value.cells] at h0 h1 h2
      obtain ⟨k, e0, _, w0⟩ := DataW.trod_int u0 h0
      obtain ⟨id, e1, _, w1⟩ := DataW.trod_int u1 h1
      obtain ⟨x, e2, _, w2⟩ := DataW.trod_int u2 h2
      simp at e0 e1 e2
      subst e0 e1 e2
      exact ⟨k, id, x, rfl, w0, w1, w2⟩
end
end Go.Proofs.Ytnnbkooikimedaa
