/-
  How this seat's arguments of layer 13 are opened: a Conf (four numbers), an array of two words. Plain laws on how data read. No condition.
-/
import Derived.Test.YtiaafpemhalmpaaOpen2
import Derived.Lib.SmallJoins
namespace Go.Proofs.Ytiaafpemhalmpaa
set_option linter.unusedVariables false
set_option linter.unusedSimpArgs false
open Go.ChangeShapes Go.WideShapes Go.ChangeAt Go.RowKit Go.Joins

section
variable {H : Type} {enc : TypeId × Value → H} {P : Program} {w : World} {base : Nat} {spare : Nat → Bool} {held : Bool}
theorem open_arr2 {r : Reach} {b0 : Nat} {t e : TypeId} {k : IntKind} {v : Value} {d : DataW H} {ps : List MemPlace} (ht : P.underlying t = some (.array 2 e)) (he : P.underlying e = some (.int k)) (hC : P.cellsOf t = 2) (hE : P.cellsOf e = 1)
    (hval : Value.okWide P w r b0 t v) (hd : DataW.Trod enc P w base spare held t v d ps) :
    ∃ n0 n1, v = .agg #[.int k n0, .int k n1] ∧ (Lit.int k n0).wf = true ∧ (Lit.int k n1).wf = true := by
  simp only [Value.okWide, ht] at hval
  obtain ⟨cs, rfl, hsz, _⟩ := hval
  rw [hC] at hsz
  obtain ⟨l⟩ := cs
  match l, hsz with
  | [c0, c1], _ =>
    obtain ⟨fuel, hf⟩ := hd
    obtain ⟨xs, m, _, _, _, hlen, hi⟩ := DataW.trod_array ht hf
    rw [hE] at hi
    match xs, hlen with
    | [y0, y1], _ =>
      have g0 := hi 0 (by omega); have g1 := hi 1 (by omega)
      simp [Value.cells] at g0 g1
      obtain ⟨n0, e0, _, w0⟩ := DataW.trod_int he g0
      obtain ⟨n1, e1, _, w1⟩ := DataW.trod_int he g1
      simp at e0 e1
      subst e0 e1
      exact ⟨n0, n1, rfl, w0, w1⟩
theorem open_conf {r : Reach} {b0 : Nat} {t e0 e1 : TypeId} {v : Value} {d : DataW H} {ps : List MemPlace} {fs : Array Field} (ht : P.underlying t = some (.struct fs))
    (hfs : fs.map (fun f => (f.type, f.offset)) = #[(e0, 0), (e0, 1), (e1, 2), (e1, 3)]) (he0 : P.underlying e0 = some (.int .i64)) (he1 : P.underlying e1 = some (.int .u64)) (hC : P.cellsOf t = 4) (hE0 : P.cellsOf e0 = 1) (hE1 : P.cellsOf e1 = 1)
    (hval : Value.okWide P w r b0 t v) (hd : DataW.Trod enc P w base spare held t v d ps) :
    ∃ n0 n1 n2 n3, v = .agg #[.int .i64 n0, .int .i64 n1, .int .u64 n2, .int .u64 n3] ∧ (Lit.int .i64 n0).wf = true ∧ (Lit.int .i64 n1).wf = true ∧ (Lit.int .u64 n2).wf = true ∧ (Lit.int .u64 n3).wf = true := by
  obtain ⟨cs, rfl, hsz⟩ := okWide_struct ht hval
  rw [hC] at hsz
  obtain ⟨c0, c1, c2, c3, rfl⟩ := array4 hsz
  obtain ⟨fl⟩ := fs
  have hl : fl.length = 4 := by simpa using congrArg Array.size hfs
  match fl, hl with
  | [f0, f1, f2, f3], _ =>
    simp at hfs
    obtain ⟨⟨t0, o0⟩, ⟨t1, o1⟩, ⟨t2, o2⟩, t3, o3⟩ := hfs
    obtain ⟨fuel, hf⟩ := hd
    obtain ⟨y0, y1, y2, y3, n, _, _, g0, g1, g2, g3⟩ := trod_struct4 ht hf
    rw [t0, o0, hE0] at g0; rw [t1, o1, hE0] at g1; rw [t2, o2, hE1] at g2; rw [t3, o3, hE1] at g3
    simp [Value.cells] at g0 g1 g2 g3
    obtain ⟨n0, e0, _, w0⟩ := DataW.trod_int he0 g0
    obtain ⟨n1, e1, _, w1⟩ := DataW.trod_int he0 g1
    obtain ⟨n2, e2, _, w2⟩ := DataW.trod_int he1 g2
    obtain ⟨n3, e3, _, w3⟩ := DataW.trod_int he1 g3
    simp at e0 e1 e2 e3
    subst e0 e1 e2 e3
    exact ⟨n0, n1, n2, n3, rfl, w0, w1, w2, w3⟩
end
end Go.Proofs.Ytiaafpemhalmpaa
