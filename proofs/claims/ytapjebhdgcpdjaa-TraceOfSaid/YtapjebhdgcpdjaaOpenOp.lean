/-
  How a slice of operations is opened. Plain laws on how data read. No condition.
-/
import Derived.Test.YtapjebhdgcpdjaaOpsM
namespace Go.Proofs.Ytapjebhdgcpdjaa
set_option linter.unusedVariables false
set_option linter.unusedSimpArgs false
open Go.ChangeShapes Go.WideShapes Go.ChangeAt Go.RowKit

section
variable {H : Type} {enc : TypeId × Value → H} {P : Program} {w : World} {base : Nat} {spare : Nat → Bool} {held : Bool}

/-- A slice of such that came in: its elements. -/
def RowOp (w : World) (a : Option Addr) (n : Nat) (fs : List Opn) : Prop :=
  fs.length = n ∧ n ≤ maxLen ∧ (∀ x ∈ fs, x.ok) ∧ (0 < n → ∃ b off, a = some ⟨b, off, none⟩ ∧ b < w.heap.size ∧ ∀ i, i < n →
    w.cell? ⟨b, off + i * 5, none⟩ = some (.int .i64 (fs.getD i Opn.nil).k) ∧ w.cell? ⟨b, off + i * 5 + 1, none⟩ = some (.int .u32 (fs.getD i Opn.nil).fl) ∧ w.cell? ⟨b, off + i * 5 + 2, none⟩ = some (.int .u32 (fs.getD i Opn.nil).nr) ∧ w.cell? ⟨b, off + i * 5 + 3, none⟩ = some (.int .u64 (fs.getD i Opn.nil).ln) ∧ w.cell? ⟨b, off + i * 5 + 4, none⟩ = some (.int .u64 (fs.getD i Opn.nil).ti))
theorem open_ops {r : Reach} {b0 : Nat} {t e : TypeId} {f0 f1 f2 f3 f4 : Field} {v : Value} {d : DataW H} {ps : List MemPlace} (ht : P.underlying t = some (.slice e)) (he : P.underlying e = some (.struct #[f0, f1, f2, f3, f4])) (hE : P.cellsOf e = 5)
    (o0 : f0.offset = 0) (o1 : f1.offset = 1) (o2 : f2.offset = 2) (o3 : f3.offset = 3) (o4 : f4.offset = 4) (c0 : P.cellsOf f0.type = 1) (c1 : P.cellsOf f1.type = 1) (c2 : P.cellsOf f2.type = 1) (c3 : P.cellsOf f3.type = 1) (c4 : P.cellsOf f4.type = 1)
    (u0 : P.underlying f0.type = some (.int .i64)) (u1 : P.underlying f1.type = some (.int .u32)) (u2 : P.underlying f2.type = some (.int .u32)) (u3 : P.underlying f3.type = some (.int .u64)) (u4 : P.underlying f4.type = some (.int .u64))
    (hval : Value.okWide P w r b0 t v) (hd : DataW.Trod enc P w base spare held t v d ps) :
    ∃ a n cap fs, v = .slice a n cap ∧ RowOp w a n fs ∧ n ≤ cap := by
  obtain ⟨a0, len, cap, rfl⟩ := okWide_slice ht hval
  obtain ⟨fuel, hf⟩ := hd
  rcases DataW.trod_slice ht hf with ⟨hcs, _⟩ | ⟨x, l, c, elems, rest, m, _, hcs, _, _, hl, hm, hlen, hel, _, _⟩
  · simp [Value.cells] at hcs
    obtain ⟨rfl, rfl, rfl⟩ := hcs
    exact ⟨none, 0, 0, [], rfl, ⟨rfl, Nat.zero_le _, by simp, fun h => absurd h (by omega)⟩, Nat.le_refl _⟩
  · simp [Value.cells] at hcs
    obtain ⟨rfl, rfl, rfl⟩ := hcs
    rw [hE] at hel
    have each : ∀ i, i < len → ∃ f : Opn, f.ok ∧ w.cell? (x.add (i * 5)) = some (.int .i64 f.k) ∧ w.cell? ((x.add (i * 5)).add 1) = some (.int .u32 f.fl) ∧ w.cell? ((x.add (i * 5)).add 2) = some (.int .u32 f.nr) ∧ w.cell? ((x.add (i * 5)).add 3) = some (.int .u64 f.ln) ∧ w.cell? ((x.add (i * 5)).add 4) = some (.int .u64 f.ti) := by
      intro i hi
      have h := hel i hi
      rw [List.getElem?_eq_getElem (by omega)] at h
      obtain ⟨cs, hcs, htr⟩ := Option.bind_eq_some_iff.1 h
      unfold World.cells? at hcs
      split at hcs
      · have hr : List.range 5 = [0, 1, 2, 3, 4] := rfl
        rw [hr] at hcs
        simp only [List.mapM_cons, List.mapM_nil, Option.bind_eq_bind, Option.bind_eq_some_iff, Option.pure_def, Option.some.injEq] at hcs
        obtain ⟨v0, g0, l0, ⟨v1, g1, l1, ⟨v2, g2, l2, ⟨v3, g3, l3, ⟨v4, g4, l4, rfl, rfl⟩, rfl⟩, rfl⟩, rfl⟩, rfl⟩ := hcs
        obtain ⟨xs, n', _, _, _, hxl, hx⟩ := DataW.trod_struct he htr
        have h0 := hx 0 f0 rfl
        have h1 := hx 1 f1 rfl
        have h2 := hx 2 f2 rfl
        have h3 := hx 3 f3 rfl
        have h4 := hx 4 f4 rfl
        rw [o0, c0] at h0; rw [o1, c1] at h1; rw [o2, c2] at h2; rw [o3, c3] at h3; rw [o4, c4] at h4
        match xs, hxl with
        | [y0, y1, y2, y3, y4], _ =>
          simp at h0 h1 h2 h3 h4
          obtain ⟨k, e0, _, w0⟩ := DataW.trod_int u0 h0
          obtain ⟨fl, e1, _, w1⟩ := DataW.trod_int u1 h1
          obtain ⟨nr, e2, _, w2⟩ := DataW.trod_int u2 h2
          obtain ⟨ln, e3, _, w3⟩ := DataW.trod_int u3 h3
          obtain ⟨ti, e4, _, w4⟩ := DataW.trod_int u4 h4
          simp at e0 e1 e2 e3 e4
          subst e0 e1 e2 e3 e4
          refine ⟨⟨k, fl, nr, ln, ti⟩, ⟨bounds_i64 w0, bounds_u32 w1, bounds_u32 w2, bounds_u64 w3, bounds_u64 w4⟩, ?_, g1, g2, g3, g4⟩
          have : (x.add (i * 5)).add 0 = x.add (i * 5) := by simp [Addr.add]
          rw [this] at g0
          exact g0
      · cases hcs
    by_cases h0 : len = 0
    · subst h0
      exact ⟨some x, 0, cap, [], rfl, ⟨rfl, Nat.zero_le _, by simp, fun h => absurd h (by omega)⟩, hl⟩
    · obtain ⟨b, off, spot⟩ := x
      have hspot : spot = none := by
        obtain ⟨f, _, hc, _⟩ := each 0 (by omega)
        simpa [Addr.add] using World.cell?_spot hc
      subst hspot
      have each' : ∀ i, i < len → ∃ f : Opn, f.ok ∧ w.cell? ⟨b, off + i * 5, none⟩ = some (.int .i64 f.k) ∧ w.cell? ⟨b, off + i * 5 + 1, none⟩ = some (.int .u32 f.fl) ∧ w.cell? ⟨b, off + i * 5 + 2, none⟩ = some (.int .u32 f.nr) ∧ w.cell? ⟨b, off + i * 5 + 3, none⟩ = some (.int .u64 f.ln) ∧ w.cell? ⟨b, off + i * 5 + 4, none⟩ = some (.int .u64 f.ti) := fun i hi => by
        have := each i hi
        simp only [Go.WideShapes.add_plain] at this
        exact this
      have hb : b < w.heap.size := by
        obtain ⟨f, _, hc, _⟩ := each' 0 (by omega)
        exact block_lt hc
      have pick : ∃ g : Nat → Opn, ∀ i, i < len → (g i).ok ∧ w.cell? ⟨b, off + i * 5, none⟩ = some (.int .i64 (g i).k) ∧ w.cell? ⟨b, off + i * 5 + 1, none⟩ = some (.int .u32 (g i).fl) ∧ w.cell? ⟨b, off + i * 5 + 2, none⟩ = some (.int .u32 (g i).nr) ∧ w.cell? ⟨b, off + i * 5 + 3, none⟩ = some (.int .u64 (g i).ln) ∧ w.cell? ⟨b, off + i * 5 + 4, none⟩ = some (.int .u64 (g i).ti) :=
        ⟨fun i => if h : i < len then Classical.choose (each' i h) else Opn.nil, fun i hi => by
          simp only [dif_pos hi]
          exact Classical.choose_spec (each' i hi)⟩
      obtain ⟨g, hg⟩ := pick
      refine ⟨some ⟨b, off, none⟩, len, cap, (List.range len).map g, rfl, ⟨by simp, by omega, fun y hy => ?_, fun _ => ⟨b, off, rfl, hb, fun i hi => ?_⟩⟩, hl⟩
      · obtain ⟨i, hi, rfl⟩ := List.mem_map.1 hy
        exact (hg i (List.mem_range.1 hi)).1
      · have e : ((List.range len).map g).getD i Opn.nil = g i := by
          rw [List.getD_eq_getElem?_getD, List.getElem?_map, List.getElem?_range hi]; rfl
        rw [e]
        exact (hg i hi).2

end
end Go.Proofs.Ytapjebhdgcpdjaa
