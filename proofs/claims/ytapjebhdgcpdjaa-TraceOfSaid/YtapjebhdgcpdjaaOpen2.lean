/-
  How more arguments of this seat's laws are opened: an array of three words, a slice of strings, a slice of fields of a kind, a number and a string. Plain laws on how data read. No condition.
-/
import Derived.Test.YtapjebhdgcpdjaaOpen
import Derived.Test.YtapjebhdgcpdjaaStr
namespace Go.Proofs.Ytapjebhdgcpdjaa
set_option linter.unusedVariables false
set_option linter.unusedSimpArgs false
open Go.ChangeShapes Go.WideShapes Go.ChangeAt Go.RowKit

section
variable {H : Type} {enc : TypeId × Value → H} {P : Program} {w : World} {base : Nat} {spare : Nat → Bool} {held : Bool}

theorem open_arr3 {r : Reach} {b0 : Nat} {t e : TypeId} {k : IntKind} {v : Value} {d : DataW H} {ps : List MemPlace} (ht : P.underlying t = some (.array 3 e)) (he : P.underlying e = some (.int k)) (hC : P.cellsOf t = 3) (hE : P.cellsOf e = 1)
    (hval : Value.okWide P w r b0 t v) (hd : DataW.Trod enc P w base spare held t v d ps) :
    ∃ n0 n1 n2, v = .agg #[.int k n0, .int k n1, .int k n2] ∧ (Lit.int k n0).wf = true ∧ (Lit.int k n1).wf = true ∧ (Lit.int k n2).wf = true := by
  simp only [Value.okWide, ht] at hval
  obtain ⟨cs, rfl, hsz, _⟩ := hval
  rw [hC] at hsz
  obtain ⟨l⟩ := cs
  match l, hsz with
  | [c0, c1, c2], _ =>
    obtain ⟨fuel, hf⟩ := hd
    obtain ⟨xs, m, _, _, _, hlen, hi⟩ := DataW.trod_array ht hf
    rw [hE] at hi
    match xs, hlen with
    | [y0, y1, y2], _ =>
      have g0 := hi 0 (by omega); have g1 := hi 1 (by omega); have g2 := hi 2 (by omega)
      simp [Value.cells] at g0 g1 g2
      obtain ⟨n0, e0, _, w0⟩ := DataW.trod_int he g0
      obtain ⟨n1, e1, _, w1⟩ := DataW.trod_int he g1
      obtain ⟨n2, e2, _, w2⟩ := DataW.trod_int he g2
      simp at e0 e1 e2
      subst e0 e1 e2
      exact ⟨n0, n1, n2, rfl, w0, w1, w2⟩

theorem open_strs {r : Reach} {b0 : Nat} {t e : TypeId} {v : Value} {d : DataW H} {ps : List MemPlace} (ht : P.underlying t = some (.slice e)) (he : P.underlying e = some .string) (hE : P.cellsOf e = 1)
    (hval : Value.okWide P w r b0 t v) (hd : DataW.Trod enc P w base spare held t v d ps) :
    ∃ a n cap ss, v = .slice a n cap ∧ RowS w a n ss ∧ n ≤ cap := by
  obtain ⟨a0, len, cap, rfl⟩ := okWide_slice ht hval
  obtain ⟨fuel, hf⟩ := hd
  rcases open_strings ht he hE hf with ⟨hcs, _⟩ | ⟨x, l, c, ss, hcs, _, hl, hm, hz, _, hcell, hws⟩
  · simp [Value.cells] at hcs
    obtain ⟨rfl, rfl, rfl⟩ := hcs
    exact ⟨none, 0, 0, [], rfl, ⟨rfl, Nat.zero_le _, by simp, fun h => absurd h (by omega)⟩, Nat.le_refl _⟩
  · simp [Value.cells] at hcs
    obtain ⟨rfl, rfl, rfl⟩ := hcs
    have hlz : len ≤ ss.length := by rw [hz]; split <;> omega
    refine ⟨some x, len, cap, ss.take len, rfl, ⟨by simp; omega, by omega, fun y hy => hws y (List.mem_of_mem_take hy), fun h => ?_⟩, hl⟩
    obtain ⟨b, off, spot⟩ := x
    have hspot : spot = none := by simpa [Addr.add] using World.cell?_spot (hcell 0 (by omega))
    subst hspot
    have hc : ∀ j, j < ss.length → w.cell? ⟨b, off + j, none⟩ = some (.string (ss.getD j ByteArray.empty)) := fun j hj => by rw [← Go.WideShapes.add_plain]; exact hcell j hj
    refine ⟨b, off, rfl, block_lt (hc 0 (by omega)), fun i hi => ?_⟩
    rw [hc i (by omega)]
    congr 2
    simp [List.getD_eq_getElem?_getD, List.getElem?_take, hi]

/-- A field: its kind, its number, its string. -/
structure Fd where
  k : Int
  n : Int
  s : ByteArray
/-- A field that came in. -/
def Fd.ok (f : Fd) : Prop := (-9223372036854775808 ≤ f.k ∧ f.k ≤ 9223372036854775807) ∧ (0 ≤ f.n ∧ f.n ≤ 18446744073709551615) ∧ f.s.size ≤ maxLen
/-- A field of nothing. -/
def Fd.nil : Fd := ⟨0, 0, ByteArray.empty⟩
/-- A slice of fields that came in: its elements. -/
def RowF (w : World) (a : Option Addr) (n : Nat) (fs : List Fd) : Prop :=
  fs.length = n ∧ n ≤ maxLen ∧ (∀ x ∈ fs, x.ok) ∧ (0 < n → ∃ b off, a = some ⟨b, off, none⟩ ∧ b < w.heap.size ∧ ∀ i, i < n →
    w.cell? ⟨b, off + i * 3, none⟩ = some (.int .i64 (fs.getD i Fd.nil).k) ∧ w.cell? ⟨b, off + i * 3 + 1, none⟩ = some (.int .u64 (fs.getD i Fd.nil).n) ∧ w.cell? ⟨b, off + i * 3 + 2, none⟩ = some (.string (fs.getD i Fd.nil).s))

theorem open_fields {r : Reach} {b0 : Nat} {t e : TypeId} {f0 f1 f2 : Field} {v : Value} {d : DataW H} {ps : List MemPlace} (ht : P.underlying t = some (.slice e)) (he : P.underlying e = some (.struct #[f0, f1, f2])) (hE : P.cellsOf e = 3)
    (o0 : f0.offset = 0) (o1 : f1.offset = 1) (o2 : f2.offset = 2) (c0 : P.cellsOf f0.type = 1) (c1 : P.cellsOf f1.type = 1) (c2 : P.cellsOf f2.type = 1)
    (u0 : P.underlying f0.type = some (.int .i64)) (u1 : P.underlying f1.type = some (.int .u64)) (u2 : P.underlying f2.type = some .string)
    (hval : Value.okWide P w r b0 t v) (hd : DataW.Trod enc P w base spare held t v d ps) :
    ∃ a n cap fs, v = .slice a n cap ∧ RowF w a n fs ∧ n ≤ cap := by
  obtain ⟨a0, len, cap, rfl⟩ := okWide_slice ht hval
  obtain ⟨fuel, hf⟩ := hd
  rcases DataW.trod_slice ht hf with ⟨hcs, _⟩ | ⟨x, l, c, elems, rest, m, _, hcs, _, _, hl, hm, hlen, hel, _, _⟩
  · simp [Value.cells] at hcs
    obtain ⟨rfl, rfl, rfl⟩ := hcs
    exact ⟨none, 0, 0, [], rfl, ⟨rfl, Nat.zero_le _, by simp, fun h => absurd h (by omega)⟩, Nat.le_refl _⟩
  · simp [Value.cells] at hcs
    obtain ⟨rfl, rfl, rfl⟩ := hcs
    rw [hE] at hel
    have each : ∀ i, i < len → ∃ f : Fd, f.ok ∧ w.cell? (x.add (i * 3)) = some (.int .i64 f.k) ∧ w.cell? ((x.add (i * 3)).add 1) = some (.int .u64 f.n) ∧ w.cell? ((x.add (i * 3)).add 2) = some (.string f.s) := by
      intro i hi
      have h := hel i hi
      rw [List.getElem?_eq_getElem (by omega)] at h
      obtain ⟨cs, hcs, htr⟩ := Option.bind_eq_some_iff.1 h
      unfold World.cells? at hcs
      split at hcs
      · have hr : List.range 3 = [0, 1, 2] := rfl
        rw [hr] at hcs
        simp only [List.mapM_cons, List.mapM_nil, Option.bind_eq_bind, Option.bind_eq_some_iff, Option.pure_def, Option.some.injEq] at hcs
        obtain ⟨v0, g0, l0, ⟨v1, g1, l1, ⟨v2, g2, l2, rfl, rfl⟩, rfl⟩, rfl⟩ := hcs
        obtain ⟨xs, n', _, _, _, hxl, hx⟩ := DataW.trod_struct he htr
        have h0 := hx 0 f0 rfl
        have h1 := hx 1 f1 rfl
        have h2 := hx 2 f2 rfl
        rw [o0, c0] at h0; rw [o1, c1] at h1; rw [o2, c2] at h2
        match xs, hxl with
        | [y0, y1, y2], _ =>
          simp at h0 h1 h2
          obtain ⟨k, e0, _, w0⟩ := DataW.trod_int u0 h0
          obtain ⟨n, e1, _, w1⟩ := DataW.trod_int u1 h1
          obtain ⟨s, e2, _, w2⟩ := DataW.trod_string u2 h2
          simp at e0 e1 e2
          subst e0 e1 e2
          refine ⟨⟨k, n, s⟩, ⟨bounds_i64 w0, bounds_u64 w1, w2⟩, ?_, g1, g2⟩
          have : (x.add (i * 3)).add 0 = x.add (i * 3) := by simp [Addr.add]
          rw [this] at g0
          exact g0
      · cases hcs
    by_cases h0 : len = 0
    · subst h0
      exact ⟨some x, 0, cap, [], rfl, ⟨rfl, Nat.zero_le _, by simp, fun h => absurd h (by omega)⟩, hl⟩
    · obtain ⟨b, off, spot⟩ := x
      have hspot : spot = none := by
        obtain ⟨f, _, hc, _⟩ := each 0 (by omega)
        simpa [Addr.add] using World.cell?_spot hc
      subst hspot
      have each' : ∀ i, i < len → ∃ f : Fd, f.ok ∧ w.cell? ⟨b, off + i * 3, none⟩ = some (.int .i64 f.k) ∧ w.cell? ⟨b, off + i * 3 + 1, none⟩ = some (.int .u64 f.n) ∧ w.cell? ⟨b, off + i * 3 + 2, none⟩ = some (.string f.s) := fun i hi => by
        have := each i hi
        simp only [Go.WideShapes.add_plain] at this
        exact this
      have hb : b < w.heap.size := by
        obtain ⟨f, _, hc, _⟩ := each' 0 (by omega)
        exact block_lt hc
      have pick : ∃ g : Nat → Fd, ∀ i, i < len → (g i).ok ∧ w.cell? ⟨b, off + i * 3, none⟩ = some (.int .i64 (g i).k) ∧ w.cell? ⟨b, off + i * 3 + 1, none⟩ = some (.int .u64 (g i).n) ∧ w.cell? ⟨b, off + i * 3 + 2, none⟩ = some (.string (g i).s) :=
        ⟨fun i => if h : i < len then Classical.choose (each' i h) else Fd.nil, fun i hi => by
          simp only [dif_pos hi]
          exact Classical.choose_spec (each' i hi)⟩
      obtain ⟨g, hg⟩ := pick
      refine ⟨some ⟨b, off, none⟩, len, cap, (List.range len).map g, rfl, ⟨by simp, by omega, fun y hy => ?_, fun _ => ⟨b, off, rfl, hb, fun i hi => ?_⟩⟩, hl⟩
      · obtain ⟨i, hi, rfl⟩ := List.mem_map.1 hy
        exact (hg i (List.mem_range.1 hi)).1
      · have e : ((List.range len).map g).getD i Fd.nil = g i := by
          rw [List.getD_eq_getElem?_getD, List.getElem?_map, List.getElem?_range hi]; rfl
        rw [e]
        exact (hg i hi).2
end
end Go.Proofs.Ytapjebhdgcpdjaa
