/-
  How slices of small structs are opened: of a byte and a number, of a byte and two numbers, of a truth and two numbers. Plain laws on how data read. No condition.
-/
import Derived.Test.YtfjhcmihjffknaaOpen2
namespace Go.Proofs.Ytfjhcmihjffknaa
set_option linter.unusedVariables false
set_option linter.unusedSimpArgs false
open Go.ChangeShapes Go.WideShapes Go.ChangeAt Go.RowKit

section
variable {H : Type} {enc : TypeId × Value → H} {P : Program} {w : World} {base : Nat} {spare : Nat → Bool} {held : Bool}

/-- What is done: a kind, a number. -/
structure Act6 where
  k : Int
  n : Int
def Act6.ok (f : Act6) : Prop := (0 ≤ f.k ∧ f.k ≤ 255) ∧ (-9223372036854775808 ≤ f.n ∧ f.n ≤ 9223372036854775807)
def Act6.nil : Act6 := ⟨0, 0⟩
/-- A slice of such that came in: its elements. -/
def RowA6 (w : World) (a : Option Addr) (n : Nat) (fs : List Act6) : Prop :=
  fs.length = n ∧ n ≤ maxLen ∧ (∀ x ∈ fs, x.ok) ∧ (0 < n → ∃ b off, a = some ⟨b, off, none⟩ ∧ b < w.heap.size ∧ ∀ i, i < n →
    w.cell? ⟨b, off + i * 2, none⟩ = some (.int .u8 (fs.getD i Act6.nil).k) ∧ w.cell? ⟨b, off + i * 2 + 1, none⟩ = some (.int .i64 (fs.getD i Act6.nil).n))
theorem open_acts6 {r : Reach} {b0 : Nat} {t e : TypeId} {f0 f1 : Field} {v : Value} {d : DataW H} {ps : List MemPlace} (ht : P.underlying t = some (.slice e)) (he : P.underlying e = some (.struct #[f0, f1])) (hE : P.cellsOf e = 2)
    (o0 : f0.offset = 0) (o1 : f1.offset = 1) (c0 : P.cellsOf f0.type = 1) (c1 : P.cellsOf f1.type = 1)
    (u0 : P.underlying f0.type = some (.int .u8)) (u1 : P.underlying f1.type = some (.int .i64))
    (hval : Value.okWide P w r b0 t v) (hd : DataW.Trod enc P w base spare held t v d ps) :
    ∃ a n cap fs, v = .slice a n cap ∧ RowA6 w a n fs ∧ n ≤ cap := by
  obtain ⟨a0, len, cap, rfl⟩ := okWide_slice ht hval
  obtain ⟨fuel, hf⟩ := hd
  rcases DataW.trod_slice ht hf with ⟨hcs, _⟩ | ⟨x, l, c, elems, rest, m, _, hcs, _, _, hl, hm, hlen, hel, _, _⟩
  · simp [Value.cells] at hcs
    obtain ⟨rfl, rfl, rfl⟩ := hcs
    exact ⟨none, 0, 0, [], rfl, ⟨rfl, Nat.zero_le _, by simp, fun h => absurd h (by omega)⟩, Nat.le_refl _⟩
  · simp [Value.cells] at hcs
    obtain ⟨rfl, rfl, rfl⟩ := hcs
    rw [hE] at hel
    have each : ∀ i, i < len → ∃ f : Act6, f.ok ∧ w.cell? (x.add (i * 2)) = some (.int .u8 f.k) ∧ w.cell? ((x.add (i * 2)).add 1) = some (.int .i64 f.n) := by
      intro i hi
      have h := hel i hi
      rw [List.getElem?_eq_getElem (by omega)] at h
      obtain ⟨cs, hcs, htr⟩ := Option.bind_eq_some_iff.1 h
      unfold World.cells? at hcs
      split at hcs
      · have hr : List.range 2 = [0, 1] := rfl
        rw [hr] at hcs
        simp only [List.mapM_cons, List.mapM_nil, Option.bind_eq_bind, Option.bind_eq_some_iff, Option.pure_def, Option.some.injEq] at hcs
        obtain ⟨v0, g0, l0, ⟨v1, g1, l1, rfl, rfl⟩, rfl⟩ := hcs
        obtain ⟨xs, n', _, _, _, hxl, hx⟩ := DataW.trod_struct he htr
        have h0 := hx 0 f0 rfl
        have h1 := hx 1 f1 rfl
        rw [o0, c0] at h0; rw [o1, c1] at h1
        match xs, hxl with
        | [y0, y1], _ =>
          simp at h0 h1
          obtain ⟨k, e0, _, w0⟩ := DataW.trod_int u0 h0
          obtain ⟨n, e1, _, w1⟩ := DataW.trod_int u1 h1
          simp at e0 e1
          subst e0 e1
          refine ⟨⟨k, n⟩, ⟨bounds_u8 w0, bounds_i64 w1⟩, ?_, g1⟩
          have : (x.add (i * 2)).add 0 = x.add (i * 2) := by simp [Addr.add]
          rw [this] at g0
          exact g0
      · cases hcs
    by_cases h0 : len = 0
    · subst h0
      exact ⟨some x, 0, cap, [], rfl, ⟨rfl, Nat.zero_le _, by simp, fun h => absurd h (by omega)⟩, hl⟩
    · obtain ⟨b, off, spot⟩ := x
      have hspot : spot = none := by
        obtain ⟨f, _, hc, _⟩ := each 0 (by omega)
        simpa [Addr.add] using World.cell?_spot hc
      subst hspot
      have each' : ∀ i, i < len → ∃ f : Act6, f.ok ∧ w.cell? ⟨b, off + i * 2, none⟩ = some (.int .u8 f.k) ∧ w.cell? ⟨b, off + i * 2 + 1, none⟩ = some (.int .i64 f.n) := fun i hi => by
        have := each i hi
        simp only [Go.WideShapes.add_plain] at this
        exact this
      have hb : b < w.heap.size := by
        obtain ⟨f, _, hc, _⟩ := each' 0 (by omega)
        exact block_lt hc
      have pick : ∃ g : Nat → Act6, ∀ i, i < len → (g i).ok ∧ w.cell? ⟨b, off + i * 2, none⟩ = some (.int .u8 (g i).k) ∧ w.cell? ⟨b, off + i * 2 + 1, none⟩ = some (.int .i64 (g i).n) :=
        ⟨fun i => if h : i < len then Classical.choose (each' i h) else Act6.nil, fun i hi => by
          simp only [dif_pos hi]
          exact Classical.choose_spec (each' i hi)⟩
      obtain ⟨g, hg⟩ := pick
      refine ⟨some ⟨b, off, none⟩, len, cap, (List.range len).map g, rfl, ⟨by simp, by omega, fun y hy => ?_, fun _ => ⟨b, off, rfl, hb, fun i hi => ?_⟩⟩, hl⟩
      · obtain ⟨i, hi, rfl⟩ := List.mem_map.1 hy
        exact (hg i (List.mem_range.1 hi)).1
      · have e : ((List.range len).map g).getD i Act6.nil = g i := by
          rw [List.getD_eq_getElem?_getD, List.getElem?_map, List.getElem?_range hi]; rfl
        rw [e]
        exact (hg i hi).2

/-- What is done: a kind, a queue, a number. -/
structure Act7 where
  k : Int
  q : Int
  n : Int
def Act7.ok (f : Act7) : Prop := (0 ≤ f.k ∧ f.k ≤ 255) ∧ (-9223372036854775808 ≤ f.q ∧ f.q ≤ 9223372036854775807) ∧ (-9223372036854775808 ≤ f.n ∧ f.n ≤ 9223372036854775807)
def Act7.nil : Act7 := ⟨0, 0, 0⟩
/-- A slice of such that came in: its elements. -/
def RowA7 (w : World) (a : Option Addr) (n : Nat) (fs : List Act7) : Prop :=
  fs.length = n ∧ n ≤ maxLen ∧ (∀ x ∈ fs, x.ok) ∧ (0 < n → ∃ b off, a = some ⟨b, off, none⟩ ∧ b < w.heap.size ∧ ∀ i, i < n →
    w.cell? ⟨b, off + i * 3, none⟩ = some (.int .u8 (fs.getD i Act7.nil).k) ∧ w.cell? ⟨b, off + i * 3 + 1, none⟩ = some (.int .i64 (fs.getD i Act7.nil).q) ∧ w.cell? ⟨b, off + i * 3 + 2, none⟩ = some (.int .i64 (fs.getD i Act7.nil).n))
theorem open_acts7 {r : Reach} {b0 : Nat} {t e : TypeId} {f0 f1 f2 : Field} {v : Value} {d : DataW H} {ps : List MemPlace} (ht : P.underlying t = some (.slice e)) (he : P.underlying e = some (.struct #[f0, f1, f2])) (hE : P.cellsOf e = 3)
    (o0 : f0.offset = 0) (o1 : f1.offset = 1) (o2 : f2.offset = 2) (c0 : P.cellsOf f0.type = 1) (c1 : P.cellsOf f1.type = 1) (c2 : P.cellsOf f2.type = 1)
    (u0 : P.underlying f0.type = some (.int .u8)) (u1 : P.underlying f1.type = some (.int .i64)) (u2 : P.underlying f2.type = some (.int .i64))
    (hval : Value.okWide P w r b0 t v) (hd : DataW.Trod enc P w base spare held t v d ps) :
    ∃ a n cap fs, v = .slice a n cap ∧ RowA7 w a n fs ∧ n ≤ cap := by
  obtain ⟨a0, len, cap, rfl⟩ := okWide_slice ht hval
  obtain ⟨fuel, hf⟩ := hd
  rcases DataW.trod_slice ht hf with ⟨hcs, _⟩ | ⟨x, l, c, elems, rest, m, _, hcs, _, _, hl, hm, hlen, hel, _, _⟩
  · simp [Value.cells] at hcs
    obtain ⟨rfl, rfl, rfl⟩ := hcs
    exact ⟨none, 0, 0, [], rfl, ⟨rfl, Nat.zero_le _, by simp, fun h => absurd h (by omega)⟩, Nat.le_refl _⟩
  · simp [Value.cells] at hcs
    obtain ⟨rfl, rfl, rfl⟩ := hcs
    rw [hE] at hel
    have each : ∀ i, i < len → ∃ f : Act7, f.ok ∧ w.cell? (x.add (i * 3)) = some (.int .u8 f.k) ∧ w.cell? ((x.add (i * 3)).add 1) = some (.int .i64 f.q) ∧ w.cell? ((x.add (i * 3)).add 2) = some (.int .i64 f.n) := by
      intro i hi
      have h := hel i hi
      rw [List.getElem?_eq_getElem (by omega)] at h
      obtain ⟨cs, hcs, htr⟩ := Option.bind_eq_some_iff.1 h
      unfold World.cells? at hcs
      split at hcs
      · have hr : List.range 3 = [0, 1, 2] := rfl
        rw [hr] at hcs
        simp only [List.mapM_cons, List.mapM_nil, Option.bind_eq_bind, Option.bind_eq_some_iff, Option.pure_def, Option.some.injEq] at hcs
        obtain ⟨v0, g0, l0, ⟨v1, g1, l1, ⟨v2, g2, l2, rfl, rfl⟩, rfl⟩, rfl⟩ := hcs
        obtain ⟨xs, n', _, _, _, hxl, hx⟩ := DataW.trod_struct he htr
        have h0 := hx 0 f0 rfl
        have h1 := hx 1 f1 rfl
        have h2 := hx 2 f2 rfl
        rw [o0, c0] at h0; rw [o1, c1] at h1; rw [o2, c2] at h2
        match xs, hxl with
        | [y0, y1, y2], _ =>
          simp at h0 h1 h2
          obtain ⟨k, e0, _, w0⟩ := DataW.trod_int u0 h0
          obtain ⟨q, e1, _, w1⟩ := DataW.trod_int u1 h1
          obtain ⟨n, e2, _, w2⟩ := DataW.trod_int u2 h2
          simp at e0 e1 e2
          subst e0 e1 e2
          refine ⟨⟨k, q, n⟩, ⟨bounds_u8 w0, bounds_i64 w1, bounds_i64 w2⟩, ?_, g1, g2⟩
          have : (x.add (i * 3)).add 0 = x.add (i * 3) := by simp [Addr.add]
          rw [this] at g0
          exact g0
      · cases hcs
    by_cases h0 : len = 0
    · subst h0
      exact ⟨some x, 0, cap, [], rfl, ⟨rfl, Nat.zero_le _, by simp, fun h => absurd h (by omega)⟩, hl⟩
    · obtain ⟨b, off, spot⟩ := x
      have hspot : spot = none := by
        obtain ⟨f, _, hc, _⟩ := each 0 (by omega)
        simpa [Addr.add] using World.cell?_spot hc
      subst hspot
      have each' : ∀ i, i < len → ∃ f : Act7, f.ok ∧ w.cell? ⟨b, off + i * 3, none⟩ = some (.int .u8 f.k) ∧ w.cell? ⟨b, off + i * 3 + 1, none⟩ = some (.int .i64 f.q) ∧ w.cell? ⟨b, off + i * 3 + 2, none⟩ = some (.int .i64 f.n) := fun i hi => by
        have := each i hi
        simp only [Go.WideShapes.add_plain] at this
        exact this
      have hb : b < w.heap.size := by
        obtain ⟨f, _, hc, _⟩ := each' 0 (by omega)
        exact block_lt hc
      have pick : ∃ g : Nat → Act7, ∀ i, i < len → (g i).ok ∧ w.cell? ⟨b, off + i * 3, none⟩ = some (.int .u8 (g i).k) ∧ w.cell? ⟨b, off + i * 3 + 1, none⟩ = some (.int .i64 (g i).q) ∧ w.cell? ⟨b, off + i * 3 + 2, none⟩ = some (.int .i64 (g i).n) :=
        ⟨fun i => if h : i < len then Classical.choose (each' i h) else Act7.nil, fun i hi => by
          simp only [dif_pos hi]
          exact Classical.choose_spec (each' i hi)⟩
      obtain ⟨g, hg⟩ := pick
      refine ⟨some ⟨b, off, none⟩, len, cap, (List.range len).map g, rfl, ⟨by simp, by omega, fun y hy => ?_, fun _ => ⟨b, off, rfl, hb, fun i hi => ?_⟩⟩, hl⟩
      · obtain ⟨i, hi, rfl⟩ := List.mem_map.1 hy
        exact (hg i (List.mem_range.1 hi)).1
      · have e : ((List.range len).map g).getD i Act7.nil = g i := by
          rw [List.getD_eq_getElem?_getD, List.getElem?_map, List.getElem?_range hi]; rfl
        rw [e]
        exact (hg i hi).2

/-- What is done: put or dropped, a number, a place. -/
structure Act8 where
  d : Bool
  n : Int
  m : Int
def Act8.ok (f : Act8) : Prop := (-9223372036854775808 ≤ f.n ∧ f.n ≤ 9223372036854775807) ∧ (-9223372036854775808 ≤ f.m ∧ f.m ≤ 9223372036854775807)
def Act8.nil : Act8 := ⟨false, 0, 0⟩
/-- A slice of such that came in: its elements. -/
def RowA8 (w : World) (a : Option Addr) (n : Nat) (fs : List Act8) : Prop :=
  fs.length = n ∧ n ≤ maxLen ∧ (∀ x ∈ fs, x.ok) ∧ (0 < n → ∃ b off, a = some ⟨b, off, none⟩ ∧ b < w.heap.size ∧ ∀ i, i < n →
    w.cell? ⟨b, off + i * 3, none⟩ = some (.bool (fs.getD i Act8.nil).d) ∧ w.cell? ⟨b, off + i * 3 + 1, none⟩ = some (.int .i64 (fs.getD i Act8.nil).n) ∧ w.cell? ⟨b, off + i * 3 + 2, none⟩ = some (.int .i64 (fs.getD i Act8.nil).m))
theorem open_acts8 {r : Reach} {b0 : Nat} {t e : TypeId} {f0 f1 f2 : Field} {v : Value} {d : DataW H} {ps : List MemPlace} (ht : P.underlying t = some (.slice e)) (he : P.underlying e = some (.struct #[f0, f1, f2])) (hE : P.cellsOf e = 3)
    (o0 : f0.offset = 0) (o1 : f1.offset = 1) (o2 : f2.offset = 2) (c0 : P.cellsOf f0.type = 1) (c1 : P.cellsOf f1.type = 1) (c2 : P.cellsOf f2.type = 1)
    (u0 : P.underlying f0.type = some .bool) (u1 : P.underlying f1.type = some (.int .i64)) (u2 : P.underlying f2.type = some (.int .i64))
    (hval : Value.okWide P w r b0 t v) (hd : DataW.Trod enc P w base spare held t v d ps) :
    ∃ a n cap fs, v = .slice a n cap ∧ RowA8 w a n fs ∧ n ≤ cap := by
  obtain ⟨a0, len, cap, rfl⟩ := okWide_slice ht hval
  obtain ⟨fuel, hf⟩ := hd
  rcases DataW.trod_slice ht hf with ⟨hcs, _⟩ | ⟨x, l, c, elems, rest, m, _, hcs, _, _, hl, hm, hlen, hel, _, _⟩
  · simp [Value.cells] at hcs
    obtain ⟨rfl, rfl, rfl⟩ := hcs
    exact ⟨none, 0, 0, [], rfl, ⟨rfl, Nat.zero_le _, by simp, fun h => absurd h (by omega)⟩, Nat.le_refl _⟩
  · simp [Value.cells] at hcs
    obtain ⟨rfl, rfl, rfl⟩ := hcs
    rw [hE] at hel
    have each : ∀ i, i < len → ∃ f : Act8, f.ok ∧ w.cell? (x.add (i * 3)) = some (.bool f.d) ∧ w.cell? ((x.add (i * 3)).add 1) = some (.int .i64 f.n) ∧ w.cell? ((x.add (i * 3)).add 2) = some (.int .i64 f.m) := by
      intro i hi
      have h := hel i hi
      rw [List.getElem?_eq_getElem (by omega)] at h
      obtain ⟨cs, hcs, htr⟩ := Option.bind_eq_some_iff.1 h
      unfold World.cells? at hcs
      split at hcs
      · have hr : List.range 3 = [0, 1, 2] := rfl
        rw [hr] at hcs
        simp only [List.mapM_cons, List.mapM_nil, Option.bind_eq_bind, Option.bind_eq_some_iff, Option.pure_def, Option.some.injEq] at hcs
        obtain ⟨v0, g0, l0, ⟨v1, g1, l1, ⟨v2, g2, l2, rfl, rfl⟩, rfl⟩, rfl⟩ := hcs
        obtain ⟨xs, n', _, _, _, hxl, hx⟩ := DataW.trod_struct he htr
        have h0 := hx 0 f0 rfl
        have h1 := hx 1 f1 rfl
        have h2 := hx 2 f2 rfl
        rw [o0, c0] at h0; rw [o1, c1] at h1; rw [o2, c2] at h2
        match xs, hxl with
        | [y0, y1, y2], _ =>
          simp at h0 h1 h2
          obtain ⟨d, e0, _⟩ := DataW.trod_bool u0 h0
          obtain ⟨n, e1, _, w1⟩ := DataW.trod_int u1 h1
          obtain ⟨m, e2, _, w2⟩ := DataW.trod_int u2 h2
          simp at e0 e1 e2
          subst e0 e1 e2
          refine ⟨⟨d, n, m⟩, ⟨bounds_i64 w1, bounds_i64 w2⟩, ?_, g1, g2⟩
          have : (x.add (i * 3)).add 0 = x.add (i * 3) := by simp [Addr.add]
          rw [this] at g0
          exact g0
      · cases hcs
    by_cases h0 : len = 0
    · subst h0
      exact ⟨some x, 0, cap, [], rfl, ⟨rfl, Nat.zero_le _, by simp, fun h => absurd h (by omega)⟩, hl⟩
    · obtain ⟨b, off, spot⟩ := x
      have hspot : spot = none := by
        obtain ⟨f, _, hc, _⟩ := each 0 (by omega)
        simpa [Addr.add] using World.cell?_spot hc
      subst hspot
      have each' : ∀ i, i < len → ∃ f : Act8, f.ok ∧ w.cell? ⟨b, off + i * 3, none⟩ = some (.bool f.d) ∧ w.cell? ⟨b, off + i * 3 + 1, none⟩ = some (.int .i64 f.n) ∧ w.cell? ⟨b, off + i * 3 + 2, none⟩ = some (.int .i64 f.m) := fun i hi => by
        have := each i hi
        simp only [Go.WideShapes.add_plain] at this
        exact this
      have hb : b < w.heap.size := by
        obtain ⟨f, _, hc, _⟩ := each' 0 (by omega)
        exact block_lt hc
      have pick : ∃ g : Nat → Act8, ∀ i, i < len → (g i).ok ∧ w.cell? ⟨b, off + i * 3, none⟩ = some (.bool (g i).d) ∧ w.cell? ⟨b, off + i * 3 + 1, none⟩ = some (.int .i64 (g i).n) ∧ w.cell? ⟨b, off + i * 3 + 2, none⟩ = some (.int .i64 (g i).m) :=
        ⟨fun i => if h : i < len then Classical.choose (each' i h) else Act8.nil, fun i hi => by
          simp only [dif_pos hi]
          exact Classical.choose_spec (each' i hi)⟩
      obtain ⟨g, hg⟩ := pick
      refine ⟨some ⟨b, off, none⟩, len, cap, (List.range len).map g, rfl, ⟨by simp, by omega, fun y hy => ?_, fun _ => ⟨b, off, rfl, hb, fun i hi => ?_⟩⟩, hl⟩
      · obtain ⟨i, hi, rfl⟩ := List.mem_map.1 hy
        exact (hg i (List.mem_range.1 hi)).1
      · have e : ((List.range len).map g).getD i Act8.nil = g i := by
          rw [List.getD_eq_getElem?_getD, List.getElem?_map, List.getElem?_range hi]; rfl
        rw [e]
        exact (hg i hi).2
end
end Go.Proofs.Ytfjhcmihjffknaa
