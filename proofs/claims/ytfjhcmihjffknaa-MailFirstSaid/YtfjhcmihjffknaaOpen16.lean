/-
  How slices of small structs are opened: of five words; of four numbers and a row of words. Plain laws on how data read. No condition.
-/
import Derived.Test.YtfjhcmihjffknaaOpen2
namespace Go.Proofs.Ytfjhcmihjffknaa
set_option linter.unusedVariables false
set_option linter.unusedSimpArgs false
open Go.ChangeShapes Go.WideShapes Go.ChangeAt Go.RowKit

section
variable {H : Type} {enc : TypeId × Value → H} {P : Program} {w : World} {base : Nat} {spare : Nat → Bool} {held : Bool}

/-- A flow that came in: its number, cost, budget, size, cap. -/
structure Fl where
  id : Int
  co : Int
  bu : Int
  sz : Int
  cp : Int
def Fl.ok (f : Fl) : Prop := (0 ≤ f.id ∧ f.id ≤ 4294967295) ∧ (0 ≤ f.co ∧ f.co ≤ 18446744073709551615) ∧ (0 ≤ f.bu ∧ f.bu ≤ 18446744073709551615) ∧ (0 ≤ f.sz ∧ f.sz ≤ 18446744073709551615) ∧ (0 ≤ f.cp ∧ f.cp ≤ 18446744073709551615)
def Fl.nil : Fl := ⟨0, 0, 0, 0, 0⟩
/-- A slice of such that came in: its elements. -/
def RowFl (w : World) (a : Option Addr) (n : Nat) (fs : List Fl) : Prop :=
  fs.length = n ∧ n ≤ maxLen ∧ (∀ x ∈ fs, x.ok) ∧ (0 < n → ∃ b off, a = some ⟨b, off, none⟩ ∧ b < w.heap.size ∧ ∀ i, i < n →
    w.cell? ⟨b, off + i * 5, none⟩ = some (.int .u32 (fs.getD i Fl.nil).id) ∧ w.cell? ⟨b, off + i * 5 + 1, none⟩ = some (.int .u64 (fs.getD i Fl.nil).co) ∧ w.cell? ⟨b, off + i * 5 + 2, none⟩ = some (.int .u64 (fs.getD i Fl.nil).bu) ∧ w.cell? ⟨b, off + i * 5 + 3, none⟩ = some (.int .u64 (fs.getD i Fl.nil).sz) ∧ w.cell? ⟨b, off + i * 5 + 4, none⟩ = some (.int .u64 (fs.getD i Fl.nil).cp))
theorem open_flows {r : Reach} {b0 : Nat} {t e : TypeId} {f0 f1 f2 f3 f4 : Field} {v : Value} {d : DataW H} {ps : List MemPlace} (ht : P.underlying t = some (.slice e)) (he : P.underlying e = some (.struct #[f0, f1, f2, f3, f4])) (hE : P.cellsOf e = 5)
    (o0 : f0.offset = 0) (o1 : f1.offset = 1) (o2 : f2.offset = 2) (o3 : f3.offset = 3) (o4 : f4.offset = 4) (c0 : P.cellsOf f0.type = 1) (c1 : P.cellsOf f1.type = 1) (c2 : P.cellsOf f2.type = 1) (c3 : P.cellsOf f3.type = 1) (c4 : P.cellsOf f4.type = 1)
    (u0 : P.underlying f0.type = some (.int .u32)) (u1 : P.underlying f1.type = some (.int .u64)) (u2 : P.underlying f2.type = some (.int .u64)) (u3 : P.underlying f3.type = some (.int .u64)) (u4 : P.underlying f4.type = some (.int .u64))
    (hval : Value.okWide P w r b0 t v) (hd : DataW.Trod enc P w base spare held t v d ps) :
    ∃ a n cap fs, v = .slice a n cap ∧ RowFl w a n fs ∧ n ≤ cap := by
  obtain ⟨a0, len, cap, rfl⟩ := okWide_slice ht hval
  obtain ⟨fuel, hf⟩ := hd
  rcases DataW.trod_slice ht hf with ⟨hcs, _⟩ | ⟨x, l, c, elems, rest, m, _, hcs, _, _, hl, hm, hlen, hel, _, _⟩
  · simp [Value.cells] at hcs
    obtain ⟨rfl, rfl, rfl⟩ := hcs
    exact ⟨none, 0, 0, [], rfl, ⟨rfl, Nat.zero_le _, by simp, fun h => absurd h (by omega)⟩, Nat.le_refl _⟩
  · simp [Value.cells] at hcs
    obtain ⟨rfl, rfl, rfl⟩ := hcs
    rw [hE] at hel
    have each : ∀ i, i < len → ∃ f : Fl, f.ok ∧ w.cell? (x.add (i * 5)) = some (.int .u32 f.id) ∧ w.cell? ((x.add (i * 5)).add 1) = some (.int .u64 f.co) ∧ w.cell? ((x.add (i * 5)).add 2) = some (.int .u64 f.bu) ∧ w.cell? ((x.add (i * 5)).add 3) = some (.int .u64 f.sz) ∧ w.cell? ((x.add (i * 5)).add 4) = some (.int .u64 f.cp) := by
      intro i hi
      have h := hel i hi
      rw [List.getElem?_eq_getElem (by omega)] at h
      obtain ⟨cs, hcs, htr⟩ := Option.bind_eq_some_iff.1 h
      unfold World.cells? at hcs
      split at hcs
      · have hr : List.range 5 = [0, 1, 2, 3, 4] := rfl
        rw [hr] at hcs
        simp only [List.mapM_cons, List.mapM_nil, Option.bind_eq_bind, Option.bind_eq_some_iff, Option.pure_def, Option.some.injEq] at hcs
        obtain ⟨v0, g0, l0, ⟨v1, g1, l1, ⟨v2, g2, l2, ⟨v3, g3, l3, ⟨v4, g4, l4, rfl, rfl⟩, rfl⟩, rfl⟩, rfl⟩, rfl⟩ := hcs
        obtain ⟨xs, n', _, _, _, hxl, hx⟩ := DataW.trod_struct he htr
        have h0 := hx 0 f0 rfl
        have h1 := hx 1 f1 rfl
        have h2 := hx 2 f2 rfl
        have h3 := hx 3 f3 rfl
        have h4 := hx 4 f4 rfl
        rw [o0, c0] at h0; rw [o1, c1] at h1; rw [o2, c2] at h2; rw [o3, c3] at h3; rw [o4, c4] at h4
        match xs, hxl with
        | [y0, y1, y2, y3, y4], _ =>
          simp at h0 h1 h2 h3 h4
          obtain ⟨id, e0, _, w0⟩ := DataW.trod_int u0 h0
          obtain ⟨co, e1, _, w1⟩ := DataW.trod_int u1 h1
          obtain ⟨bu, e2, _, w2⟩ := DataW.trod_int u2 h2
          obtain ⟨sz, e3, _, w3⟩ := DataW.trod_int u3 h3
          obtain ⟨cp, e4, _, w4⟩ := DataW.trod_int u4 h4
          simp at e0 e1 e2 e3 e4
          subst e0 e1 e2 e3 e4
          refine ⟨⟨id, co, bu, sz, cp⟩, ⟨bounds_u32 w0, bounds_u64 w1, bounds_u64 w2, bounds_u64 w3, bounds_u64 w4⟩, ?_, g1, g2, g3, g4⟩
          have : (x.add (i * 5)).add 0 = x.add (i * 5) := by simp [Addr.add]
          rw [this] at g0
          exact g0
      · cases hcs
    by_cases h0 : len = 0
    · subst h0
      exact ⟨some x, 0, cap, [], rfl, ⟨rfl, Nat.zero_le _, by simp, fun h => absurd h (by omega)⟩, hl⟩
    · obtain ⟨b, off, spot⟩ := x
      have hspot : spot = none := by
        obtain ⟨f, _, hc, _⟩ := each 0 (by omega)
        simpa [Addr.add] using World.cell?_spot hc
      subst hspot
      have each' : ∀ i, i < len → ∃ f : Fl, f.ok ∧ w.cell? ⟨b, off + i * 5, none⟩ = some (.int .u32 f.id) ∧ w.cell? ⟨b, off + i * 5 + 1, none⟩ = some (.int .u64 f.co) ∧ w.cell? ⟨b, off + i * 5 + 2, none⟩ = some (.int .u64 f.bu) ∧ w.cell? ⟨b, off + i * 5 + 3, none⟩ = some (.int .u64 f.sz) ∧ w.cell? ⟨b, off + i * 5 + 4, none⟩ = some (.int .u64 f.cp) := fun i hi => by
        have := each i hi
        simp only [Go.WideShapes.add_plain] at this
        exact this
      have hb : b < w.heap.size := by
        obtain ⟨f, _, hc, _⟩ := each' 0 (by omega)
        exact block_lt hc
      have pick : ∃ g : Nat → Fl, ∀ i, i < len → (g i).ok ∧ w.cell? ⟨b, off + i * 5, none⟩ = some (.int .u32 (g i).id) ∧ w.cell? ⟨b, off + i * 5 + 1, none⟩ = some (.int .u64 (g i).co) ∧ w.cell? ⟨b, off + i * 5 + 2, none⟩ = some (.int .u64 (g i).bu) ∧ w.cell? ⟨b, off + i * 5 + 3, none⟩ = some (.int .u64 (g i).sz) ∧ w.cell? ⟨b, off + i * 5 + 4, none⟩ = some (.int .u64 (g i).cp) :=
        ⟨fun i => if h : i < len then Classical.choose (each' i h) else Fl.nil, fun i hi => by
          simp only [dif_pos hi]
          exact Classical.choose_spec (each' i hi)⟩
      obtain ⟨g, hg⟩ := pick
      refine ⟨some ⟨b, off, none⟩, len, cap, (List.range len).map g, rfl, ⟨by simp, by omega, fun y hy => ?_, fun _ => ⟨b, off, rfl, hb, fun i hi => ?_⟩⟩, hl⟩
      · obtain ⟨i, hi, rfl⟩ := List.mem_map.1 hy
        exact (hg i (List.mem_range.1 hi)).1
      · have e : ((List.range len).map g).getD i Fl.nil = g i := by
          rw [List.getD_eq_getElem?_getD, List.getElem?_map, List.getElem?_range hi]; rfl
        rw [e]
        exact (hg i hi).2

theorem trod_row {t e : TypeId} {k : IntKind} {fuel : Nat} {cs : List Value} {x : DataW H × List MemPlace} (ht : P.underlying t = some (.slice e)) (he : P.underlying e = some (.int k)) (hE : P.cellsOf e = 1)
    (hf : DataW.trod enc P w base spare held fuel t cs = some x) : ∃ a n cap zs, cs = [.slice a n cap] ∧ Row1 k w a n zs ∧ n ≤ cap := by
  rcases open_ints ht he hE hf with ⟨hcs, _⟩ | ⟨x, l, c, zs, hcs, _, hl, hm, hz, _, hcell, hwz⟩
  · exact ⟨none, 0, 0, [], hcs, ⟨rfl, Nat.zero_le _, by simp, fun h => absurd h (by omega)⟩, Nat.le_refl _⟩
  · have hlz : l ≤ zs.length := by rw [hz]; split <;> omega
    refine ⟨some x, l, c, zs.take l, hcs, ⟨by simp; omega, by omega, fun y hy => hwz y (List.mem_of_mem_take hy), fun h => ?_⟩, hl⟩
    obtain ⟨b, off, rfl, hc⟩ := ints_at hcell (by omega)
    refine ⟨b, off, rfl, block_lt (hc 0 (by omega)), fun i hi => ?_⟩
    rw [hc i (by omega)]
    congr 2
    simp [List.getD_eq_getElem?_getD, List.getElem?_take, hi]
/-- What is done: a kind, a number, a word, a time; a row of words. -/
structure Act16 where
  k : Int
  id : Int
  n : Int
  lt : Int
  ta : Option Addr
  tn : Nat
  tc : Nat
  tz : List Int
def Act16.ok (w : World) (f : Act16) : Prop := (0 ≤ f.k ∧ f.k ≤ 255) ∧ (0 ≤ f.id ∧ f.id ≤ 4294967295) ∧ (0 ≤ f.n ∧ f.n ≤ 18446744073709551615) ∧ (0 ≤ f.lt ∧ f.lt ≤ 4294967295) ∧ Row1 .u64 w f.ta f.tn f.tz ∧ f.tn ≤ f.tc
def Act16.nil : Act16 := ⟨0, 0, 0, 0, none, 0, 0, []⟩
/-- A slice of such that came in: its elements. -/
def RowA16 (w : World) (a : Option Addr) (n : Nat) (fs : List Act16) : Prop :=
  fs.length = n ∧ n ≤ maxLen ∧ (∀ x ∈ fs, x.ok w) ∧ (0 < n → ∃ b off, a = some ⟨b, off, none⟩ ∧ b < w.heap.size ∧ ∀ i, i < n →
    w.cell? ⟨b, off + i * 5, none⟩ = some (.int .u8 (fs.getD i Act16.nil).k) ∧ w.cell? ⟨b, off + i * 5 + 1, none⟩ = some (.int .u32 (fs.getD i Act16.nil).id) ∧ w.cell? ⟨b, off + i * 5 + 2, none⟩ = some (.int .u64 (fs.getD i Act16.nil).n) ∧ w.cell? ⟨b, off + i * 5 + 3, none⟩ = some (.int .u32 (fs.getD i Act16.nil).lt) ∧ w.cell? ⟨b, off + i * 5 + 4, none⟩ = some (.slice (fs.getD i Act16.nil).ta (fs.getD i Act16.nil).tn (fs.getD i Act16.nil).tc))
theorem open_acts16 {r : Reach} {b0 : Nat} {t e : TypeId} {f0 f1 f2 f3 f4 : Field} {v : Value} {d : DataW H} {ps : List MemPlace} (ht : P.underlying t = some (.slice e)) (he : P.underlying e = some (.struct #[f0, f1, f2, f3, f4])) (hE : P.cellsOf e = 5)
    (o0 : f0.offset = 0) (o1 : f1.offset = 1) (o2 : f2.offset = 2) (o3 : f3.offset = 3) (o4 : f4.offset = 4) (c0 : P.cellsOf f0.type = 1) (c1 : P.cellsOf f1.type = 1) (c2 : P.cellsOf f2.type = 1) (c3 : P.cellsOf f3.type = 1) (c4 : P.cellsOf f4.type = 1)
    (u0 : P.underlying f0.type = some (.int .u8)) (u1 : P.underlying f1.type = some (.int .u32)) (u2 : P.underlying f2.type = some (.int .u64)) (u3 : P.underlying f3.type = some (.int .u32)) {e4 : TypeId} (u4 : P.underlying f4.type = some (.slice e4)) (ue4 : P.underlying e4 = some (.int .u64)) (ce4 : P.cellsOf e4 = 1)
    (hval : Value.okWide P w r b0 t v) (hd : DataW.Trod enc P w base spare held t v d ps) :
    ∃ a n cap fs, v = .slice a n cap ∧ RowA16 w a n fs ∧ n ≤ cap := by
  obtain ⟨a0, len, cap, rfl⟩ := okWide_slice ht hval
  obtain ⟨fuel, hf⟩ := hd
  rcases DataW.trod_slice ht hf with ⟨hcs, _⟩ | ⟨x, l, c, elems, rest, m, _, hcs, _, _, hl, hm, hlen, hel, _, _⟩
  · simp [Value.cells] at hcs
    obtain ⟨rfl, rfl, rfl⟩ := hcs
    exact ⟨none, 0, 0, [], rfl, ⟨rfl, Nat.zero_le _, by simp, fun h => absurd h (by omega)⟩, Nat.le_refl _⟩
  · simp [Value.cells] at hcs
    obtain ⟨rfl, rfl, rfl⟩ := hcs
    rw [hE] at hel
    have each : ∀ i, i < len → ∃ f : Act16, f.ok w ∧ w.cell? (x.add (i * 5)) = some (.int .u8 f.k) ∧ w.cell? ((x.add (i * 5)).add 1) = some (.int .u32 f.id) ∧ w.cell? ((x.add (i * 5)).add 2) = some (.int .u64 f.n) ∧ w.cell? ((x.add (i * 5)).add 3) = some (.int .u32 f.lt) ∧ w.cell? ((x.add (i * 5)).add 4) = some (.slice f.ta f.tn f.tc) := by
      intro i hi
      have h := hel i hi
      rw [List.getElem?_eq_getElem (by omega)] at h
      obtain ⟨cs, hcs, htr⟩ := Option.bind_eq_some_iff.1 h
      unfold World.cells? at hcs
      split at hcs
      · have hr : List.range 5 = [0, 1, 2, 3, 4] := rfl
        rw [hr] at hcs
        simp only [List.mapM_cons, List.mapM_nil, Option.bind_eq_bind, Option.bind_eq_some_iff, Option.pure_def, Option.some.injEq] at hcs
        obtain ⟨v0, g0, l0, ⟨v1, g1, l1, ⟨v2, g2, l2, ⟨v3, g3, l3, ⟨v4, g4, l4, rfl, rfl⟩, rfl⟩, rfl⟩, rfl⟩, rfl⟩ := hcs
        obtain ⟨xs, n', _, _, _, hxl, hx⟩ := DataW.trod_struct he htr
        have h0 := hx 0 f0 rfl
        have h1 := hx 1 f1 rfl
        have h2 := hx 2 f2 rfl
        have h3 := hx 3 f3 rfl
        have h4 := hx 4 f4 rfl
        rw [o0, c0] at h0; rw [o1, c1] at h1; rw [o2, c2] at h2; rw [o3, c3] at h3; rw [o4, c4] at h4
        match xs, hxl with
        | [y0, y1, y2, y3, y4], _ =>
          simp at h0 h1 h2 h3 h4
          obtain ⟨k, e0, _, w0⟩ := DataW.trod_int u0 h0
          obtain ⟨id, e1, _, w1⟩ := DataW.trod_int u1 h1
          obtain ⟨n, e2, _, w2⟩ := DataW.trod_int u2 h2
          obtain ⟨lt, e3, _, w3⟩ := DataW.trod_int u3 h3
          obtain ⟨ta, tn, tc, tz, e4', R4, L4⟩ := trod_row u4 ue4 ce4 h4
          simp at e0 e1 e2 e3 e4'
          subst e0 e1 e2 e3 e4'
          refine ⟨⟨k, id, n, lt, ta, tn, tc, tz⟩, ⟨bounds_u8 w0, bounds_u32 w1, bounds_u64 w2, bounds_u32 w3, R4, L4⟩, ?_, g1, g2, g3, g4⟩
          have : (x.add (i * 5)).add 0 = x.add (i * 5) := by simp [Addr.add]
          rw [this] at g0
          exact g0
      · cases hcs
    by_cases h0 : len = 0
    · subst h0
      exact ⟨some x, 0, cap, [], rfl, ⟨rfl, Nat.zero_le _, by simp, fun h => absurd h (by omega)⟩, hl⟩
    · obtain ⟨b, off, spot⟩ := x
      have hspot : spot = none := by
        obtain ⟨f, _, hc, _⟩ := each 0 (by omega)
        simpa [Addr.add] using World.cell?_spot hc
      subst hspot
      have each' : ∀ i, i < len → ∃ f : Act16, f.ok w ∧ w.cell? ⟨b, off + i * 5, none⟩ = some (.int .u8 f.k) ∧ w.cell? ⟨b, off + i * 5 + 1, none⟩ = some (.int .u32 f.id) ∧ w.cell? ⟨b, off + i * 5 + 2, none⟩ = some (.int .u64 f.n) ∧ w.cell? ⟨b, off + i * 5 + 3, none⟩ = some (.int .u32 f.lt) ∧ w.cell? ⟨b, off + i * 5 + 4, none⟩ = some (.slice f.ta f.tn f.tc) := fun i hi => by
        have := each i hi
        simp only [Go.WideShapes.add_plain] at this
        exact this
      have hb : b < w.heap.size := by
        obtain ⟨f, _, hc, _⟩ := each' 0 (by omega)
        exact block_lt hc
      have pick : ∃ g : Nat → Act16, ∀ i, i < len → (g i).ok w ∧ w.cell? ⟨b, off + i * 5, none⟩ = some (.int .u8 (g i).k) ∧ w.cell? ⟨b, off + i * 5 + 1, none⟩ = some (.int .u32 (g i).id) ∧ w.cell? ⟨b, off + i * 5 + 2, none⟩ = some (.int .u64 (g i).n) ∧ w.cell? ⟨b, off + i * 5 + 3, none⟩ = some (.int .u32 (g i).lt) ∧ w.cell? ⟨b, off + i * 5 + 4, none⟩ = some (.slice (g i).ta (g i).tn (g i).tc) :=
        ⟨fun i => if h : i < len then Classical.choose (each' i h) else Act16.nil, fun i hi => by
          simp only [dif_pos hi]
          exact Classical.choose_spec (each' i hi)⟩
      obtain ⟨g, hg⟩ := pick
      refine ⟨some ⟨b, off, none⟩, len, cap, (List.range len).map g, rfl, ⟨by simp, by omega, fun y hy => ?_, fun _ => ⟨b, off, rfl, hb, fun i hi => ?_⟩⟩, hl⟩
      · obtain ⟨i, hi, rfl⟩ := List.mem_map.1 hy
        exact (hg i (List.mem_range.1 hi)).1
      · have e : ((List.range len).map g).getD i Act16.nil = g i := by
          rw [List.getD_eq_getElem?_getD, List.getElem?_map, List.getElem?_range hi]; rfl
        rw [e]
        exact (hg i hi).2

theorem open_act16 {r : Reach} {b0 : Nat} {t : TypeId} {f0 f1 f2 f3 f4 : Field} {v : Value} {d : DataW H} {ps : List MemPlace} (he : P.underlying t = some (.struct #[f0, f1, f2, f3, f4])) (hE : P.cellsOf t = 5)
    (o0 : f0.offset = 0) (o1 : f1.offset = 1) (o2 : f2.offset = 2) (o3 : f3.offset = 3) (o4 : f4.offset = 4) (c0 : P.cellsOf f0.type = 1) (c1 : P.cellsOf f1.type = 1) (c2 : P.cellsOf f2.type = 1) (c3 : P.cellsOf f3.type = 1) (c4 : P.cellsOf f4.type = 1)
    (u0 : P.underlying f0.type = some (.int .u8)) (u1 : P.underlying f1.type = some (.int .u32)) (u2 : P.underlying f2.type = some (.int .u64)) (u3 : P.underlying f3.type = some (.int .u32)) {e4 : TypeId} (u4 : P.underlying f4.type = some (.slice e4)) (ue4 : P.underlying e4 = some (.int .u64)) (ce4 : P.cellsOf e4 = 1)
    (hval : Value.okWide P w r b0 t v) (hd : DataW.Trod enc P w base spare held t v d ps) :
    ∃ f : Act16, v = .agg #[.int .u8 f.k, .int .u32 f.id, .int .u64 f.n, .int .u32 f.lt, .slice f.ta f.tn f.tc] ∧ f.ok w := by
  obtain ⟨cs, rfl, hsz⟩ := okWide_struct he hval
  rw [hE] at hsz
  obtain ⟨l⟩ := cs
  match l, hsz with
  | [d0, d1, d2, d3, d4], _ =>
    obtain ⟨fuel, hf⟩ := hd
    obtain ⟨xs, n', _, _, _, hxl, hx⟩ := DataW.trod_struct he hf
    have h0 := hx 0 f0 rfl
    have h1 := hx 1 f1 rfl
    have h2 := hx 2 f2 rfl
    have h3 := hx 3 f3 rfl
    have h4 := hx 4 f4 rfl
    rw [o0, c0] at h0; rw [o1, c1] at h1; rw [o2, c2] at h2; rw [o3, c3] at h3; rw [o4, c4] at h4
    match xs, hxl with
    | [y0, y1, y2, y3, y4], _ =>
      simp [Value.cells] at h0 h1 h2 h3 h4
      obtain ⟨k, e0, _, w0⟩ := DataW.trod_int u0 h0
      obtain ⟨id, e1, _, w1⟩ := DataW.trod_int u1 h1
      obtain ⟨n, e2, _, w2⟩ := DataW.trod_int u2 h2
      obtain ⟨lt, e3, _, w3⟩ := DataW.trod_int u3 h3
      obtain ⟨ta, tn, tc, tz, e4', R4, L4⟩ := trod_row u4 ue4 ce4 h4
      simp at e0 e1 e2 e3 e4'
      subst e0 e1 e2 e3 e4'
      exact ⟨⟨k, id, n, lt, ta, tn, tc, tz⟩, rfl, ⟨bounds_u8 w0, bounds_u32 w1, bounds_u64 w2, bounds_u32 w3, R4, L4⟩⟩
end
end Go.Proofs.Ytfjhcmihjffknaa
