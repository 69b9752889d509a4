/-
  How the arguments of layer 17 are opened: a configuration with its flows, a slice of acts, two acts. Plain laws on how data read. No condition.
-/
import Derived.Test.YtiogfgkfipekbaaOpen16
namespace Go.Proofs.Ytiogfgkfipekbaa
set_option linter.unusedVariables false
set_option linter.unusedSimpArgs false
open Go.ChangeShapes Go.WideShapes Go.ChangeAt Go.RowKit

theorem lstq2 {α : Type} {l : List α} (h : l.length = 2) : ∃ c0 c1, l = [c0, c1] := by
  match l, h with
  | [c0, c1], _ => exact ⟨c0, c1, rfl⟩
theorem arrq2 {α : Type} {cs : Array α} (h : cs.size = 2) : ∃ c0 c1, cs = #[c0, c1] := by
  obtain ⟨l⟩ := cs
  obtain ⟨c0, c1, e⟩ := lstq2 (show l.length = 2 from h)
  exact ⟨c0, c1, by rw [e]⟩
theorem lstq3 {α : Type} {l : List α} (h : l.length = 3) : ∃ c0 c1 c2, l = [c0, c1, c2] := by
  match l, h with
  | [c0, c1, c2], _ => exact ⟨c0, c1, c2, rfl⟩
theorem arrq3 {α : Type} {cs : Array α} (h : cs.size = 3) : ∃ c0 c1 c2, cs = #[c0, c1, c2] := by
  obtain ⟨l⟩ := cs
  obtain ⟨c0, c1, c2, e⟩ := lstq3 (show l.length = 3 from h)
  exact ⟨c0, c1, c2, by rw [e]⟩
theorem lstq6 {α : Type} {l : List α} (h : l.length = 6) : ∃ c0 c1 c2 c3 c4 c5, l = [c0, c1, c2, c3, c4, c5] := by
  match l, h with
  | [c0, c1, c2, c3, c4, c5], _ => exact ⟨c0, c1, c2, c3, c4, c5, rfl⟩
theorem arrq6 {α : Type} {cs : Array α} (h : cs.size = 6) : ∃ c0 c1 c2 c3 c4 c5, cs = #[c0, c1, c2, c3, c4, c5] := by
  obtain ⟨l⟩ := cs
  obtain ⟨c0, c1, c2, c3, c4, c5, e⟩ := lstq6 (show l.length = 6 from h)
  exact ⟨c0, c1, c2, c3, c4, c5, by rw [e]⟩
theorem lstq11 {α : Type} {l : List α} (h : l.length = 11) : ∃ c0 c1 c2 c3 c4 c5 c6 c7 c8 c9 c10, l = [c0, c1, c2, c3, c4, c5, c6, c7, c8, c9, c10] := by
  match l, h with
  | [c0, c1, c2, c3, c4, c5, c6, c7, c8, c9, c10], _ => exact ⟨c0, c1, c2, c3, c4, c5, c6, c7, c8, c9, c10, rfl⟩
theorem arrq11 {α : Type} {cs : Array α} (h : cs.size = 11) : ∃ c0 c1 c2 c3 c4 c5 c6 c7 c8 c9 c10, cs = #[c0, c1, c2, c3, c4, c5, c6, c7, c8, c9, c10] := by
  obtain ⟨l⟩ := cs
  obtain ⟨c0, c1, c2, c3, c4, c5, c6, c7, c8, c9, c10, e⟩ := lstq11 (show l.length = 11 from h)
  exact ⟨c0, c1, c2, c3, c4, c5, c6, c7, c8, c9, c10, by rw [e]⟩
section
variable {H : Type} {enc : TypeId × Value → H} {P : Program} {w : World} {base : Nat} {spare : Nat → Bool} {held : Bool}
theorem trod_flows {t e : TypeId} {f0 f1 f2 f3 f4 : Field} {fuel : Nat} {cs0 : List Value} {xx : DataW H × List MemPlace} (ht : P.underlying t = some (.slice e)) (he : P.underlying e = some (.struct #[f0, f1, f2, f3, f4])) (hE : P.cellsOf e = 5)
    (o0 : f0.offset = 0) (o1 : f1.offset = 1) (o2 : f2.offset = 2) (o3 : f3.offset = 3) (o4 : f4.offset = 4) (c0 : P.cellsOf f0.type = 1) (c1 : P.cellsOf f1.type = 1) (c2 : P.cellsOf f2.type = 1) (c3 : P.cellsOf f3.type = 1) (c4 : P.cellsOf f4.type = 1)
    (u0 : P.underlying f0.type = some (.int .u32)) (u1 : P.underlying f1.type = some (.int .u64)) (u2 : P.underlying f2.type = some (.int .u64)) (u3 : P.underlying f3.type = some (.int .u64)) (u4 : P.underlying f4.type = some (.int .u64))
    (hf : DataW.trod enc P w base spare held fuel t cs0 = some xx) : ∃ a n cap fs, cs0 = [.slice a n cap] ∧ RowFl w a n fs ∧ n ≤ cap := by
  rcases DataW.trod_slice ht hf with ⟨hcs, _⟩ | ⟨x, len, cap, elems, rest, m, _, hcs, _, _, hl, hm, hlen, hel, _, _⟩
  · exact ⟨none, 0, 0, [], hcs, ⟨rfl, Nat.zero_le _, by simp, fun h => absurd h (by omega)⟩, Nat.le_refl _⟩
  · have hcs0 := hcs
    rw [hE] at hel
    have each : ∀ i, i < len → ∃ f : Fl, f.ok ∧ w.cell? (x.add (i * 5)) = some (.int .u32 f.id) ∧ w.cell? ((x.add (i * 5)).add 1) = some (.int .u64 f.co) ∧ w.cell? ((x.add (i * 5)).add 2) = some (.int .u64 f.bu) ∧ w.cell? ((x.add (i * 5)).add 3) = some (.int .u64 f.sz) ∧ w.cell? ((x.add (i * 5)).add 4) = some (.int .u64 f.cp) := by
      intro i hi
      have h := hel i hi
      rw [List.getElem?_eq_getElem (by omega)] at h
      obtain ⟨cs, hcs, htr⟩ := Option.bind_eq_some_iff.1 h
      unfold World.cells? at hcs
      split at hcs
      · have hr : List.range 5 = [0, 1, 2, 3, 4] := rfl
        rw [hr] at hcs
        simp only [List.mapM_cons, List.mapM_nil, Option.bind_eq_bind, Option.bind_eq_some_iff, Option.pure_def, Option.some.injEq] at hcs
        obtain ⟨v0, g0, l0, ⟨v1, g1, l1, ⟨v2, g2, l2, ⟨v3, g3, l3, ⟨v4, g4, l4, rfl, rfl⟩, rfl⟩, rfl⟩, rfl⟩, rfl⟩ := hcs
        obtain ⟨xs, n', _, _, _, hxl, hx⟩ := DataW.trod_struct he htr
        have h0 := hx 0 f0 rfl
        have h1 := hx 1 f1 rfl
        have h2 := hx 2 f2 rfl
        have h3 := hx 3 f3 rfl
        have h4 := hx 4 f4 rfl
        rw [o0, c0] at h0; rw [o1, c1] at h1; rw [o2, c2] at h2; rw [o3, c3] at h3; rw [o4, c4] at h4
        match xs, hxl with
        | [y0, y1, y2, y3, y4], _ =>
          simp at h0 h1 h2 h3 h4
          obtain ⟨id, e0, _, w0⟩ := DataW.trod_int u0 h0
          obtain ⟨co, e1, _, w1⟩ := DataW.trod_int u1 h1
          obtain ⟨bu, e2, _, w2⟩ := DataW.trod_int u2 h2
          obtain ⟨sz, e3, _, w3⟩ := DataW.trod_int u3 h3
          obtain ⟨cp, e4, _, w4⟩ := DataW.trod_int u4 h4
          simp at e0 e1 e2 e3 e4
          subst e0 e1 e2 e3 e4
          refine ⟨⟨id, co, bu, sz, cp⟩, ⟨bounds_u32 w0, bounds_u64 w1, bounds_u64 w2, bounds_u64 w3, bounds_u64 w4⟩, ?_, g1, g2, g3, g4⟩
          have : (x.add (i * 5)).add 0 = x.add (i * 5) := by simp [Addr.add]
          rw [this] at g0
          exact g0
      · cases hcs
    by_cases h0 : len = 0
    · subst h0
      exact ⟨some x, 0, cap, [], hcs0, ⟨rfl, Nat.zero_le _, by simp, fun h => absurd h (by omega)⟩, hl⟩
    · obtain ⟨b, off, spot⟩ := x
      have hspot : spot = none := by
        obtain ⟨f, _, hc, _⟩ := each 0 (by omega)
        simpa [Addr.add] using World.cell?_spot hc
      subst hspot
      have each' : ∀ i, i < len → ∃ f : Fl, f.ok ∧ w.cell? ⟨b, off + i * 5, none⟩ = some (.int .u32 f.id) ∧ w.cell? ⟨b, off + i * 5 + 1, none⟩ = some (.int .u64 f.co) ∧ w.cell? ⟨b, off + i * 5 + 2, none⟩ = some (.int .u64 f.bu) ∧ w.cell? ⟨b, off + i * 5 + 3, none⟩ = some (.int .u64 f.sz) ∧ w.cell? ⟨b, off + i * 5 + 4, none⟩ = some (.int .u64 f.cp) := fun i hi => by
        have := each i hi
        simp only [Go.WideShapes.add_plain] at this
        exact this
      have hb : b < w.heap.size := by
        obtain ⟨f, _, hc, _⟩ := each' 0 (by omega)
        exact block_lt hc
      have pick : ∃ g : Nat → Fl, ∀ i, i < len → (g i).ok ∧ w.cell? ⟨b, off + i * 5, none⟩ = some (.int .u32 (g i).id) ∧ w.cell? ⟨b, off + i * 5 + 1, none⟩ = some (.int .u64 (g i).co) ∧ w.cell? ⟨b, off + i * 5 + 2, none⟩ = some (.int .u64 (g i).bu) ∧ w.cell? ⟨b, off + i * 5 + 3, none⟩ = some (.int .u64 (g i).sz) ∧ w.cell? ⟨b, off + i * 5 + 4, none⟩ = some (.int .u64 (g i).cp) :=
        ⟨fun i => if h : i < len then Classical.choose (each' i h) else Fl.nil, fun i hi => by
          simp only [dif_pos hi]
          exact Classical.choose_spec (each' i hi)⟩
      obtain ⟨g, hg⟩ := pick
      refine ⟨some ⟨b, off, none⟩, len, cap, (List.range len).map g, hcs0, ⟨by simp, by omega, fun y hy => ?_, fun _ => ⟨b, off, rfl, hb, fun i hi => ?_⟩⟩, hl⟩
      · obtain ⟨i, hi, rfl⟩ := List.mem_map.1 hy
        exact (hg i (List.mem_range.1 hi)).1
      · have e : ((List.range len).map g).getD i Fl.nil = g i := by
          rw [List.getD_eq_getElem?_getD, List.getElem?_map, List.getElem?_range hi]; rfl
        rw [e]
        exact (hg i hi).2
/-- What is done: a kind, a flow, so many bytes. -/
structure Act17 where
  k : Int
  d : Int
  n : Int
def Act17.ok (f : Act17) : Prop := (0 ≤ f.k ∧ f.k ≤ 255) ∧ (0 ≤ f.d ∧ f.d ≤ 4294967295) ∧ (0 ≤ f.n ∧ f.n ≤ 18446744073709551615)
def Act17.nil : Act17 := ⟨0, 0, 0⟩
/-- A slice of such that came in: its elements. -/
def RowA17 (w : World) (a : Option Addr) (n : Nat) (fs : List Act17) : Prop :=
  fs.length = n ∧ n ≤ maxLen ∧ (∀ x ∈ fs, x.ok) ∧ (0 < n → ∃ b off, a = some ⟨b, off, none⟩ ∧ b < w.heap.size ∧ ∀ i, i < n →
    w.cell? ⟨b, off + i * 3, none⟩ = some (.int .u8 (fs.getD i Act17.nil).k) ∧ w.cell? ⟨b, off + i * 3 + 1, none⟩ = some (.int .u32 (fs.getD i Act17.nil).d) ∧ w.cell? ⟨b, off + i * 3 + 2, none⟩ = some (.int .u64 (fs.getD i Act17.nil).n))
theorem open_acts17 {r : Reach} {b0 : Nat} {t e : TypeId} {f0 f1 f2 : Field} {v : Value} {d : DataW H} {ps : List MemPlace} (ht : P.underlying t = some (.slice e)) (he : P.underlying e = some (.struct #[f0, f1, f2])) (hE : P.cellsOf e = 3)
    (o0 : f0.offset = 0) (o1 : f1.offset = 1) (o2 : f2.offset = 2) (c0 : P.cellsOf f0.type = 1) (c1 : P.cellsOf f1.type = 1) (c2 : P.cellsOf f2.type = 1)
    (u0 : P.underlying f0.type = some (.int .u8)) (u1 : P.underlying f1.type = some (.int .u32)) (u2 : P.underlying f2.type = some (.int .u64))
    (hval : Value.okWide P w r b0 t v) (hd : DataW.Trod enc P w base spare held t v d ps) :
    ∃ a n cap fs, v = .slice a n cap ∧ RowA17 w a n fs ∧ n ≤ cap := by
  obtain ⟨a0, len, cap, rfl⟩ := okWide_slice ht hval
  obtain ⟨fuel, hf⟩ := hd
  rcases DataW.trod_slice ht hf with ⟨hcs, _⟩ | ⟨x, l, c, elems, rest, m, _, hcs, _, _, hl, hm, hlen, hel, _, _⟩
  · simp [Value.cells] at hcs
    obtain ⟨rfl, rfl, rfl⟩ := hcs
    exact ⟨none, 0, 0, [], rfl, ⟨rfl, Nat.zero_le _, by simp, fun h => absurd h (by omega)⟩, Nat.le_refl _⟩
  · simp [Value.cells] at hcs
    obtain ⟨rfl, rfl, rfl⟩ := hcs
    rw [hE] at hel
    have each : ∀ i, i < len → ∃ f : Act17, f.ok ∧ w.cell? (x.add (i * 3)) = some (.int .u8 f.k) ∧ w.cell? ((x.add (i * 3)).add 1) = some (.int .u32 f.d) ∧ w.cell? ((x.add (i * 3)).add 2) = some (.int .u64 f.n) := by
      intro i hi
      have h := hel i hi
      rw [List.getElem?_eq_getElem (by omega)] at h
      obtain ⟨cs, hcs, htr⟩ := Option.bind_eq_some_iff.1 h
      unfold World.cells? at hcs
      split at hcs
      · have hr : List.range 3 = [0, 1, 2] := rfl
        rw [hr] at hcs
        simp only [List.mapM_cons, List.mapM_nil, Option.bind_eq_bind, Option.bind_eq_some_iff, Option.pure_def, Option.some.injEq] at hcs
        obtain ⟨v0, g0, l0, ⟨v1, g1, l1, ⟨v2, g2, l2, rfl, rfl⟩, rfl⟩, rfl⟩ := hcs
        obtain ⟨xs, n', _, _, _, hxl, hx⟩ := DataW.trod_struct he htr
        have h0 := hx 0 f0 rfl
        have h1 := hx 1 f1 rfl
        have h2 := hx 2 f2 rfl
        rw [o0, c0] at h0; rw [o1, c1] at h1; rw [o2, c2] at h2
        match xs, hxl with
        | [y0, y1, y2], _ =>
          simp at h0 h1 h2
          obtain ⟨k, e0, _, w0⟩ := DataW.trod_int u0 h0
          obtain ⟨d, e1, _, w1⟩ := DataW.trod_int u1 h1
          obtain ⟨n, e2, _, w2⟩ := DataW.trod_int u2 h2
          simp at e0 e1 e2
          subst e0 e1 e2
          refine ⟨⟨k, d, n⟩, ⟨bounds_u8 w0, bounds_u32 w1, bounds_u64 w2⟩, ?_, g1, g2⟩
          have : (x.add (i * 3)).add 0 = x.add (i * 3) := by simp [Addr.add]
          rw [this] at g0
          exact g0
      · cases hcs
    by_cases h0 : len = 0
    · subst h0
      exact ⟨some x, 0, cap, [], rfl, ⟨rfl, Nat.zero_le _, by simp, fun h => absurd h (by omega)⟩, hl⟩
    · obtain ⟨b, off, spot⟩ := x
      have hspot : spot = none := by
        obtain ⟨f, _, hc, _⟩ := each 0 (by omega)
        simpa [Addr.add] using World.cell?_spot hc
      subst hspot
      have each' : ∀ i, i < len → ∃ f : Act17, f.ok ∧ w.cell? ⟨b, off + i * 3, none⟩ = some (.int .u8 f.k) ∧ w.cell? ⟨b, off + i * 3 + 1, none⟩ = some (.int .u32 f.d) ∧ w.cell? ⟨b, off + i * 3 + 2, none⟩ = some (.int .u64 f.n) := fun i hi => by
        have := each i hi
        simp only [Go.WideShapes.add_plain] at this
        exact this
      have hb : b < w.heap.size := by
        obtain ⟨f, _, hc, _⟩ := each' 0 (by omega)
        exact block_lt hc
      have pick : ∃ g : Nat → Act17, ∀ i, i < len → (g i).ok ∧ w.cell? ⟨b, off + i * 3, none⟩ = some (.int .u8 (g i).k) ∧ w.cell? ⟨b, off + i * 3 + 1, none⟩ = some (.int .u32 (g i).d) ∧ w.cell? ⟨b, off + i * 3 + 2, none⟩ = some (.int .u64 (g i).n) :=
        ⟨fun i => if h : i < len then Classical.choose (each' i h) else Act17.nil, fun i hi => by
          simp only [dif_pos hi]
          exact Classical.choose_spec (each' i hi)⟩
      obtain ⟨g, hg⟩ := pick
      refine ⟨some ⟨b, off, none⟩, len, cap, (List.range len).map g, rfl, ⟨by simp, by omega, fun y hy => ?_, fun _ => ⟨b, off, rfl, hb, fun i hi => ?_⟩⟩, hl⟩
      · obtain ⟨i, hi, rfl⟩ := List.mem_map.1 hy
        exact (hg i (List.mem_range.1 hi)).1
      · have e : ((List.range len).map g).getD i Act17.nil = g i := by
          rw [List.getD_eq_getElem?_getD, List.getElem?_map, List.getElem?_range hi]; rfl
        rw [e]
        exact (hg i hi).2
theorem open_config {r : Reach} {b0 : Nat} {t : TypeId} {f0 f1 f2 f3 f4 f5 f6 f7 f8 f9 f10 : Field} {v : Value} {d : DataW H} {ps : List MemPlace} (he : P.underlying t = some (.struct #[f0, f1, f2, f3, f4, f5, f6, f7, f8, f9, f10])) (hE : P.cellsOf t = 11)
    (o0 : f0.offset = 0) (o1 : f1.offset = 1) (o2 : f2.offset = 2) (o3 : f3.offset = 3) (o4 : f4.offset = 4) (o5 : f5.offset = 5) (o6 : f6.offset = 6) (o7 : f7.offset = 7) (o8 : f8.offset = 8) (o9 : f9.offset = 9) (o10 : f10.offset = 10) (c0 : P.cellsOf f0.type = 1) (c1 : P.cellsOf f1.type = 1) (c2 : P.cellsOf f2.type = 1) (c3 : P.cellsOf f3.type = 1) (c4 : P.cellsOf f4.type = 1) (c5 : P.cellsOf f5.type = 1) (c6 : P.cellsOf f6.type = 1) (c7 : P.cellsOf f7.type = 1) (c8 : P.cellsOf f8.type = 1) (c9 : P.cellsOf f9.type = 1) (c10 : P.cellsOf f10.type = 1)
    (u0 : P.underlying f0.type = some (.int .i64)) (u1 : P.underlying f1.type = some (.int .i64)) (u2 : P.underlying f2.type = some (.int .i64)) (u3 : P.underlying f3.type = some (.int .i64)) (u4 : P.underlying f4.type = some (.int .i64)) (u5 : P.underlying f5.type = some (.int .u64)) (u6 : P.underlying f6.type = some (.int .i64)) (u7 : P.underlying f7.type = some (.int .u64)) (u8 : P.underlying f8.type = some (.int .u64)) (u9 : P.underlying f9.type = some (.int .u64))
    {te : TypeId} {g0 g1 g2 g3 g4 : Field} (ut : P.underlying f10.type = some (.slice te)) (ue : P.underlying te = some (.struct #[g0, g1, g2, g3, g4])) (hG : P.cellsOf te = 5) (p0 : g0.offset = 0) (p1 : g1.offset = 1) (p2 : g2.offset = 2) (p3 : g3.offset = 3) (p4 : g4.offset = 4) (q0 : P.cellsOf g0.type = 1) (q1 : P.cellsOf g1.type = 1) (q2 : P.cellsOf g2.type = 1) (q3 : P.cellsOf g3.type = 1) (q4 : P.cellsOf g4.type = 1) (r0 : P.underlying g0.type = some (.int .u32)) (r1 : P.underlying g1.type = some (.int .u64)) (r2 : P.underlying g2.type = some (.int .u64)) (r3 : P.underlying g3.type = some (.int .u64)) (r4 : P.underlying g4.type = some (.int .u64))
    (hval : Value.okWide P w r b0 t v) (hd : DataW.Trod enc P w base spare held t v d ps) :
    ∃ x0 x1 x2 x3 x4 x5 x6 x7 x8 x9 a n cap fs, v = .agg #[.int .i64 x0, .int .i64 x1, .int .i64 x2, .int .i64 x3, .int .i64 x4, .int .u64 x5, .int .i64 x6, .int .u64 x7, .int .u64 x8, .int .u64 x9, .slice a n cap] ∧ RowFl w a n fs ∧ n ≤ cap ∧ (Lit.int .i64 x0).wf = true ∧ (Lit.int .i64 x1).wf = true ∧ (Lit.int .i64 x2).wf = true ∧ (Lit.int .i64 x3).wf = true ∧ (Lit.int .i64 x4).wf = true ∧ (Lit.int .u64 x5).wf = true ∧ (Lit.int .i64 x6).wf = true ∧ (Lit.int .u64 x7).wf = true ∧ (Lit.int .u64 x8).wf = true ∧ (Lit.int .u64 x9).wf = true := by
  obtain ⟨cs, rfl, hsz⟩ := okWide_struct he hval
  rw [hE] at hsz
  obtain ⟨d0, d1, d2, d3, d4, d5, d6, d7, d8, d9, d10, rfl⟩ := arrq11 hsz
  obtain ⟨fuel, hf⟩ := hd
  obtain ⟨xs, n', _, _, _, hxl, hx⟩ := DataW.trod_struct he hf
  have h0 := hx 0 f0 rfl
  have h1 := hx 1 f1 rfl
  have h2 := hx 2 f2 rfl
  have h3 := hx 3 f3 rfl
  have h4 := hx 4 f4 rfl
  have h5 := hx 5 f5 rfl
  have h6 := hx 6 f6 rfl
  have h7 := hx 7 f7 rfl
  have h8 := hx 8 f8 rfl
  have h9 := hx 9 f9 rfl
  have h10 := hx 10 f10 rfl
  rw [o0, c0] at h0; rw [o1, c1] at h1; rw [o2, c2] at h2; rw [o3, c3] at h3; rw [o4, c4] at h4; rw [o5, c5] at h5; rw [o6, c6] at h6; rw [o7, c7] at h7; rw [o8, c8] at h8; rw [o9, c9] at h9; rw [o10, c10] at h10
  obtain ⟨y0, y1, y2, y3, y4, y5, y6, y7, y8, y9, y10, rfl⟩ := lstq11 hxl
  simp [Value.cells] at h0 h1 h2 h3 h4 h5 h6 h7 h8 h9 h10
  obtain ⟨x0, e0, _, w0⟩ := DataW.trod_int u0 h0
  obtain ⟨x1, e1, _, w1⟩ := DataW.trod_int u1 h1
  obtain ⟨x2, e2, _, w2⟩ := DataW.trod_int u2 h2
  obtain ⟨x3, e3, _, w3⟩ := DataW.trod_int u3 h3
  obtain ⟨x4, e4, _, w4⟩ := DataW.trod_int u4 h4
  obtain ⟨x5, e5, _, w5⟩ := DataW.trod_int u5 h5
  obtain ⟨x6, e6, _, w6⟩ := DataW.trod_int u6 h6
  obtain ⟨x7, e7, _, w7⟩ := DataW.trod_int u7 h7
  obtain ⟨x8, e8, _, w8⟩ := DataW.trod_int u8 h8
  obtain ⟨x9, e9, _, w9⟩ := DataW.trod_int u9 h9
  obtain ⟨a, n, cap, fs, e10, R, hc⟩ := trod_flows ut ue hG p0 p1 p2 p3 p4 q0 q1 q2 q3 q4 r0 r1 r2 r3 r4 h10
  simp at e0 e1 e2 e3 e4 e5 e6 e7 e8 e9 e10
  subst e0 e1 e2 e3 e4 e5 e6 e7 e8 e9 e10
  exact ⟨x0, x1, x2, x3, x4, x5, x6, x7, x8, x9, a, n, cap, fs, rfl, R, hc, w0, w1, w2, w3, w4, w5, w6, w7, w8, w9⟩
theorem open_two17 {r : Reach} {b0 : Nat} {t e : TypeId} {f0 f1 f2 : Field} {v : Value} {d : DataW H} {ps : List MemPlace} (ht : P.underlying t = some (.array 2 e)) (he : P.underlying e = some (.struct #[f0, f1, f2])) (hC : P.cellsOf t = 6) (hE : P.cellsOf e = 3)
    (o0 : f0.offset = 0) (o1 : f1.offset = 1) (o2 : f2.offset = 2) (c0 : P.cellsOf f0.type = 1) (c1 : P.cellsOf f1.type = 1) (c2 : P.cellsOf f2.type = 1)
    (u0 : P.underlying f0.type = some (.int .u8)) (u1 : P.underlying f1.type = some (.int .u32)) (u2 : P.underlying f2.type = some (.int .u64))
    (hval : Value.okWide P w r b0 t v) (hd : DataW.Trod enc P w base spare held t v d ps) :
    ∃ x0 x1 x2 x3 x4 x5, v = .agg #[.int .u8 x0, .int .u32 x1, .int .u64 x2, .int .u8 x3, .int .u32 x4, .int .u64 x5] ∧ (Lit.int .u8 x0).wf = true ∧ (Lit.int .u32 x1).wf = true ∧ (Lit.int .u64 x2).wf = true ∧ (Lit.int .u8 x3).wf = true ∧ (Lit.int .u32 x4).wf = true ∧ (Lit.int .u64 x5).wf = true := by
  simp only [Value.okWide, ht] at hval
  obtain ⟨cs, rfl, hsz, _⟩ := hval
  rw [hC] at hsz
  obtain ⟨d0, d1, d2, d3, d4, d5, rfl⟩ := arrq6 hsz
  obtain ⟨fuel, hf⟩ := hd
  obtain ⟨xs, m, _, _, _, hlen, hi⟩ := DataW.trod_array ht hf
  rw [hE] at hi
  obtain ⟨y0, y1, rfl⟩ := lstq2 hlen
  have g0 := hi 0 (by omega); have g1 := hi 1 (by omega)
  simp [Value.cells] at g0 g1
  obtain ⟨xs, n', _, _, _, hxl, hx⟩ := DataW.trod_struct he g0
  have h0 := hx 0 f0 rfl
  have h1 := hx 1 f1 rfl
  have h2 := hx 2 f2 rfl
  rw [o0, c0] at h0; rw [o1, c1] at h1; rw [o2, c2] at h2
  obtain ⟨z0, z1, z2, rfl⟩ := lstq3 hxl
  simp at h0 h1 h2
  obtain ⟨x0, e0, _, w0⟩ := DataW.trod_int u0 h0
  obtain ⟨x1, e1, _, w1⟩ := DataW.trod_int u1 h1
  obtain ⟨x2, e2, _, w2⟩ := DataW.trod_int u2 h2
  obtain ⟨xs', n'', _, _, _, hxl', hx'⟩ := DataW.trod_struct he g1
  have k0 := hx' 0 f0 rfl
  have k1 := hx' 1 f1 rfl
  have k2 := hx' 2 f2 rfl
  rw [o0, c0] at k0; rw [o1, c1] at k1; rw [o2, c2] at k2
  obtain ⟨z3, z4, z5, rfl⟩ := lstq3 hxl'
  simp at k0 k1 k2
  obtain ⟨x3, e3, _, w3⟩ := DataW.trod_int u0 k0
  obtain ⟨x4, e4, _, w4⟩ := DataW.trod_int u1 k1
  obtain ⟨x5, e5, _, w5⟩ := DataW.trod_int u2 k2
  simp at e0 e1 e2 e3 e4 e5
  subst e0 e1 e2 e3 e4 e5
  exact ⟨x0, x1, x2, x3, x4, x5, rfl, w0, w1, w2, w3, w4, w5⟩
end
end Go.Proofs.Ytiogfgkfipekbaa
