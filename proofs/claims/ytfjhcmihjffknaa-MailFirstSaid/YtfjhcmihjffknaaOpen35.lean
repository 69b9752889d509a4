/-
  How a slice of rows of numbers is opened. Plain laws on how data read. No condition.
-/
import Derived.Test.YtfjhcmihjffknaaOpen16
namespace Go.Proofs.Ytfjhcmihjffknaa
set_option linter.unusedVariables false
set_option linter.unusedSimpArgs false
open Go.ChangeShapes Go.WideShapes Go.ChangeAt Go.RowKit

section
variable {H : Type} {enc : TypeId × Value → H} {P : Program} {w : World} {base : Nat} {spare : Nat → Bool} {held : Bool}
/-- A row within a row. -/
structure Rw where
  a : Option Addr
  n : Nat
  c : Nat
  z : List Int
def Rw.ok (w : World) (f : Rw) : Prop := Row1 .i64 w f.a f.n f.z ∧ f.n ≤ f.c ∧ (f.a = none → f.c = 0)
def Rw.nil : Rw := ⟨none, 0, 0, []⟩
/-- A slice of such that came in: its elements. -/
def RowRw (w : World) (a : Option Addr) (n : Nat) (fs : List Rw) : Prop :=
  fs.length = n ∧ n ≤ maxLen ∧ (∀ x ∈ fs, x.ok w) ∧ (0 < n → ∃ b off, a = some ⟨b, off, none⟩ ∧ b < w.heap.size ∧ ∀ i, i < n →
    w.cell? ⟨b, off + i, none⟩ = some (.slice (fs.getD i Rw.nil).a (fs.getD i Rw.nil).n (fs.getD i Rw.nil).c))
theorem trod_row35 {t e : TypeId} {k : IntKind} {fuel : Nat} {cs : List Value} {x : DataW H × List MemPlace} (ht : P.underlying t = some (.slice e)) (he : P.underlying e = some (.int k)) (hE : P.cellsOf e = 1)
    (hf : DataW.trod enc P w base spare held fuel t cs = some x) : ∃ a n cap zs, cs = [.slice a n cap] ∧ Row1 k w a n zs ∧ n ≤ cap ∧ (a = none → cap = 0) := by
  rcases open_ints ht he hE hf with ⟨hcs, _⟩ | ⟨x, l, c, zs, hcs, _, hl, hm, hz, _, hcell, hwz⟩
  · exact ⟨none, 0, 0, [], hcs, ⟨rfl, Nat.zero_le _, by simp, fun h => absurd h (by omega)⟩, Nat.le_refl _, fun _ => rfl⟩
  · have hlz : l ≤ zs.length := by rw [hz]; split <;> omega
    refine ⟨some x, l, c, zs.take l, hcs, ⟨by simp; omega, by omega, fun y hy => hwz y (List.mem_of_mem_take hy), fun h => ?_⟩, hl, fun h => by cases h⟩
    obtain ⟨b, off, rfl, hc⟩ := ints_at hcell (by omega)
    refine ⟨b, off, rfl, block_lt (hc 0 (by omega)), fun i hi => ?_⟩
    rw [hc i (by omega)]
    congr 2
    simp [List.getD_eq_getElem?_getD, List.getElem?_take, hi]
theorem open_rows35 {r : Reach} {b0 : Nat} {t e e1 : TypeId} {v : Value} {d : DataW H} {ps : List MemPlace} (ht : P.underlying t = some (.slice e)) (he : P.underlying e = some (.slice e1)) (hE : P.cellsOf e = 1) (u1 : P.underlying e1 = some (.int .i64)) (c1 : P.cellsOf e1 = 1)
    (hval : Value.okWide P w r b0 t v) (hd : DataW.Trod enc P w base spare held t v d ps) :
    ∃ a n cap fs, v = .slice a n cap ∧ RowRw w a n fs ∧ n ≤ cap := by
  obtain ⟨a0, len, cap, rfl⟩ := okWide_slice ht hval
  obtain ⟨fuel, hf⟩ := hd
  rcases DataW.trod_slice ht hf with ⟨hcs, _⟩ | ⟨x, l, c, elems, rest, m, _, hcs, _, _, hl, hm, hlen, hel, _, _⟩
  · simp [Value.cells] at hcs
    obtain ⟨rfl, rfl, rfl⟩ := hcs
    exact ⟨none, 0, 0, [], rfl, ⟨rfl, Nat.zero_le _, by simp, fun h => absurd h (by omega)⟩, Nat.le_refl _⟩
  · simp [Value.cells] at hcs
    obtain ⟨rfl, rfl, rfl⟩ := hcs
    rw [hE] at hel
    have each : ∀ i, i < len → ∃ f : Rw, f.ok w ∧ w.cell? (x.add (i * 1)) = some (.slice f.a f.n f.c) := by
      intro i hi
      have h := hel i hi
      rw [List.getElem?_eq_getElem (by omega)] at h
      obtain ⟨cs, hcs, htr⟩ := Option.bind_eq_some_iff.1 h
      unfold World.cells? at hcs
      split at hcs
      · have hr : List.range 1 = [0] := rfl
        rw [hr] at hcs
        simp only [List.mapM_cons, List.mapM_nil, Option.bind_eq_bind, Option.bind_eq_some_iff, Option.pure_def, Option.some.injEq] at hcs
        obtain ⟨v0, g0, l0, rfl, rfl⟩ := hcs
        obtain ⟨ra, rn, rc, rz, hrow, h1, h2, h3⟩ := trod_row35 he u1 c1 htr
        simp only [List.cons.injEq, and_true] at hrow
        subst hrow
        refine ⟨⟨ra, rn, rc, rz⟩, ⟨h1, h2, h3⟩, ?_⟩
        have : (x.add (i * 1)).add 0 = x.add (i * 1) := by simp [Addr.add]
        rw [this] at g0
        exact g0
      · cases hcs
    by_cases h0 : len = 0
    · subst h0
      exact ⟨some x, 0, cap, [], rfl, ⟨rfl, Nat.zero_le _, by simp, fun h => absurd h (by omega)⟩, hl⟩
    · obtain ⟨b, off, spot⟩ := x
      have hspot : spot = none := by
        obtain ⟨f, _, hc⟩ := each 0 (by omega)
        simpa [Addr.add] using World.cell?_spot hc
      subst hspot
      have each' : ∀ i, i < len → ∃ f : Rw, f.ok w ∧ w.cell? ⟨b, off + i, none⟩ = some (.slice f.a f.n f.c) := fun i hi => by
        have := each i hi
        simp only [Go.WideShapes.add_plain, Nat.mul_one] at this
        exact this
      have hb : b < w.heap.size := by
        obtain ⟨f, _, hc⟩ := each' 0 (by omega)
        exact block_lt hc
      have pick : ∃ g : Nat → Rw, ∀ i, i < len → (g i).ok w ∧ w.cell? ⟨b, off + i, none⟩ = some (.slice (g i).a (g i).n (g i).c) :=
        ⟨fun i => if h : i < len then Classical.choose (each' i h) else Rw.nil, fun i hi => by
          simp only [dif_pos hi]
          exact Classical.choose_spec (each' i hi)⟩
      obtain ⟨g, hg⟩ := pick
      refine ⟨some ⟨b, off, none⟩, len, cap, (List.range len).map g, rfl, ⟨by simp, by omega, fun y hy => ?_, fun _ => ⟨b, off, rfl, hb, fun i hi => ?_⟩⟩, hl⟩
      · obtain ⟨i, hi, rfl⟩ := List.mem_map.1 hy
        exact (hg i (List.mem_range.1 hi)).1
      · have e : ((List.range len).map g).getD i Rw.nil = g i := by
          rw [List.getD_eq_getElem?_getD, List.getElem?_map, List.getElem?_range hi]; rfl
        rw [e]
        exact (hg i hi).2
end
end Go.Proofs.Ytfjhcmihjffknaa
