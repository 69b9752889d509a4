/-
  How a slice of truths is opened. Plain laws on how data read. No condition.
-/
import Derived.Test.YtiijlfpkninmgaaOpen2
namespace Go.Proofs.Ytiijlfpkninmgaa
set_option linter.unusedVariables false
set_option linter.unusedSimpArgs false
open Go.ChangeShapes Go.WideShapes Go.ChangeAt Go.RowKit

section
variable {H : Type} {enc : TypeId × Value → H} {P : Program} {w : World} {base : Nat} {spare : Nat → Bool} {held : Bool}

/-- A slice of truths that came in: its elements. -/
def RowB (w : World) (a : Option Addr) (n : Nat) (fs : List Bool) : Prop :=
  fs.length = n ∧ n ≤ maxLen ∧ (0 < n → ∃ b off, a = some ⟨b, off, none⟩ ∧ b < w.heap.size ∧ ∀ i, i < n → w.cell? ⟨b, off + i, none⟩ = some (.bool (fs.getD i false)))
theorem open_bools {r : Reach} {b0 : Nat} {t e : TypeId} {v : Value} {d : DataW H} {ps : List MemPlace} (ht : P.underlying t = some (.slice e)) (he : P.underlying e = some .bool) (hE : P.cellsOf e = 1)
    (hval : Value.okWide P w r b0 t v) (hd : DataW.Trod enc P w base spare held t v d ps) :
    ∃ a n cap fs, v = .slice a n cap ∧ RowB w a n fs ∧ n ≤ cap := by
  obtain ⟨a0, len, cap, rfl⟩ := okWide_slice ht hval
  obtain ⟨fuel, hf⟩ := hd
  rcases DataW.trod_slice ht hf with ⟨hcs, _⟩ | ⟨x, l, c, elems, rest, m, _, hcs, _, _, hl, hm, hlen, hel, _, _⟩
  · simp [Value.cells] at hcs
    obtain ⟨rfl, rfl, rfl⟩ := hcs
    exact ⟨none, 0, 0, [], rfl, ⟨rfl, Nat.zero_le _, fun h => absurd h (by omega)⟩, Nat.le_refl _⟩
  · simp [Value.cells] at hcs
    obtain ⟨rfl, rfl, rfl⟩ := hcs
    rw [hE] at hel
    have each : ∀ i, i < len → ∃ f : Bool, w.cell? (x.add (i * 1)) = some (.bool f) := by
      intro i hi
      have h := hel i hi
      rw [List.getElem?_eq_getElem (by omega)] at h
      obtain ⟨cs, hcs, htr⟩ := Option.bind_eq_some_iff.1 h
      unfold World.cells? at hcs
      split at hcs
      · have hr : List.range 1 = [0] := rfl
        rw [hr] at hcs
        simp only [List.mapM_cons, List.mapM_nil, Option.bind_eq_bind, Option.bind_eq_some_iff, Option.pure_def, Option.some.injEq] at hcs
        obtain ⟨v0, g0, l0, rfl, rfl⟩ := hcs
        obtain ⟨k, e0, _⟩ := DataW.trod_bool he htr
        simp at e0
        subst e0
        refine ⟨k, ?_⟩
        have : (x.add (i * 1)).add 0 = x.add (i * 1) := by simp [Addr.add]
        rw [this] at g0
        exact g0
      · cases hcs
    by_cases h0 : len = 0
    · subst h0
      exact ⟨some x, 0, cap, [], rfl, ⟨rfl, Nat.zero_le _, fun h => absurd h (by omega)⟩, hl⟩
    · obtain ⟨b, off, spot⟩ := x
      have hspot : spot = none := by
        obtain ⟨f, hc⟩ := each 0 (by omega)
        simpa [Addr.add] using World.cell?_spot hc
      subst hspot
      have each' : ∀ i, i < len → ∃ f : Bool, w.cell? ⟨b, off + i, none⟩ = some (.bool f) := fun i hi => by
        have := each i hi
        simp only [Go.WideShapes.add_plain, Nat.mul_one] at this
        exact this
      have hb : b < w.heap.size := by
        obtain ⟨f, hc⟩ := each' 0 (by omega)
        exact block_lt hc
      have pick : ∃ g : Nat → Bool, ∀ i, i < len → w.cell? ⟨b, off + i, none⟩ = some (.bool (g i)) :=
        ⟨fun i => if h : i < len then Classical.choose (each' i h) else false, fun i hi => by
          simp only [dif_pos hi]
          exact Classical.choose_spec (each' i hi)⟩
      obtain ⟨g, hg⟩ := pick
      refine ⟨some ⟨b, off, none⟩, len, cap, (List.range len).map g, rfl, ⟨by simp, by omega, fun _ => ⟨b, off, rfl, hb, fun i hi => ?_⟩⟩, hl⟩
      have e : ((List.range len).map g).getD i false = g i := by
        rw [List.getD_eq_getElem?_getD, List.getElem?_map, List.getElem?_range hi]; rfl
      rw [e]
      exact hg i hi
end
end Go.Proofs.Ytiijlfpkninmgaa
