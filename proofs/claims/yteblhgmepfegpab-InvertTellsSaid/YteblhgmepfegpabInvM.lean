/-
  Package invert: the work of sorting in memory; two sorted parts are merged. Nothing below turns but the rows that the work made. No condition but that the parts lie where they should.
-/
import Derived.Test.YteblhgmepfegpabRows
import Derived.Test.YteblhgmepfegpabBase
import Derived.Test.YteblhgmepfegpabInvMath
import Derived.Laws.CopyOwn
import Derived.Deep.AppendLies
import Derived.Outline
import Derived.BigRegion
import Derived.StillTailTactics
namespace Go.Proofs.Yteblhgmepfegpab
set_option linter.unusedVariables false
set_option linter.unusedSimpArgs false
open Go.ChangeShapes Go.WideShapes Go.ChangeAt Go.RowKit
attribute [local go_sem] alloc_drewN setCell_drewN

theorem below_set {m g i : Nat} {w W : World} {u : Value} (hb : Below m w W) (h : m ≤ g) : Below m w (W.setCell ⟨g, i, none⟩ u) :=
  hb.trans ⟨rfl, rfl, rfl, by simp [World.setCell], fun k hk => Below.heap_setCell W ⟨g, i, none⟩ u k (fun e => by have : k = g := e; omega)⟩
def nv (i : Nat) : Value := .int .i64 (i : Int)
/-- Numbers that lie below. -/
def NumAt (w : World) (base : Nat) (num : Value) (z : Nat → Int) (n : Nat) : Prop :=
  ∃ a c, num = .slice a n c ∧ ∀ i, i < n → ∃ b off, a = some ⟨b, off, none⟩ ∧ b < base ∧ b < w.heap.size ∧ w.cell? ⟨b, off + i, none⟩ = some (.int .u64 (z i))
theorem NumAt.below {w w' : World} {base : Nat} {num : Value} {z : Nat → Int} {n : Nat} (h : NumAt w base num z n) (hb : Below base w w') : NumAt w' base num z n := by
  obtain ⟨a, c, rfl, hc⟩ := h
  refine ⟨a, c, rfl, fun i hi => ?_⟩
  obtain ⟨b, off, rfl, h1, h2, h3⟩ := hc i hi
  exact ⟨b, off, rfl, h1, Nat.lt_of_lt_of_le h2 hb.size, (World.cell?_of_block (hb.block b h1)).trans h3⟩
/-- The work of sorting: the places in order so far, how late each is, a row that is half as long. -/
structure StAt (w : World) (base B g h q : Nat) (num : Value) (n : Nat) (xs : List Nat) (late : List Int) (hf : List Value) : Prop where
  blk : w.heap[B]? = some (.cells #[num, .slice (some ⟨g, 0, none⟩) n n, .slice (some ⟨h, 0, none⟩) n n, .slice (some ⟨q, 0, none⟩) (n / 2) (n / 2)] 33 (0, 0))
  ord : w.heap[g]? = some (.cells (xs.map nv).toArray 3 (0, 0))
  lat : w.heap[h]? = some (.cells (late.map (Value.int .i64)).toArray 3 (0, 0))
  hlf : w.heap[q]? = some (.cells hf.toArray 3 (0, 0))
  lo : base ≤ B ∧ base ≤ g ∧ base ≤ h ∧ base ≤ q
  ap : g ≠ h ∧ g ≠ q ∧ h ≠ q
  lx : xs.length = n
  ll : late.length = n
  lh : hf.length = n / 2
  lt : ∀ x ∈ xs, x < n
theorem StAt.neB {w : World} {base B g h q : Nat} {num : Value} {n : Nat} {xs : List Nat} {late : List Int} {hf : List Value} (s : StAt w base B g h q num n xs late hf) : B ≠ g ∧ B ≠ h ∧ B ≠ q := by
  refine ⟨fun e => ?_, fun e => ?_, fun e => ?_⟩
  · have h1 := s.blk; rw [e, s.ord] at h1; injection h1 with h1; injection h1 with _ h2 _; exact absurd h2 (by decide)
  · have h1 := s.blk; rw [e, s.lat] at h1; injection h1 with h1; injection h1 with _ h2 _; exact absurd h2 (by decide)
  · have h1 := s.blk; rw [e, s.hlf] at h1; injection h1 with h1; injection h1 with _ h2 _; exact absurd h2 (by decide)
theorem StAt.cell {w : World} {base B g h q : Nat} {num : Value} {n : Nat} {xs : List Nat} {late : List Int} {hf : List Value} (s : StAt w base B g h q num n xs late hf) :
    w.cell? ⟨B, 0, none⟩ = some num ∧ w.cell? ⟨B, 1, none⟩ = some (.slice (some ⟨g, 0, none⟩) n n) ∧ w.cell? ⟨B, 2, none⟩ = some (.slice (some ⟨h, 0, none⟩) n n) ∧ w.cell? ⟨B, 3, none⟩ = some (.slice (some ⟨q, 0, none⟩) (n / 2) (n / 2)) :=
  ⟨cell_of_row w B 0 _ _ (0, 0) s.blk, cell_of_row w B 1 _ _ (0, 0) s.blk, cell_of_row w B 2 _ _ (0, 0) s.blk, cell_of_row w B 3 _ _ (0, 0) s.blk⟩
theorem StAt.ordAt {w : World} {base B g h q : Nat} {num : Value} {n : Nat} {xs : List Nat} {late : List Int} {hf : List Value} (s : StAt w base B g h q num n xs late hf) (i : Nat) : w.cell? ⟨g, i, none⟩ = (xs.map nv)[i]? ∧ w.frozen? ⟨g, i, none⟩ = false :=
  ⟨(cell_of_row w g i _ _ (0, 0) s.ord).trans (by simp), frozen_of_row w g i _ _ s.ord⟩
theorem StAt.latAt {w : World} {base B g h q : Nat} {num : Value} {n : Nat} {xs : List Nat} {late : List Int} {hf : List Value} (s : StAt w base B g h q num n xs late hf) (i : Nat) : w.cell? ⟨h, i, none⟩ = (late.map (Value.int .i64))[i]? ∧ w.frozen? ⟨h, i, none⟩ = false :=
  ⟨(cell_of_row w h i _ _ (0, 0) s.lat).trans (by simp), frozen_of_row w h i _ _ s.lat⟩
theorem StAt.hlfAt {w : World} {base B g h q : Nat} {num : Value} {n : Nat} {xs : List Nat} {late : List Int} {hf : List Value} (s : StAt w base B g h q num n xs late hf) (i : Nat) : w.cell? ⟨q, i, none⟩ = hf[i]? :=
  (cell_of_row w q i _ _ (0, 0) s.hlf).trans (by simp)
theorem StAt.below {w w' : World} {base B g h q : Nat} {num : Value} {n : Nat} {xs : List Nat} {late : List Int} {hf : List Value} (s : StAt w base B g h q num n xs late hf) (hb : w'.heap = w.heap) : StAt w' base B g h q num n xs late hf :=
  ⟨hb ▸ s.blk, hb ▸ s.ord, hb ▸ s.lat, hb ▸ s.hlf, s.lo, s.ap, s.lx, s.ll, s.lh, s.lt⟩
theorem StAt.setOrd {w : World} {base B g h q : Nat} {num : Value} {n : Nat} {xs : List Nat} {late : List Int} {hf : List Value} (s : StAt w base B g h q num n xs late hf) (i x : Nat) (hx : x < n) : StAt (w.setCell ⟨g, i, none⟩ (nv x)) base B g h q num n (xs.set i x) late hf ∧ Below base w (w.setCell ⟨g, i, none⟩ (nv x)) := by
  obtain ⟨n1, n2, n3⟩ := s.neB
  obtain ⟨a1, a2, a3⟩ := s.ap
  have hh : ∀ j, j ≠ g → (w.setCell ⟨g, i, none⟩ (nv x)).heap[j]? = w.heap[j]? := fun j hj => Below.heap_setCell w ⟨g, i, none⟩ _ j hj
  refine ⟨⟨(hh B n1).trans s.blk, ?_, (hh h (Ne.symm a1)).trans s.lat, (hh q (Ne.symm a2)).trans s.hlf, s.lo, s.ap, by rw [List.length_set]; exact s.lx, s.ll, s.lh, fun y hy => ?_⟩, below_set (Below.refl _ _) s.lo.2.1⟩
  · rw [heap_setCell_same w g i _ _ _ s.ord, List.map_set]; simp
  · rcases List.mem_or_eq_of_mem_set hy with hy | hy
    · exact s.lt y hy
    · rw [hy]; exact hx
theorem StAt.setLat {w : World} {base B g h q : Nat} {num : Value} {n : Nat} {xs : List Nat} {late : List Int} {hf : List Value} (s : StAt w base B g h q num n xs late hf) (i : Nat) (x : Int) : StAt (w.setCell ⟨h, i, none⟩ (.int .i64 x)) base B g h q num n xs (late.set i x) hf ∧ Below base w (w.setCell ⟨h, i, none⟩ (.int .i64 x)) := by
  obtain ⟨n1, n2, n3⟩ := s.neB
  obtain ⟨a1, a2, a3⟩ := s.ap
  have hh : ∀ j, j ≠ h → (w.setCell ⟨h, i, none⟩ (.int .i64 x)).heap[j]? = w.heap[j]? := fun j hj => Below.heap_setCell w ⟨h, i, none⟩ _ j hj
  refine ⟨⟨(hh B n2).trans s.blk, (hh g a1).trans s.ord, ?_, (hh q (Ne.symm a3)).trans s.hlf, s.lo, s.ap, s.lx, by rw [List.length_set]; exact s.ll, s.lh, s.lt⟩, below_set (Below.refl _ _) s.lo.2.2.1⟩
  rw [heap_setCell_same w h i _ _ _ s.lat, List.map_set]; simp
theorem StAt.setHlf {w : World} {base B g h q : Nat} {num : Value} {n : Nat} {xs : List Nat} {late : List Int} {hf : List Value} (s : StAt w base B g h q num n xs late hf) (hf' : List Value) (hl : hf'.length = n / 2) : StAt (w.setRow q hf'.toArray) base B g h q num n xs late hf' ∧ Below base w (w.setRow q hf'.toArray) := by
  obtain ⟨n1, n2, n3⟩ := s.neB
  obtain ⟨a1, a2, a3⟩ := s.ap
  have hh : ∀ j, j ≠ q → (w.setRow q hf'.toArray).heap[j]? = w.heap[j]? := fun j hj => setRow_other w q j _ hj
  exact ⟨⟨(hh B n3).trans s.blk, (hh g a2).trans s.ord, (hh h a3).trans s.lat, setRow_heap w q _ _ _ _ s.hlf, s.lo, s.ap, s.lx, s.ll, hl, s.lt⟩, below_setRow (Below.refl _ _) s.lo.2.2.2 _⟩
/-- A part of a row in memory, by where it begins. -/
def SubV (v : Value) (g i l : Nat) : Prop := ∃ a c, v = .slice a l c ∧ l ≤ c ∧ c < 9223372036854775807 ∧ (0 < l → a = some ⟨g, i, none⟩)
end Go.Proofs.Yteblhgmepfegpab
