/-
  What package pool keeps for elements of type int: the entries, the handles given back, the queues; what is asked. What lay below the heap's end stands. No condition but that the pool is one that New made.
-/
import Derived.Test.YtmkgadndfiiacaaRows
import Derived.Test.YtmkgadndfiiacaaBase
import Derived.Test.YtmkgadndfiiacaaPoolMath
import Derived.Deep.AppendLies
import Derived.Outline
namespace Go.Proofs.Ytmkgadndfiiacaa
set_option linter.unusedVariables false
set_option linter.unusedSimpArgs false
open Go.ChangeShapes Go.WideShapes Go.ChangeAt Go.RowKit
attribute [local go_sem] alloc_drewN setCell_drewN

/-- What is kept of a handle: its element; is it taken; does it stand in a queue; the handle behind it. -/
structure EntI where
  x : Int
  tk : Bool
  qd : Bool
  nx : Int
def EntI.cells (e : EntI) : List Value := [Value.int .i64 e.x, .bool e.tk, .bool e.qd, .int .u16 e.nx]
def entsI (es : List EntI) : List Value := es.flatMap EntI.cells
theorem ents_lenI (es : List EntI) : (entsI es).length = es.length * 4 := by
  induction es with
  | nil => rfl
  | cons e es ih =>
    show (EntI.cells e ++ entsI es).length = _
    rw [List.length_append, ih, List.length_cons]
    show 4 + _ = _
    omega
theorem ents_atI (es : List EntI) (h i : Nat) (hh : h < es.length) (hi : i < 4) : (entsI es)[h * 4 + i]? = (es[h]).cells[i]? := by
  induction es generalizing h with
  | nil => exact absurd hh (Nat.not_lt_zero _)
  | cons e es ih =>
    show (EntI.cells e ++ entsI es)[h * 4 + i]? = _
    cases h with
    | zero => rw [Nat.zero_mul, Nat.zero_add, List.getElem?_append_left (by simpa [EntI.cells] using hi)]; rfl
    | succ h =>
      rw [List.getElem?_append_right (by simp [EntI.cells]; omega)]
      have e4 : (h + 1) * 4 + i - (EntI.cells e).length = h * 4 + i := by simp [EntI.cells]; omega
      rw [e4, ih h (by simpa using hh)]; rfl
/-- A pool: how many handles at most; what is kept of those that were ever taken; those given back; the queues. -/
structure PoolAtI (w : World) (base B : Nat) (most : Int) (ve vf vq : Value) (es : List EntI) (fr : List Int) (qs : List (Int × Int × Int)) : Prop where
  blk : w.heap[B]? = some (.cells #[.int .i64 most, ve, vf, vq] 195 (0, 0))
  low : base ≤ B
  oe : w.ownsRow base 204 4 ve es.length (entsI es)
  of : w.ownsRow base 3 1 vf fr.length (fr.map (.int .i64))
  oq : w.ownsRow base 208 3 vq qs.length (qs.flatMap fun q => [.int .u16 q.1, .int .u16 q.2.1, .int .u16 q.2.2])
  m0 : 1 ≤ most
  m1 : most ≤ 4096
  le : (es.length : Int) ≤ most
  lf : fr.length ≤ es.length
  fi : ∀ h ∈ fr, 0 ≤ h ∧ h < (es.length : Int)
theorem PoolAtI.drewN {w : World} {base B : Nat} {most : Int} {ve vf vq : Value} {es : List EntI} {fr : List Int} {qs : List (Int × Int × Int)} (h : PoolAtI w base B most ve vf vq es fr qs) (n : Nat) : PoolAtI (w.drewN n) base B most ve vf vq es fr qs := ⟨h.blk, h.low, h.oe, h.of, h.oq, h.m0, h.m1, h.le, h.lf, h.fi⟩
theorem PoolAtI.heap {w w' : World} {base B : Nat} {most : Int} {ve vf vq : Value} {es : List EntI} {fr : List Int} {qs : List (Int × Int × Int)} (h : PoolAtI w base B most ve vf vq es fr qs) (e : w'.heap = w.heap) : PoolAtI w' base B most ve vf vq es fr qs :=
  ⟨by rw [e]; exact h.blk, h.low, by have o := h.oe; unfold World.ownsRow at o ⊢; rw [e]; exact o, by have o := h.of; unfold World.ownsRow at o ⊢; rw [e]; exact o, by have o := h.oq; unfold World.ownsRow at o ⊢; rw [e]; exact o, h.m0, h.m1, h.le, h.lf, h.fi⟩
theorem PoolAtI.cell {w : World} {base B : Nat} {most : Int} {ve vf vq : Value} {es : List EntI} {fr : List Int} {qs : List (Int × Int × Int)} (h : PoolAtI w base B most ve vf vq es fr qs) :
    w.cell? ⟨B, 0, none⟩ = some (.int .i64 most) ∧ w.cell? ⟨B, 1, none⟩ = some ve ∧ w.cell? ⟨B, 2, none⟩ = some vf ∧ w.cell? ⟨B, 3, none⟩ = some vq :=
  ⟨cell_of_row w B 0 _ _ (0, 0) h.blk, cell_of_row w B 1 _ _ (0, 0) h.blk, cell_of_row w B 2 _ _ (0, 0) h.blk, cell_of_row w B 3 _ _ (0, 0) h.blk⟩
theorem PoolAtI.entAt {w : World} {base B : Nat} {most : Int} {g c : Nat} {vf vq : Value} {es : List EntI} {fr : List Int} {qs : List (Int × Int × Int)} (h : PoolAtI w base B most (.slice (some ⟨g, 0, none⟩) es.length c) vf vq es fr qs) (i : Nat) (hi : i < es.length) :
    w.cell? ⟨g, i * 4, none⟩ = some (Value.int .i64 (es[i]).x) ∧ w.cell? ⟨g, i * 4 + 1, none⟩ = some (.bool (es[i]).tk) ∧ w.cell? ⟨g, i * 4 + 2, none⟩ = some (.bool (es[i]).qd) ∧ w.cell? ⟨g, i * 4 + 3, none⟩ = some (.int .u16 (es[i]).nx) := by
  have hc := fun j (hj : j < 4) => (h.oe.cellAt (i * 4 + j) (by omega)).trans (ents_atI es i j hi hj)
  exact ⟨hc 0 (by omega), hc 1 (by omega), hc 2 (by omega), hc 3 (by omega)⟩
theorem PoolAtI.ne {w : World} {base B : Nat} {most : Int} {ve vf vq : Value} {es : List EntI} {fr : List Int} {qs : List (Int × Int × Int)} (h : PoolAtI w base B most ve vf vq es fr qs) : ve.ownBlock ≠ some B ∧ vf.ownBlock ≠ some B ∧ vq.ownBlock ≠ some B :=
  ⟨own_ne_blk h.oe h.blk (by decide), own_ne_blk h.of h.blk (by decide), own_ne_blk h.oq h.blk (by decide)⟩
theorem PoolAtI.apart {w : World} {base B : Nat} {most : Int} {ve vf vq : Value} {es : List EntI} {fr : List Int} {qs : List (Int × Int × Int)} (h : PoolAtI w base B most ve vf vq es fr qs) :
    (vf.ownBlock = none ∨ vf.ownBlock ≠ ve.ownBlock) ∧ (vq.ownBlock = none ∨ vq.ownBlock ≠ ve.ownBlock) ∧ (ve.ownBlock = none ∨ ve.ownBlock ≠ vf.ownBlock) ∧ (vq.ownBlock = none ∨ vq.ownBlock ≠ vf.ownBlock) :=
  ⟨row_apart h.of h.oe (by decide), row_apart h.oq h.oe (by decide), row_apart h.oe h.of (by decide), row_apart h.oq h.of (by decide)⟩
theorem madePI {w : World} {base B : Nat} {most : Int} {ve vf vq : Value} {es : List EntI} {fr : List Int} {qs : List (Int × Int × Int)} (h : PoolAtI w base B most ve vf vq es fr qs) :
    Calls Try.prog 117 #[.pointer (some ⟨B, 0, none⟩)] w fun e w' => e = .returned (.bool true) ∧ w' = w := by
  obtain ⟨c0, c1, c2, c3⟩ := h.cell
  have hm : 0 < most := by have := h.m0; omega
  clear h
  go_enter Try.func117, Try.ntmps117
  go_wp2
  go_ret
  exact ⟨rfl, rfl⟩
theorem lenPI {w : World} {base B : Nat} {most : Int} {ve vf vq : Value} {es : List EntI} {fr : List Int} {qs : List (Int × Int × Int)} (h : PoolAtI w base B most ve vf vq es fr qs) :
    Calls Try.prog 59 #[.pointer (some ⟨B, 0, none⟩)] w fun e w' => e = .returned (.int .i64 ((es.length - fr.length : Nat) : Int)) ∧ ∃ n, w' = w.drewN n := by
  have MD := Lib.hid (madePI h)
  obtain ⟨c0, c1, c2, c3⟩ := h.cell
  have hw : IntKind.i64.wrap ((es.length : Int) - fr.length) = ((es.length - fr.length : Nat) : Int) := by
    have := h.m1; have := h.le; have := h.lf
    rw [IntKind.wrap_i64]; omega
  obtain ⟨ae, ce, rfl⟩ := row_slice h.oe
  obtain ⟨af, cf, rfl⟩ := row_slice h.of
  clear h
  go_enter Try.func59, Try.ntmps59
  go_wp2_with fail
  refine MD.out.mono ?_
  rintro e w' ⟨rfl, rfl⟩
  go_wp2
  go_quiet (fail)
  go_wp2
  go_ret
  exact ⟨rfl, _, rfl⟩
end Go.Proofs.Ytmkgadndfiiacaa
