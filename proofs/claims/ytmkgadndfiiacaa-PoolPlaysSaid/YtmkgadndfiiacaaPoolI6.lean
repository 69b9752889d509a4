/-
  What package pool does with the queues of a pool of elements of type int: is there one; its first handle; the first one goes. No block turns but the pool's own. No condition but that the pool is one that New made.
-/
import Derived.Test.YtmkgadndfiiacaaPoolI5
namespace Go.Proofs.Ytmkgadndfiiacaa
set_option linter.unusedVariables false
set_option linter.unusedSimpArgs false
open Go.ChangeShapes Go.WideShapes Go.ChangeAt Go.RowKit
attribute [local go_sem] alloc_drewN setCell_drewN

def quCellsI (q : Int × Int × Int) : List Value := [.int .u16 q.1, .int .u16 q.2.1, .int .u16 q.2.2]
theorem qus_lenI (qs : List (Int × Int × Int)) : (qs.flatMap quCellsI).length = qs.length * 3 := by
  induction qs with
  | nil => rfl
  | cons e es ih =>
    rw [List.flatMap_cons, List.length_append, ih, List.length_cons]
    show 3 + _ = _
    omega
theorem qus_atI (qs : List (Int × Int × Int)) (h i : Nat) (hh : h < qs.length) (hi : i < 3) : (qs.flatMap quCellsI)[h * 3 + i]? = (quCellsI qs[h])[i]? := by
  induction qs generalizing h with
  | nil => exact absurd hh (Nat.not_lt_zero _)
  | cons e es ih =>
    rw [List.flatMap_cons]
    cases h with
    | zero => rw [Nat.zero_mul, Nat.zero_add, List.getElem?_append_left (by simpa [quCellsI] using hi)]; rfl
    | succ h =>
      rw [List.getElem?_append_right (by simp [quCellsI]; omega)]
      have e4 : (h + 1) * 3 + i - (quCellsI e).length = h * 3 + i := by simp [quCellsI]; omega
      rw [e4, ih h (by simpa using hh)]; rfl
theorem PoolAtI.quAt {w : World} {base B : Nat} {most : Int} {g c : Nat} {ve vf : Value} {es : List EntI} {fr : List Int} {qs : List (Int × Int × Int)} (h : PoolAtI w base B most ve vf (.slice (some ⟨g, 0, none⟩) qs.length c) es fr qs) (i : Nat) (hi : i < qs.length) :
    w.cell? ⟨g, i * 3, none⟩ = some (.int .u16 (qs[i]).1) ∧ w.cell? ⟨g, i * 3 + 1, none⟩ = some (.int .u16 (qs[i]).2.1) ∧ w.cell? ⟨g, i * 3 + 2, none⟩ = some (.int .u16 (qs[i]).2.2) := by
  have hc := fun j (hj : j < 3) => (h.oq.cellAt (i * 3 + j) (by omega)).trans (qus_atI qs i j hi hj)
  exact ⟨hc 0 (by omega), hc 1 (by omega), hc 2 (by omega)⟩
theorem hasP_inI {w : World} {base B : Nat} {most : Int} {ve vf vq : Value} {es : List EntI} {fr : List Int} {qs : List (Int × Int × Int)} (h : PoolAtI w base B most ve vf vq es fr qs) (j : Nat) (hj : j < qs.length) :
    Calls Try.prog 119 #[.pointer (some ⟨B, 0, none⟩), .int .i64 j] w fun e w' => e = .returned (.bool true) ∧ w' = w := by
  have MD := Lib.hid (madePI h)
  obtain ⟨c0, c1, c2, c3⟩ := h.cell
  obtain ⟨aq, cq, rfl⟩ := row_slice h.oq
  have a0 : (0 : Int) ≤ j := by omega
  have a1 : (j : Int) < qs.length := by omega
  clear h
  go_enter Try.func119, Try.ntmps119
  go_wp2_with (go_at_call 117; refine (MD.out).mono ?_; rintro e w' ⟨rfl, rfl⟩)
  go_ret
  exact ⟨rfl, rfl⟩
theorem hasP_outI {w : World} {base B : Nat} {most : Int} {ve vf vq : Value} {es : List EntI} {fr : List Int} {qs : List (Int × Int × Int)} (h : PoolAtI w base B most ve vf vq es fr qs) (j : Int) (hj : j < 0 ∨ (qs.length : Int) ≤ j) :
    Calls Try.prog 119 #[.pointer (some ⟨B, 0, none⟩), .int .i64 j] w fun e w' => e = .returned (.bool false) ∧ w' = w := by
  have MD := Lib.hid (madePI h)
  obtain ⟨c0, c1, c2, c3⟩ := h.cell
  obtain ⟨aq, cq, rfl⟩ := row_slice h.oq
  clear h
  rcases hj with hj | hj
  · go_enter Try.func119, Try.ntmps119
    go_wp2_with (go_at_call 117; refine (MD.out).mono ?_; rintro e w' ⟨rfl, rfl⟩)
    go_ret
    exact ⟨rfl, rfl⟩
  · have h0 : ¬ j < (qs.length : Int) := by omega
    have h1 : (0 : Int) ≤ j := by omega
    go_enter Try.func119, Try.ntmps119
    go_wp2_with (go_at_call 117; refine (MD.out).mono ?_; rintro e w' ⟨rfl, rfl⟩)
    go_ret
    have hd : decide (j < (qs.length : Int)) = false := decide_eq_false (by omega)
    exact ⟨by rw [hd]; rfl, rfl⟩
theorem headP_outI {w : World} {base B : Nat} {most : Int} {ve vf vq : Value} {es : List EntI} {fr : List Int} {qs : List (Int × Int × Int)} (h : PoolAtI w base B most ve vf vq es fr qs) (j : Int) (hj : j < 0 ∨ (qs.length : Int) ≤ j) :
    Calls Try.prog 63 #[.pointer (some ⟨B, 0, none⟩), .int .i64 j] w fun e w' => e = .returned (.tuple #[.int .i64 0, .bool false]) ∧ ∃ n, w' = w.drewN n := by
  have HS := Lib.hid (hasP_outI h j hj)
  clear h hj
  go_enter Try.func63, Try.ntmps63
  go_wp2_with (go_at_call 119; refine (HS.out).mono ?_; rintro e w' ⟨rfl, rfl⟩)
  go_ret2
  exact ⟨rfl, 0, rfl⟩
theorem headP_noneI {w : World} {base B : Nat} {most : Int} {ve vf vq : Value} {es : List EntI} {fr : List Int} {qs : List (Int × Int × Int)} (h : PoolAtI w base B most ve vf vq es fr qs) (j : Nat) (hj : j < qs.length) (hn : (qs[j]).2.2 = 0) :
    Calls Try.prog 63 #[.pointer (some ⟨B, 0, none⟩), .int .i64 j] w fun e w' => e = .returned (.tuple #[.int .i64 0, .bool false]) ∧ ∃ n, w' = w.drewN n := by
  have HS := Lib.hid (hasP_inI h j hj)
  obtain ⟨c0, c1, c2, c3⟩ := h.cell
  obtain ⟨gq, cq, rfl, _, _⟩ := h.oq.form (by omega)
  obtain ⟨k0, k1, k2⟩ := h.quAt j hj
  rw [hn] at k2
  have a0 : (0 : Int) ≤ j := by omega
  have a1 : (j : Int) < qs.length := by omega
  clear h hn
  generalize qs[j] = en at *
  go_enter Try.func63, Try.ntmps63
  go_wp2_with (go_at_call 119; refine (HS.out).mono ?_; rintro e w' ⟨rfl, rfl⟩)
  go_ret2
  exact ⟨rfl, 0, rfl⟩
theorem headP_someI {w : World} {base B : Nat} {most : Int} {ve vf vq : Value} {es : List EntI} {fr : List Int} {qs : List (Int × Int × Int)} (h : PoolAtI w base B most ve vf vq es fr qs) (j : Nat) (hj : j < qs.length) (hn : (qs[j]).2.2 ≠ 0) (h0 : 0 ≤ (qs[j]).1) (h1 : (qs[j]).1 < 65536) :
    Calls Try.prog 63 #[.pointer (some ⟨B, 0, none⟩), .int .i64 j] w fun e w' => e = .returned (.tuple #[.int .i64 (qs[j]).1, .bool true]) ∧ ∃ n, w' = w.drewN n := by
  have HS := Lib.hid (hasP_inI h j hj)
  obtain ⟨c0, c1, c2, c3⟩ := h.cell
  obtain ⟨gq, cq, rfl, _, _⟩ := h.oq.form (by omega)
  obtain ⟨k0, k1, k2⟩ := h.quAt j hj
  have a0 : (0 : Int) ≤ j := by omega
  have a1 : (j : Int) < qs.length := by omega
  clear h
  generalize qs[j] = en at *
  obtain ⟨qf, ql, qc⟩ := en
  simp only at hn h0 h1 k0 k1 k2 ⊢
  have a2 : IntKind.i64.wrap qf = qf := by rw [IntKind.wrap_i64]; omega
  go_enter Try.func63, Try.ntmps63
  go_wp2_with (go_at_call 119; refine (HS.out).mono ?_; rintro e w' ⟨rfl, rfl⟩)
  go_ret2
  exact ⟨rfl, 0, rfl⟩
end Go.Proofs.Ytmkgadndfiiacaa
