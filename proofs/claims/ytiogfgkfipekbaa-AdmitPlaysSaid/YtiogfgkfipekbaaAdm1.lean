/-
  Package admit: a gate in memory; what it reads: whether New made it, what is left, what waits, whether there is room, whether a flow has its share. Nothing turns below the heap's end. No condition but that New made it.
-/
import Derived.Test.YtiogfgkfipekbaaFlowPG
import Derived.Test.YtiogfgkfipekbaaAdmNil
import Derived.Test.YtiogfgkfipekbaaSat2
import Derived.Test.YtiogfgkfipekbaaRef1b
namespace Go.Proofs.Ytiogfgkfipekbaa
set_option linter.unusedVariables false
set_option linter.unusedSimpArgs false
open Go.ChangeShapes Go.WideShapes Go.ChangeAt Go.RowKit
attribute [local go_sem] alloc_drewN setCell_drewN

/-- What waits of a flow, and how much of it may. -/
structure Dt where
  pk : Int
  by_ : Int
  most : Int
def Dt.ok (d : Dt) : Prop := (-9223372036854775808 ≤ d.pk ∧ d.pk ≤ 9223372036854775807) ∧ (0 ≤ d.by_ ∧ d.by_ ≤ 18446744073709551615) ∧ 0 ≤ d.most ∧ d.most ≤ 18446744073709551615
/-- A gate's limits. -/
structure Gc where
  pk : Int
  by_ : Int
  sh : Int
  mtu : Int
def Gc.ok (c : Gc) : Prop := (1 ≤ c.pk ∧ c.pk ≤ 4096) ∧ (1 ≤ c.by_ ∧ c.by_ ≤ 18446744073709551615) ∧ (0 ≤ c.sh ∧ c.sh ≤ 16) ∧ 1 ≤ c.mtu ∧ c.mtu ≤ 65535
/-- A flow's data in its block. -/
def DtAt (w : World) (b : Nat) (d : Dt) : Prop := w.heap[b]? = some (.cells #[.int .i64 d.pk, .int .u64 d.by_, .int .u64 d.most] 118 (0, 0))
theorem DtAt.at {w : World} {b : Nat} {d : Dt} (h : DtAt w b d) : w.cell? ⟨b, 0, none⟩ = some (.int .i64 d.pk) ∧ w.cell? ⟨b, 1, none⟩ = some (.int .u64 d.by_) ∧ w.cell? ⟨b, 2, none⟩ = some (.int .u64 d.most) ∧ w.frozen? ⟨b, 0, none⟩ = false ∧ w.frozen? ⟨b, 1, none⟩ = false :=
  ⟨cell_of_row w b 0 _ _ (0, 0) h, cell_of_row w b 1 _ _ (0, 0) h, cell_of_row w b 2 _ _ (0, 0) h, frozen_of_row w b 0 _ _ h, frozen_of_row w b 1 _ _ h⟩
theorem DtAt.lt {w : World} {b : Nat} {d : Dt} (h : DtAt w b d) : b < w.heap.size := (Array.getElem?_eq_some_iff.1 h).1
/-- A gate's own block. -/
def GkAt (w : World) (G T : Nat) (c : Gc) (tp tb : Int) : Prop := w.heap[G]? = some (.cells #[.int .i64 c.pk, .int .u64 c.by_, .int .i64 c.sh, .int .u64 c.mtu, .int .i64 tp, .int .u64 tb, .pointer (some ⟨T, 0, none⟩)] 107 (0, 0))
theorem GkAt.at {w : World} {G T : Nat} {c : Gc} {tp tb : Int} (h : GkAt w G T c tp tb) : w.cell? ⟨G, 0, none⟩ = some (.int .i64 c.pk) ∧ w.cell? ⟨G, 1, none⟩ = some (.int .u64 c.by_) ∧ w.cell? ⟨G, 2, none⟩ = some (.int .i64 c.sh) ∧ w.cell? ⟨G, 3, none⟩ = some (.int .u64 c.mtu) ∧ w.cell? ⟨G, 4, none⟩ = some (.int .i64 tp) ∧ w.cell? ⟨G, 5, none⟩ = some (.int .u64 tb) ∧ w.cell? ⟨G, 6, none⟩ = some (.pointer (some ⟨T, 0, none⟩)) ∧ w.frozen? ⟨G, 4, none⟩ = false ∧ w.frozen? ⟨G, 5, none⟩ = false :=
  ⟨cell_of_row w G 0 _ _ (0, 0) h, cell_of_row w G 1 _ _ (0, 0) h, cell_of_row w G 2 _ _ (0, 0) h, cell_of_row w G 3 _ _ (0, 0) h, cell_of_row w G 4 _ _ (0, 0) h, cell_of_row w G 5 _ _ (0, 0) h, cell_of_row w G 6 _ _ (0, 0) h, frozen_of_row w G 4 _ _ h, frozen_of_row w G 5 _ _ h⟩
theorem GkAt.lt {w : World} {G T : Nat} {c : Gc} {tp tb : Int} (h : GkAt w G T c tp tb) : G < w.heap.size := (Array.getElem?_eq_some_iff.1 h).1

section
variable {w : World} {G T : Nat} {c : Gc} {tp tb : Int}
theorem amade (h : GkAt w G T c tp tb) : Calls Try.prog 53 #[.pointer (some ⟨G, 0, none⟩)] w fun e w' => e = .returned (.bool true) ∧ w' = w := by
  obtain ⟨-, -, -, -, -, -, c6, -, -⟩ := h.at
  clear h
  go_enter Try.func53, Try.ntmps53
  go_wp2
  go_ret
  exact ⟨rfl, rfl⟩
theorem aleft (h : GkAt w G T c tp tb) (hc : c.ok) (t0 : 0 ≤ tb) (t1 : tb ≤ 18446744073709551615) : Calls Try.prog 94 #[.pointer (some ⟨G, 0, none⟩)] w fun e w' => e = .returned (.int .u64 (sub0 c.by_ tb)) ∧ ∃ q, w' = w.drewN q := by
  obtain ⟨-, c1, -, -, -, c5, -, -, -⟩ := h.at
  obtain ⟨-, ⟨k0, k1⟩, -, -⟩ := hc
  have SB := Lib.hid (fun W => (sat_sub c.by_ tb (by omega) k1 t0 t1 W).mono (R' := fun e w' => e = .returned (.int .u64 (sub0 c.by_ tb)) ∧ w' = W) (by rintro e w' ⟨rfl, rfl⟩; exact ⟨rfl, rfl⟩))
  generalize sub0 c.by_ tb = r at *
  clear h
  go_enter Try.func94, Try.ntmps94
  go_wp2
  go_quiet ((go_at_call 95; exact Calls.quiet_of_same (SB.out _)))
  go_wp2
  go_ret
  exact ⟨rfl, _, rfl⟩
theorem atotal (h : GkAt w G T c tp tb) : Calls Try.prog 22 #[.pointer (some ⟨G, 0, none⟩)] w fun e w' => e = .returned (.tuple #[.int .i64 tp, .int .u64 tb]) ∧ ∃ q, w' = w.drewN q := by
  obtain ⟨-, -, -, -, c4, c5, -, -, -⟩ := h.at
  clear h
  go_enter Try.func22, Try.ntmps22
  go_wp2
  go_quiet (fail)
  go_wp2
  go_ret2
  exact ⟨rfl, _, rfl⟩
/-- Whether a flow has its share already. -/
def fairC (c : Gc) (tb : Int) (d : Dt) : Int := if shl (sub0 c.by_ tb) (min c.sh.toNat 64) ≤ d.by_ then 17 else 0
set_option maxHeartbeats 1000000 in
theorem afair (h : GkAt w G T c tp tb) (hc : c.ok) (t0 : 0 ≤ tb) (t1 : tb ≤ 18446744073709551615) {b : Nat} {d : Dt} (hd : DtAt w b d) : Calls Try.prog 59 #[.pointer (some ⟨G, 0, none⟩), .pointer (some ⟨b, 0, none⟩)] w fun e w' => e = .returned (.int .i64 (fairC c tb d)) ∧ ∃ q, w' = w.drewN q := by
  have LF := Lib.hid (fun q => aleft (w := w.drewN q) h hc t0 t1)
  obtain ⟨-, -, c2, -, -, -, -, -, -⟩ := h.at
  obtain ⟨-, d1, -, -, -⟩ := hd.at
  obtain ⟨-, ⟨k0, k1⟩, ⟨s0, s1⟩, -⟩ := hc
  have sb : 0 ≤ sub0 c.by_ tb ∧ sub0 c.by_ tb ≤ 18446744073709551615 := by unfold sub0; split <;> omega
  have SH := Lib.hid (fun W => (sat_shift (sub0 c.by_ tb) c.sh sb.1 sb.2 (by omega) (by omega) W).mono (R' := fun e w' => e = .returned (.int .u64 (shl (sub0 c.by_ tb) (min c.sh.toNat 64))) ∧ w' = W) (by rintro e w' ⟨rfl, rfl⟩; exact ⟨rfl, rfl⟩))
  unfold fairC
  generalize shl (sub0 c.by_ tb) (min c.sh.toNat 64) = r at *
  generalize sub0 c.by_ tb = l at *
  clear h hd
  by_cases hx : r ≤ d.by_
  · rw [if_pos hx]
    have g : decide (r ≤ d.by_) = true := decide_eq_true hx
    go_enter Try.func59, Try.ntmps59
    go_wp2
    go_quiet ((first | (go_at_call 94; exact Calls.quiet_of (LF.out _)) | (go_at_call 96; exact Calls.quiet_of_same (SH.out _))))
    go_wp2
    go_ret
    exact ⟨rfl, _, rfl⟩
  · rw [if_neg hx]
    have g : decide (r ≤ d.by_) = false := decide_eq_false hx
    go_enter Try.func59, Try.ntmps59
    go_wp2
    go_quiet ((first | (go_at_call 94; exact Calls.quiet_of (LF.out _)) | (go_at_call 96; exact Calls.quiet_of_same (SH.out _))))
    go_wp2
    go_ret
    exact ⟨rfl, _, rfl⟩
end
end Go.Proofs.Ytiogfgkfipekbaa
