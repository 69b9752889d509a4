/-
  Package trace and the document's answer for layer 39: whether a record is right. What lay below the heap's end stands.
-/
import Derived.Test.YtapjebhdgcpdjaaOpenRc
namespace Go.Proofs.Ytapjebhdgcpdjaa
set_option linter.unusedVariables false
set_option linter.unusedSimpArgs false
open Go.ChangeShapes Go.WideShapes Go.ChangeAt Go.RowKit
attribute [-go_sem] run_index_string binOp_string_eql binOp_string_neq run_string_add_if run_slice_string_from_if run_slice_string_to_if
attribute [local go_sem] index_bt add_fits slice_from slice_to eql_str neq_str alloc_drewN setCell_drewN

def Rec.val (x : Rec) : Value := .agg #[.int .u64 x.t, .int .i64 x.k, .int .u32 x.f, .int .u32 x.i, .int .u64 x.n, .int .i64 x.c]
def Rec.cells (x : Rec) : List Value := [.int .u64 x.t, .int .i64 x.k, .int .u32 x.f, .int .u32 x.i, .int .u64 x.n, .int .i64 x.c]
theorem tright_any (x : Rec) (hx : x.ok) (w : World) :
    Calls Try.prog 29 #[x.val] w fun e w' => e = .returned (.bool (decide x.rt)) ∧ Below w.heap.size w w' := by
  obtain ⟨t, k, f, i, n, c⟩ := x
  obtain ⟨⟨t0, t1⟩, ⟨k0, k1⟩, ⟨f0, f1⟩, ⟨i0, i1⟩, ⟨n0, n1⟩, c0, c1⟩ := hx
  simp only at t0 t1 k0 k1 f0 f1 i0 i1 n0 n1 c0 c1
  unfold Rec.val
  simp only
  by_cases e1 : 0 ≤ k
  · by_cases e2 : k ≤ 5
    · by_cases e3 : 0 ≤ c
      · by_cases e4 : c ≤ 31
        · have g32 : decide (c < 32) = true := decide_eq_true (by omega)
          rw [show decide (Rec.mk t k f i n c).rt = true from decide_eq_true ⟨⟨by assumption, by assumption⟩, by assumption, by assumption⟩]
          go_enter Try.func29, Try.ntmps29
          go_wp2
          go_ret
          exact ⟨rfl, (Below.refl _ _).alloc (Nat.le_refl _) _⟩
        · have g32 : decide (c < 32) = false := decide_eq_false (by omega)
          rw [show decide (Rec.mk t k f i n c).rt = false from decide_eq_false (fun h => by have h1 := h.1.1; have h2 := h.1.2; have h3 := h.2.1; have h4 := h.2.2; simp only at h1 h2 h3 h4; omega)]
          go_enter Try.func29, Try.ntmps29
          go_wp2
          go_ret
          exact ⟨rfl, (Below.refl _ _).alloc (Nat.le_refl _) _⟩
      · rw [show decide (Rec.mk t k f i n c).rt = false from decide_eq_false (fun h => by have h1 := h.1.1; have h2 := h.1.2; have h3 := h.2.1; have h4 := h.2.2; simp only at h1 h2 h3 h4; omega)]
        go_enter Try.func29, Try.ntmps29
        go_wp2
        go_ret
        exact ⟨rfl, (Below.refl _ _).alloc (Nat.le_refl _) _⟩
    · rw [show decide (Rec.mk t k f i n c).rt = false from decide_eq_false (fun h => by have h1 := h.1.1; have h2 := h.1.2; have h3 := h.2.1; have h4 := h.2.2; simp only at h1 h2 h3 h4; omega)]
      go_enter Try.func29, Try.ntmps29
      go_wp2
      go_ret
      exact ⟨rfl, (Below.refl _ _).alloc (Nat.le_refl _) _⟩
  · rw [show decide (Rec.mk t k f i n c).rt = false from decide_eq_false (fun h => by have h1 := h.1.1; have h2 := h.1.2; have h3 := h.2.1; have h4 := h.2.2; simp only at h1 h2 h3 h4; omega)]
    go_enter Try.func29, Try.ntmps29
    go_wp2
    go_ret
    exact ⟨rfl, (Below.refl _ _).alloc (Nat.le_refl _) _⟩
theorem rright39_any (x : Rec) (hx : x.ok) (w : World) :
    Calls Try.prog 30 #[x.val] w fun e w' => e = .returned (.bool (decide x.rt)) ∧ Below w.heap.size w w' := by
  obtain ⟨t, k, f, i, n, c⟩ := x
  obtain ⟨⟨t0, t1⟩, ⟨k0, k1⟩, ⟨f0, f1⟩, ⟨i0, i1⟩, ⟨n0, n1⟩, c0, c1⟩ := hx
  simp only at t0 t1 k0 k1 f0 f1 i0 i1 n0 n1 c0 c1
  unfold Rec.val
  simp only
  by_cases e1 : 0 ≤ k
  · by_cases e2 : k ≤ 5
    · by_cases e3 : 0 ≤ c
      · by_cases e4 : c ≤ 31
        · have g32 : decide (c < 32) = true := decide_eq_true (by omega)
          rw [show decide (Rec.mk t k f i n c).rt = true from decide_eq_true ⟨⟨by assumption, by assumption⟩, by assumption, by assumption⟩]
          go_enter Try.func30, Try.ntmps30
          go_wp2
          go_ret
          exact ⟨rfl, (Below.refl _ _).alloc (Nat.le_refl _) _⟩
        · have g32 : decide (c < 32) = false := decide_eq_false (by omega)
          rw [show decide (Rec.mk t k f i n c).rt = false from decide_eq_false (fun h => by have h1 := h.1.1; have h2 := h.1.2; have h3 := h.2.1; have h4 := h.2.2; simp only at h1 h2 h3 h4; omega)]
          go_enter Try.func30, Try.ntmps30
          go_wp2
          go_ret
          exact ⟨rfl, (Below.refl _ _).alloc (Nat.le_refl _) _⟩
      · rw [show decide (Rec.mk t k f i n c).rt = false from decide_eq_false (fun h => by have h1 := h.1.1; have h2 := h.1.2; have h3 := h.2.1; have h4 := h.2.2; simp only at h1 h2 h3 h4; omega)]
        go_enter Try.func30, Try.ntmps30
        go_wp2
        go_ret
        exact ⟨rfl, (Below.refl _ _).alloc (Nat.le_refl _) _⟩
    · rw [show decide (Rec.mk t k f i n c).rt = false from decide_eq_false (fun h => by have h1 := h.1.1; have h2 := h.1.2; have h3 := h.2.1; have h4 := h.2.2; simp only at h1 h2 h3 h4; omega)]
      go_enter Try.func30, Try.ntmps30
      go_wp2
      go_ret
      exact ⟨rfl, (Below.refl _ _).alloc (Nat.le_refl _) _⟩
  · rw [show decide (Rec.mk t k f i n c).rt = false from decide_eq_false (fun h => by have h1 := h.1.1; have h2 := h.1.2; have h3 := h.2.1; have h4 := h.2.2; simp only at h1 h2 h3 h4; omega)]
    go_enter Try.func30, Try.ntmps30
    go_wp2
    go_ret
    exact ⟨rfl, (Below.refl _ _).alloc (Nat.le_refl _) _⟩
end Go.Proofs.Ytapjebhdgcpdjaa
