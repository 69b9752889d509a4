/-
  How many bytes a field has, by package wire, for any field; what lay below the heap's end stands.
-/
import Derived.Test.YtmdaoicnbenfnaaWire1
import Derived.Deep.QuietTactic
namespace Go.Proofs.Ytmdaoicnbenfnaa
set_option linter.unusedVariables false
set_option linter.unusedSimpArgs false
open Go.ChangeShapes Go.WideShapes Go.ChangeAt Go.RowKit
attribute [-go_sem] run_index_string binOp_string_eql binOp_string_neq run_string_add_if run_slice_string_from_if run_slice_string_to_if
attribute [local go_sem] index_bt add_fits slice_from slice_to eql_str neq_str alloc_drewN setCell_drewN

/-- The cells of a field that was laid, in all worlds behind. -/
theorem field_cells (w : World) (k n : Int) (s : ByteArray) (t : TypeId) (v : World) (hv : Below (w.alloc (.cells #[.int .i64 k, .int .u64 n, .string s] t)).heap.size (w.alloc (.cells #[.int .i64 k, .int .u64 n, .string s] t)) v) :
    v.cell? ⟨w.heap.size, 0, none⟩ = some (.int .i64 k) ∧ v.cell? ⟨w.heap.size, 1, none⟩ = some (.int .u64 n) ∧ v.cell? ⟨w.heap.size, 2, none⟩ = some (.string s) := by
  refine ⟨(hv.cell (p := ⟨w.heap.size, 0, none⟩) (by simp)).trans ?_, (hv.cell (p := ⟨w.heap.size, 1, none⟩) (by simp)).trans ?_, (hv.cell (p := ⟨w.heap.size, 2, none⟩) (by simp)).trans ?_⟩ <;> simp [go_sem]

theorem size_any (k n : Int) (s : ByteArray) (k0 : -9223372036854775808 ≤ k) (k1 : k ≤ 9223372036854775807) (n0 : 0 ≤ n) (n1 : n ≤ 18446744073709551615) (s1 : s.size ≤ maxLen) (w : World) :
    Calls Try.prog 16 #[.agg #[.int .i64 k, .int .u64 n, .string s]] w fun e w' => e = .returned (.int .i64 (en ⟨k, n, s⟩).size) ∧ Below w.heap.size w w' := by
  have CH := Lib.hid (fun w => check_any k n s k0 k1 n0 n1 s1 w)
  by_cases he : er ⟨k, n, s⟩ = 0
  · have e0 : en ⟨k, n, s⟩ = enc ⟨k, n, s⟩ := by unfold en; rw [if_pos he]
    obtain ⟨r1, r6, rs, rn, rt, rb⟩ := er_range _ he
    have es := enc_size _ r1 r6
    rw [he] at CH
    rw [e0, es]
    have r1 : 1 ≤ k := r1
    have r6 : k ≤ 6 := r6
    have rs : s.size ≤ 65535 := rs
    clear e0 es rb he s1 rn rt
    show Calls _ _ _ _ fun e w' => e = .returned (.int .i64 ((if k = 6 then (fw s.size).size + s.size else if k = 5 then (fw n).size else wk k : Nat) : Int)) ∧ Below w.heap.size w w'
    by_cases h6 : k = 6
    · subst h6
      have hz := fw_size (s.size : Int)
      have HV := Lib.hid (fun w => varSize_any (s.size : Int) (by omega) (by omega) w)
      rw [if_pos rfl]
      generalize (fw (s.size : Int)).size = z at *
      go_enter Try.func16, Try.ntmps16
      go_wp2_with fail
      refine (CH.out _).mono ?_
      rintro e w1 ⟨rfl, h1⟩
      obtain ⟨c0, c1, c2⟩ := field_cells _ _ _ _ _ _ h1
      have gs : ((s.size : Int) == 0) = ((s.size : Int) == 0) := rfl
      have gw : IntKind.u64.wrap (s.size : Int) = (s.size : Int) := by rw [IntKind.wrap_u64]; omega
      go_wp2
      go_quiet ((go_at_call 39; exact Calls.quiet_of_same (turn (HV.out _))))
      go_wp2
      go_ret
      exact ⟨by simp, below_drewN _ (Below.go ((Below.refl _ _).alloc (Nat.le_refl _) _) h1)⟩
    · rw [if_neg h6]
      have g6 : (k == 6) = false := by simp [h6]
      by_cases h5 : k = 5
      · subst h5
        rw [if_pos rfl]
        have HV := Lib.hid (fun w => varSize_any n n0 n1 w)
        generalize (fw n).size = z at *
        go_enter Try.func16, Try.ntmps16
        go_wp2_with fail
        refine (CH.out _).mono ?_
        rintro e w1 ⟨rfl, h1⟩
        obtain ⟨c0, c1, c2⟩ := field_cells _ _ _ _ _ _ h1
        go_wp2_with fail
        refine (HV.out _).mono ?_
        rintro e w' ⟨rfl, rfl⟩
        go_wp2
        go_ret
        exact ⟨rfl, Below.go ((Below.refl _ _).alloc (Nat.le_refl _) _) h1⟩
      · rw [if_neg h5]
        have g5 : (k == 5) = false := by simp [h5]
        have HW := Lib.hid (fun w => width_any k (by omega) (by omega) w)
        generalize wk k = z at *
        go_enter Try.func16, Try.ntmps16
        go_wp2_with fail
        refine (CH.out _).mono ?_
        rintro e w1 ⟨rfl, h1⟩
        obtain ⟨c0, c1, c2⟩ := field_cells _ _ _ _ _ _ h1
        go_wp2_with fail
        refine (HW.out _).mono ?_
        rintro e w' ⟨rfl, rfl⟩
        go_wp2
        go_ret
        exact ⟨rfl, Below.go ((Below.refl _ _).alloc (Nat.le_refl _) _) h1⟩
  · have e0 : (en ⟨k, n, s⟩).size = 0 := by unfold en; rw [if_neg he]; rfl
    have g : (er ⟨k, n, s⟩ != 0) = true := by simp [he]
    rw [e0]
    clear e0 he
    generalize er ⟨k, n, s⟩ = x at *
    go_enter Try.func16, Try.ntmps16
    go_wp2_with fail
    refine (CH.out _).mono ?_
    rintro e w1 ⟨rfl, h1⟩
    go_wp2
    go_ret
    exact ⟨rfl, Below.go ((Below.refl _ _).alloc (Nat.le_refl _) _) h1⟩
end Go.Proofs.Ytmdaoicnbenfnaa
