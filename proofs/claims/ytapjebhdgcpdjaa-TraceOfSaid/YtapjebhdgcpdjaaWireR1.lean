/-
  The document's answer for layer 4: how many bytes a kind has, a number's bytes, a field's bytes. What lay below the heap's end stands. No condition but that numbers are words.
-/
import Derived.Test.YtapjebhdgcpdjaaWire2c
import Derived.Deep.RegionWith
namespace Go.Proofs.Ytapjebhdgcpdjaa
set_option linter.unusedVariables false
set_option linter.unusedSimpArgs false
open Go.ChangeShapes Go.WideShapes Go.ChangeAt Go.RowKit
attribute [-go_sem] run_index_string binOp_string_eql binOp_string_neq run_string_add_if run_slice_string_from_if run_slice_string_to_if
attribute [local go_sem] index_bt add_fits slice_from slice_to eql_str neq_str alloc_drewN setCell_drewN conv_one conv_one_drew

theorem refbytes_any (k : Int) (k0 : -9223372036854775808 ≤ k) (k1 : k ≤ 9223372036854775807) (w : World) :
    Calls Try.prog 123 #[.int .i64 k] w fun e w' => e = .returned (.int .i64 (wk k)) ∧ Below w.heap.size w w' := by
  by_cases h : 1 ≤ k ∧ k ≤ 4
  · have hk : k = 1 ∨ k = 2 ∨ k = 3 ∨ k = 4 := by omega
    rcases hk with rfl | rfl | rfl | rfl
    · show Calls _ _ _ _ fun e w' => e = .returned (.int .i64 1) ∧ _
      go_enter Try.func123, Try.ntmps123
      go_wp2
      go_ret
      exact ⟨rfl, (Below.refl _ _).alloc (Nat.le_refl _) _⟩
    · show Calls _ _ _ _ fun e w' => e = .returned (.int .i64 2) ∧ _
      go_enter Try.func123, Try.ntmps123
      go_wp2
      go_ret
      exact ⟨rfl, (Below.refl _ _).alloc (Nat.le_refl _) _⟩
    · show Calls _ _ _ _ fun e w' => e = .returned (.int .i64 4) ∧ _
      go_enter Try.func123, Try.ntmps123
      go_wp2
      go_ret
      exact ⟨rfl, (Below.refl _ _).alloc (Nat.le_refl _) _⟩
    · show Calls _ _ _ _ fun e w' => e = .returned (.int .i64 8) ∧ _
      go_enter Try.func123, Try.ntmps123
      go_wp2
      go_ret
      exact ⟨rfl, (Below.refl _ _).alloc (Nat.le_refl _) _⟩
  · have e : wk k = 0 := by
      unfold wk
      rw [if_neg (by omega), if_neg (by omega), if_neg (by omega), if_neg (by omega)]
    rw [e]
    clear e
    by_cases h1 : k < 1
    · go_enter Try.func123, Try.ntmps123
      go_wp2
      go_ret
      exact ⟨rfl, (Below.refl _ _).alloc (Nat.le_refl _) _⟩
    · have h2 : 4 < k := by omega
      clear h h1
      go_enter Try.func123, Try.ntmps123
      go_wp2
      go_ret
      exact ⟨rfl, (Below.refl _ _).alloc (Nat.le_refl _) _⟩
theorem conv_kept (w : World) (x : Int) (x0 : 0 ≤ x) (x1 : x ≤ 255) (v : World) (hv : Below (w.alloc (.cells #[.int .u8 x] 5)).heap.size (w.alloc (.cells #[.int .u8 x] 5)) v) :
    (convert 114 9 (.slice (some ⟨w.heap.size, 0, none⟩) 1 1)).run Try.prog v = .ok (.string (chrs [x])) v := by
  refine conv_cells v 114 9 5 ⟨w.heap.size, 0, none⟩ 1 [x] Try.underlying114 Try.underlying5 Try.underlying9 (by simp; omega) ?_
  intro j hj
  have : j = 0 := by simp at hj; omega
  subst this
  exact (hv.cell (p := ⟨w.heap.size, 0, none⟩) (by simp)).trans (one_cell w (.int .u8 x) 5)

theorem high_step (m : Nat) (n q : Int) (hm : m < 8) (hq : q = (m : Int) + 1) (n0 : 0 ≤ n) (n1 : n ≤ 18446744073709551615) (t : ByteArray) (ht : t.size = m)
    (ih : ∀ w : World, Calls Try.prog 125 #[.int .u64 (n / 256), .int .i64 m] w fun e w' => e = .returned (.string t) ∧ Below w.heap.size w w') (w : World) :
    Calls Try.prog 125 #[.int .u64 n, .int .i64 q] w fun e w' => e = .returned (.string (t ++ chrs [n % 256])) ∧ Below w.heap.size w w' := by
  have IH := Lib.hid ih; clear ih
  have hf : Fits t (chrs [n % 256]) := ⟨by rw [ht, chrs_size]; simp; omega⟩
  have x0 : 0 ≤ n % 256 := by omega
  have x1 : n % 256 ≤ 255 := by omega
  have CV : Hid (∀ v, Below (w.alloc (.cells #[.int .u8 (n % 256)] 5)).drew.heap.size (w.alloc (.cells #[.int .u8 (n % 256)] 5)).drew v →
        (convert 114 9 (.slice (some ⟨w.heap.size, 0, none⟩) 1 1)).run Try.prog v = .ok (.string (chrs [n % 256])) v) := Lib.hid fun v hv => conv_kept w _ x0 x1 v (Below.go (Below.refl _ _).drew hv)
  have i2 : IntKind.i64.wrap (q - 1) = (m : Int) := by rw [IntKind.wrap_i64]; omega
  have i3 : (q == 0) = false := by rw [beq_eq_false_iff_ne]; omega
  have i4 : IntKind.u8.wrap (n % 256) = n % 256 := by rw [IntKind.wrap_u8]; omega
  have d1 : IntKind.u64.wrap (n.tdiv 256) = n / 256 := by rw [IntKind.wrap_u64, Int.tdiv_eq_ediv_of_nonneg n0]; omega
  have d2 : IntKind.u8.wrap (n.tmod 256) = n % 256 := by rw [IntKind.wrap_u8, Int.tmod_eq_emod_of_nonneg n0]; omega
  clear hq hm i4
  go_enter Try.func125, Try.ntmps125
  go_wp2
  go_region_with ((go_at_call 125; refine (IH.out _).mono ?_; rintro e w2 ⟨rfl, h1⟩; (try have cv := by with_reducible exact CV.out _ h1)))
  all_goals (go_wp2; go_ret; exact ⟨rfl, by first
    | exact (Below.go (Below.refl _ _).drew h1).alloc (by have := h1.size; simp at this; omega) _
    | exact Below.go ((Below.refl _ _).alloc (Nat.le_refl _) _).drew h1⟩)
theorem high_any : ∀ (m : Nat) (n : Int), m ≤ 8 → 0 ≤ n → n ≤ 18446744073709551615 → ∀ w : World,
    Calls Try.prog 125 #[.int .u64 n, .int .i64 m] w fun e w' => e = .returned (.string (hib n m)) ∧ Below w.heap.size w w'
  | 0, n, _, n0, n1, w => by
    show Calls _ _ _ _ fun e w' => e = .returned (.string ⟨#[]⟩) ∧ _
    go_enter Try.func125, Try.ntmps125
    go_wp2
    go_ret
    exact ⟨rfl, Below.refl _ _⟩
  | m + 1, n, hm, n0, n1, w => high_step m n ((m + 1 : Nat) : Int) (by omega) (by omega) n0 n1 (hib (n / 256) m) (hib_size _ _) (high_any m (n / 256) (by omega) (by omega) (by omega)) w
theorem few_step (n : Int) (n0 : 128 ≤ n) (n1 : n ≤ 18446744073709551615) (t : ByteArray) (ht : t.size ≤ 100)
    (ih : ∀ w : World, Calls Try.prog 124 #[.int .u64 (n / 128)] w fun e w' => e = .returned (.string t) ∧ Below w.heap.size w w') (w : World) :
    Calls Try.prog 124 #[.int .u64 n] w fun e w' => e = .returned (.string (chrs [128 + n % 128] ++ t)) ∧ Below w.heap.size w w' := by
  have IH := Lib.hid ih; clear ih
  have hf : Fits (chrs [128 + n % 128]) t := ⟨by rw [chrs_size]; simp; omega⟩
  have x0 : 0 ≤ 128 + n % 128 := by omega
  have x1 : 128 + n % 128 ≤ 255 := by omega
  have d1 : IntKind.u64.wrap (n.tdiv 128) = n / 128 := by rw [IntKind.wrap_u64, Int.tdiv_eq_ediv_of_nonneg (by omega)]; omega
  have d2 : IntKind.u64.wrap (128 + n.tmod 128) = 128 + n % 128 := by rw [IntKind.wrap_u64, Int.tmod_eq_emod_of_nonneg (by omega)]; omega
  have d3 : IntKind.u8.wrap (128 + n % 128) = 128 + n % 128 := by rw [IntKind.wrap_u8]; omega
  generalize 128 + n % 128 = x at *
  have CV : Hid (∀ v, Below (w.alloc (.cells #[.int .u8 x] 5)).drew.heap.size (w.alloc (.cells #[.int .u8 x] 5)).drew v →
        (convert 114 9 (.slice (some ⟨w.heap.size, 0, none⟩) 1 1)).run Try.prog v = .ok (.string (chrs [x])) v) := Lib.hid fun v hv => conv_kept w _ x0 x1 v (Below.go (Below.refl _ _).drew hv)
  go_enter Try.func124, Try.ntmps124
  go_wp2
  go_region_with ((go_at_call 124; refine (IH.out _).mono ?_; rintro e w2 ⟨rfl, h1⟩; (try have cv := by with_reducible exact CV.out _ h1)))
  all_goals (go_wp2; go_ret; exact ⟨rfl, by first
    | exact (Below.go (Below.refl _ _).drew h1).alloc (by have := h1.size; simp at this; omega) _
    | exact Below.go ((Below.refl _ _).alloc (Nat.le_refl _) _).drew h1⟩)
theorem few_any : ∀ (m : Nat) (n : Int), 0 ≤ n → n ≤ 18446744073709551615 → n < 128 ^ (m + 1) → m ≤ 90 → ∀ w : World,
    Calls Try.prog 124 #[.int .u64 n] w fun e w' => e = .returned (.string (fewN m n)) ∧ Below w.heap.size w w' := by
  intro m
  induction m with
  | zero =>
    intro n n0 n1 h hm w
    have h : n < 128 := by omega
    have x1 : n ≤ 255 := by omega
    show Calls _ _ _ _ fun e w' => e = .returned (.string (chrs [n])) ∧ _
    go_enter Try.func124, Try.ntmps124
    go_wp2
    go_ret
    exact ⟨rfl, (Below.refl _ _).alloc (Nat.le_refl _) _⟩
  | succ m ih =>
    intro n n0 n1 h hm w
    unfold fewN
    by_cases hl : n < 128
    · rw [if_pos hl]
      clear ih h
      have x1 : n ≤ 255 := by omega
      go_enter Try.func124, Try.ntmps124
      go_wp2
      go_ret
      exact ⟨rfl, (Below.refl _ _).alloc (Nat.le_refl _) _⟩
    · rw [if_neg hl]
      have hp := fewN_pos m (n / 128)
      refine few_step n (by omega) n1 _ (by omega) (ih (n / 128) (by omega) (by omega) ?_ (by omega)) w
      rw [Int.pow_succ] at h
      exact Int.ediv_lt_of_lt_mul (by decide) h
theorem fw_any (n : Int) (n0 : 0 ≤ n) (n1 : n ≤ 18446744073709551615) (w : World) :
    Calls Try.prog 124 #[.int .u64 n] w fun e w' => e = .returned (.string (fw n)) ∧ Below w.heap.size w w' :=
  few_any 9 n n0 n1 (by omega) (by omega) w
end Go.Proofs.Ytapjebhdgcpdjaa
