/-
  What the calls of package wire that make no rows return, for any fields and strings: whether a field is right, how many bytes it has, what a string begins with. What lay below the heap's end stands.
-/
import Derived.Test.YtapjebhdgcpdjaaWireMath
import Derived.Test.YtapjebhdgcpdjaaShelf
import Derived.Test.YtapjebhdgcpdjaaSum3
import Derived.Deep.QuietTactic
namespace Go.Proofs.Ytapjebhdgcpdjaa
set_option linter.unusedVariables false
set_option linter.unusedSimpArgs false
open Go.ChangeShapes Go.WideShapes Go.ChangeAt Go.RowKit
attribute [-go_sem] run_index_string binOp_string_eql binOp_string_neq run_string_add_if run_slice_string_from_if run_slice_string_to_if
attribute [local go_sem] index_bt add_fits slice_from slice_to eql_str neq_str alloc_drewN setCell_drewN

/-- A field as a value. -/
def Fd.val (f : Fd) : Value := .agg #[.int .i64 f.k, .int .u64 f.n, .string f.s]

theorem turn {P : Program} {f : FuncId} {args : Array Value} {w : World} {x : Ending} (h : Calls P f args w fun e w' => e = x ∧ w = w') : Calls P f args w fun e w' => e = x ∧ w' = w := h.mono fun _ _ ⟨a, b⟩ => ⟨a, b.symm⟩

theorem len64_any (n : Int) (h0 : 0 ≤ n) (h1 : n ≤ 18446744073709551615) (w : World) :
    Calls Try.prog 119 #[.int .u64 n] w fun e w' => e = .returned (.int .i64 (Lib.bitLen n.toNat)) ∧ w = w' := by
  refine (Try.bits_Len64 n w h0 h1).mono ?_
  rintro e w' ⟨rfl, rfl⟩
  exact ⟨rfl, rfl⟩
theorem width_any (k : Int) (h0 : 1 ≤ k) (h1 : k ≤ 4) (w : World) :
    Calls Try.prog 120 #[.int .i64 k] w fun e w' => e = .returned (.int .i64 (wk k)) ∧ w = w' := by
  have h : k = 1 ∨ k = 2 ∨ k = 3 ∨ k = 4 := by omega
  rcases h with rfl | rfl | rfl | rfl
  · show Calls _ _ _ _ fun e w' => e = .returned (.int .i64 1) ∧ w = w'
    go_enter Try.func120, Try.ntmps120
    go_wp2
    go_ret
    exact ⟨rfl, rfl⟩
  · show Calls _ _ _ _ fun e w' => e = .returned (.int .i64 2) ∧ w = w'
    go_enter Try.func120, Try.ntmps120
    go_wp2
    go_ret
    exact ⟨rfl, rfl⟩
  · show Calls _ _ _ _ fun e w' => e = .returned (.int .i64 4) ∧ w = w'
    go_enter Try.func120, Try.ntmps120
    go_wp2
    go_ret
    exact ⟨rfl, rfl⟩
  · show Calls _ _ _ _ fun e w' => e = .returned (.int .i64 8) ∧ w = w'
    go_enter Try.func120, Try.ntmps120
    go_wp2
    go_ret
    exact ⟨rfl, rfl⟩
theorem check_any (k n : Int) (s : ByteArray) (k0 : -9223372036854775808 ≤ k) (k1 : k ≤ 9223372036854775807) (n0 : 0 ≤ n) (n1 : n ≤ 18446744073709551615) (s1 : s.size ≤ maxLen) (w : World) :
    Calls Try.prog 105 #[.agg #[.int .i64 k, .int .u64 n, .string s]] w fun e w' => e = .returned (.int .i64 (er ⟨k, n, s⟩)) ∧ Below w.heap.size w w' := by
  unfold maxLen at s1
  by_cases hk : k < 1 ∨ 6 < k
  · have e : er ⟨k, n, s⟩ = 6 := by unfold er; rw [if_pos hk]
    rw [e]
    rcases hk with hk | hk
    · go_enter Try.func105, Try.ntmps105
      go_wp2
      go_ret
      exact ⟨rfl, (Below.refl _ _).alloc (Nat.le_refl _) _⟩
    · go_enter Try.func105, Try.ntmps105
      go_wp2
      go_ret
      exact ⟨rfl, (Below.refl _ _).alloc (Nat.le_refl _) _⟩
  · have hk1 : 1 ≤ k := by omega
    have hk6 : k ≤ 6 := by omega
    by_cases h6 : k = 6
    · subst h6
      by_cases hn : n = 0
      · subst hn
        by_cases hl : 65535 < s.size
        · have e : er ⟨6, 0, s⟩ = 4 := by
            unfold er
            rw [if_neg (by simp), if_neg (by simp), if_neg (by simp), if_pos hl]
          rw [e]
          clear e
          go_enter Try.func105, Try.ntmps105
          go_wp2
          go_quiet (first
            | (go_at_call 119; exact Calls.quiet_of_same (turn (len64_any n n0 n1 _))))
          go_wp2
          go_ret
          exact ⟨rfl, below_drewN _ ((Below.refl _ _).alloc (Nat.le_refl _) _)⟩
        · have e : er ⟨6, 0, s⟩ = 0 := by
            unfold er
            rw [if_neg (by simp), if_neg (by simp), if_neg (by simp), if_neg hl]
          rw [e]
          clear e
          go_enter Try.func105, Try.ntmps105
          go_wp2
          go_quiet (first
            | (go_at_call 119; exact Calls.quiet_of_same (turn (len64_any n n0 n1 _))))
          go_wp2
          go_ret
          exact ⟨rfl, below_drewN _ ((Below.refl _ _).alloc (Nat.le_refl _) _)⟩
      · have e : er ⟨6, n, s⟩ = 6 := by
          unfold er
          rw [if_neg (by simp), if_pos (Or.inl ⟨rfl, hn⟩)]
        rw [e]
        have g : (n != 0) = true := by simp [hn]
        clear e hn
        go_enter Try.func105, Try.ntmps105
        go_wp2
        go_ret
        exact ⟨rfl, (Below.refl _ _).alloc (Nat.le_refl _) _⟩
    · have g6 : (k == 6) = false := by simp [h6]
      have g6' : (k != 6) = true := by simp [h6]
      by_cases hs : s = ⟨#[]⟩
      · subst hs
        by_cases hk4 : k ≤ 4
        · have hw : wk k ≤ 8 := by unfold wk; (repeat' split) <;> omega
          have hb := bits_bytes n (wk k) hw n0 n1
          have gw : IntKind.i64.wrap (8 * (wk k : Int)) = 8 * (wk k : Int) := by rw [IntKind.wrap_i64]; omega
          have g4 : decide (k ≤ 4) = true := decide_eq_true hk4
          by_cases hbig : 256 ^ wk k ≤ n
          · have e : er ⟨k, n, ⟨#[]⟩⟩ = 5 := by
              unfold er
              rw [if_neg hk, if_neg (by simp [h6]), if_pos ⟨hk4, hbig⟩]
            rw [e]
            replace hb : decide (8 * (wk k : Int) < (Lib.bitLen n.toNat : Int)) = true := decide_eq_true (hb.2 hbig)
            clear e hbig hk
            go_enter Try.func105, Try.ntmps105
            go_wp2
            go_quiet (first
              | (go_at_call 119; exact Calls.quiet_of_same (turn (len64_any n n0 n1 _)))
              | (go_at_call 120; exact Calls.quiet_of_same (turn (width_any k hk1 hk4 _))))
            go_wp2
            go_ret
            exact ⟨rfl, below_drewN _ ((Below.refl _ _).alloc (Nat.le_refl _) _)⟩
          · have e : er ⟨k, n, ⟨#[]⟩⟩ = 0 := by
              unfold er
              rw [if_neg hk, if_neg (by simp [h6]), if_neg (fun h => hbig h.2), if_neg (by show ¬ 65535 < 0; omega)]
            rw [e]
            replace hb : decide (8 * (wk k : Int) < (Lib.bitLen n.toNat : Int)) = false := decide_eq_false fun h => hbig (hb.1 h)
            clear e hbig hk
            go_enter Try.func105, Try.ntmps105
            go_wp2
            go_quiet (first
              | (go_at_call 119; exact Calls.quiet_of_same (turn (len64_any n n0 n1 _)))
              | (go_at_call 120; exact Calls.quiet_of_same (turn (width_any k hk1 hk4 _))))
            go_wp2
            go_ret
            exact ⟨rfl, below_drewN _ ((Below.refl _ _).alloc (Nat.le_refl _) _)⟩
        · have g4 : decide (k ≤ 4) = false := decide_eq_false hk4
          have e : er ⟨k, n, ⟨#[]⟩⟩ = 0 := by
            unfold er
            rw [if_neg hk, if_neg (by simp [h6]), if_neg (fun h => hk4 h.1), if_neg (by show ¬ 65535 < 0; omega)]
          rw [e]
          clear e hk
          go_enter Try.func105, Try.ntmps105
          go_wp2
          go_quiet (first
            | (go_at_call 119; exact Calls.quiet_of_same (turn (len64_any n n0 n1 _))))
          go_wp2
          go_ret
          exact ⟨rfl, below_drewN _ ((Below.refl _ _).alloc (Nat.le_refl _) _)⟩
      · have e : er ⟨k, n, s⟩ = 6 := by
          unfold er
          rw [if_neg hk, if_pos (Or.inr ⟨h6, hs⟩)]
        rw [e]
        have hd : decide (s = ⟨#[]⟩) = false := decide_eq_false hs
        clear e hk hs
        go_enter Try.func105, Try.ntmps105
        go_wp2
        go_ret
        exact ⟨rfl, (Below.refl _ _).alloc (Nat.le_refl _) _⟩
/-- How many bytes a field has. -/
theorem enc_size (f : Fd) (hk : 1 ≤ f.k) (hk6 : f.k ≤ 6) : (enc f).size = if f.k = 6 then (fw f.s.size).size + f.s.size else if f.k = 5 then (fw f.n).size else wk f.k := by
  unfold enc
  split
  · rw [ByteArray.size_append]
  · split
    · rfl
    · exact hib_size _ _

theorem er_range (f : Fd) (h : er f = 0) : 1 ≤ f.k ∧ f.k ≤ 6 ∧ f.s.size ≤ 65535 ∧ (f.k = 6 → f.n = 0) ∧ (f.k ≠ 6 → f.s = ⟨#[]⟩) ∧ (f.k ≤ 4 → f.n < 256 ^ wk f.k) := by
  unfold er at h
  split at h
  · simp at h
  · rename_i h1
    split at h
    · simp at h
    · rename_i h2
      split at h
      · simp at h
      · rename_i h3
        split at h
        · simp at h
        · rename_i h4
          refine ⟨by omega, by omega, by omega, fun h6 => Classical.byContradiction fun hn => h2 (Or.inl ⟨h6, hn⟩), fun h6 => Classical.byContradiction fun hn => h2 (Or.inr ⟨h6, hn⟩), fun h5 => ?_⟩
          apply Classical.byContradiction
          intro hn
          exact h3 ⟨h5, by omega⟩

theorem er_cases (f : Fd) : er f = 0 ∨ er f = 4 ∨ er f = 5 ∨ er f = 6 := by
  unfold er
  split
  · simp
  · split
    · simp
    · split
      · simp
      · split <;> simp

end Go.Proofs.Ytapjebhdgcpdjaa
