/-
  A field's bytes, and what is wrong with a field, by the document's answer for layer 4. What lay below the heap's end stands.
-/
import Derived.Test.YtapjebhdgcpdjaaWireR1
import Derived.Deep.RegionWith
namespace Go.Proofs.Ytapjebhdgcpdjaa
set_option linter.unusedVariables false
set_option linter.unusedSimpArgs false
open Go.ChangeShapes Go.WideShapes Go.ChangeAt Go.RowKit
attribute [-go_sem] run_index_string binOp_string_eql binOp_string_neq run_string_add_if run_slice_string_from_if run_slice_string_to_if
attribute [local go_sem] index_bt add_fits slice_from slice_to eql_str neq_str alloc_drewN setCell_drewN

theorem div_step (n : Int) (j : Nat) : n / 256 ^ j / 256 = n / 256 ^ (j + 1) := by
  rw [Int.pow_succ, Int.ediv_ediv_of_nonneg (Int.le_of_lt (Int.pow_pos (by decide)))]
theorem div_bd (n : Int) (j : Nat) (n0 : 0 ≤ n) (n1 : n ≤ 18446744073709551615) : 0 ≤ n / 256 ^ j ∧ n / 256 ^ j ≤ 18446744073709551615 := by
  have hp : (0 : Int) < 256 ^ j := Int.pow_pos (by decide)
  exact ⟨Int.ediv_nonneg n0 (Int.le_of_lt hp), Int.le_trans (Int.ediv_le_self _ n0) n1⟩
theorem div_zero_iff (n : Int) (j : Nat) (n0 : 0 ≤ n) : (256 ^ j ≤ n → 0 < n / 256 ^ j) ∧ (¬ 256 ^ j ≤ n → n / 256 ^ j = 0) := by
  have hp : (0 : Int) < 256 ^ j := Int.pow_pos (by decide)
  refine ⟨fun h => ?_, fun h => Int.ediv_eq_zero_of_lt n0 (by omega)⟩
  have := Int.le_ediv_of_mul_le (a := 1) (b := n) hp (by omega)
  omega

set_option maxRecDepth 100000 in
set_option maxHeartbeats 1000000 in
theorem one_any (k n : Int) (s : ByteArray) (k0 : -9223372036854775808 ≤ k) (k1 : k ≤ 9223372036854775807) (n0 : 0 ≤ n) (n1 : n ≤ 18446744073709551615) (s1 : s.size ≤ 9223372036854775807) (w : World) :
    Calls Try.prog 108 #[.agg #[.int .i64 k, .int .u64 n, .string s]] w fun e w' => e = .returned (.tuple #[.string (en ⟨k, n, s⟩), .int .i64 (er ⟨k, n, s⟩)]) ∧ Below w.heap.size w w' := by
  have RB := Lib.hid (fun w => refbytes_any k k0 k1 w)
  by_cases hk : k < 1 ∨ 6 < k
  · have e : er ⟨k, n, s⟩ = 6 := by unfold er; rw [if_pos hk]
    have e2 : en ⟨k, n, s⟩ = ⟨#[]⟩ := by unfold en; rw [if_neg (by rw [e]; decide)]
    rw [e, e2]
    clear e e2
    rcases hk with hk | hk
    · go_enter Try.func108, Try.ntmps108
      go_wp2
      go_ret2
      exact ⟨rfl, (Below.refl _ _).alloc (Nat.le_refl _) _⟩
    · go_enter Try.func108, Try.ntmps108
      go_wp2
      go_ret2
      exact ⟨rfl, (Below.refl _ _).alloc (Nat.le_refl _) _⟩
  · have hk1 : 1 ≤ k := by omega
    have hk6 : k ≤ 6 := by omega
    by_cases h6 : k = 6
    · subst h6
      by_cases hn : n = 0
      · have gn : (n != 0) = false := by simp [hn]
        have QF : Hid (True) := Lib.hid trivial
        have QF2 : Hid (True) := Lib.hid trivial
        obtain ⟨z, hz⟩ : ∃ z, wk 6 = z := ⟨_, rfl⟩
        have HZ0 : Hid (z = 0) := Lib.hid (by rw [← hz]; rfl)
        have hz8 : z ≤ 8 := by have := HZ0.out; omega
        rw [hz] at RB
        by_cases hl : 65535 < s.size
        · have e : er ⟨6, n, s⟩ = 4 := by
            unfold er
            rw [if_neg (by simp), if_neg (by simp [hn]), if_neg (by simp), if_pos hl]
          have e2 : en ⟨6, n, s⟩ = ⟨#[]⟩ := by unfold en; rw [if_neg (by rw [e]; decide)]
          rw [e, e2]
          clear e e2 hz hn
          go_enter Try.func108, Try.ntmps108
          go_wp2_with fail
          refine (RB.out _).mono ?_
          rintro e w1 ⟨rfl, h1⟩
          obtain ⟨c0, c1, c2⟩ := field_cells _ _ _ _ _ _ h1
          have hb1 := Below.go ((Below.refl w.heap.size w).alloc (Nat.le_refl _) _) h1
          clear h1
          go_wp2
          go_loop [5, 6] (fun v i => ∃ j : Nat, j ≤ z ∧ i = .int .i64 j ∧ v = .int .u64 (n / 256 ^ j)) (fun _ i => z - (intOf i).toNat)
          case atStart => exact ⟨0, by omega, rfl, by rw [Int.pow_zero, Int.ediv_one]⟩
          case round =>
            obtain ⟨j, hj, rfl, rfl⟩ := hrel
            by_cases hlt : j < z
            · have e1 := Lib.hid (div_step n j)
              obtain ⟨q0, q1⟩ := div_bd n j n0 n1
              generalize n / 256 ^ j = q at *
              go_wp2
              go_round
              case rel => exact ⟨j + 1, by omega, by go_num, by rw [e1.out]⟩
              case measure => simp [intOf] <;> omega
            · have e : j = z := by omega
              subst e
              obtain ⟨q0, q1⟩ := div_bd n j n0 n1
              have QF := QF.out
              have QF2 := QF2.out
              have hz0 := HZ0.out
              generalize n / 256 ^ j = q at *
              go_wp2
              go_ret2
              exact ⟨rfl, hb1⟩
        · have e : er ⟨6, n, s⟩ = 0 := by
            unfold er
            rw [if_neg (by simp), if_neg (by simp [hn]), if_neg (by simp), if_neg hl]
          have e2 : en ⟨6, n, s⟩ = fw s.size ++ s := by unfold en; rw [if_pos e]; rfl
          rw [e, e2]
          clear e e2 hz hn
          have FW := Lib.hid (fun w => fw_any (s.size : Int) (by omega) (by omega) w)
          have hfw := fw_size (s.size : Int)
          have hf : Fits (fw s.size) s := ⟨by omega⟩
          have gw : IntKind.u64.wrap (s.size : Int) = (s.size : Int) := by rw [IntKind.wrap_u64]; omega
          generalize fw (s.size : Int) = t at *
          go_enter Try.func108, Try.ntmps108
          go_wp2_with fail
          refine (RB.out _).mono ?_
          rintro e w1 ⟨rfl, h1⟩
          obtain ⟨c0, c1, c2⟩ := field_cells _ _ _ _ _ _ h1
          have hb1 := Below.go ((Below.refl w.heap.size w).alloc (Nat.le_refl _) _) h1
          clear h1
          go_wp2
          go_loop [5, 6] (fun v i => ∃ j : Nat, j ≤ z ∧ i = .int .i64 j ∧ v = .int .u64 (n / 256 ^ j)) (fun _ i => z - (intOf i).toNat)
          case atStart => exact ⟨0, by omega, rfl, by rw [Int.pow_zero, Int.ediv_one]⟩
          case round =>
            obtain ⟨j, hj, rfl, rfl⟩ := hrel
            by_cases hlt : j < z
            · have e1 := Lib.hid (div_step n j)
              obtain ⟨q0, q1⟩ := div_bd n j n0 n1
              generalize n / 256 ^ j = q at *
              go_wp2
              go_round
              case rel => exact ⟨j + 1, by omega, by go_num, by rw [e1.out]⟩
              case measure => simp [intOf] <;> omega
            · have e : j = z := by omega
              subst e
              obtain ⟨q0, q1⟩ := div_bd n j n0 n1
              have QF := QF.out
              have QF2 := QF2.out
              have hz0 := HZ0.out
              generalize n / 256 ^ j = q at *
              go_wp2
              go_region_held3 (fun v => v.cell? ⟨w.heap.size, 2, none⟩ = some (.string s)) ((first | assumption | exact (h2.cell (p := ⟨w.heap.size, 2, none⟩) (by have := hb1.size; have := block_lt c2; simpa using this)).trans c2))
                ((go_at_call 124; refine (FW.out _).mono ?_; rintro e w2 ⟨rfl, h2⟩))
              go_wp2
              go_ret2
              exact ⟨rfl, Below.go hb1.drew h2⟩
      · have e : er ⟨6, n, s⟩ = 6 := by
          unfold er
          rw [if_neg (by simp), if_pos (Or.inl ⟨rfl, hn⟩)]
        have e2 : en ⟨6, n, s⟩ = ⟨#[]⟩ := by unfold en; rw [if_neg (by rw [e]; decide)]
        rw [e, e2]
        have g : (n != 0) = true := by simp [hn]
        clear e e2 hn
        go_enter Try.func108, Try.ntmps108
        go_wp2
        go_ret2
        exact ⟨rfl, (Below.refl _ _).alloc (Nat.le_refl _) _⟩
    · have g6 : (k == 6) = false := by simp [h6]
      have g6' : (k != 6) = true := by simp [h6]
      by_cases hs : s = ⟨#[]⟩
      · subst hs
        obtain ⟨z, hz⟩ : ∃ z, wk k = z := ⟨_, rfl⟩
        rw [hz] at RB
        by_cases hk4 : k ≤ 4
        · have hw : 0 < z ∧ z ≤ 8 := by rw [← hz]; unfold wk; (repeat' split) <;> omega
          have hz2 := div_zero_iff n z n0
          have g5 : (k == 5) = false := by rw [beq_eq_false_iff_ne]; omega
          by_cases hbig : 256 ^ z ≤ n
          · have e : er ⟨k, n, ⟨#[]⟩⟩ = 5 := by
              unfold er
              rw [if_neg hk, if_neg (by simp [h6]), if_pos ⟨hk4, by show 256 ^ wk k ≤ n; rw [hz]; exact hbig⟩]
            have e2 : en ⟨k, n, ⟨#[]⟩⟩ = ⟨#[]⟩ := by unfold en; rw [if_neg (by rw [e]; decide)]
            rw [e, e2]
            have QF : Hid (0 < n / 256 ^ z) := Lib.hid (hz2.1 hbig)
            have QF2 : Hid (True) := Lib.hid trivial
            have HZ0 : Hid (True) := Lib.hid trivial
            clear e e2 hbig hk hz2 hz
            go_enter Try.func108, Try.ntmps108
            go_wp2_with fail
            refine (RB.out _).mono ?_
            rintro e w1 ⟨rfl, h1⟩
            obtain ⟨c0, c1, c2⟩ := field_cells _ _ _ _ _ _ h1
            have hb1 := Below.go ((Below.refl w.heap.size w).alloc (Nat.le_refl _) _) h1
            clear h1
            go_wp2
            go_loop [5, 6] (fun v i => ∃ j : Nat, j ≤ z ∧ i = .int .i64 j ∧ v = .int .u64 (n / 256 ^ j)) (fun _ i => z - (intOf i).toNat)
            case atStart => exact ⟨0, by omega, rfl, by rw [Int.pow_zero, Int.ediv_one]⟩
            case round =>
              obtain ⟨j, hj, rfl, rfl⟩ := hrel
              by_cases hlt : j < z
              · have e1 := Lib.hid (div_step n j)
                obtain ⟨q0, q1⟩ := div_bd n j n0 n1
                generalize n / 256 ^ j = q at *
                go_wp2
                go_round
                case rel => exact ⟨j + 1, by omega, by go_num, by rw [e1.out]⟩
                case measure => simp [intOf] <;> omega
              · have e : j = z := by omega
                subst e
                obtain ⟨q0, q1⟩ := div_bd n j n0 n1
                have QF := QF.out
                have QF2 := QF2.out
                have hz0 := HZ0.out
                generalize n / 256 ^ j = q at *
                go_wp2
                go_ret2
                exact ⟨rfl, hb1⟩
          · have e : er ⟨k, n, ⟨#[]⟩⟩ = 0 := by
              unfold er
              rw [if_neg hk, if_neg (by simp [h6]), if_neg (fun h => hbig (by have := h.2; rw [← hz]; exact this)), if_neg (by show ¬ 65535 < 0; omega)]
            have e2 : en ⟨k, n, ⟨#[]⟩⟩ = hib n z := by
              unfold en
              rw [if_pos e]
              unfold enc
              rw [if_neg h6, if_neg (by show ¬ k = 5; omega)]
              show hib n (wk k) = _
              rw [hz]
            rw [e, e2]
            have QF : Hid (n / 256 ^ z = 0) := Lib.hid (hz2.2 hbig)
            have QF2 : Hid (True) := Lib.hid trivial
            have HZ0 : Hid (True) := Lib.hid trivial
            have HI := Lib.hid (fun w => high_any z n hw.2 n0 n1 w)
            clear e e2 hbig hk hz2 hz
            generalize hib n z = t at *
            go_enter Try.func108, Try.ntmps108
            go_wp2_with fail
            refine (RB.out _).mono ?_
            rintro e w1 ⟨rfl, h1⟩
            obtain ⟨c0, c1, c2⟩ := field_cells _ _ _ _ _ _ h1
            have hb1 := Below.go ((Below.refl w.heap.size w).alloc (Nat.le_refl _) _) h1
            clear h1
            go_wp2
            go_loop [5, 6] (fun v i => ∃ j : Nat, j ≤ z ∧ i = .int .i64 j ∧ v = .int .u64 (n / 256 ^ j)) (fun _ i => z - (intOf i).toNat)
            case atStart => exact ⟨0, by omega, rfl, by rw [Int.pow_zero, Int.ediv_one]⟩
            case round =>
              obtain ⟨j, hj, rfl, rfl⟩ := hrel
              by_cases hlt : j < z
              · have e1 := Lib.hid (div_step n j)
                obtain ⟨q0, q1⟩ := div_bd n j n0 n1
                generalize n / 256 ^ j = q at *
                go_wp2
                go_round
                case rel => exact ⟨j + 1, by omega, by go_num, by rw [e1.out]⟩
                case measure => simp [intOf] <;> omega
              · have e : j = z := by omega
                subst e
                obtain ⟨q0, q1⟩ := div_bd n j n0 n1
                have QF := QF.out
                have QF2 := QF2.out
                have hz0 := HZ0.out
                generalize n / 256 ^ j = q at *
                go_wp2_with fail
                refine (HI.out _).mono ?_
                rintro e w2 ⟨rfl, h2⟩
                go_wp2
                go_ret2
                exact ⟨rfl, Below.go hb1 h2⟩
        · have h5 : k = 5 := by omega
          subst h5
          have HZ0 : Hid (z = 0) := Lib.hid (by rw [← hz]; rfl)
          have hz8 : z ≤ 8 := by have := HZ0.out; omega
          have e : er ⟨5, n, ⟨#[]⟩⟩ = 0 := by
            unfold er
            rw [if_neg hk, if_neg (by simp), if_neg (by simp), if_neg (by show ¬ 65535 < 0; omega)]
          have e2 : en ⟨5, n, ⟨#[]⟩⟩ = fw n := by unfold en; rw [if_pos e]; rfl
          rw [e, e2]
          have QF : Hid (True) := Lib.hid trivial
          have QF2 : Hid (True) := Lib.hid trivial
          have FW := Lib.hid (fun w => fw_any n n0 n1 w)
          clear e e2 hk hz hk4
          generalize fw n = t at *
          go_enter Try.func108, Try.ntmps108
          go_wp2_with fail
          refine (RB.out _).mono ?_
          rintro e w1 ⟨rfl, h1⟩
          obtain ⟨c0, c1, c2⟩ := field_cells _ _ _ _ _ _ h1
          have hb1 := Below.go ((Below.refl w.heap.size w).alloc (Nat.le_refl _) _) h1
          clear h1
          go_wp2
          go_loop [5, 6] (fun v i => ∃ j : Nat, j ≤ z ∧ i = .int .i64 j ∧ v = .int .u64 (n / 256 ^ j)) (fun _ i => z - (intOf i).toNat)
          case atStart => exact ⟨0, by omega, rfl, by rw [Int.pow_zero, Int.ediv_one]⟩
          case round =>
            obtain ⟨j, hj, rfl, rfl⟩ := hrel
            by_cases hlt : j < z
            · have e1 := Lib.hid (div_step n j)
              obtain ⟨q0, q1⟩ := div_bd n j n0 n1
              generalize n / 256 ^ j = q at *
              go_wp2
              go_round
              case rel => exact ⟨j + 1, by omega, by go_num, by rw [e1.out]⟩
              case measure => simp [intOf] <;> omega
            · have e : j = z := by omega
              subst e
              obtain ⟨q0, q1⟩ := div_bd n j n0 n1
              have QF := QF.out
              have QF2 := QF2.out
              have hz0 := HZ0.out
              generalize n / 256 ^ j = q at *
              go_wp2_with fail
              refine (FW.out _).mono ?_
              rintro e w2 ⟨rfl, h2⟩
              go_wp2
              go_ret2
              exact ⟨rfl, Below.go hb1 h2⟩
      · have e : er ⟨k, n, s⟩ = 6 := by
          unfold er
          rw [if_neg hk, if_pos (Or.inr ⟨h6, hs⟩)]
        have e2 : en ⟨k, n, s⟩ = ⟨#[]⟩ := by unfold en; rw [if_neg (by rw [e]; decide)]
        rw [e, e2]
        have hd : decide (s = ⟨#[]⟩) = false := decide_eq_false hs
        clear e e2 hk hs
        go_enter Try.func108, Try.ntmps108
        go_wp2
        go_ret2
        exact ⟨rfl, (Below.refl _ _).alloc (Nat.le_refl _) _⟩
end Go.Proofs.Ytapjebhdgcpdjaa
