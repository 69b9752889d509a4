/-
  The number that a string begins with, by the document's answer for layer 4. The world is as it was.
-/
import Derived.Test.YtdlcipbehalfhaaWireR2
namespace Go.Proofs.Ytdlcipbehalfhaa
set_option linter.unusedVariables false
set_option linter.unusedSimpArgs false
open Go.ChangeShapes Go.WideShapes Go.ChangeAt Go.RowKit
attribute [-go_sem] run_index_string binOp_string_eql binOp_string_neq run_string_add_if run_slice_string_from_if run_slice_string_to_if
attribute [local go_sem] index_bt add_fits slice_from slice_to eql_str neq_str alloc_drewN setCell_drewN

set_option maxRecDepth 100000 in
set_option maxHeartbeats 1000000 in
theorem seven_any (s : ByteArray) (hs : s.size ≤ maxLen) (w : World) :
    Calls Try.prog 172 #[.string s] w fun e w' => e = .returned (.tuple #[.int .u64 (sv s).1, .int .i64 ((sv s).2.1 : Nat), .int .i64 (sv s).2.2]) ∧ w = w' := by
  unfold maxLen at hs
  have SV : Hid (svN s 10 0 = sv s) := Lib.hid rfl
  generalize sv s = r at *
  obtain ⟨n, c, e⟩ := r
  go_enter Try.func172, Try.ntmps172
  go_wp2
  go_loop [5, 6, 7] (fun v p i => ∃ k : Nat, k ≤ s.size ∧ k ≤ 9 ∧ i = .int .i64 k ∧ v = .int .u64 (vl s k) ∧ p = .int .u64 (128 ^ k) ∧ svN s (10 - k) k = (n, c, e)) (fun _ _ i => 10 - (intOf i).toNat)
  case atStart => exact ⟨0, by omega, by omega, rfl, rfl, rfl, SV.out⟩
  case round =>
    obtain ⟨k, hk, hk9, rfl, rfl, rfl, hr⟩ := hrel
    obtain ⟨m, hm⟩ : ∃ m, 10 - k = m + 1 := ⟨9 - k, by omega⟩
    rw [hm] at hr
    unfold svN at hr
    by_cases hlt : k < s.size
    · rw [if_neg (by omega)] at hr
      obtain ⟨c0, c1⟩ := bt_bd s k
      by_cases hbad : (0 < k ∧ bt s k = 0) ∨ (k = 9 ∧ 1 < bt s k)
      · rw [if_pos hbad] at hr
        obtain ⟨rfl, rfl, rfl⟩ : n = 0 ∧ c = 0 ∧ e = 3 := by simpa using hr.symm
        clear hr hm
        generalize (128 : Int) ^ k = p
        rcases hbad with ⟨h1, h2⟩ | ⟨h1, h2⟩
        · have g0 : (bt s k == 0) = true := by simp [h2]
          have gk : decide (0 < k) = true := decide_eq_true (by omega)
          clear h2
          go_wp2
          go_ret3
          exact ⟨rfl, rfl⟩
        · have g0 : (bt s k == 0) = false := by rw [beq_eq_false_iff_ne]; omega
          have g9 : ((k : Int) == 9) = true := by simp [h1]
          have gk : decide (0 < k) = true := decide_eq_true (by omega)
          have G9 := Lib.hid h1
          clear h1
          go_wp2
          go_ret3
          exact ⟨rfl, rfl⟩
      · rw [if_neg hbad] at hr
        have HR := Lib.hid hr; have HM0 := Lib.hid hm
        have V1 := Lib.hid (vl_bd s (k + 1))
        clear hr hm
        have HB : Hid (¬ ((0 < k ∧ bt s k = 0) ∨ (k = 9 ∧ 1 < bt s k))) := Lib.hid hbad
        clear hbad
        have hv0 := vl_bd s k
        have hx9 : k = 9 → bt s k ≤ 1 := fun h => by
          apply Classical.byContradiction
          intro hn
          exact HB.out (Or.inr ⟨h, by omega⟩)
        obtain ⟨ew, eo, ey, ez⟩ := or_var k hk9 (vl s k) (bt s k % 128) hv0.1 hv0.2 (by omega) (by omega) (fun h => by have := hx9 h; omega)
        clear ew eo
        have hp0 : (0 : Int) < 128 ^ k := Int.pow_pos (by decide)
        have hp1 : k ≤ 8 → (128 : Int) ^ k ≤ 72057594037927936 := fun h => by
          have hc : k = 0 ∨ k = 1 ∨ k = 2 ∨ k = 3 ∨ k = 4 ∨ k = 5 ∨ k = 6 ∨ k = 7 ∨ k = 8 := by omega
          rcases hc with rfl | rfl | rfl | rfl | rfl | rfl | rfl | rfl | rfl <;> omega
        have HP1 := Lib.hid hp1; clear hp1
        obtain ⟨b, hb⟩ : ∃ b, bt s k = b := ⟨_, rfl⟩
        have es : vl s k + bt s k % 128 * 128 ^ k = vl s (k + 1) := rfl
        have ep : Hid ((128 : Int) ^ (k + 1) = 128 ^ k * 128) := Lib.hid (Int.pow_succ _ _)
        rw [hb] at ey hx9 c0 c1 es ez
        have HX := Lib.hid hx9
        have HB' := Lib.hid hb
        obtain ⟨v, hv⟩ : ∃ v, vl s k = v := ⟨_, rfl⟩
        obtain ⟨v', hv'⟩ : ∃ v', vl s (k + 1) = v' := ⟨_, rfl⟩
        rw [hv, hv'] at es
        rw [hv] at ez hv0
        rw [hv]
        have HV' := Lib.hid hv'
        obtain ⟨v0, _⟩ := hv0
        clear hv' hv hx9
        generalize (128 : Int) ^ k = p at *
        have m1 : IntKind.u64.wrap (b % 128 * p) = b % 128 * p := by rw [IntKind.wrap_u64]; omega
        have m2 : IntKind.u64.wrap (v + b % 128 * p) = v' := by rw [IntKind.wrap_u64]; omega
        have m3 : (v + b % 128 * p) = v' := es
        have v'0 : 0 ≤ v' := by omega
        have v'1 : v' ≤ 18446744073709551615 := by omega
        clear es ez
        by_cases hb1 : 1 < b
        · have g0 : (b == 0) = false := by rw [beq_eq_false_iff_ne]; omega
          have g9 : ((k : Int) == 9) = false := by
            rw [beq_eq_false_iff_ne]
            intro h
            have := HX.out (by omega)
            omega
          have hk9' : k < 9 := by
            have : k ≠ 9 := fun h => by
              have := HX.out h
              omega
            omega
          have hp1 := HP1.out (by omega)
          by_cases hl : b < 128
          · have HH := HR.out
            rw [HB'.out, if_pos hl, HV'.out] at HH
            obtain ⟨rfl, rfl, rfl⟩ : n = v' ∧ c = k + 1 ∧ e = 0 := by
              have := Prod.mk.inj HH
              have h2 := Prod.mk.inj this.2
              exact ⟨this.1.symm, h2.1.symm, h2.2.symm⟩
            rcases Nat.eq_zero_or_pos k with k0 | k0
            · have gk : decide (0 < k) = false := decide_eq_false (by omega)
              clear k0
              go_wp2
              go_ret3
              exact ⟨rfl, rfl⟩
            · have gk : decide (0 < k) = true := decide_eq_true (by omega)
              clear k0
              go_wp2
              go_ret3
              exact ⟨rfl, rfl⟩
          · have HH := HR.out
            rw [HB'.out, if_neg hl] at HH
            have H2 : Hid (svN s m (k + 1) = (n, c, e)) := Lib.hid HH
            have HM : Hid (10 - (k + 1) = m) := Lib.hid (by have := HM0.out; omega)
            clear HH
            rcases Nat.eq_zero_or_pos k with k0 | k0
            · have gk : decide (0 < k) = false := decide_eq_false (by omega)
              clear k0
              go_wp2
              go_round
              case rel => exact ⟨k + 1, by omega, by omega, by go_num, by rw [HV'.out], by rw [ep.out], by rw [HM.out]; exact H2.out⟩
              case measure => simp [intOf] <;> omega
            · have gk : decide (0 < k) = true := decide_eq_true (by omega)
              clear k0
              go_wp2
              go_round
              case rel => exact ⟨k + 1, by omega, by omega, by go_num, by rw [HV'.out], by rw [ep.out], by rw [HM.out]; exact H2.out⟩
              case measure => simp [intOf] <;> omega
        · have hl : b < 128 := by omega
          have HH := HR.out
          rw [HB'.out, if_pos hl, HV'.out] at HH
          obtain ⟨rfl, rfl, rfl⟩ : n = v' ∧ c = k + 1 ∧ e = 0 := by
            have := Prod.mk.inj HH
            have h2 := Prod.mk.inj this.2
            exact ⟨this.1.symm, h2.1.symm, h2.2.symm⟩
          by_cases hz : b = 0
          · have g0 : (b == 0) = true := by simp [hz]
            have k0 : k = 0 := Classical.byContradiction fun h => HB.out (Or.inl ⟨by omega, by rw [HB'.out]; exact hz⟩)
            subst k0
            have gb : ((0 : Nat) : Int) = 0 := rfl
            rw [gb] at hb
            clear hz gb
            go_wp2
            go_ret3
            exact ⟨rfl, rfl⟩
          · have g0 : (b == 0) = false := by simp [hz]
            clear hz
            rcases Nat.eq_zero_or_pos k with k0 | k0
            · have gk : decide (0 < k) = false := decide_eq_false (by omega)
              have G9 : ((k : Int) == 9) = false := by rw [beq_eq_false_iff_ne]; omega
              clear k0
              go_wp2
              go_ret3
              exact ⟨rfl, rfl⟩
            · have gk : decide (0 < k) = true := decide_eq_true (by omega)
              clear k0
              go_wp2
              all_goals (go_ret3; exact ⟨rfl, rfl⟩)
    · have H : n = 0 ∧ c = 0 ∧ e = 2 := by
        rw [if_pos (by omega)] at hr
        have h1 := Prod.mk.inj hr
        have h2 := Prod.mk.inj h1.2
        exact ⟨h1.1.symm, h2.1.symm, h2.2.symm⟩
      obtain ⟨rfl, rfl, rfl⟩ := H
      clear hr
      generalize (128 : Int) ^ k = p
      go_wp2
      go_ret3
      exact ⟨rfl, rfl⟩
end Go.Proofs.Ytdlcipbehalfhaa
