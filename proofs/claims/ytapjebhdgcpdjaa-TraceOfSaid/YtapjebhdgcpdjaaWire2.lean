/-
  What a string begins with, by package wire: a number of so many bytes, a number in as few as it takes, a text; for any string. The world is as it was.
-/
import Derived.Test.YtapjebhdgcpdjaaWire1b
namespace Go.Proofs.Ytapjebhdgcpdjaa
set_option linter.unusedVariables false
set_option linter.unusedSimpArgs false
open Go.ChangeShapes Go.WideShapes Go.ChangeAt Go.RowKit
attribute [-go_sem] run_index_string binOp_string_eql binOp_string_neq run_string_add_if run_slice_string_from_if run_slice_string_to_if
attribute [local go_sem] index_bt add_fits slice_from slice_to eql_str neq_str alloc_drewN setCell_drewN

theorem be_small (s : ByteArray) (k : Nat) (h : k ≤ 7) : be s k ≤ 72057594037927935 := by
  have := (be_bd s k).2
  have hk : k = 0 ∨ k = 1 ∨ k = 2 ∨ k = 3 ∨ k = 4 ∨ k = 5 ∨ k = 6 ∨ k = 7 := by omega
  rcases hk with rfl | rfl | rfl | rfl | rfl | rfl | rfl | rfl <;> omega
theorem or_low (x y : Int) (x0 : 0 ≤ x) (x1 : x ≤ 72057594037927935) (y0 : 0 ≤ y) (y1 : y ≤ 255) : bits .or .u64 (x * 256) y = x * 256 + y :=
  bits_join .u64 64 (by decide) (fun n h0 h1 => by rw [IntKind.wrap_u64]; omega) 8 (x * 256) y (by omega) (by omega) (by omega) y0 (by omega) (by omega)
theorem and_seven (x : Int) (x0 : 0 ≤ x) (x1 : x ≤ 255) : bits .and .u8 x 127 = x % 128 :=
  bits_mask .u8 8 (by decide) wraps_u8 7 (by decide) x x0 (by omega)

theorem takeFixed_any (s : ByteArray) (z : Nat) (hz : z ≤ 8) (hs : s.size ≤ maxLen) (w : World) :
    Calls Try.prog 129 #[.string s, .int .i64 z] w fun e w' => e = .returned (.tuple (if s.size < z then #[.int .u64 0, .int .i64 0, .int .i64 2] else #[.int .u64 (be s z), .int .i64 z, .int .i64 0])) ∧ w = w' := by
  unfold maxLen at hs
  by_cases h : s.size < z
  · rw [if_pos h]
    go_enter Try.func129, Try.ntmps129
    go_wp2
    go_ret3
    exact ⟨rfl, rfl⟩
  · rw [if_neg h]
    go_enter Try.func129, Try.ntmps129
    go_wp2
    go_loop [7, 14] (fun v i => ∃ k : Nat, k ≤ z ∧ i = .int .i64 k ∧ v = .int .u64 (be s k)) (fun _ i => z - (intOf i).toNat)
    case atStart => exact ⟨0, by omega, rfl, rfl⟩
    case round =>
      obtain ⟨k, hk, rfl, rfl⟩ := hrel
      by_cases hlt : k < z
      · have b0 := (be_bd s k).1
        have b1 := be_small s k (by omega)
        obtain ⟨c0, c1⟩ := bt_bd s k
        have eo := or_low (be s k) (bt s k) b0 b1 c0 c1
        go_wp2
        go_round
        case rel => exact ⟨k + 1, by omega, by go_num, rfl⟩
        case measure => simp [intOf]; omega
      · have e : k = z := by omega
        subst e
        go_wp2
        go_ret3
        exact ⟨rfl, rfl⟩
theorem or_swap (x y : Int) : bits .or .u64 x y = bits .or .u64 y x := by simp only [bits, BitVec.or_comm]
theorem or_var (k : Nat) (hk : k ≤ 9) (v d : Int) (v0 : 0 ≤ v) (v1 : v < 128 ^ k) (d0 : 0 ≤ d) (d1 : d ≤ 127) (d9 : k = 9 → d ≤ 1) :
    IntKind.u64.wrap (d * 2 ^ (7 * k)) = d * 128 ^ k ∧ bits .or .u64 v (d * 128 ^ k) = v + d * 128 ^ k ∧ 0 ≤ d * 128 ^ k ∧ v + d * 128 ^ k ≤ 18446744073709551615 := by
  have e : (2 : Int) ^ (7 * k) = 128 ^ k := by rw [Int.pow_mul]; rfl
  rw [e]
  have hc : k = 0 ∨ k = 1 ∨ k = 2 ∨ k = 3 ∨ k = 4 ∨ k = 5 ∨ k = 6 ∨ k = 7 ∨ k = 8 ∨ k = 9 := by omega
  have key : 0 ≤ d * 128 ^ k ∧ v + d * 128 ^ k ≤ 18446744073709551615 := by
    rcases hc with rfl | rfl | rfl | rfl | rfl | rfl | rfl | rfl | rfl | rfl <;> omega
  refine ⟨by rw [IntKind.wrap_u64]; omega, ?_, key.1, key.2⟩
  rw [or_swap, Int.add_comm]
  have hj := bits_join .u64 64 (by decide) (fun n h0 h1 => by rw [IntKind.wrap_u64]; omega) (7 * k) (d * 128 ^ k) v key.1 (by rw [e]; exact Int.mul_emod_left _ _) (by omega) v0 (by rw [e]; exact v1) (by omega)
  exact hj

set_option maxRecDepth 100000 in
theorem takeVar_any (s : ByteArray) (hs : s.size ≤ maxLen) (w : World) :
    Calls Try.prog 127 #[.string s] w fun e w' => e = .returned (.tuple #[.int .u64 (sv s).1, .int .i64 ((sv s).2.1 : Nat), .int .i64 (sv s).2.2]) ∧ w = w' := by
  unfold maxLen at hs
  have SV : Hid (svN s 10 0 = sv s) := Lib.hid rfl
  generalize sv s = r at *
  obtain ⟨n, c, e⟩ := r
  go_enter Try.func127, Try.ntmps127
  go_wp2
  go_loop [5, 11] (fun v i => ∃ k : Nat, k ≤ s.size ∧ k ≤ 10 ∧ i = .int .i64 k ∧ v = .int .u64 (vl s k) ∧ svN s (10 - k) k = (n, c, e)) (fun _ i => 10 - (intOf i).toNat)
  case atStart => exact ⟨0, by omega, by omega, rfl, rfl, SV.out⟩
  case round =>
    obtain ⟨k, hk, hk10, rfl, rfl, hr⟩ := hrel
    by_cases hlt : k < s.size ∧ k < 10
    · obtain ⟨m, hm⟩ : ∃ m, 10 - k = m + 1 := ⟨9 - k, by omega⟩
      rw [hm] at hr
      unfold svN at hr
      rw [if_neg (by omega)] at hr
      obtain ⟨c0, c1⟩ := bt_bd s k
      have ea := and_seven (bt s k) c0 c1
      by_cases hbad : (0 < k ∧ bt s k = 0) ∨ (k = 9 ∧ 1 < bt s k)
      · rw [if_pos hbad] at hr
        obtain ⟨rfl, rfl, rfl⟩ : n = 0 ∧ c = 0 ∧ e = 3 := by simpa using hr.symm
        clear hr hm ea
        rcases hbad with ⟨h1, h2⟩ | ⟨h1, h2⟩
        · have g0 : (bt s k == 0) = true := by simp [h2]
          clear h2
          go_wp2
          go_ret3
          exact ⟨rfl, rfl⟩
        · have g0 : (bt s k == 0) = false := by rw [beq_eq_false_iff_ne]; omega
          have g9 : ((k : Int) == 9) = true := by simp [h1]
          have G9 := Lib.hid h1
          clear h1
          go_wp2
          go_ret3
          exact ⟨rfl, rfl⟩
      · rw [if_neg hbad] at hr
        have HR := Lib.hid hr; have HM0 := Lib.hid hm
        have vs : vl s (k + 1) = vl s k + bt s k % 128 * 128 ^ k := rfl
        have VS := Lib.hid vs
        have V1 := Lib.hid (vl_bd s (k + 1)); have V0 := Lib.hid (vl_bd s k)
        have hk9 : k ≤ 9 := by omega
        clear hr hm vs
        have HB : Hid (¬ ((0 < k ∧ bt s k = 0) ∨ (k = 9 ∧ 1 < bt s k))) := Lib.hid hbad
        clear hbad
        have hv0 := (vl_bd s k)
        have hx9 : k = 9 → bt s k ≤ 1 := fun h => by
          apply Classical.byContradiction
          intro hn
          exact HB.out (Or.inr ⟨h, by omega⟩)
        obtain ⟨ew, eo, ey, ez⟩ := or_var k hk9 (vl s k) (bt s k % 128) hv0.1 hv0.2 (by omega) (by omega) (fun h => by have := hx9 h; omega)
        obtain ⟨b, hb⟩ : ∃ b, bt s k = b := ⟨_, rfl⟩
        have es : vl s k + bt s k % 128 * 128 ^ k = vl s (k + 1) := rfl
        rw [es] at eo ez
        rw [hb] at ea ew eo ey hx9 c0 c1
        have ew0 : IntKind.u64.wrap (b % 128) = b % 128 := by rw [IntKind.wrap_u64]; omega
        have HX := Lib.hid hx9
        have HB' := Lib.hid hb
        clear hv0 hx9 es
        obtain ⟨v, hv⟩ : ∃ v, vl s k = v := ⟨_, rfl⟩
        obtain ⟨v', hv'⟩ : ∃ v', vl s (k + 1) = v' := ⟨_, rfl⟩
        have v'0 : 0 ≤ v' := by rw [← hv']; exact V1.out.1
        rw [hv] at eo
        rw [hv'] at eo ez
        rw [hv]
        have HV' := Lib.hid hv'
        clear hv' hv
        by_cases hb1 : 1 < b
        · have g0 : (b == 0) = false := by rw [beq_eq_false_iff_ne]; omega
          have g9 : ((k : Int) == 9) = false := by
            rw [beq_eq_false_iff_ne]
            intro h
            have := HX.out (by omega)
            omega
          by_cases hl : b < 128
          · have HH := HR.out
            rw [HB'.out, if_pos hl, HV'.out] at HH
            obtain ⟨rfl, rfl, rfl⟩ : n = v' ∧ c = k + 1 ∧ e = 0 := by
              have := Prod.mk.inj HH
              have h2 := Prod.mk.inj this.2
              exact ⟨this.1.symm, h2.1.symm, h2.2.symm⟩
            go_wp2
            go_ret3
            exact ⟨rfl, rfl⟩
          · have HH := HR.out
            rw [HB'.out, if_neg hl] at HH
            have H2 : Hid (svN s m (k + 1) = (n, c, e)) := Lib.hid HH
            have hk9' : k < 9 := by
              have := HX.out
              omega
            have HM : Hid (10 - (k + 1) = m) := Lib.hid (by have := HM0.out; omega)
            clear HH
            go_wp2
            go_round
            case rel => exact ⟨k + 1, by omega, by omega, by go_num, by rw [HV'.out], by rw [HM.out]; exact H2.out⟩
            case measure => simp [intOf]; omega
        · have hl : b < 128 := by omega
          have HH := HR.out
          rw [HB'.out, if_pos hl, HV'.out] at HH
          obtain ⟨rfl, rfl, rfl⟩ : n = v' ∧ c = k + 1 ∧ e = 0 := by
            have := Prod.mk.inj HH
            have h2 := Prod.mk.inj this.2
            exact ⟨this.1.symm, h2.1.symm, h2.2.symm⟩
          by_cases hz : b = 0
          · have g0 : (b == 0) = true := by simp [hz]
            have k0 : k = 0 := Classical.byContradiction fun h => HB.out (Or.inl ⟨by omega, by rw [HB'.out]; exact hz⟩)
            subst k0
            rw [Int.pow_zero, Int.mul_one] at eo
            have gb : ((0 : Nat) : Int) = 0 := rfl
            rw [gb] at hb
            clear hz gb
            go_wp2
            go_ret3
            exact ⟨rfl, rfl⟩
          · have g0 : (b == 0) = false := by simp [hz]
            clear hz
            go_wp2
            go_ret3
            exact ⟨rfl, rfl⟩
    · have H : n = 0 ∧ c = 0 ∧ e = 2 := by
        rcases Nat.lt_or_ge k 10 with h10 | h10
        · obtain ⟨m, hm⟩ : ∃ m, 10 - k = m + 1 := ⟨9 - k, by omega⟩
          rw [hm] at hr
          unfold svN at hr
          rw [if_pos (by omega)] at hr
          have h1 := Prod.mk.inj hr
          have h2 := Prod.mk.inj h1.2
          exact ⟨h1.1.symm, h2.1.symm, h2.2.symm⟩
        · have : 10 - k = 0 := by omega
          rw [this] at hr
          have h1 := Prod.mk.inj hr
          have h2 := Prod.mk.inj h1.2
          exact ⟨h1.1.symm, h2.1.symm, h2.2.symm⟩
      obtain ⟨rfl, rfl, rfl⟩ := H
      clear hr
      go_wp2
      go_ret3
      exact ⟨rfl, rfl⟩
end Go.Proofs.Ytapjebhdgcpdjaa
