/-
  What the calls of package sum that make no memory return, for any strings no longer than a string can be: the sum of a row, its update, a checksum gone on; the world is as it was.
-/
import Derived.Test.YtiaafpemhalmpaaSumMath
import Derived.Test.YtiaafpemhalmpaaRows
import Derived.Laws.Externs
import Derived.Outline
namespace Go.Proofs.Ytiaafpemhalmpaa
set_option linter.unusedVariables false
set_option linter.unusedSimpArgs false
open Go.ChangeShapes Go.WideShapes Go.ChangeAt Go.RowKit
attribute [-go_sem] run_index_string binOp_string_eql binOp_string_neq
attribute [local go_sem] index_bt eql_str neq_str

theorem ring_any (a b : Int) (a0 : 0 ≤ a) (a1 : a ≤ 65535) (b0 : 0 ≤ b) (b1 : b ≤ 65535) (w : World) :
    Calls Try.prog 75 #[.int .u16 a, .int .u16 b] w fun e w' => e = .returned (.int .u16 (rg a b)) ∧ w = w' := by
  unfold rg
  by_cases h : a + b ≤ 65535
  · rw [if_pos h]
    go_enter Try.func75, Try.ntmps75
    go_wp2
    go_ret
    exact ⟨rfl, rfl⟩
  · rw [if_neg h]
    go_enter Try.func75, Try.ntmps75
    go_wp2
    go_ret
    exact ⟨rfl, rfl⟩
theorem wraps_u16 : ∀ n : Int, 0 ≤ n → n < 2 ^ 16 → IntKind.u16.wrap n = n := fun n h₀ h₁ => by
  simp only [IntKind.wrap, IntKind.bits, IntKind.signed] <;> simp <;> omega
theorem wraps_u32 : ∀ n : Int, 0 ≤ n → n < 2 ^ 32 → IntKind.u32.wrap n = n := fun n h₀ h₁ => by
  simp only [IntKind.wrap, IntKind.bits, IntKind.signed] <;> simp <;> omega
theorem or_byte (x y : Int) (x0 : 0 ≤ x) (x1 : x ≤ 255) (y0 : 0 ≤ y) (y1 : y ≤ 255) : bits .or .u16 (x * 256) y = x * 256 + y :=
  bits_join .u16 16 (by decide) wraps_u16 8 (x * 256) y (by omega) (by omega) (by omega) y0 (by omega) (by omega)
theorem or_half (x y : Int) (x0 : 0 ≤ x) (x1 : x ≤ 65535) (y0 : 0 ≤ y) (y1 : y ≤ 65535) : bits .or .u32 (x * 65536) y = x * 65536 + y :=
  bits_join .u32 32 (by decide) wraps_u32 16 (x * 65536) y (by omega) (by omega) (by omega) y0 (by omega) (by omega)
theorem and_half (x : Int) (x0 : 0 ≤ x) (x1 : x ≤ 4294967295) : bits .and .u32 x 65535 = x % 65536 :=
  bits_mask .u32 32 (by decide) wraps_u32 16 (by decide) x x0 (by omega)

theorem word_any (s : ByteArray) (h0 : 0 < s.size) (hs : s.size ≤ 140737488355328) (w : World) :
    Calls Try.prog 76 #[.string s] w fun e w' => e = .returned (.int .u16 (bt s 0 * 256 + bt s 1)) ∧ w = w' := by
  obtain ⟨b0, b0'⟩ := bt_bd s 0
  obtain ⟨b1, b1'⟩ := bt_bd s 1
  by_cases h : s.size = 1
  · have e : bt s 1 = 0 := by have := bt_out s 1 (by omega); simpa using this
    have h' : ((s.size : Int) == 1) = true := by simp [h]
    rw [e, Int.add_zero]
    clear e b1 b1' h
    go_enter Try.func76, Try.ntmps76
    go_wp2
    go_ret
    exact ⟨rfl, rfl⟩
  · have h' : ((s.size : Int) == 1) = false := by simp; omega
    have e := or_byte _ _ b0 b0' b1 b1'
    have h2 : 1 < s.size := by omega
    clear h
    go_enter Try.func76, Try.ntmps76
    go_wp2
    go_ret
    exact ⟨rfl, rfl⟩
theorem inet_any (s : ByteArray) (hs : s.size ≤ 140737488355328) (w : World) :
    Calls Try.prog 68 #[.string s] w fun e w' => e = .returned (.int .u16 (inet s)) ∧ w = w' := by
  have ei : inet s = 65535 - nm (all s) := rfl
  rw [ei]
  clear ei
  go_enter Try.func68, Try.ntmps68
  go_wp2
  go_loop [3, 4] (fun v i => ∃ k : Nat, k ≤ (s.size + 1) / 2 ∧ i = .int .i64 (2 * k : Int) ∧ v = .int .u16 (nm (tot s k))) (fun _ i => s.size + 1 - (intOf i).toNat)
  case atStart => exact ⟨0, by omega, rfl, rfl⟩
  case round =>
    obtain ⟨k, hk, rfl, rfl⟩ := hrel
    have hn := nm_bd (tot s k)
    by_cases hlt : 2 * k < s.size
    · have e : (s.extract (2 * k) s.size).size = s.size - 2 * k := by rw [size_ext _ _ _ (Nat.le_refl _)]
      have e0 : bt (s.extract (2 * k) s.size) 0 = bt s ((2 * k : Nat) : Int) := by
        have := bt_extract s (2 * k) s.size 0 (by omega)
        rw [Nat.add_zero] at this
        simpa using this
      have e1 : bt (s.extract (2 * k) s.size) 1 = bt s ((2 * k + 1 : Nat) : Int) := by
        by_cases h1 : 2 * k + 1 < s.size
        · have := bt_extract s (2 * k) s.size 1 (by omega)
          simpa using this
        · have := bt_extract_out s (2 * k) s.size 1 (by omega)
          rw [bt_out s (2 * k + 1) (by omega)]
          simpa using this
      have ew : bt (s.extract (2 * k) s.size) 0 * 256 + bt (s.extract (2 * k) s.size) 1 = wd s k := by rw [e0, e1]; rfl
      have E := Lib.hid e; have EW := Lib.hid ew
      have hw := wd_bd s k
      have er := Lib.hid (rg_nm (tot s k) (wd s k) (tot_nonneg s k) hw.1 hw.2)
      clear e e0 e1 ew
      go_wp2_with fail
      refine (word_any _ (by rw [E.out]; omega) (by rw [E.out]; omega) _).mono ?_
      rintro e w' ⟨rfl, rfl⟩
      rw [EW.out]
      go_wp2_with fail
      refine (ring_any _ _ hn.1 hn.2 hw.1 hw.2 _).mono ?_
      rintro e w' ⟨rfl, rfl⟩
      rw [er.out]
      go_wp2
      go_round
      case rel => exact ⟨k + 1, by omega, by go_num, rfl⟩
      case measure => simp [intOf]; omega
    · have e : k = (s.size + 1) / 2 := by omega
      have e : nm (tot s k) = nm (all s) := by unfold all; rw [← e]
      rw [e] at hn ⊢
      go_wp2
      go_ret
      exact ⟨rfl, rfl⟩
end Go.Proofs.Ytiaafpemhalmpaa
