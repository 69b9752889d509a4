/-
  What the calls of package sum that make no memory return, for any strings no longer than a string can be: the sum of a row, its update, a checksum gone on; the world is as it was.
-/
import Derived.Test.YtmdaoicnbenfnaaSumMath
import Derived.Test.YtmdaoicnbenfnaaRows
import Derived.Laws.Externs
import Derived.Outline
namespace Go.Proofs.Ytmdaoicnbenfnaa
set_option linter.unusedVariables false
set_option linter.unusedSimpArgs false
open Go.ChangeShapes Go.WideShapes Go.ChangeAt Go.RowKit
attribute [-go_sem] run_index_string binOp_string_eql binOp_string_neq
attribute [local go_sem] index_bt eql_str neq_str

theorem ring_any (a b : Int) (a0 : 0 ≤ a) (a1 : a ≤ 65535) (b0 : 0 ≤ b) (b1 : b ≤ 65535) (w : World) :
    Calls Try.prog 43 #[.int .u16 a, .int .u16 b] w fun e w' => e = .returned (.int .u16 (rg a b)) ∧ w = w' := by
  unfold rg
  by_cases h : a + b ≤ 65535
  · rw [if_pos h]
    go_enter Try.func43, Try.ntmps43
    go_wp2
    go_ret
    exact ⟨rfl, rfl⟩
  · rw [if_neg h]
    go_enter Try.func43, Try.ntmps43
    go_wp2
    go_ret
    exact ⟨rfl, rfl⟩

theorem update_any (n a b : Int) (n0 : 0 ≤ n) (n1 : n ≤ 65535) (a0 : 0 ≤ a) (a1 : a ≤ 65535) (b0 : 0 ≤ b) (b1 : b ≤ 65535) (w : World) :
    Calls Try.prog 25 #[.int .u16 n, .int .u16 a, .int .u16 b] w fun e w' => e = .returned (.int .u16 (upd n a b)) ∧ w = w' := by
  unfold upd
  have h1 := rg_bd (65535 - n) (65535 - a) (by omega) (by omega) (by omega) (by omega)
  have h2 := rg_bd (rg (65535 - n) (65535 - a)) b h1.1 h1.2 b0 b1
  go_enter Try.func25, Try.ntmps25
  go_wp2_with fail
  refine (ring_any _ _ (by omega) (by omega) (by omega) (by omega) _).mono ?_
  rintro e w' ⟨rfl, rfl⟩
  go_wp2_with fail
  refine (ring_any _ _ (by omega) (by omega) (by omega) (by omega) _).mono ?_
  rintro e w' ⟨rfl, rfl⟩
  go_wp2
  go_ret
  exact ⟨rfl, rfl⟩

theorem wraps_u16 : ∀ n : Int, 0 ≤ n → n < 2 ^ 16 → IntKind.u16.wrap n = n := fun n h₀ h₁ => by
  simp only [IntKind.wrap, IntKind.bits, IntKind.signed] <;> simp <;> omega
theorem wraps_u32 : ∀ n : Int, 0 ≤ n → n < 2 ^ 32 → IntKind.u32.wrap n = n := fun n h₀ h₁ => by
  simp only [IntKind.wrap, IntKind.bits, IntKind.signed] <;> simp <;> omega
theorem or_byte (x y : Int) (x0 : 0 ≤ x) (x1 : x ≤ 255) (y0 : 0 ≤ y) (y1 : y ≤ 255) : bits .or .u16 (x * 256) y = x * 256 + y :=
  bits_join .u16 16 (by decide) wraps_u16 8 (x * 256) y (by omega) (by omega) (by omega) y0 (by omega) (by omega)
theorem or_half (x y : Int) (x0 : 0 ≤ x) (x1 : x ≤ 65535) (y0 : 0 ≤ y) (y1 : y ≤ 65535) : bits .or .u32 (x * 65536) y = x * 65536 + y :=
  bits_join .u32 32 (by decide) wraps_u32 16 (x * 65536) y (by omega) (by omega) (by omega) y0 (by omega) (by omega)
theorem and_half (x : Int) (x0 : 0 ≤ x) (x1 : x ≤ 4294967295) : bits .and .u32 x 65535 = x % 65536 :=
  bits_mask .u32 32 (by decide) wraps_u32 16 (by decide) x x0 (by omega)

theorem word_any (s : ByteArray) (h0 : 0 < s.size) (hs : s.size ≤ 140737488355328) (w : World) :
    Calls Try.prog 44 #[.string s] w fun e w' => e = .returned (.int .u16 (bt s 0 * 256 + bt s 1)) ∧ w = w' := by
  obtain ⟨b0, b0'⟩ := bt_bd s 0
  obtain ⟨b1, b1'⟩ := bt_bd s 1
  by_cases h : s.size = 1
  · have e : bt s 1 = 0 := by have := bt_out s 1 (by omega); simpa using this
    have h' : ((s.size : Int) == 1) = true := by simp [h]
    rw [e, Int.add_zero]
    clear e b1 b1' h
    go_enter Try.func44, Try.ntmps44
    go_wp2
    go_ret
    exact ⟨rfl, rfl⟩
  · have h' : ((s.size : Int) == 1) = false := by simp; omega
    have e := or_byte _ _ b0 b0' b1 b1'
    have h2 : 1 < s.size := by omega
    clear h
    go_enter Try.func44, Try.ntmps44
    go_wp2
    go_ret
    exact ⟨rfl, rfl⟩

theorem inet_any (s : ByteArray) (hs : s.size ≤ 140737488355328) (w : World) :
    Calls Try.prog 23 #[.string s] w fun e w' => e = .returned (.int .u16 (inet s)) ∧ w = w' := by
  have ei : inet s = 65535 - nm (all s) := rfl
  rw [ei]
  clear ei
  go_enter Try.func23, Try.ntmps23
  go_wp2
  go_loop [3, 4] (fun v i => ∃ k : Nat, k ≤ (s.size + 1) / 2 ∧ i = .int .i64 (2 * k : Int) ∧ v = .int .u16 (nm (tot s k))) (fun _ i => s.size + 1 - (intOf i).toNat)
  case atStart => exact ⟨0, by omega, rfl, rfl⟩
  case round =>
    obtain ⟨k, hk, rfl, rfl⟩ := hrel
    have hn := nm_bd (tot s k)
    by_cases hlt : 2 * k < s.size
    · have e : (s.extract (2 * k) s.size).size = s.size - 2 * k := by rw [size_ext _ _ _ (Nat.le_refl _)]
      have e0 : bt (s.extract (2 * k) s.size) 0 = bt s ((2 * k : Nat) : Int) := by
        have := bt_extract s (2 * k) s.size 0 (by omega)
        rw [Nat.add_zero] at this
        simpa using this
      have e1 : bt (s.extract (2 * k) s.size) 1 = bt s ((2 * k + 1 : Nat) : Int) := by
        by_cases h1 : 2 * k + 1 < s.size
        · have := bt_extract s (2 * k) s.size 1 (by omega)
          simpa using this
        · have := bt_extract_out s (2 * k) s.size 1 (by omega)
          rw [bt_out s (2 * k + 1) (by omega)]
          simpa using this
      have ew : bt (s.extract (2 * k) s.size) 0 * 256 + bt (s.extract (2 * k) s.size) 1 = wd s k := by rw [e0, e1]; rfl
      have E := Lib.hid e; have EW := Lib.hid ew
      have hw := wd_bd s k
      have er := Lib.hid (rg_nm (tot s k) (wd s k) (tot_nonneg s k) hw.1 hw.2)
      clear e e0 e1 ew
      go_wp2_with fail
      refine (word_any _ (by rw [E.out]; omega) (by rw [E.out]; omega) _).mono ?_
      rintro e w' ⟨rfl, rfl⟩
      rw [EW.out]
      go_wp2_with fail
      refine (ring_any _ _ hn.1 hn.2 hw.1 hw.2 _).mono ?_
      rintro e w' ⟨rfl, rfl⟩
      rw [er.out]
      go_wp2
      go_round
      case rel => exact ⟨k + 1, by omega, by go_num, rfl⟩
      case measure => simp [intOf]; omega
    · have e : k = (s.size + 1) / 2 := by omega
      have e : nm (tot s k) = nm (all s) := by unfold all; rw [← e]
      rw [e] at hn ⊢
      go_wp2
      go_ret
      exact ⟨rfl, rfl⟩

theorem more_any (n : Int) (s : ByteArray) (n0 : 0 ≤ n) (n1 : n ≤ 4294967295) (hs : s.size ≤ 140737488355328) (w : World) :
    Calls Try.prog 27 #[.int .u32 n, .string s] w fun e w' => e = .returned (.int .u32 (mor n s)) ∧ w = w' := by
  have ea := and_half n n0 n1
  have L0 := lowN_bd s (n % 65536 % 65521) (by omega) (by omega)
  have H0 := highN_bd s (n % 65536 % 65521) (n / 65536 % 65521) (by omega) (by omega)
  obtain ⟨l, hl⟩ : ∃ l, n % 65536 % 65521 = l := ⟨_, rfl⟩
  obtain ⟨h, hh⟩ : ∃ h, n / 65536 % 65521 = h := ⟨_, rfl⟩
  have em : mor n s = highN s l h s.size * 65536 + lowN s l s.size := by unfold mor; rw [hl, hh]
  rw [hl] at L0 H0; rw [hh] at H0
  rw [em]
  have eo := or_half _ _ (H0 s.size).1 (by have := (H0 s.size).2; omega) (L0 s.size).1 (by have := (L0 s.size).2; omega)
  have EO := Lib.hid eo
  have L := Lib.hid L0; have H := Lib.hid H0
  clear em eo L0 H0
  go_enter Try.func27, Try.ntmps27
  go_wp2
  go_loop [5, 6, 16] (fun a b i => ∃ k : Nat, k ≤ s.size ∧ i = .int .i64 k ∧ a = .int .u32 (lowN s l k) ∧ b = .int .u32 (highN s l h k)) (fun _ _ i => s.size - (intOf i).toNat)
  case atStart => exact ⟨0, by omega, rfl, by rw [hl]; rfl, by rw [hh]; rfl⟩
  case round =>
    obtain ⟨k, hk, rfl, rfl, rfl⟩ := hrel
    by_cases hlt : k < s.size
    · have l1 := L.out k
      have h1 := H.out k
      have b1 := bt_bd s k
      have e1 : (lowN s l k + bt s k) % 65521 = lowN s l (k + 1) := rfl
      have e2 : (highN s l h k + lowN s l (k + 1)) % 65521 = highN s l h (k + 1) := rfl
      have l2 := L.out (k + 1)
      have h2 := H.out (k + 1)
      obtain ⟨l10, l11⟩ := l1; obtain ⟨h10, h11⟩ := h1; obtain ⟨b10, b11⟩ := b1; obtain ⟨l20, l21⟩ := l2; obtain ⟨h20, h21⟩ := h2
      have G2 := Lib.hid (rfl : lowN s l (k + 1) = lowN s l (k + 1))
      have G3 := Lib.hid (rfl : highN s l h (k + 1) = highN s l h (k + 1))
      generalize G2a : lowN s l (k + 1) = L2 at e1 e2 l20 l21 h20 h21
      generalize G3a : highN s l h (k + 1) = H2 at e1 e2 l20 l21 h20 h21
      have G2 := Lib.hid G2a; have G3 := Lib.hid G3a; clear G2a G3a
      go_wp2
      go_round
      case rel => exact ⟨k + 1, by omega, by go_num, by first | rfl | rw [G2.out], by first | rw [e2, G3.out] | rw [G3.out]⟩
      case measure => simp [intOf]; omega
    · have e : k = s.size := by omega
      subst e
      have l1 := L.out s.size
      have h1 := H.out s.size
      have eo := EO.out
      go_wp2
      go_ret
      exact ⟨rfl, rfl⟩
end Go.Proofs.Ytmdaoicnbenfnaa
