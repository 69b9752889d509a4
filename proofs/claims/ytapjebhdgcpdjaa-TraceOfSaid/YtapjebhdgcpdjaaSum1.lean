/-
  What the calls of package sum that make no memory return, for any strings no longer than a string can be: the sum of a row, its update, a checksum gone on; the world is as it was.
-/
import Derived.Test.YtapjebhdgcpdjaaSumMath
import Derived.Test.YtapjebhdgcpdjaaRows
import Derived.Laws.Externs
import Derived.Outline
namespace Go.Proofs.Ytapjebhdgcpdjaa
set_option linter.unusedVariables false
set_option linter.unusedSimpArgs false
open Go.ChangeShapes Go.WideShapes Go.ChangeAt Go.RowKit
attribute [-go_sem] run_index_string binOp_string_eql binOp_string_neq
attribute [local go_sem] index_bt eql_str neq_str

theorem wraps_u16 : ∀ n : Int, 0 ≤ n → n < 2 ^ 16 → IntKind.u16.wrap n = n := fun n h₀ h₁ => by
  simp only [IntKind.wrap, IntKind.bits, IntKind.signed] <;> simp <;> omega
theorem wraps_u32 : ∀ n : Int, 0 ≤ n → n < 2 ^ 32 → IntKind.u32.wrap n = n := fun n h₀ h₁ => by
  simp only [IntKind.wrap, IntKind.bits, IntKind.signed] <;> simp <;> omega
theorem or_byte (x y : Int) (x0 : 0 ≤ x) (x1 : x ≤ 255) (y0 : 0 ≤ y) (y1 : y ≤ 255) : bits .or .u16 (x * 256) y = x * 256 + y :=
  bits_join .u16 16 (by decide) wraps_u16 8 (x * 256) y (by omega) (by omega) (by omega) y0 (by omega) (by omega)
theorem or_half (x y : Int) (x0 : 0 ≤ x) (x1 : x ≤ 65535) (y0 : 0 ≤ y) (y1 : y ≤ 65535) : bits .or .u32 (x * 65536) y = x * 65536 + y :=
  bits_join .u32 32 (by decide) wraps_u32 16 (x * 65536) y (by omega) (by omega) (by omega) y0 (by omega) (by omega)
theorem and_half (x : Int) (x0 : 0 ≤ x) (x1 : x ≤ 4294967295) : bits .and .u32 x 65535 = x % 65536 :=
  bits_mask .u32 32 (by decide) wraps_u32 16 (by decide) x x0 (by omega)

theorem more_any (n : Int) (s : ByteArray) (n0 : 0 ≤ n) (n1 : n ≤ 4294967295) (hs : s.size ≤ 140737488355328) (w : World) :
    Calls Try.prog 122 #[.int .u32 n, .string s] w fun e w' => e = .returned (.int .u32 (mor n s)) ∧ w = w' := by
  have ea := and_half n n0 n1
  have L0 := lowN_bd s (n % 65536 % 65521) (by omega) (by omega)
  have H0 := highN_bd s (n % 65536 % 65521) (n / 65536 % 65521) (by omega) (by omega)
  obtain ⟨l, hl⟩ : ∃ l, n % 65536 % 65521 = l := ⟨_, rfl⟩
  obtain ⟨h, hh⟩ : ∃ h, n / 65536 % 65521 = h := ⟨_, rfl⟩
  have em : mor n s = highN s l h s.size * 65536 + lowN s l s.size := by unfold mor; rw [hl, hh]
  rw [hl] at L0 H0; rw [hh] at H0
  rw [em]
  have eo := or_half _ _ (H0 s.size).1 (by have := (H0 s.size).2; omega) (L0 s.size).1 (by have := (L0 s.size).2; omega)
  have EO := Lib.hid eo
  have L := Lib.hid L0; have H := Lib.hid H0
  clear em eo L0 H0
  go_enter Try.func122, Try.ntmps122
  go_wp2
  go_loop [5, 6, 16] (fun a b i => ∃ k : Nat, k ≤ s.size ∧ i = .int .i64 k ∧ a = .int .u32 (lowN s l k) ∧ b = .int .u32 (highN s l h k)) (fun _ _ i => s.size - (intOf i).toNat)
  case atStart => exact ⟨0, by omega, rfl, by rw [hl]; rfl, by rw [hh]; rfl⟩
  case round =>
    obtain ⟨k, hk, rfl, rfl, rfl⟩ := hrel
    by_cases hlt : k < s.size
    · have l1 := L.out k
      have h1 := H.out k
      have b1 := bt_bd s k
      have e1 : (lowN s l k + bt s k) % 65521 = lowN s l (k + 1) := rfl
      have e2 : (highN s l h k + lowN s l (k + 1)) % 65521 = highN s l h (k + 1) := rfl
      have l2 := L.out (k + 1)
      have h2 := H.out (k + 1)
      obtain ⟨l10, l11⟩ := l1; obtain ⟨h10, h11⟩ := h1; obtain ⟨b10, b11⟩ := b1; obtain ⟨l20, l21⟩ := l2; obtain ⟨h20, h21⟩ := h2
      have G2 := Lib.hid (rfl : lowN s l (k + 1) = lowN s l (k + 1))
      have G3 := Lib.hid (rfl : highN s l h (k + 1) = highN s l h (k + 1))
      generalize G2a : lowN s l (k + 1) = L2 at e1 e2 l20 l21 h20 h21
      generalize G3a : highN s l h (k + 1) = H2 at e1 e2 l20 l21 h20 h21
      have G2 := Lib.hid G2a; have G3 := Lib.hid G3a; clear G2a G3a
      go_wp2
      go_round
      case rel => exact ⟨k + 1, by omega, by go_num, by first | rfl | rw [G2.out], by first | rw [e2, G3.out] | rw [G3.out]⟩
      case measure => simp [intOf]; omega
    · have e : k = s.size := by omega
      subst e
      have l1 := L.out s.size
      have h1 := H.out s.size
      have eo := EO.out
      go_wp2
      go_ret
      exact ⟨rfl, rfl⟩
end Go.Proofs.Ytapjebhdgcpdjaa
