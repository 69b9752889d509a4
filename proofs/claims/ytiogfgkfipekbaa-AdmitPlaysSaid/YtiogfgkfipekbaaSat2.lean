/-
  What sat.Shift, sat.Sum and the sum of the document's answer return: for any words and any int, and any list of words. No condition but that the numbers are words.
-/
import Derived.Test.YtiogfgkfipekbaaDiv
import Derived.Test.YtiogfgkfipekbaaOpen
import Derived.Laws.Shifts
namespace Go.Proofs.Ytiogfgkfipekbaa
set_option linter.unusedVariables false
set_option linter.unusedSimpArgs false
open Go.ChangeShapes Go.WideShapes Go.ChangeAt Go.RowKit
attribute [local go_sem] alloc_drewN setCell_drewN

theorem shl_nought (k : Nat) : shl 0 k = 0 := by unfold shl; rw [Int.zero_mul]; rfl
theorem shl_low (a : Int) (s k : Nat) (h0 : 0 ≤ a) (hk : k ≤ s) (h : a * 2 ^ s ≤ 18446744073709551615) : shl a k = a * 2 ^ k ∧ 0 ≤ a * 2 ^ k ∧ a * 2 ^ k ≤ 18446744073709551615 := by
  have : a * 2 ^ k ≤ a * 2 ^ s := Int.mul_le_mul_of_nonneg_left (pow2_le hk) h0
  exact ⟨cap_of (by omega), shl_nonneg a h0 k, by omega⟩
theorem shl_high (a : Int) (s k : Nat) (h0 : 0 ≤ a) (hk : s < k) (h : 9223372036854775808 ≤ a * 2 ^ s) : shl a k = 18446744073709551615 := by
  have h1 : a * 2 ^ (s + 1) ≤ a * 2 ^ k := Int.mul_le_mul_of_nonneg_left (pow2_le hk) h0
  have h2 : a * 2 ^ (s + 1) = a * 2 ^ s * 2 := by rw [Int.pow_succ, Int.mul_assoc]
  exact cap_over (by omega)

theorem shift_pos (a : Int) (n : Nat) (ha0 : 0 ≤ a) (ha1 : a ≤ 18446744073709551615) (hn1 : n ≤ 9223372036854775807) (m : Int) (hm : (max m 0) = n) (hm0 : -9223372036854775808 ≤ m) (hm1 : m ≤ 9223372036854775807) (w : World) :
    Calls Try.prog 96 #[.int .u64 a, .int .i64 m] w fun e w' => e = .returned (.int .u64 (shl a (min n 64))) ∧ w = w' := by
  by_cases h : a = 0
  · subst h
    rw [shl_nought]
    have e : (64 - (Lib.bitLen (0 : Int).toNat : Int)) = 64 := by decide
    go_enter Try.func96, Try.ntmps96
    go_wp2_with fail
    refine (lz64_any _ (by omega) (by omega) _).mono ?_
    rintro e w' ⟨rfl, rfl⟩
    go_wp2
    all_goals (go_ret; exact ⟨by simp, rfl⟩)
  · obtain ⟨s, h1, h2, h3, h4⟩ := lz_room a (by omega) ha1
    have H2 := Lib.hid h2; clear h2
    have g : (a != 0) = true := by simp [h]
    by_cases hk : n ≤ s
    · obtain ⟨e, k0, k1⟩ := shl_low a s n ha0 hk h3
      rw [show min n 64 = n from by omega, e]
      have e2 : min n 64 = n := by omega
      clear e
      go_enter Try.func96, Try.ntmps96
      go_wp2_with fail
      refine (lz64_any _ (by omega) (by omega) _).mono ?_
      rintro e w' ⟨rfl, rfl⟩
      rw [H2.out]
      go_wp2
      go_ret
      exact ⟨rfl, rfl⟩
    · have e := shl_high a s (min n 64) ha0 (by omega) h4
      rw [e]
      clear e
      go_enter Try.func96, Try.ntmps96
      go_wp2_with fail
      refine (lz64_any _ (by omega) (by omega) _).mono ?_
      rintro e w' ⟨rfl, rfl⟩
      rw [H2.out]
      go_wp2
      go_ret
      exact ⟨rfl, rfl⟩
theorem sat_shift (a n : Int) (ha0 : 0 ≤ a) (ha1 : a ≤ 18446744073709551615) (hn0 : -9223372036854775808 ≤ n) (hn1 : n ≤ 9223372036854775807) (w : World) :
    Calls Try.prog 96 #[.int .u64 a, .int .i64 n] w fun e w' => e = .returned (.int .u64 (shl a (min n.toNat 64))) ∧ w = w' :=
  shift_pos a n.toNat ha0 ha1 (by omega) n (by omega) hn0 hn1 w
/-! Lists. -/
/-- The sum of a list, capped. -/
def total (l : List Int) : Int := l.foldl (fun s x => cap (s + x)) 0
theorem total_snoc (l : List Int) (x : Int) : total (l ++ [x]) = cap (total l + x) := by unfold total; rw [List.foldl_append]; rfl
theorem total_wd (l : List Int) (h : ∀ x ∈ l, 0 ≤ x) : 0 ≤ total l ∧ total l ≤ 18446744073709551615 := by
  have : ∀ (l : List Int) (s : Int), (∀ x ∈ l, 0 ≤ x) → 0 ≤ s → s ≤ 18446744073709551615 → 0 ≤ l.foldl (fun s x => cap (s + x)) s ∧ l.foldl (fun s x => cap (s + x)) s ≤ 18446744073709551615 := by
    intro l
    induction l with
    | nil => intro s _ h0 h1; exact ⟨h0, h1⟩
    | cons x l ih =>
      intro s hl h0 h1
      have hx := hl x (by simp)
      obtain ⟨a, b⟩ : Wd (cap (s + x)) := cap_wd (by omega)
      exact ih _ (fun y hy => hl y (by simp [hy])) a b
  exact this l 0 h (Int.le_refl _) (by decide)
theorem take_snoc (zs : List Int) (k : Nat) (h : k < zs.length) : zs.take (k + 1) = zs.take k ++ [zs.getD k 0] := by
  rw [List.take_succ_eq_append_getElem h, List.getD_eq_getElem?_getD, List.getElem?_eq_getElem h]; rfl
theorem total_take (zs : List Int) (k : Nat) (h : k < zs.length) : cap (total (zs.take k) + zs.getD k 0) = total (zs.take (k + 1)) := by
  rw [take_snoc zs k h, total_snoc]


end Go.Proofs.Ytiogfgkfipekbaa
