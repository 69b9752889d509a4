/-
  What sat.Shift, sat.Sum and the sum of the document's answer return: for any words and any int, and any list of words. No condition but that the numbers are words.
-/
import Derived.Test.YtbgpjdbmjdlpkaaDiv
import Derived.Test.YtbgpjdbmjdlpkaaOpen
import Derived.Laws.Shifts
namespace Go.Proofs.Ytbgpjdbmjdlpkaa
set_option linter.unusedVariables false
set_option linter.unusedSimpArgs false
open Go.ChangeShapes Go.WideShapes Go.ChangeAt Go.RowKit
attribute [local go_sem] alloc_drewN setCell_drewN

theorem shl_nought (k : Nat) : shl 0 k = 0 := by unfold shl; rw [Int.zero_mul]; rfl
theorem shl_low (a : Int) (s k : Nat) (h0 : 0 ≤ a) (hk : k ≤ s) (h : a * 2 ^ s ≤ 18446744073709551615) : shl a k = a * 2 ^ k ∧ 0 ≤ a * 2 ^ k ∧ a * 2 ^ k ≤ 18446744073709551615 := by
  have : a * 2 ^ k ≤ a * 2 ^ s := Int.mul_le_mul_of_nonneg_left (pow2_le hk) h0
  exact ⟨cap_of (by omega), shl_nonneg a h0 k, by omega⟩
theorem shl_high (a : Int) (s k : Nat) (h0 : 0 ≤ a) (hk : s < k) (h : 9223372036854775808 ≤ a * 2 ^ s) : shl a k = 18446744073709551615 := by
  have h1 : a * 2 ^ (s + 1) ≤ a * 2 ^ k := Int.mul_le_mul_of_nonneg_left (pow2_le hk) h0
  have h2 : a * 2 ^ (s + 1) = a * 2 ^ s * 2 := by rw [Int.pow_succ, Int.mul_assoc]
  exact cap_over (by omega)

theorem shift_pos (a : Int) (n : Nat) (ha0 : 0 ≤ a) (ha1 : a ≤ 18446744073709551615) (hn1 : n ≤ 9223372036854775807) (m : Int) (hm : (max m 0) = n) (hm0 : -9223372036854775808 ≤ m) (hm1 : m ≤ 9223372036854775807) (w : World) :
    Calls Try.prog 21 #[.int .u64 a, .int .i64 m] w fun e w' => e = .returned (.int .u64 (shl a (min n 64))) ∧ w = w' := by
  by_cases h : a = 0
  · subst h
    rw [shl_nought]
    have e : (64 - (Lib.bitLen (0 : Int).toNat : Int)) = 64 := by decide
    go_enter Try.func21, Try.ntmps21
    go_wp2_with fail
    refine (lz64_any _ (by omega) (by omega) _).mono ?_
    rintro e w' ⟨rfl, rfl⟩
    go_wp2
    all_goals (go_ret; exact ⟨by simp, rfl⟩)
  · obtain ⟨s, h1, h2, h3, h4⟩ := lz_room a (by omega) ha1
    have H2 := Lib.hid h2; clear h2
    have g : (a != 0) = true := by simp [h]
    by_cases hk : n ≤ s
    · obtain ⟨e, k0, k1⟩ := shl_low a s n ha0 hk h3
      rw [show min n 64 = n from by omega, e]
      have e2 : min n 64 = n := by omega
      clear e
      go_enter Try.func21, Try.ntmps21
      go_wp2_with fail
      refine (lz64_any _ (by omega) (by omega) _).mono ?_
      rintro e w' ⟨rfl, rfl⟩
      rw [H2.out]
      go_wp2
      go_ret
      exact ⟨rfl, rfl⟩
    · have e := shl_high a s (min n 64) ha0 (by omega) h4
      rw [e]
      clear e
      go_enter Try.func21, Try.ntmps21
      go_wp2_with fail
      refine (lz64_any _ (by omega) (by omega) _).mono ?_
      rintro e w' ⟨rfl, rfl⟩
      rw [H2.out]
      go_wp2
      go_ret
      exact ⟨rfl, rfl⟩

theorem sat_shift (a n : Int) (ha0 : 0 ≤ a) (ha1 : a ≤ 18446744073709551615) (hn0 : -9223372036854775808 ≤ n) (hn1 : n ≤ 9223372036854775807) (w : World) :
    Calls Try.prog 21 #[.int .u64 a, .int .i64 n] w fun e w' => e = .returned (.int .u64 (shl a (min n.toNat 64))) ∧ w = w' :=
  shift_pos a n.toNat ha0 ha1 (by omega) n (by omega) hn0 hn1 w

/-! Lists. -/
/-- The sum of a list, capped. -/
def total (l : List Int) : Int := l.foldl (fun s x => cap (s + x)) 0
theorem total_snoc (l : List Int) (x : Int) : total (l ++ [x]) = cap (total l + x) := by unfold total; rw [List.foldl_append]; rfl
theorem total_wd (l : List Int) (h : ∀ x ∈ l, 0 ≤ x) : 0 ≤ total l ∧ total l ≤ 18446744073709551615 := by
  have : ∀ (l : List Int) (s : Int), (∀ x ∈ l, 0 ≤ x) → 0 ≤ s → s ≤ 18446744073709551615 → 0 ≤ l.foldl (fun s x => cap (s + x)) s ∧ l.foldl (fun s x => cap (s + x)) s ≤ 18446744073709551615 := by
    intro l
    induction l with
    | nil => intro s _ h0 h1; exact ⟨h0, h1⟩
    | cons x l ih =>
      intro s hl h0 h1
      have hx := hl x (by simp)
      obtain ⟨a, b⟩ : Wd (cap (s + x)) := cap_wd (by omega)
      exact ih _ (fun y hy => hl y (by simp [hy])) a b
  exact this l 0 h (Int.le_refl _) (by decide)
theorem take_snoc (zs : List Int) (k : Nat) (h : k < zs.length) : zs.take (k + 1) = zs.take k ++ [zs.getD k 0] := by
  rw [List.take_succ_eq_append_getElem h, List.getD_eq_getElem?_getD, List.getElem?_eq_getElem h]; rfl
theorem total_take (zs : List Int) (k : Nat) (h : k < zs.length) : cap (total (zs.take k) + zs.getD k 0) = total (zs.take (k + 1)) := by
  rw [take_snoc zs k h, total_snoc]


set_option maxHeartbeats 400000 in
theorem sum_at (b off n cap : Nat) (zs : List Int) (hn : n = zs.length) (hw : ∀ x ∈ zs, Wd x) (hm : n ≤ maxLen) (w : World)
    (hc : ∀ i, i < zs.length → w.cell? ⟨b, off + i, none⟩ = some (.int .u64 (zs.getD i 0))) :
    Calls Try.prog 24 #[.slice (some ⟨b, off, none⟩) n cap] w fun e w' => e = .returned (.int .u64 (total zs)) ∧ w = w' := by
  subst hn
  unfold maxLen at hm
  have HC := Lib.hid hc; clear hc
  have HW := Lib.hid hw; clear hw
  go_enter Try.func24, Try.ntmps24
  go_wp2
  go_loop [3, 8] (fun s i => ∃ k : Nat, k ≤ zs.length ∧ i = .int .i64 k ∧ s = .int .u64 (total (zs.take k))) (fun _ i => zs.length - (intOf i).toNat)
  case atStart => exact ⟨0, Nat.zero_le _, rfl, rfl⟩
  case round =>
    obtain ⟨k, hk, rfl, rfl⟩ := hrel
    obtain ⟨t0, t1⟩ := total_wd (zs.take k) (fun x hx => (HW.out x (List.mem_of_mem_take hx)).1)
    by_cases hlt : k < zs.length
    · have hcell := HC.out k (by omega)
      obtain ⟨x0, x1⟩ := HW.out (zs.getD k 0) (by rw [List.getD_eq_getElem?_getD, List.getElem?_eq_getElem (by omega : k < zs.length)]; exact List.getElem_mem _)
      have HT := Lib.hid (total_take zs k (by omega))
      generalize zs.getD k 0 = x at *
      go_wp2_with fail
      refine (sat_add _ _ t0 t1 x0 x1 _).mono ?_
      rintro e w' ⟨rfl, rfl⟩
      rw [HT.out]
      go_wp2
      go_round
      case rel => exact ⟨k + 1, by omega, by go_num, rfl⟩
      case measure => simp [intOf]; omega
    · have e : zs.take k = zs := List.take_of_length_le (by omega)
      have E := Lib.hid e; clear e
      go_wp2
      go_ret
      exact ⟨by rw [E.out]; rfl, rfl⟩

theorem sum_none (a : Option Addr) (cap : Nat) (w : World) :
    Calls Try.prog 24 #[.slice a 0 cap] w fun e w' => e = .returned (.int .u64 0) ∧ w = w' := by
  go_enter Try.func24, Try.ntmps24
  go_wp2
  refine wp_loop_rounds 1 ?_
  rw [rounds_succ]
  go_wp2
  go_ret
  exact ⟨rfl, rfl⟩

set_option maxHeartbeats 400000 in
theorem refsum_at (b off n cap : Nat) (zs : List Int) (hn : n = zs.length) (hw : ∀ x ∈ zs, Wd x) (hm : n ≤ maxLen) (w : World) (hb : b < w.heap.size)
    (hc : ∀ i, i < zs.length → w.cell? ⟨b, off + i, none⟩ = some (.int .u64 (zs.getD i 0))) :
    Calls Try.prog 25 #[.slice (some ⟨b, off, none⟩) n cap] w fun e w' => e = .returned (.int .u64 (total zs)) ∧ Below w.heap.size w w' := by
  subst hn
  unfold maxLen at hm
  have HC := Lib.hid hc; clear hc
  have HW := Lib.hid hw; clear hw
  go_enter Try.func25, Try.ntmps25
  go_wp2
  go_loopw [3, 4] (fun s i wr => ∃ k : Nat, k ≤ zs.length ∧ i = .int .i64 k ∧ s = .int .u64 (total (zs.take k)) ∧ Below w.heap.size w wr) (fun _ i _ => zs.length - (intOf i).toNat)
  case atStart => exact ⟨0, Nat.zero_le _, rfl, rfl, Below.refl _ _⟩
  case round =>
    obtain ⟨k, hk, rfl, rfl, hr⟩ := hrel
    obtain ⟨t0, t1⟩ := total_wd (zs.take k) (fun x hx => (HW.out x (List.mem_of_mem_take hx)).1)
    by_cases hlt : k < zs.length
    · have hcell := (hr.cell (p := ⟨b, off + k, none⟩) hb).trans (HC.out k (by omega))
      obtain ⟨x0, x1⟩ := HW.out (zs.getD k 0) (by rw [List.getD_eq_getElem?_getD, List.getElem?_eq_getElem (by omega : k < zs.length)]; exact List.getElem_mem _)
      have HT := Lib.hid (total_take zs k (by omega))
      generalize zs.getD k 0 = x at *
      go_wp2_with fail
      refine (add_ref _ _ t0 t1 x0 x1 _).mono ?_
      rintro e w' ⟨rfl, hc2⟩
      rw [HT.out]
      go_wp2
      go_roundw
      case rel => exact ⟨k + 1, by omega, by go_num, rfl, hr.trans (hc2.mono hr.size)⟩
      case measure => simp [intOf]; omega
    · have e : zs.take k = zs := List.take_of_length_le (by omega)
      have E := Lib.hid e; clear e
      go_wp2
      go_ret
      exact ⟨by rw [E.out]; rfl, hr⟩

theorem sum_lit (w : World) (o : Nat) (h : o < w.heap.size) (hc0 : w.cell? ⟨o, 0, none⟩ = some (.int .u64 1)) (hc1 : w.cell? ⟨o, 1, none⟩ = some (.int .u64 2)) (hc2 : w.cell? ⟨o, 2, none⟩ = some (.int .u64 3)) :
    Calls Try.prog 24 #[.slice (some ⟨o, 0, none⟩) 3 3] w fun e w' => e = .returned (.int .u64 6) ∧ w = w' :=
  sum_at o 0 3 3 [1, 2, 3] rfl (by intro x hx; simp at hx; unfold Wd; omega) (by decide) w (by
    intro i hi
    match i, hi with
    | 0, _ => simpa using hc0
    | 1, _ => simpa using hc1
    | 2, _ => simpa using hc2)

theorem refsum_none (a : Option Addr) (cap : Nat) (w : World) :
    Calls Try.prog 25 #[.slice a 0 cap] w fun e w' => e = .returned (.int .u64 0) ∧ w = w' := by
  go_enter Try.func25, Try.ntmps25
  go_wp2
  refine wp_loop_rounds 1 ?_
  rw [rounds_succ]
  go_wp2
  go_ret
  exact ⟨rfl, rfl⟩

theorem lives1 (w : World) : Calls Try.prog 23 #[] w fun e w' => e = .returned (.bool true) ∧ Below w.heap.size w w' := by
  have c1 : cap 18446744073709551619 = 18446744073709551615 := by decide
  have c2 : mdiv 9223372036854775808 6 4 = 13835058055282163712 := by decide
  have c3 : up 7 3 = 3 := by decide
  have C1 := Lib.hid c1; have C2 := Lib.hid c2; have C3 := Lib.hid c3; clear c1 c2 c3
  go_enter Try.func23, Try.ntmps23
  go_wp2_with fail
  refine (sat_add _ _ (by decide) (by decide) (by decide) (by decide) _).mono ?_
  rintro e w' ⟨rfl, rfl⟩
  rw [show (18446744073709551614 : Int) + 5 = 18446744073709551619 from rfl, C1.out]
  go_wp2_with fail
  refine (sat_muldiv _ _ _ (by decide) (by decide) (by decide) (by decide) (by decide) (by decide) _).mono ?_
  rintro e w' ⟨n, rfl, rfl⟩
  rw [C2.out]
  go_wp2_with fail
  refine (sat_divup _ _ (by decide) (by decide) (by decide) (by decide) _).mono ?_
  rintro e w' ⟨rfl, rfl⟩
  rw [C3.out]
  go_wp2_with fail
  refine (sum_lit _ _ (by simp) (by simp [go_sem]) (by simp [go_sem]) (by simp [go_sem])).mono ?_
  rintro e w' ⟨rfl, rfl⟩
  go_wp2_with fail
  refine (sat_under _ _ _ _ (by decide) (by decide) (by decide) (by decide) (by decide) (by decide) (by decide) (by decide) _).mono ?_
  rintro e w' ⟨rfl, rfl⟩
  go_wp2
  go_ret
  exact ⟨rfl, by
    repeat' (first
      | (with_reducible exact Below.refl _ _) | (with_reducible assumption) | (with_reducible refine Below.alloc ?_ ?_ _) | (with_reducible refine below_drewN _ ?_) | (with_reducible refine Below.drew ?_) | (with_reducible refine Below.setCell ?_ ?_ _) | go_size)⟩
end Go.Proofs.Ytbgpjdbmjdlpkaa
