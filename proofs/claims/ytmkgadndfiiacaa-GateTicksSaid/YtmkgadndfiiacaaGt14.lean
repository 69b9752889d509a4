/-
  The law on rounds: true for any plan. No condition.
-/
import Derived.Test.YtmkgadndfiiacaaGt13
namespace Go.Proofs.Ytmkgadndfiiacaa
set_option linter.unusedVariables false
set_option linter.unusedSimpArgs false
open Go.ChangeShapes Go.WideShapes Go.ChangeAt Go.RowKit
attribute [local go_sem] alloc_drewN setCell_drewN

theorem may22 {w : World} {a : Option Addr} {n : Nat} {fs : List Slot22} (hr : RowSl w a n fs) (c : Nat) (cl : Int) :
    Calls Try.prog 29 #[.slice a n c, .int .i64 cl] w fun e w' => e = .returned (.bool (decide (PlanOk fs n ∧ 0 ≤ cl ∧ cl ≤ 7))) ∧ w' = w := by
  have MY := Lib.hid (rmay22 hr c)
  clear hr
  go_enter Try.func29, Try.ntmps29
  by_cases hok : PlanOk fs n
  · rw [decide_eq_true hok] at MY
    go_wp2_with fail
    refine MY.out.mono ?_
    rintro e w1 ⟨rfl, rfl⟩
    by_cases h1 : 0 ≤ cl
    · go_wp2
      go_ret
      simp [hok, h1]
    · have h2 : ¬ (PlanOk fs n ∧ 0 ≤ cl ∧ cl ≤ 7) := fun h => h1 h.2.1
      go_wp2
      go_ret
      simp [h1]
      omega
  · rw [decide_eq_false hok] at MY
    have h2 : ¬ (PlanOk fs n ∧ 0 ≤ cl ∧ cl ≤ 7) := fun h => hok h.1
    go_wp2_with fail
    refine MY.out.mono ?_
    rintro e w1 ⟨rfl, rfl⟩
    go_wp2
    go_ret
    simp [h2]
set_option maxHeartbeats 2000000 in
theorem walk_gateRound (a : Option Addr) (n c : Nat) (fs : List Slot22) {w : World} (hr : RowSl w a n fs) (hcap : n ≤ c) (cl : Int) (cl0 : -9223372036854775808 ≤ cl) (cl1 : cl ≤ 9223372036854775807) (at_ : Int) (at0 : 0 ≤ at_) (at1 : at_ ≤ 18446744073709551615) (need : Int) (need0 : 0 ≤ need) (need1 : need ≤ 18446744073709551615) (rd : Int) (rd0 : 0 ≤ rd) (rd1 : rd ≤ 255) :
    Calls Try.prog 5 #[.slice a n c, .agg #[.int .i64 cl, .int .u64 at_, .int .u64 need], .int .u8 rd] w fun e w' => e = .returned (.bool true) ∧ Below w.heap.size w w' := by
  have MY := Lib.hid (fun (W : World) (h : Below w.heap.size w W) => may22 (hr.below h) c cl)
  have LV := Lib.hid (fun W => lives22 W)
  have HR := Lib.hid hr
  clear hr
  go_enter Try.func5, Try.ntmps5
  by_cases hmay : PlanOk fs n ∧ 0 ≤ cl ∧ cl ≤ 7
  · simp only [decide_eq_true hmay] at MY
    obtain ⟨hok, c0, c1⟩ := hmay
    obtain ⟨k, rfl⟩ : ∃ k : Nat, cl = k := ⟨cl.toNat, by omega⟩
    have hk7 : k ≤ 7 := by omega
    obtain ⟨rp0, rp1⟩ := round_pos hok
    obtain ⟨am, ham⟩ : ∃ am, at_ % 4294967296 = am := ⟨_, rfl⟩
    have am0 : 0 ≤ am := by omega
    have am1 : am < 4294967296 := by omega
    have ht : at_.tmod 4294967296 = am := by rw [Int.tmod_eq_emod_of_nonneg at0]; exact ham
    obtain ⟨k0, hk0⟩ := slot_is (fs := fs) (t := am % spans fs n) (Int.emod_nonneg _ (by omega)) (n := n) (Int.emod_lt_of_pos _ (by omega))
    obtain ⟨jS, vS, bS, hS⟩ := stays_ex (cl := k) hok hk0 (spans fs n)
    obtain ⟨jN, bN, gN, hN⟩ := next_ex (cl := k) hok hk0 (spans fs n) (min (max need 1) (spans fs n)) (by omega) (by omega)
    have hgb : 0 ≤ gN ∧ gN ≤ 274877906944 := by
      rcases hN with ⟨h1, ⟨-, -, -, h2⟩ | ⟨-, -, -, h2⟩⟩
      · have q1 := (st_lt (R := spans fs n) (E := min (max need 1) (spans fs n)) (by omega) (by omega) jN h1).1
        have q2 := (st_sum k hok hk0 jN).2.1
        omega
      · omega
    obtain ⟨R, hR⟩ : ∃ R, spans fs n = R := ⟨_, rfl⟩
    obtain ⟨M, hM⟩ : ∃ M, rd * R = M := ⟨_, rfl⟩
    have hM0 : 0 ≤ M ∧ M ≤ 70093866270720 := by
      rw [← hM, ← hR]
      constructor
      · exact Int.mul_nonneg rd0 (by omega)
      · calc rd * spans fs n ≤ 255 * spans fs n := Int.mul_le_mul_of_nonneg_right rd1 (by omega)
          _ ≤ 255 * 274877906944 := Int.mul_le_mul_of_nonneg_left rp1 (by decide)
          _ = 70093866270720 := by decide
    have hbm : (am + M) % spans fs n = am % spans fs n := by rw [← hM, hR, Int.add_mul_emod_self_right]
    have HR2 := Lib.hid (fun (W : World) (h : Below w.heap.size w W) => HR.out.below h)
    have RD := Lib.hid (fun (W : World) (h : Below w.heap.size w W) => (ground22 (HR.out.below h) c hok))
    obtain ⟨B, hB⟩ : ∃ B, am + M = B := ⟨_, rfl⟩
    have hB0 : 0 ≤ B ∧ B ≤ 70098161238015 := by omega
    rw [hB] at hbm
    have SA := Lib.hid (fun (W : World) (h : Below w.heap.size w W) => gstays22 (c := c) (HR.out.below h) hok k hk7 am am0 (by omega) hk0 hS)
    have SB := Lib.hid (fun (W : World) (h : Below w.heap.size w W) => gstays22 (c := c) (HR.out.below h) hok k hk7 B hB0.1 (by omega) (by rw [hbm]; exact hk0) (by rw [hbm]; exact hS))
    have OA := Lib.hid (fun (W : World) (h : Below w.heap.size w W) => gopen22 (c := c) (HR.out.below h) hok am am0 (by omega) hk0)
    have OB := Lib.hid (fun (W : World) (h : Below w.heap.size w W) => gopen22 (c := c) (HR.out.below h) hok B hB0.1 (by omega) (by rw [hbm]; exact hk0))
    obtain ⟨u, v, huv, NA, NB⟩ : ∃ u v : Int, ((bN = true ∧ u = am + gN ∧ v = B + gN) ∨ (bN = false ∧ u = 0 ∧ v = 0)) ∧
        Hid (∀ W : World, Below w.heap.size w W → Calls Try.prog 28 #[.slice a n c, .int .i64 k, .int .u64 am, .int .u64 need] W fun e w' => e = .returned (.tuple #[.int .u64 u, .bool bN]) ∧ Below W.heap.size W w') ∧
        Hid (∀ W : World, Below w.heap.size w W → Calls Try.prog 28 #[.slice a n c, .int .i64 k, .int .u64 B, .int .u64 need] W fun e w' => e = .returned (.tuple #[.int .u64 v, .bool bN]) ∧ Below W.heap.size W w') := by
      cases hbN : bN with
      | true =>
        rw [hbN] at hN
        exact ⟨am + gN, B + gN, Or.inl ⟨rfl, rfl, rfl⟩, Lib.hid (fun W h => gnext22 (c := c) (HR.out.below h) hok k hk7 am am0 (by omega) need need0 need1 hk0 hN (Or.inl ⟨rfl, by omega, rfl, rfl⟩)),
          Lib.hid (fun W h => gnext22 (c := c) (HR.out.below h) hok k hk7 B hB0.1 (by omega) need need0 need1 (by rw [hbm]; exact hk0) (by rw [hbm]; exact hN) (Or.inl ⟨rfl, by omega, rfl, rfl⟩))⟩
      | false =>
        rw [hbN] at hN
        exact ⟨0, 0, Or.inr ⟨rfl, rfl, rfl⟩, Lib.hid (fun W h => gnext22 (c := c) (HR.out.below h) hok k hk7 am am0 (by omega) need need0 need1 hk0 hN (Or.inr (Or.inr ⟨rfl, rfl, rfl⟩))),
          Lib.hid (fun W h => gnext22 (c := c) (HR.out.below h) hok k hk7 B hB0.1 (by omega) need need0 need1 (by rw [hbm]; exact hk0) (by rw [hbm]; exact hN) (Or.inr (Or.inr ⟨rfl, rfl, rfl⟩)))⟩
    simp only [hR] at RD
    obtain ⟨o, ho⟩ : ∃ o, (slotN fs k0).o = o := ⟨_, rfl⟩
    simp only [ho] at OA OB
    clear hS hN hk0 hok hbm ho hR
    go_wp2_with fail
    go_quiet (fail)
    obtain ⟨W1, hW1⟩ : ∃ W1, W1 = (w.alloc (.cells #[.int .i64 (k), .int .u64 at_, .int .u64 need] 55)).drewN nq := ⟨_, rfl⟩
    have hb1 : Below w.heap.size w W1 := by rw [hW1]; exact below_drewN _ ((Below.refl _ w).alloc (Nat.le_refl _) _)
    have ha1 : W1.heap[w.heap.size]? = some (.cells #[.int .i64 (k), .int .u64 at_, .int .u64 need] 55 (0, 0)) := by rw [hW1]; exact heap_alloc_new w _
    rw [← hW1]
    clear hW1
    have HB1 := Lib.hid hb1
    have MY1 := Lib.hid (MY.out _ hb1)
    obtain ⟨c0_, c1_, c2_, -, -, -⟩ := at3 ha1
    have HA1 := Lib.hid ha1
    clear hb1 ha1 MY
    go_wp2_with fail
    refine MY1.out.mono ?_
    rintro e W2 ⟨rfl, rfl⟩
    go_wp2_with fail
    refine (RD.out _ HB1.out).mono ?_
    rintro e W3 ⟨rfl, hb3⟩
    have HB3 := Lib.hid (HB1.out.trans (hb3.mono HB1.out.size))
    have HA3 := Lib.hid ((hb3.block _ (Array.getElem?_eq_some_iff.1 HA1.out).1).trans HA1.out)
    clear hb3
    go_wp2_with fail
    refine (SA.out _ HB3.out).mono ?_
    rintro e W4 ⟨rfl, hb4⟩
    have HB4 := Lib.hid (HB3.out.trans (hb4.mono HB3.out.size))
    have HA4 := Lib.hid ((hb4.block _ (Array.getElem?_eq_some_iff.1 HA3.out).1).trans HA3.out)
    clear hb4
    go_wp2_with fail
    refine (SB.out _ HB4.out).mono ?_
    rintro e W5 ⟨rfl, hb5⟩
    have HB5 := Lib.hid (HB4.out.trans (hb5.mono HB4.out.size))
    have HA5 := Lib.hid ((hb5.block _ (Array.getElem?_eq_some_iff.1 HA4.out).1).trans HA4.out)
    clear hb5
    go_wp2_with fail
    refine (NA.out _ HB5.out).mono ?_
    rintro e W6 ⟨rfl, hb6⟩
    have HB6 := Lib.hid (HB5.out.trans (hb6.mono HB5.out.size))
    have HA6 := Lib.hid ((hb6.block _ (Array.getElem?_eq_some_iff.1 HA5.out).1).trans HA5.out)
    clear hb6
    go_wp2_with fail
    refine (NB.out _ HB6.out).mono ?_
    rintro e W7 ⟨rfl, hb7⟩
    have HB7 := Lib.hid (HB6.out.trans (hb7.mono HB6.out.size))
    have HA7 := Lib.hid ((hb7.block _ (Array.getElem?_eq_some_iff.1 HA6.out).1).trans HA6.out)
    clear hb7
    go_wp2_with fail
    refine (OA.out _ HB7.out).mono ?_
    rintro e W8 ⟨rfl, hb8⟩
    have HB8 := Lib.hid (HB7.out.trans (hb8.mono HB7.out.size))
    have HA8 := Lib.hid ((hb8.block _ (Array.getElem?_eq_some_iff.1 HA7.out).1).trans HA7.out)
    clear hb8
    go_wp2_with fail
    refine (OB.out _ HB8.out).mono ?_
    rintro e W9 ⟨rfl, hb9⟩
    have HB9 := Lib.hid (HB8.out.trans (hb9.mono HB8.out.size))
    have HA9 := Lib.hid ((hb9.block _ (Array.getElem?_eq_some_iff.1 HA8.out).1).trans HA8.out)
    clear hb9
    rcases huv with ⟨rfl, hu, hv⟩ | ⟨rfl, hu, hv⟩
    · have d1 : u - am = gN := by omega
      have d2 : v - B = gN := by omega
      have d3 : 0 ≤ u ∧ u ≤ 18446744073709551615 := by omega
      have d4 : 0 ≤ v ∧ v ≤ 18446744073709551615 := by omega
      clear hu hv
      go_wp2_with fail
      refine (LV.out _).mono ?_
      rintro e W10 ⟨rfl, hb10⟩
      have HB10 := Lib.hid (HB9.out.trans (hb10.mono HB9.out.size))
      clear hb10
      go_wp2
      go_ret
      exact ⟨rfl, HB10.out⟩
    · clear hu hv
      go_wp2_with fail
      refine (LV.out _).mono ?_
      rintro e W10 ⟨rfl, hb10⟩
      have HB10 := Lib.hid (HB9.out.trans (hb10.mono HB9.out.size))
      clear hb10
      go_wp2
      go_ret
      exact ⟨rfl, HB10.out⟩
  · simp only [decide_eq_false hmay] at MY
    clear hmay
    go_wp2_with fail
    go_quiet (fail)
    obtain ⟨W1, hW1⟩ : ∃ W1, W1 = (w.alloc (.cells #[.int .i64 (cl), .int .u64 at_, .int .u64 need] 55)).drewN nq := ⟨_, rfl⟩
    have hb1 : Below w.heap.size w W1 := by rw [hW1]; exact below_drewN _ ((Below.refl _ w).alloc (Nat.le_refl _) _)
    have ha1 : W1.heap[w.heap.size]? = some (.cells #[.int .i64 (cl), .int .u64 at_, .int .u64 need] 55 (0, 0)) := by rw [hW1]; exact heap_alloc_new w _
    rw [← hW1]
    clear hW1
    have HB1 := Lib.hid hb1
    have MY1 := Lib.hid (MY.out _ hb1)
    obtain ⟨c0_, c1_, c2_, -, -, -⟩ := at3 ha1
    have HA1 := Lib.hid ha1
    clear hb1 ha1 MY
    go_wp2_with fail
    refine MY1.out.mono ?_
    rintro e W2 ⟨rfl, rfl⟩
    go_wp2_with fail
    refine (LV.out _).mono ?_
    rintro e w2 ⟨rfl, hb⟩
    have HB := Lib.hid hb
    clear hb
    go_wp2
    go_ret
    exact ⟨rfl, HB1.out.trans (HB.out.mono HB1.out.size)⟩
end Go.Proofs.Ytmkgadndfiiacaa
