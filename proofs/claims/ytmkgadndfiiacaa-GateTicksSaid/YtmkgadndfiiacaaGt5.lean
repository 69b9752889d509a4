/-
  Layer 22, the document's answer: whether a class is always open. No condition but that the plan may be, and that there is such a class.
-/
import Derived.Test.YtmkgadndfiiacaaGt4
namespace Go.Proofs.Ytmkgadndfiiacaa
set_option linter.unusedVariables false
set_option linter.unusedSimpArgs false
open Go.ChangeShapes Go.WideShapes Go.ChangeAt Go.RowKit
attribute [local go_sem] alloc_drewN setCell_drewN

/-- A class that is open in all slots. -/
def AllOpen (fs : List Slot22) (n cl : Nat) : Prop := ∀ i, i < n → opn fs cl i = true
instance (fs : List Slot22) (n cl : Nat) : Decidable (AllOpen fs n cl) := inferInstanceAs (Decidable (∀ i, i < n → opn fs cl i = true))
theorem slot_start {fs : List Slot22} {n : Nat} (hok : PlanOk fs n) {i : Nat} (hi : i < n) : InSlot fs n (spans fs i % spans fs n) i := by
  have h1 := spans_mono hok.2 (i := i + 1) (j := n) (by omega) (Nat.le_refl _)
  have h2 : spans fs i < spans fs (i + 1) := by have := (hok.2 i hi).1; simp only [spans]; omega
  have h0 := (spans_nn hok.2 i (by omega)).1
  rw [Int.emod_eq_of_lt (by omega) (by omega)]
  exact ⟨hi, Int.le_refl _, h2⟩
set_option maxHeartbeats 1000000 in
theorem ralways22 {w : World} {a : Option Addr} {n : Nat} {fs : List Slot22} (hr : RowSl w a n fs) (c : Nat) (hok : PlanOk fs n) (cl : Nat) (hcl : cl ≤ 7) :
    Calls Try.prog 34 #[.slice a n c, .int .i64 cl] w fun e w' => e = .returned (.bool (decide (AllOpen fs n cl))) ∧ w' = w := by
  have HR := Lib.hid hr
  have IS := Lib.hid (fun (i : Nat) (hi : i < n) => ris22 hr c hok cl hcl (spans fs i) (by have := (spans_nn hok.2 i (by omega)).1; omega) (by have := (spans_nn hok.2 i (by omega)).2; have := hok.1.2; omega) (slot_start hok hi))
  have SN := Lib.hid (spans_nn hok.2)
  have hn : n ≤ 64 := hok.1.2
  clear hr hok
  go_enter Try.func34, Try.ntmps34
  go_wp2
  go_loopw [5, 6] (fun v z wr => ∃ i : Nat, i ≤ n ∧ v = .int .u64 (spans fs i) ∧ z = .int .i64 i ∧ wr = w ∧ Hid (∀ k, k < i → opn fs cl k = true)) (fun _ z _ => n - (intOf z).toNat)
  case atStart => exact ⟨0, Nat.zero_le _, rfl, rfl, rfl, Lib.hid (fun k hk => absurd hk (Nat.not_lt_zero _))⟩
  case round =>
    obtain ⟨i, hi, rfl, rfl, rfl, HG⟩ := hrel
    have z0 : (0 : Int) ≤ i := by omega
    by_cases hlt : i < n
    · have z1 : (i : Int) < n := by omega
      obtain ⟨b, off, rfl, hb, c0, c1⟩ := HR.out.atS (Below.refl _ _) i hlt
      obtain ⟨-, s0, s1⟩ := HR.out.okS i hlt
      obtain ⟨t0_, t1_⟩ := SN.out i (by omega)
      obtain ⟨t2, t3⟩ := SN.out (i + 1) (by omega)
      have e : spans fs (i + 1) = spans fs i + (slotN fs i).s := rfl
      have IC := Lib.hid (IS.out i hlt)
      obtain ⟨S, hS⟩ : ∃ S, spans fs i = S := ⟨_, rfl⟩
      obtain ⟨y, hy⟩ : ∃ y, (slotN fs i).s = y := ⟨_, rfl⟩
      rw [e] at t2 t3
      rw [hS] at t0_ t1_ t2 t3 IC ⊢
      rw [hy] at c1 s0 s1 t2 t3
      have HE2 : Hid (spans fs (i + 1) = S + y) := Lib.hid (by rw [e, hS, hy])
      clear c0 hS hy e
      have u0 : 0 ≤ S := by omega
      have u1 : S + y ≤ 18446744073709551615 := by omega
      cases ho : opn fs cl i with
      | true =>
        rw [ho] at IC
        have HH : Hid (∀ k, k < i + 1 → opn fs cl k = true) := Lib.hid (fun k hk => by
          by_cases e : k = i
          · rw [e]; exact ho
          · exact HG.out k (by omega))
        clear ho
        go_wp2_with fail
        refine IC.out.mono ?_
        rintro e w1 ⟨rfl, rfl⟩
        clear IC
        go_wp2
        go_roundw
        case rel => exact ⟨i + 1, by omega, by rw [HE2.out], by go_num, by first | rfl | trivial, HH⟩
        case measure => simp [intOf] <;> omega
      | false =>
        rw [ho] at IC
        have HD : Hid (decide (AllOpen fs n cl) = false) := Lib.hid (decide_eq_false (fun h => by have := h i hlt; rw [ho] at this; cases this))
        clear ho
        go_wp2_with fail
        refine IC.out.mono ?_
        rintro e w1 ⟨rfl, rfl⟩
        clear IC
        go_wp2
        go_ret
        exact ⟨show Ending.returned (.bool false) = _ by rw [HD.out], rfl⟩
    · obtain rfl : i = n := by omega
      have z1 : ¬ (i : Int) < i := by omega
      have HD : Hid (decide (AllOpen fs i cl) = true) := Lib.hid (decide_eq_true HG.out)
      go_wp2
      go_ret
      exact ⟨show Ending.returned (.bool true) = _ by rw [HD.out], rfl⟩
end Go.Proofs.Ytmkgadndfiiacaa
