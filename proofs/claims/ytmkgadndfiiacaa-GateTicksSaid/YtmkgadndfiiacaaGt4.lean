/-
  Layer 22, the document's answer: whether a class is open at a time, and whether it always is. No condition but that the plan may be, and that there is such a class.
-/
import Derived.Test.YtmkgadndfiiacaaGt3
namespace Go.Proofs.Ytmkgadndfiiacaa
set_option linter.unusedVariables false
set_option linter.unusedSimpArgs false
open Go.ChangeShapes Go.WideShapes Go.ChangeAt Go.RowKit
attribute [local go_sem] alloc_drewN setCell_drewN

/-- A number, halved so often. -/
def hlv (o : Int) : Nat → Int
  | 0 => o
  | i + 1 => hlv o i / 2
theorem hlv_wd {o : Int} (h0 : 0 ≤ o) (h1 : o ≤ 255) : ∀ i, 0 ≤ hlv o i ∧ hlv o i ≤ 255
  | 0 => ⟨h0, h1⟩
  | i + 1 => by
    obtain ⟨a, b⟩ := hlv_wd h0 h1 i
    simp only [hlv]
    omega
/-- Whether a class is open in a slot. -/
def opn (fs : List Slot22) (cl k : Nat) : Bool := decide (hlv (slotN fs k).o cl % 2 = 1)
set_option maxHeartbeats 1000000 in
theorem ris22 {w : World} {a : Option Addr} {n : Nat} {fs : List Slot22} (hr : RowSl w a n fs) (c : Nat) (hok : PlanOk fs n) (cl : Nat) (hcl : cl ≤ 7) (t : Int) (t0 : 0 ≤ t) (t1 : t ≤ 18446744073709551615) {k : Nat} (hk : InSlot fs n (t % spans fs n) k) :
    Calls Try.prog 91 #[.slice a n c, .int .i64 cl, .int .u64 t] w fun e w' => e = .returned (.bool (opn fs cl k)) ∧ w' = w := by
  have HR := Lib.hid hr
  have SL := Lib.hid (rslot22 hr c hok t t0 t1 hk)
  obtain ⟨k0, -, -⟩ := hk
  have hn : n ≤ 64 := hok.1.2
  clear hr hok
  unfold opn
  obtain ⟨b, off, rfl, hb, c0, c1⟩ := HR.out.atS (Below.refl _ _) k k0
  obtain ⟨⟨o0, o1⟩, -, -⟩ := HR.out.okS k k0
  obtain ⟨o, ho⟩ : ∃ o, (slotN fs k).o = o := ⟨_, rfl⟩
  rw [ho] at c0 o0 o1 ⊢
  generalize spans fs (k + 1) = E at *
  have WD := Lib.hid (hlv_wd o0 o1)
  have z0 : (0 : Int) ≤ k := by omega
  have z1 : (k : Int) < n := by omega
  clear c1 ho HR
  go_enter Try.func91, Try.ntmps91
  go_wp2_with fail
  refine SL.out.mono ?_
  rintro e w1 ⟨rfl, rfl⟩
  clear SL
  go_wp2
  clear c0 z0 z1
  go_loopw [9, 10] (fun v z wr => ∃ i : Nat, i ≤ cl ∧ v = .int .u8 (hlv o i) ∧ z = .int .i64 i ∧ wr = w1) (fun _ z _ => cl - (intOf z).toNat)
  case atStart => exact ⟨0, Nat.zero_le _, rfl, rfl, rfl⟩
  case round =>
    obtain ⟨i, hi, rfl, rfl, rfl⟩ := hrel
    obtain ⟨d0, d1⟩ := WD.out i
    have z0 : (0 : Int) ≤ i := by omega
    by_cases hlt : i < cl
    · have z1 : (i : Int) < cl := by omega
      have HE : Hid (hlv o (i + 1) = hlv o i / 2) := Lib.hid rfl
      obtain ⟨y, hy⟩ : ∃ y, hlv o i = y := ⟨_, rfl⟩
      rw [hy] at d0 d1 HE ⊢
      have q : y.tdiv 2 = y / 2 := Int.tdiv_eq_ediv_of_nonneg d0
      clear hy
      go_wp2
      go_roundw
      case rel => exact ⟨i + 1, by omega, by rw [HE.out], by go_num, by first | rfl | trivial⟩
      case measure => simp [intOf] <;> omega
    · obtain rfl : i = cl := by omega
      have z1 : ¬ (i : Int) < i := by omega
      obtain ⟨y, hy⟩ : ∃ y, hlv o i = y := ⟨_, rfl⟩
      rw [hy] at d0 d1 ⊢
      have q : y.tmod 2 = y % 2 := Int.tmod_eq_emod_of_nonneg d0
      have HY := Lib.hid hy
      clear hy
      by_cases hb2 : y % 2 = 1
      · have HD : Hid (decide (hlv o i % 2 = 1) = true) := Lib.hid (by rw [HY.out]; exact decide_eq_true hb2)
        have g : (y % 2 == 1) = true := by simp [hb2]
        go_wp2
        go_ret
        exact ⟨show Ending.returned (.bool true) = _ by rw [HD.out], rfl⟩
      · have HD : Hid (decide (hlv o i % 2 = 1) = false) := Lib.hid (by rw [HY.out]; exact decide_eq_false hb2)
        have g : (y % 2 == 1) = false := by simp [hb2]
        go_wp2
        go_ret
        exact ⟨show Ending.returned (.bool false) = _ by rw [HD.out], rfl⟩
end Go.Proofs.Ytmkgadndfiiacaa
