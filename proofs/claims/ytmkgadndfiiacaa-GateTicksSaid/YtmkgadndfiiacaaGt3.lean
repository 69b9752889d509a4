/-
  Layer 22, the document's answer: the slot of a time, whether a class is open then, and whether it always is. No condition but that the plan may be.
-/
import Derived.Test.YtmkgadndfiiacaaGt2
namespace Go.Proofs.Ytmkgadndfiiacaa
set_option linter.unusedVariables false
set_option linter.unusedSimpArgs false
open Go.ChangeShapes Go.WideShapes Go.ChangeAt Go.RowKit
attribute [local go_sem] alloc_drewN setCell_drewN

theorem spans_mono {fs : List Slot22} {n : Nat} (h : ∀ i, i < n → (slotN fs i).good) : ∀ {j i : Nat}, i ≤ j → j ≤ n → spans fs i ≤ spans fs j
  | 0, i, hij, _ => by obtain rfl : i = 0 := by omega
                       exact Int.le_refl _
  | j + 1, i, hij, hj => by
    by_cases e : i = j + 1
    · rw [e]; exact Int.le_refl _
    · have h1 := spans_mono h (j := j) (i := i) (by omega) (by omega)
      have h2 := (h j (by omega)).1
      simp only [spans]
      omega
/-- The slot in which a time of the round lies. -/
def InSlot (fs : List Slot22) (n : Nat) (t : Int) (k : Nat) : Prop := k < n ∧ spans fs k ≤ t ∧ t < spans fs (k + 1)
theorem slot_is {fs : List Slot22} {t : Int} (h0 : 0 ≤ t) : ∀ {n : Nat}, t < spans fs n → ∃ k, InSlot fs n t k
  | 0, h => by simp only [spans] at h; omega
  | n + 1, h => by
    by_cases e : t < spans fs n
    · obtain ⟨k, h1, h2⟩ := slot_is h0 e
      exact ⟨k, by omega, h2⟩
    · exact ⟨n, by omega, by omega, h⟩
theorem slot_one {fs : List Slot22} {n : Nat} (h : ∀ i, i < n → (slotN fs i).good) {t : Int} {j k : Nat} (hj : InSlot fs n t j) (hk : InSlot fs n t k) : j = k := by
  obtain ⟨a1, a2, a3⟩ := hj
  obtain ⟨b1, b2, b3⟩ := hk
  rcases Nat.lt_trichotomy j k with e | e | e
  · have := spans_mono h (i := j + 1) (j := k) (by omega) (by omega); omega
  · exact e
  · have := spans_mono h (i := k + 1) (j := j) (by omega) (by omega); omega
theorem round_pos {fs : List Slot22} {n : Nat} (h : PlanOk fs n) : 1 ≤ spans fs n ∧ spans fs n ≤ 274877906944 := by
  obtain ⟨h1, h2⟩ := spans_nn h.2 n (Nat.le_refl _)
  have := h.1
  omega
set_option maxHeartbeats 1000000 in
theorem rslot22 {w : World} {a : Option Addr} {n : Nat} {fs : List Slot22} (hr : RowSl w a n fs) (c : Nat) (hok : PlanOk fs n) (t : Int) (t0 : 0 ≤ t) (t1 : t ≤ 18446744073709551615) {k : Nat} (hk : InSlot fs n (t % spans fs n) k) :
    Calls Try.prog 32 #[.slice a n c, .int .u64 t] w fun e w' => e = .returned (.tuple #[.int .i64 k, .int .u64 (spans fs (k + 1))]) ∧ w' = w := by
  have HR := Lib.hid hr
  have RD := Lib.hid (rround22 hr c hok)
  have SN := Lib.hid (spans_nn hok.2)
  have SM := Lib.hid (fun (i : Nat) (hi : i < k) => spans_mono hok.2 (i := i + 1) (j := k) (by omega) (by have := hk.1; omega))
  obtain ⟨p0, p1⟩ := round_pos hok
  have hn : n ≤ 64 := hok.1.2
  obtain ⟨k0, k1, k2⟩ := hk
  clear hr hok
  have em : t.tmod (spans fs n) = t % spans fs n := Int.tmod_eq_emod_of_nonneg t0
  have m0 : 0 ≤ t % spans fs n := Int.emod_nonneg _ (by omega)
  have m1 : t % spans fs n < spans fs n := Int.emod_lt_of_pos _ (by omega)
  obtain ⟨m, hm⟩ : ∃ m, t % spans fs n = m := ⟨_, rfl⟩
  rw [hm] at em m0 m1 k1 k2
  obtain ⟨R, hR⟩ : ∃ R, spans fs n = R := ⟨_, rfl⟩
  rw [hR] at RD em p0 p1 m1
  clear hm hR
  have p2 : ¬ R = 0 := by omega
  go_enter Try.func32, Try.ntmps32
  go_wp2_with fail
  refine RD.out.mono ?_
  rintro e w1 ⟨rfl, rfl⟩
  clear RD
  go_wp2
  go_loopw [6, 7] (fun v z wr => ∃ i : Nat, i ≤ k ∧ v = .int .u64 (spans fs i) ∧ z = .int .i64 i ∧ wr = w1) (fun _ z _ => n - (intOf z).toNat)
  case atStart => exact ⟨0, Nat.zero_le _, rfl, rfl, rfl⟩
  case round =>
    obtain ⟨i, hi, rfl, rfl, rfl⟩ := hrel
    have z0 : (0 : Int) ≤ i := by omega
    have z1 : (i : Int) < n := by omega
    obtain ⟨b, off, rfl, hb, c0, c1⟩ := HR.out.atS (Below.refl _ _) i (by omega)
    obtain ⟨-, s0, s1⟩ := HR.out.okS i (by omega)
    obtain ⟨t0_, t1_⟩ := SN.out i (by omega)
    obtain ⟨t2, t3⟩ := SN.out (i + 1) (by omega)
    have e : spans fs (i + 1) = spans fs i + (slotN fs i).s := rfl
    have HE := Lib.hid e
    by_cases hik : i = k
    · subst hik
      obtain ⟨S, hS⟩ : ∃ S, spans fs i = S := ⟨_, rfl⟩
      obtain ⟨y, hy⟩ : ∃ y, (slotN fs i).s = y := ⟨_, rfl⟩
      rw [e] at k2 t2 t3
      rw [hS] at t0_ t1_ k1 k2 t2 t3 ⊢
      rw [hy] at c1 s0 s1 k2 t2 t3
      have HE2 : Hid (spans fs (i + 1) = S + y) := Lib.hid (by rw [e, hS, hy])
      clear c0 hS hy e HE
      have u0 : 0 ≤ S := by omega
      have u1 : S + y ≤ 18446744073709551615 := by omega
      go_wp2
      go_ret2
      exact ⟨show Ending.returned (.tuple #[.int .i64 i, .int .u64 (S + y)]) = _ by rw [HE2.out], rfl⟩
    · have sm := SM.out i (by omega)
      obtain ⟨S, hS⟩ : ∃ S, spans fs i = S := ⟨_, rfl⟩
      obtain ⟨y, hy⟩ : ∃ y, (slotN fs i).s = y := ⟨_, rfl⟩
      rw [e] at sm t2 t3
      rw [hS] at t0_ t1_ sm t2 t3 ⊢
      rw [hy] at c1 s0 s1 sm t2 t3
      have HE2 : Hid (spans fs (i + 1) = S + y) := Lib.hid (by rw [e, hS, hy])
      clear c0 hS hy e HE
      have u0 : 0 ≤ S := by omega
      have u1 : S + y ≤ 18446744073709551615 := by omega
      have u2 : ¬ m < S + y := by omega
      clear sm k1 k2
      go_wp2
      go_roundw
      case rel => exact ⟨i + 1, by omega, by rw [HE2.out], by go_num, by first | rfl | trivial⟩
      case measure => simp [intOf] <;> omega
end Go.Proofs.Ytmkgadndfiiacaa
