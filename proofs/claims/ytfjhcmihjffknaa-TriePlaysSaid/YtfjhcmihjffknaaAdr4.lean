/-
  Layer 31: which prefixes are right, what they have and cover, as the document's answer tells it: for any numbers. No condition.
-/
import Derived.Test.YtfjhcmihjffknaaAdr2
namespace Go.Proofs.Ytfjhcmihjffknaa
set_option linter.unusedVariables false
set_option linter.unusedSimpArgs false
open Go.ChangeShapes Go.WideShapes Go.ChangeAt Go.RowKit
attribute [local go_sem] alloc_drewN setCell_drewN

set_option maxRecDepth 100000 in
theorem rfirst_any (a : Int) (a0 : 0 ≤ a) (a1 : a ≤ 4294967295) (n : Int) (n0 : 0 ≤ n) (n1 : n ≤ 32) (w : World) :
    Calls Try.prog 71 #[.int .u32 a, .int .i64 n] w fun e w' => e = .returned (.int .u64 (a / (pw n : Int))) ∧ w' = w := by
  go_enter Try.func71, Try.ntmps71
  have g0 : IntKind.u64.wrap a = a := by rw [IntKind.wrap_u64]; omega
  go_wp2
  go_loop [5, 6] (fun v i => ∃ j : Nat, n + j ≤ 32 ∧ i = .int .i64 (n + j) ∧ v = .int .u64 (a / ((2 ^ j : Nat) : Int))) (fun _ i => 32 - (intOf i).toNat)
  case atStart => exact ⟨0, by omega, by simp, by simp⟩
  case round =>
    obtain ⟨j, hj, rfl, rfl⟩ := hrel
    by_cases hlt : n + j < 32
    · have e : a / ((2 ^ j : Nat) : Int) / 2 = a / ((2 ^ (j + 1) : Nat) : Int) := by
        rw [Int.ediv_ediv_of_nonneg (Int.natCast_nonneg _), Nat.pow_succ, Int.natCast_mul]; rfl
      have E := Lib.hid e
      have v0 : 0 ≤ a / ((2 ^ j : Nat) : Int) := Int.ediv_nonneg a0 (Int.natCast_nonneg _)
      have v1 : a / ((2 ^ j : Nat) : Int) ≤ a := Int.ediv_le_self _ a0
      generalize a / ((2 ^ j : Nat) : Int) = v at *
      obtain ⟨k, hk⟩ : ∃ k, n + (j : Int) = k := ⟨_, rfl⟩
      rw [hk] at hlt ⊢
      have HK := Lib.hid hk
      have t1 : v.tdiv 2 = v / 2 := Int.tdiv_eq_ediv_of_nonneg v0
      have t2 : IntKind.u64.wrap (v / 2) = v / 2 := by rw [IntKind.wrap_u64]; omega
      have t3 : IntKind.i64.wrap (k + 1) = k + 1 := by rw [IntKind.wrap_i64]; omega
      clear e hk
      go_wp2
      go_round
      case rel => exact ⟨j + 1, by have := HK.out; omega, by have := HK.out; rw [show k + 1 = n + ((j + 1 : Nat) : Int) by omega], by rw [E.out]⟩
      case measure => have := HK.out; simp [intOf] <;> omega
    · have e : a / ((2 ^ j : Nat) : Int) = a / (pw n : Int) := by
        unfold pw
        rw [show j = (32 - n).toNat by omega]
      rw [e]
      clear e
      go_wp2
      go_ret
      exact ⟨rfl, rfl⟩
set_option maxRecDepth 100000 in
theorem rright_any (a n : Int) (a0 : 0 ≤ a) (a1 : a ≤ 4294967295) (n0 : -9223372036854775808 ≤ n) (n1 : n ≤ 9223372036854775807) (w : World) :
    Calls Try.prog 70 #[.agg #[.int .u32 a, .int .i64 n]] w fun e w' => e = .returned (.bool (decide (RtP a n))) ∧ Below w.heap.size w w' := by
  by_cases hn : n < 0
  · rw [decide_eq_false (fun h : RtP a n => by have := h.1; omega)]
    go_enter Try.func70, Try.ntmps70
    go_wp2
    go_ret
    exact ⟨rfl, (Below.refl _ w).alloc (Nat.le_refl _) _⟩
  · by_cases h32 : 32 < n
    · rw [decide_eq_false (fun h : RtP a n => by have := h.1; omega)]
      go_enter Try.func70, Try.ntmps70
      go_wp2
      go_ret
      exact ⟨rfl, (Below.refl _ w).alloc (Nat.le_refl _) _⟩
    · have FI := Lib.hid (fun W => rfirst_any a a0 a1 n (by omega) (by omega) W)
      have p := pw_pos n
      have pl := pw_le n (by omega)
      have v0 : 0 ≤ a / (pw n : Int) := Int.ediv_nonneg a0 (by omega)
      have vm : a / (pw n : Int) * (pw n : Int) ≤ a := Int.ediv_mul_le a (by omega)
      have D : decide (RtP a n) = (a / (pw n : Int) * (pw n : Int) == a) := by
        rw [Bool.eq_iff_iff, decide_eq_true_iff, beq_iff_eq]
        constructor
        · intro h
          have := mul_of_mod h.2
          rw [Int.mul_comm]; exact this.symm
        · intro h
          refine ⟨⟨by omega, by omega⟩, ?_⟩
          have := Int.mul_ediv_add_emod a (pw n : Int)
          rw [Int.mul_comm] at this
          omega
      rw [D]
      clear D
      have HV := Lib.hid (show ∀ j : Nat, n + j ≤ 32 → a / (pw n : Int) * ((2 ^ j : Nat) : Int) ≤ 4294967295 ∧ 0 ≤ a / (pw n : Int) * ((2 ^ j : Nat) : Int) from fun j hj => by
        have hp : (pw n : Int) = ((2 ^ j : Nat) : Int) * ((2 ^ ((32 - n).toNat - j) : Nat) : Int) := by
          unfold pw
          rw [← Int.natCast_mul, ← Nat.pow_add, show j + ((32 - n).toNat - j) = (32 - n).toNat by omega]
        have h1 : (1 : Int) ≤ ((2 ^ ((32 - n).toNat - j) : Nat) : Int) := by
          have := Nat.two_pow_pos ((32 - n).toNat - j)
          exact_mod_cast this
        have h2 : 0 ≤ a / (pw n : Int) * ((2 ^ j : Nat) : Int) := Int.mul_nonneg v0 (Int.natCast_nonneg _)
        refine ⟨?_, h2⟩
        have h3 := Int.mul_le_mul_of_nonneg_left h1 h2
        rw [Int.mul_one, Int.mul_assoc, ← hp] at h3
        omega)
      have FIN := Lib.hid (show ∀ j : Nat, n + j = 32 → ((2 ^ j : Nat) : Int) = (pw n : Int) from fun j hj => by unfold pw; rw [show j = (32 - n).toNat by omega])
      have g0 : IntKind.u64.wrap a = a := by rw [IntKind.wrap_u64]; omega
      have g1 : ¬ n < 0 := hn
      generalize hq : a / (pw n : Int) = q at *
      clear hq vm v0
      go_enter Try.func70, Try.ntmps70
      go_wp2_with fail
      refine (FI.out _).mono ?_
      rintro e u ⟨rfl, rfl⟩
      go_wp2
      go_loop [3, 4] (fun v i => ∃ j : Nat, n + j ≤ 32 ∧ i = .int .i64 (n + j) ∧ v = .int .u64 (q * ((2 ^ j : Nat) : Int))) (fun _ i => 32 - (intOf i).toNat)
      case atStart => exact ⟨0, by omega, by simp, by simp⟩
      case round =>
        obtain ⟨j, hj, rfl, rfl⟩ := hrel
        obtain ⟨b1, b0⟩ := HV.out j hj
        by_cases hlt : n + j < 32
        · have e : q * ((2 ^ j : Nat) : Int) * 2 = q * ((2 ^ (j + 1) : Nat) : Int) := by
            rw [Nat.pow_succ, Int.natCast_mul, Int.mul_assoc]; rfl
          have E := Lib.hid e
          have b2 := (HV.out (j + 1) (by omega)).1
          rw [← e] at b2
          generalize q * ((2 ^ j : Nat) : Int) = v at *
          obtain ⟨k, hk⟩ : ∃ k, n + (j : Int) = k := ⟨_, rfl⟩
          rw [hk] at hlt ⊢
          have HK := Lib.hid hk
          have t2 : IntKind.u64.wrap (v * 2) = v * 2 := by rw [IntKind.wrap_u64]; omega
          have t3 : IntKind.i64.wrap (k + 1) = k + 1 := by rw [IntKind.wrap_i64]; omega
          clear e hk
          go_wp2
          go_round
          case rel => exact ⟨j + 1, by have := HK.out; omega, by have := HK.out; rw [show k + 1 = n + ((j + 1 : Nat) : Int) by omega], by rw [E.out]⟩
          case measure => have := HK.out; simp [intOf] <;> omega
        · rw [FIN.out j (by omega)]
          go_wp2
          go_ret
          exact ⟨rfl, (Below.refl _ w).alloc (Nat.le_refl _) _⟩
set_option maxRecDepth 100000 in
set_option maxHeartbeats 1000000 in
theorem rhas_any (a n x : Int) (a0 : 0 ≤ a) (a1 : a ≤ 4294967295) (n0 : -9223372036854775808 ≤ n) (n1 : n ≤ 9223372036854775807) (x0 : 0 ≤ x) (x1 : x ≤ 4294967295) (w : World) :
    Calls Try.prog 40 #[.agg #[.int .u32 a, .int .i64 n], .int .u32 x] w fun e w' => e = .returned (.bool (decide (HsP a n x))) ∧ Below w.heap.size w w' := by
  have RT := Lib.hid (fun W => rright_any a n a0 a1 n0 n1 W)
  by_cases hr : RtP a n
  · have F1 := Lib.hid (fun W => rfirst_any a a0 a1 n hr.1.1 hr.1.2 W)
    have F2 := Lib.hid (fun W => rfirst_any x x0 x1 n hr.1.1 hr.1.2 W)
    have D : decide (HsP a n x) = (a / (pw n : Int) == x / (pw n : Int)) := by
      rw [Bool.eq_iff_iff, decide_eq_true_iff, beq_iff_eq]
      exact ⟨fun h => h.2, fun h => ⟨hr, h⟩⟩
    rw [D]
    rw [decide_eq_true hr] at RT
    clear D hr
    have SC := Lib.hid (fun (v : World) (h : Below (w.alloc (.cells #[.int .u32 a, .int .i64 n] 70)).heap.size (w.alloc (.cells #[.int .u32 a, .int .i64 n] 70)) v) => (box2 ((h.block _ (by simp)).trans (heap_alloc_new _ _)) : v.cell? ⟨w.heap.size, 0, none⟩ = some (.int .u32 a) ∧ v.cell? ⟨w.heap.size, 1, none⟩ = some (.int .i64 n)))
    generalize a / (pw n : Int) = q1 at *
    generalize x / (pw n : Int) = q2 at *
    go_enter Try.func40, Try.ntmps40
    go_wp2
    go_region_held3 (fun v => v.cell? ⟨w.heap.size, 0, none⟩ = some (.int .u32 a) ∧ v.cell? ⟨w.heap.size, 1, none⟩ = some (.int .i64 n))
      ((first | exact SC.out _ h1' | exact SC.out _ (by (repeat' (first | (with_reducible exact Below.refl _ _) | (with_reducible refine below_drewN _ ?_) | (with_reducible refine Below.drew ?_))))))
      (first
        | (go_at_call 70; refine (RT.out _).mono ?_; rintro e uA ⟨rfl, c1⟩; have h1' : Below (w.alloc (.cells #[.int .u32 a, .int .i64 n] 70)).heap.size (w.alloc (.cells #[.int .u32 a, .int .i64 n] 70)) uA := bel_call c1 (by (repeat' (first | (with_reducible exact Below.refl _ _) | (with_reducible refine below_drewN _ ?_) | (with_reducible refine Below.drew ?_)))) (Nat.le_refl _); clear c1)
        | (go_at_call 71; refine (F1.out _).mono ?_; rintro e uB ⟨rfl, rfl⟩; clear F1)
        | (go_at_call 71; refine (F2.out _).mono ?_; rintro e uB ⟨rfl, rfl⟩; clear F2)
        | fail)
    go_wp2
    go_ret
    exact ⟨rfl, ((Below.refl _ w).alloc (Nat.le_refl _) _).trans (h1'.mono (by simp))⟩
  · have D : decide (HsP a n x) = false := decide_eq_false (fun h => hr h.1)
    rw [D]
    rw [decide_eq_false hr] at RT
    clear D hr
    go_enter Try.func40, Try.ntmps40
    go_wp2
    refine wp_region_any (by kernel_rfl) ?_
    (try (change wpAny _ _ _ _ _ _ _ (World.drew _)))
    refine wpAny_ready (rs := [0]) (by kernel_rfl) (by simp) ?_
    refine AllReady.cons rfl (fun K hK => ?_) AllReady.nil
    go_simp
    refine hK _ _ ?_
    clear hK K
    refine wpAny_ready (rs := [1]) (by kernel_rfl) (by simp) ?_
    refine AllReady.cons rfl (fun K hK => ?_) AllReady.nil
    go_simp
    refine (RT.out _).mono ?_
    rintro e uA ⟨rfl, c1⟩
    have Y1 : Below (w.alloc (.cells #[.int .u32 a, .int .i64 n] 70)).heap.size (w.alloc (.cells #[.int .u32 a, .int .i64 n] 70)) uA := bel_call c1 (by (repeat' (first | (with_reducible exact (Below.refl _ _)) | (with_reducible refine below_drewN _ ?_) | (with_reducible refine Below.drew ?_)))) (Nat.le_refl _)
    have YH := Lib.hid Y1
    clear Y1 c1
    go_simp
    refine hK _ _ ?_
    clear hK K
    refine wpAny_take (i := 2) (v := ?_) rfl (by kernel_rfl) (by kernel_rfl) (by kernel_rfl) (fun _ _ _ h => h) (Or.inl ⟨by rfl, ?_⟩) ?_
    case refine_2 =>
      intro w
      go_simp
      (try with_reducible rfl)
    refine wpAny_take (i := 3) (v := undef) rfl (by kernel_rfl) (by kernel_rfl) (by kernel_rfl) (fun _ _ _ h => h) (Or.inr ⟨by kernel_rfl, rfl⟩) ?_
    (try simp only [Act.put, List.setIfInBounds_toArray, List.set_cons_zero, List.set_cons_succ, List.getElem_toArray, List.getElem_cons_zero, List.getElem_cons_succ])
    refine wpAny_take (i := 4) (v := undef) rfl (by kernel_rfl) (by kernel_rfl) (by kernel_rfl) (fun _ _ _ h => h) (Or.inr ⟨by kernel_rfl, rfl⟩) ?_
    (try simp only [Act.put, List.setIfInBounds_toArray, List.set_cons_zero, List.set_cons_succ, List.getElem_toArray, List.getElem_cons_zero, List.getElem_cons_succ])
    refine wpAny_take (i := 5) (v := undef) rfl (by kernel_rfl) (by kernel_rfl) (by kernel_rfl) (fun _ _ _ h => h) (Or.inr ⟨by kernel_rfl, rfl⟩) ?_
    (try simp only [Act.put, List.setIfInBounds_toArray, List.set_cons_zero, List.set_cons_succ, List.getElem_toArray, List.getElem_cons_zero, List.getElem_cons_succ])
    refine wpAny_take (i := 6) (v := undef) rfl (by kernel_rfl) (by kernel_rfl) (by kernel_rfl) (fun _ _ _ h => h) (Or.inr ⟨by kernel_rfl, rfl⟩) ?_
    (try simp only [Act.put, List.setIfInBounds_toArray, List.set_cons_zero, List.set_cons_succ, List.getElem_toArray, List.getElem_cons_zero, List.getElem_cons_succ])
    refine wpAny_take (i := 7) (v := undef) rfl (by kernel_rfl) (by kernel_rfl) (by kernel_rfl) (fun _ _ _ h => h) (Or.inr ⟨by kernel_rfl, rfl⟩) ?_
    (try simp only [Act.put, List.setIfInBounds_toArray, List.set_cons_zero, List.set_cons_succ, List.getElem_toArray, List.getElem_cons_zero, List.getElem_cons_succ])
    refine wpAny_take (i := 8) (v := undef) rfl (by kernel_rfl) (by kernel_rfl) (by kernel_rfl) (fun _ _ _ h => h) (Or.inr ⟨by kernel_rfl, rfl⟩) ?_
    (try simp only [Act.put, List.setIfInBounds_toArray, List.set_cons_zero, List.set_cons_succ, List.getElem_toArray, List.getElem_cons_zero, List.getElem_cons_succ])
    refine wpAny_take (i := 9) (v := undef) rfl (by kernel_rfl) (by kernel_rfl) (by kernel_rfl) (fun _ _ _ h => h) (Or.inr ⟨by kernel_rfl, rfl⟩) ?_
    (try simp only [Act.put, List.setIfInBounds_toArray, List.set_cons_zero, List.set_cons_succ, List.getElem_toArray, List.getElem_cons_zero, List.getElem_cons_succ])
    refine wpAny_take (i := 10) (v := undef) rfl (by kernel_rfl) (by kernel_rfl) (by kernel_rfl) (fun _ _ _ h => h) (Or.inr ⟨by kernel_rfl, rfl⟩) ?_
    (try simp only [Act.put, List.setIfInBounds_toArray, List.set_cons_zero, List.set_cons_succ, List.getElem_toArray, List.getElem_cons_zero, List.getElem_cons_succ])
    refine wpAny_take (i := 11) (v := undef) rfl (by kernel_rfl) (by kernel_rfl) (by kernel_rfl) (fun _ _ _ h => h) (Or.inr ⟨by kernel_rfl, rfl⟩) ?_
    (try simp only [Act.put, List.setIfInBounds_toArray, List.set_cons_zero, List.set_cons_succ, List.getElem_toArray, List.getElem_cons_zero, List.getElem_cons_succ])
    refine wpAny_take (i := 12) (v := undef) rfl (by kernel_rfl) (by kernel_rfl) (by kernel_rfl) (fun _ _ _ h => h) (Or.inr ⟨by kernel_rfl, rfl⟩) ?_
    (try simp only [Act.put, List.setIfInBounds_toArray, List.set_cons_zero, List.set_cons_succ, List.getElem_toArray, List.getElem_cons_zero, List.getElem_cons_succ])
    refine wpAny_take (i := 13) (v := ?_) rfl (by kernel_rfl) (by kernel_rfl) (by kernel_rfl) (fun _ _ _ h => h) (Or.inl ⟨by rfl, ?_⟩) ?_
    case refine_2 =>
      intro w
      go_simp
      (try with_reducible rfl)
    refine wpAny_take (i := 14) (v := ?_) rfl (by kernel_rfl) (by kernel_rfl) (by kernel_rfl) (fun _ _ _ h => h) (Or.inl ⟨by rfl, ?_⟩) ?_
    case refine_2 =>
      intro w
      go_simp
      (try with_reducible rfl)
    refine wpAny_done (by kernel_rfl) ?_ _
    (try simp only [Exit.then])
    go_wp2
    go_ret
    exact ⟨rfl, ((Below.refl _ w).alloc (Nat.le_refl _) _).trans (YH.out.mono (by simp))⟩
end Go.Proofs.Ytfjhcmihjffknaa
