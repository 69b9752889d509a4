/-
  Package invert: how late each number is, the order, how many pairs are turned. Nothing below the heap's end turns. No condition but that the row has at most 400 numbers.
-/
import Derived.Test.YteblhgmepfegpabInvSrt
import Derived.Test.YteblhgmepfegpabInts
namespace Go.Proofs.Yteblhgmepfegpab
set_option linter.unusedVariables false
set_option linter.unusedSimpArgs false
open Go.ChangeShapes Go.WideShapes Go.ChangeAt Go.RowKit
attribute [local go_sem] alloc_drewN setCell_drewN

theorem ints_block {w : World} {base g n : Nat} {xs : List Int} (hg : w.heap[g]? = some (.cells (xs.map (Value.int .i64)).toArray 3 (0, 0))) (hb : base ≤ g) (hl : xs.length = n) (hn : n ≤ 400) : Ints w base (.slice (some ⟨g, 0, none⟩) n n) xs := by
  subst hl
  exact ⟨by simp, Or.inr ⟨g, xs.length, _, rfl, hb, hg, Nat.le_refl _, by unfold maxLen; omega, by simp, List.take_of_length_le (by simp)⟩⟩
theorem late14 {z : Nat → Int} {n : Nat} (hn : n ≤ 400) (a : Option Addr) (c : Nat) (w : World) (hN : NumAt w w.heap.size (.slice a n c) z n) :
    Calls Try.prog 12 #[.slice a n c] w fun e w' => ∃ v, e = .returned v ∧ Ints w' w.heap.size v (latN z n) ∧ Below w.heap.size w w' := by
  have SO := Lib.hid (sorted_any hn a c w hN)
  clear hN
  go_enter Try.func12, Try.ntmps12
  go_wp2_with fail
  refine SO.out.mono ?_
  rintro e w' ⟨B, g, h, q, hf, rfl, st, hb⟩
  obtain ⟨d0, d1, d2, d3⟩ := st.cell
  have FIN := Lib.hid (show Ints w' w.heap.size (.slice (some ⟨h, 0, none⟩) n n) (latN z n) ∧ Below w.heap.size w w' from ⟨ints_block st.lat st.lo.2.2.1 st.ll hn, hb⟩)
  clear st hb SO
  go_wp2
  go_ret
  exact ⟨_, rfl, FIN.out⟩
theorem order14 {z : Nat → Int} {n : Nat} (hn : n ≤ 400) (a : Option Addr) (c : Nat) (w : World) (hN : NumAt w w.heap.size (.slice a n c) z n) :
    Calls Try.prog 10 #[.slice a n c] w fun e w' => ∃ v, e = .returned v ∧ Ints w' w.heap.size v ((ordN z n).map (fun i : Nat => (i : Int))) ∧ Below w.heap.size w w' := by
  have SO := Lib.hid (sorted_any hn a c w hN)
  clear hN
  go_enter Try.func10, Try.ntmps10
  go_wp2_with fail
  refine SO.out.mono ?_
  rintro e w' ⟨B, g, h, q, hf, rfl, st, hb⟩
  obtain ⟨d0, d1, d2, d3⟩ := st.cell
  have FIN := Lib.hid (show Ints w' w.heap.size (.slice (some ⟨g, 0, none⟩) n n) ((ordN z n).map (fun i : Nat => (i : Int))) ∧ Below w.heap.size w w' from ⟨ints_block (by rw [List.map_map]; exact st.ord) st.lo.2.1 (by rw [List.length_map]; exact st.lx) hn, hb⟩)
  clear st hb SO
  go_wp2
  go_ret
  exact ⟨_, rfl, FIN.out⟩
set_option maxHeartbeats 1000000 in
theorem count14 {z : Nat → Int} {n : Nat} (hn : n ≤ 400) (a : Option Addr) (c : Nat) (w : World) (hN : NumAt w w.heap.size (.slice a n c) z n) :
    Calls Try.prog 7 #[.slice a n c] w fun e w' => e = .returned (.int .u64 (invN z n : Nat)) ∧ Below w.heap.size w w' := by
  have LA := Lib.hid (late14 hn a c w hN)
  clear hN
  go_enter Try.func7, Try.ntmps7
  go_wp2_with fail
  refine LA.out.mono ?_
  rintro e w1 ⟨v, rfl, hv, hb⟩
  obtain ⟨av, cv, rfl, _, hc⟩ := hv.form
  rw [latN_length] at hc ⊢
  have HC := Lib.hid hc
  have HB := Lib.hid hb
  clear hv hc hb LA
  go_wp2
  go_loopw [3, 9] (fun x y wr => ∃ i : Nat, i ≤ n ∧ x = .int .u64 (sumR (lateN z) i : Nat) ∧ y = .int .i64 i ∧ wr = w1) (fun _ y _ => n - (intOf y).toNat)
  case atStart => exact ⟨0, Nat.zero_le _, rfl, rfl, by first | rfl | trivial⟩
  case round =>
    obtain ⟨i, hi, rfl, rfl, rfl⟩ := hrel
    by_cases hlt : i < n
    · obtain ⟨g, rfl, hg, cg⟩ := HC.out i hlt
      rw [latN_at z n i hlt] at cg
      have hle := lateN_le z i
      have hinv := invN_bound z i
      unfold invN at hinv
      have hii : i * i ≤ 400 * 400 := Nat.mul_le_mul (by omega) (by omega)
      have HS := Lib.hid (show sumR (lateN z) i + lateN z i = sumR (lateN z) (i + 1) from rfl)
      generalize lateN z i = la at *
      generalize sumR (lateN z) i = sm at *
      have w1' : IntKind.u64.wrap (la : Int) = (la : Int) := by rw [IntKind.wrap_u64]; omega
      have w2' : IntKind.u64.wrap ((sm : Int) + (la : Int)) = (sm : Int) + (la : Int) := by rw [IntKind.wrap_u64]; omega
      have i0 : (0 : Int) ≤ i := by omega
      have i1 : (i : Int) < n := by omega
      go_wp2
      go_roundw
      case rel => exact ⟨i + 1, by omega, by rw [← HS.out]; go_num, by go_num, trivial⟩
      case measure => simp [intOf] <;> omega
    · obtain rfl : i = n := by omega
      go_wp2
      go_ret
      exact ⟨rfl, HB.out⟩
set_option maxHeartbeats 1000000 in
theorem rcount14 {z : Nat → Int} {n : Nat} (hn : n ≤ 400) (a : Option Addr) (c : Nat) (w : World) (hN : NumAt w w.heap.size (.slice a n c) z n) :
    Calls Try.prog 8 #[.slice a n c] w fun e w' => e = .returned (.int .u64 (invN z n : Nat)) ∧ Below w.heap.size w w' := by
  obtain ⟨a', c', e0, hc⟩ := hN
  injection e0 with e1 e2 e3
  subst e1; subst e3
  clear e2
  have HC := Lib.hid hc
  clear hc
  go_enter Try.func8, Try.ntmps8
  go_wp2
  go_loopw [3, 4] (fun x y wr => ∃ i : Nat, i ≤ n ∧ x = .int .u64 (sumR (aftN z n) i : Nat) ∧ y = .int .i64 i ∧ Below w.heap.size w wr) (fun _ y _ => n - (intOf y).toNat)
  case atStart => exact ⟨0, Nat.zero_le _, rfl, rfl, Below.refl _ _⟩
  case round =>
    obtain ⟨i, hi, rfl, rfl, hb⟩ := hrel
    by_cases hlt : i < n
    · obtain ⟨b, off, rfl, hb1, hb2, ci⟩ := HC.out i hlt
      have iw : IntKind.i64.wrap ((i : Int) + 1) = (i : Int) + 1 := by rw [IntKind.wrap_i64]; omega
      have hii : i * n ≤ 400 * 400 := Nat.mul_le_mul (by omega) (by omega)
      have hsb : ∀ i, sumR (aftN z n) i ≤ i * n := fun i => by
        induction i with
        | zero => exact Nat.zero_le _
        | succ i ih => have : aftN z n i ≤ n := cR_le _ _; simp only [sumR]; rw [Nat.succ_mul]; omega
      have hsi := hsb i
      clear hsb
      have HS := Lib.hid (show sumR (aftN z n) i + aftN z n i = sumR (aftN z n) (i + 1) from rfl)
      go_wp2
      go_loopw [3, 5] (fun x y wr => ∃ k : Nat, i + 1 ≤ k ∧ k ≤ n ∧ x = .int .u64 (sumR (aftN z n) i + cR (fun k => decide (i < k) && decide (z k < z i)) k : Nat) ∧ y = .int .i64 k ∧ Below w.heap.size w wr) (fun _ y _ => n - (intOf y).toNat)
      case atStart => exact ⟨i + 1, Nat.le_refl _, hlt, by
        rw [cR_none (fun k hk => by rw [show decide (i < k) = false by simp; omega]; rfl), Nat.add_zero], by go_num, hb⟩
      case round =>
        obtain ⟨k, hk1, hk, rfl, rfl, hb'⟩ := hrel
        by_cases hlk : k < n
        · have ca := (hb'.cell (p := ⟨b, off + i, none⟩) hb1).trans ci
          have ck : _ := (hb'.cell (p := ⟨b, off + k, none⟩) hb1).trans (by
            obtain ⟨b2, off2, e, _, _, ck⟩ := HC.out k hlk
            injection e with e; injection e with e1 e2; subst e1; subst e2; exact ck)
          have HQ := Lib.hid (cR_succ (fun k => decide (i < k) && decide (z k < z i)) k)
          have hcl := cR_le (fun k => decide (i < k) && decide (z k < z i)) k
          have k0 : (0 : Int) ≤ k := by omega
          have k1 : (k : Int) < n := by omega
          have i0 : (0 : Int) ≤ i := by omega
          have i1 : (i : Int) < n := by omega
          have d1 : decide (i < k) = true := decide_eq_true (by omega)
          have HD1 := Lib.hid d1
          clear d1
          by_cases hz : z k < z i
          · have e1 := HQ.out
            rw [HD1.out, decide_eq_true hz] at e1
            have HE := Lib.hid (show cR (fun k => decide (i < k) && decide (z k < z i)) (k + 1) = cR (fun k => decide (i < k) && decide (z k < z i)) k + 1 from e1)
            clear e1 HQ
            generalize cR (fun k => decide (i < k) && decide (z k < z i)) k = q at *
            generalize sumR (aftN z n) i = sm at *
            generalize z k = zk at *
            generalize z i = zi at *
            have w2' : IntKind.u64.wrap (((sm + q : Nat) : Int) + 1) = ((sm + q : Nat) : Int) + 1 := by rw [IntKind.wrap_u64]; omega
            have hzd : decide (zk < zi) = true := decide_eq_true hz
            go_wp2
            go_quiet (fail)
            go_wp2
            go_roundw
            case rel => exact ⟨k + 1, by omega, by omega, by rw [HE.out]; go_num, by go_num, below_drewN _ hb'⟩
            case measure => simp [intOf] <;> omega
          · have e1 := HQ.out
            rw [HD1.out, decide_eq_false hz] at e1
            have HE := Lib.hid (show cR (fun k => decide (i < k) && decide (z k < z i)) (k + 1) = cR (fun k => decide (i < k) && decide (z k < z i)) k from e1)
            clear e1 HQ
            generalize cR (fun k => decide (i < k) && decide (z k < z i)) k = q at *
            generalize sumR (aftN z n) i = sm at *
            generalize z k = zk at *
            generalize z i = zi at *
            have hzd : decide (zk < zi) = false := decide_eq_false hz
            go_wp2
            go_quiet (fail)
            go_wp2
            go_roundw
            case rel => exact ⟨k + 1, by omega, by omega, by rw [HE.out]; go_num, by go_num, below_drewN _ hb'⟩
            case measure => simp [intOf] <;> omega
        · obtain rfl : k = n := by omega
          have HS2 := Lib.hid (show sumR (aftN z k) i + cR (fun j => decide (i < j) && decide (z j < z i)) k = sumR (aftN z k) (i + 1) from rfl)
          go_wp2
          go_roundw
          case rel => exact ⟨i + 1, by omega, by rw [HS2.out], by go_num, hb'⟩
          case measure => simp [intOf] <;> omega
    · obtain rfl : i = n := by omega
      have HA := Lib.hid (aft_sum z i)
      go_wp2
      go_ret
      exact ⟨by first | rfl | (rw [HA.out]; rfl) | rw [HA.out], hb⟩
end Go.Proofs.Yteblhgmepfegpab
