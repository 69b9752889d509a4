/-
  The answer of layer 14, walked: how late each number is, the order, the longest row. Nothing below the heap's end turns. No condition but that the row has at most 400 numbers.
-/
import Derived.Test.YteblhgmepfegpabInvC
import Derived.Test.YteblhgmepfegpabInvLong
namespace Go.Proofs.Yteblhgmepfegpab
set_option linter.unusedVariables false
set_option linter.unusedSimpArgs false
open Go.ChangeShapes Go.WideShapes Go.ChangeAt Go.RowKit
attribute [local go_sem] alloc_drewN setCell_drewN

theorem NumAt.open {w : World} {base n c : Nat} {a : Option Addr} {z : Nat → Int} (hN : NumAt w base (.slice a n c) z n) : ∀ i, i < n → ∃ b off, a = some ⟨b, off, none⟩ ∧ b < base ∧ b < w.heap.size ∧ w.cell? ⟨b, off + i, none⟩ = some (.int .u64 (z i)) := by
  obtain ⟨a', c', e0, hc⟩ := hN
  injection e0 with e1 e2 e3
  subst e1
  exact hc
theorem late_row (z : Nat → Int) (i : Nat) : (List.range i).map (fun j => (lateN z j : Int)) ++ [(lateN z i : Int)] = (List.range (i + 1)).map (fun j => (lateN z j : Int)) := by
  rw [List.range_succ, List.map_append]; rfl
set_option maxRecDepth 100000 in
set_option maxHeartbeats 1000000 in
theorem rlate14 {z : Nat → Int} {n : Nat} (hn : n ≤ 400) (a : Option Addr) (c : Nat) (w : World) (hN : NumAt w w.heap.size (.slice a n c) z n) :
    Calls Try.prog 13 #[.slice a n c] w fun e w' => ∃ v, e = .returned v ∧ Ints w' w.heap.size v (latN z n) ∧ Below w.heap.size w w' := by
  obtain ⟨i0, hi0, hz0, hz1, hz2⟩ := info_parts infoInt
  have HC := Lib.hid hN.open
  clear hN
  go_enter Try.func13, Try.ntmps13
  go_wp2
  go_loopw [3, 4] (fun x y wr => ∃ (vo : Value) (i : Nat), vo = x ∧ i ≤ n ∧ y = .int .i64 i ∧ Ints wr w.heap.size vo ((List.range i).map (fun j => (lateN z j : Int))) ∧ Below w.heap.size w wr) (fun _ y _ => n - (intOf y).toNat)
  case atStart => exact ⟨_, 0, rfl, Nat.zero_le _, rfl, Ints.nil _ _, Below.refl _ _⟩
  case round =>
    obtain ⟨vo, i, rfl, hi, rfl, ho, hb⟩ := hrel
    by_cases hlt : i < n
    · obtain ⟨b, off, rfl, hb1, hb2, ci⟩ := HC.out i hlt
      have HO := Lib.hid ho
      clear ho
      go_wp2
      go_loopw [5, 6] (fun x y w2 => ∃ k : Nat, k ≤ i ∧ x = .int .i64 (cR (fun k => decide (z i < z k)) k : Nat) ∧ y = .int .i64 k ∧ Hid (w2.heap = wr.heap) ∧ Below w.heap.size w w2) (fun _ y _ => i - (intOf y).toNat)
      case atStart => exact ⟨0, Nat.zero_le _, rfl, rfl, Lib.hid rfl, hb⟩
      case round =>
        obtain ⟨k, hk, rfl, rfl, hh, hb'⟩ := hrel
        by_cases hlk : k < i
        · have ca := (hb'.cell (p := ⟨b, off + i, none⟩) hb1).trans ci
          have ck : _ := (hb'.cell (p := ⟨b, off + k, none⟩) hb1).trans (by
            obtain ⟨b2, off2, e, _, _, ck⟩ := HC.out k (by omega)
            injection e with e; injection e with e1 e2; subst e1; subst e2; exact ck)
          have e1 := cR_succ (fun k => decide (z i < z k)) k
          have hcl := cR_le (fun k => decide (z i < z k)) k
          have k0 : (0 : Int) ≤ k := by omega
          have k1 : (k : Int) < n := by omega
          have i00 : (0 : Int) ≤ i := by omega
          have i1 : (i : Int) < n := by omega
          by_cases hz : z i < z k
          · rw [decide_eq_true hz] at e1
            have HE := Lib.hid (show cR (fun k => decide (z i < z k)) (k + 1) = cR (fun k => decide (z i < z k)) k + 1 from e1)
            clear e1
            generalize cR (fun k => decide (z i < z k)) k = q at *
            generalize z k = zk at *
            generalize z i = zi at *
            have w2' : IntKind.i64.wrap ((q : Int) + 1) = (q : Int) + 1 := by rw [IntKind.wrap_i64]; omega
            have hzd : decide (zi < zk) = true := decide_eq_true hz
            go_wp2
            go_quiet (fail)
            go_wp2
            go_roundw
            case rel => exact ⟨k + 1, by omega, by rw [HE.out]; go_num, by go_num, Lib.hid hh.out, below_drewN _ hb'⟩
            case measure => simp [intOf] <;> omega
          · rw [decide_eq_false hz] at e1
            have HE := Lib.hid (show cR (fun k => decide (z i < z k)) (k + 1) = cR (fun k => decide (z i < z k)) k from e1)
            clear e1
            generalize cR (fun k => decide (z i < z k)) k = q at *
            generalize z k = zk at *
            generalize z i = zi at *
            have hzd : decide (zi < zk) = false := decide_eq_false hz
            go_wp2
            go_quiet (fail)
            go_wp2
            go_roundw
            case rel => exact ⟨k + 1, by omega, by rw [HE.out], by go_num, Lib.hid hh.out, below_drewN _ hb'⟩
            case measure => simp [intOf] <;> omega
        · obtain rfl : k = i := by omega
          have HR := Lib.hid (late_row z k)
          have ho2 : Ints wr w.heap.size vo ((List.range k).map (fun j => (lateN z j : Int))) := HO.out.heap hh.out
          have hs := hb'.size
          have hl : ((List.range k).map (fun j => (lateN z j : Int))).length = k := by simp
          rw [show cR (fun k_1 => decide (z k < z k_1)) k = lateN z k from rfl]
          have HO2 := Lib.hid ho2
          have HL := Lib.hid hl
          have HBB := Lib.hid hb'
          clear ho2 hl hb hb' hh
          generalize (List.range k).map (fun j => (lateN z j : Int)) = xs at *
          generalize lateN z k = lk at *
          have ho3 := HO2.out
          unfold Ints at ho3
          have hxl : xs.length ≤ 400 := by have := HL.out; omega
          go_wp2_with (at_builtin; refine wpList_append_own _ rfl _ _ 27 rfl w.heap.size 3 i0 (.int .i64 0) 1 8 Try.underlying27 hi0 hz0 hz1 hz2 rfl (by decide) vo _ _ rfl (ho3.alloc _) ⟨wr.heap.size, 0, none⟩ 1 1 [.int .i64 lk] rfl rfl (cells_one6 _ _ _) (fun x hx => by simp at hx; subst hx; rfl) (by unfold maxLen; omega) (by omega) (by simp; omega) ?_; intro v3 w3 ho4 hg3 hn3; clear hn3)
          go_roundw
          case rel => exact ⟨v3, k + 1, rfl, by omega, by go_num, by rw [← HR.out]; exact Ints.of_append ho4, (HBB.out.alloc hs _).grown hg3 (by simp; omega) (fun g hg => (World.ownsRow.lt HO2.out g hg).1)⟩
          case measure => simp [intOf] <;> omega
    · obtain rfl : i = n := by omega
      have HR := Lib.hid (latN_eq z i)
      go_wp2
      go_ret
      exact ⟨_, rfl, by rw [HR.out]; exact ho, hb⟩
end Go.Proofs.Yteblhgmepfegpab
