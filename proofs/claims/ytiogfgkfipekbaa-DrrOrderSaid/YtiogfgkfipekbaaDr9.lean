/-
  Package drr: the row, a credit, how many items there are; turns that nobody made. No condition.
-/
import Derived.Test.YtiogfgkfipekbaaDr8
namespace Go.Proofs.Ytiogfgkfipekbaa
set_option linter.unusedVariables false
set_option linter.unusedSimpArgs false
open Go.ChangeShapes Go.WideShapes Go.ChangeAt Go.RowKit
attribute [local go_sem] alloc_drewN setCell_drewN

section
variable {w : World} {base T : Nat} {S : Ts} {In : Nat → Prop}
theorem drow (h : DrG w base T S In) : Calls Try.prog 44 #[.pointer (some ⟨T, 0, none⟩)] w fun e w' => ∃ c, e = .returned (.slice (some ⟨w.heap.size, 0, none⟩) S.R.length c) ∧ w'.ownsRow w.heap.size 3 1 (.slice (some ⟨w.heap.size, 0, none⟩) S.R.length c) S.R.length (S.R.map (Value.int .i64)) ∧ Below w.heap.size w w' := by
  obtain ⟨vc, cs, Rb, vr, rp, rf, rk, h1, h2, h3, h4, inv, h6⟩ := h
  have AL := all_anyI h1.row
  rw [h4] at AL
  have hrk : rk = S.R.length := by rw [← h4]; exact (cont_length _ _ _ _).symm
  rw [hrk] at AL
  have ALH := Lib.hid AL
  obtain ⟨c0, c1, c2, f2⟩ := h1.cell
  clear h1 h2 h3 h4 h6 inv AL hrk
  go_enter Try.func44, Try.ntmps44
  go_wp2_with fail
  refine ALH.out.mono ?_
  rintro e w1 ⟨c, rfl, o1, b1⟩
  have FIN := Lib.hid (And.intro o1 b1)
  clear o1 b1
  go_wp2
  go_ret
  exact ⟨c, rfl, FIN.out.1, FIN.out.2⟩
theorem dcredit (h : DrG w base T S In) (c : Int) : Calls Try.prog 41 #[.pointer (some ⟨T, 0, none⟩), .int .i64 c] w fun e w' => e = .returned (.int .u64 (if 0 ≤ c ∧ c < S.n then S.cr c.toNat else 0)) ∧ w' = w := by
  have HA := dhas h c
  obtain ⟨vc, cs, Rb, vr, rp, rf, rk, h1, h2, h3, h4, inv, h6⟩ := h
  obtain ⟨c0, c1, c2, f2⟩ := h1.cell
  by_cases hc : 0 ≤ c ∧ c < S.n
  · rw [decide_eq_true hc] at HA
    rw [if_pos hc]
    obtain ⟨i, rfl⟩ : ∃ i : Nat, c = i := ⟨c.toNat, by omega⟩
    rw [Int.toNat_natCast]
    have hic : i < cs.length := by omega
    obtain ⟨g, cc, rfl, -, -, hcs⟩ := h1.form
    obtain ⟨q0, q1, q2, q3⟩ := hcs i hic
    rw [h2] at c0
    rw [(h3 i hic).2.1] at q1
    have z0 : (0 : Int) ≤ i := by omega
    have z1 : (i : Int) < S.n := by omega
    have HAH := Lib.hid HA
    clear h1 h2 h3 h4 h6 inv HA hcs
    go_enter Try.func41, Try.ntmps41
    go_wp2_with fail
    refine HAH.out.mono ?_
    rintro e w1 ⟨rfl, rfl⟩
    go_wp2
    go_ret
    exact ⟨rfl, rfl⟩
  · rw [decide_eq_false hc] at HA
    rw [if_neg hc]
    have HAH := Lib.hid HA
    clear h1 h2 h3 h4 h6 inv HA
    go_enter Try.func41, Try.ntmps41
    go_wp2_with fail
    refine HAH.out.mono ?_
    rintro e w1 ⟨rfl, rfl⟩
    go_wp2
    go_ret
    exact ⟨rfl, rfl⟩
/-- How many items there are. -/
def lenR (q : Nat → List (Int × Int)) (R : List Int) : Nat := (R.map (fun x => (q x.toNat).length)).sum
theorem lenR_take (q : Nat → List (Int × Int)) (R : List Int) (i : Nat) (hi : i < R.length) : lenR q (R.take (i + 1)) = lenR q (R.take i) + (q (R.getD i 0).toNat).length := by
  unfold lenR
  rw [List.take_succ_eq_append_getElem hi, List.map_append, List.sum_append, List.getD_eq_getElem?_getD, List.getElem?_eq_getElem hi]
  simp
set_option maxRecDepth 100000 in
set_option maxHeartbeats 2000000 in
theorem dlen (h : DrG w base T S In) : Calls Try.prog 42 #[.pointer (some ⟨T, 0, none⟩)] w fun e w' => e = .returned (.int .i64 (lenR S.q S.R)) ∧ Below w.heap.size w w' := by
  have RW := Lib.hid (drow h)
  have HH := Lib.hid h
  have hb : ∀ i, i ≤ S.R.length → lenR S.q (S.R.take i) ≤ i * 1024 := fun i => by
    induction i with
    | zero => intro _; simp [lenR]
    | succ i ih =>
      intro hi
      rw [lenR_take _ _ _ (by omega), Nat.succ_mul]
      obtain ⟨j, hj, hjn⟩ := h.inv.rb (S.R.getD i 0) (by rw [List.getD_eq_getElem?_getD, List.getElem?_eq_getElem (by omega)]; exact List.getElem_mem _)
      have := h.inv.le j hjn
      rw [hj, Int.toNat_natCast]
      have := ih (by omega)
      omega
  have hR : S.R.length ≤ 64 := by
    have := nd_len S.n S.R h.inv.rn (fun x hx => by obtain ⟨j, rfl, hj⟩ := h.inv.rb x hx; omega)
    have := h.inv.n1
    omega
  have HBD := Lib.hid hb
  have LT := Lib.hid (lenR_take S.q S.R)
  have LA := Lib.hid (show S.R.take S.R.length = S.R from List.take_length)
  clear h hb
  go_enter Try.func42, Try.ntmps42
  go_wp2_with fail
  refine RW.out.mono ?_
  rintro e w1 ⟨c, rfl, o1, b1⟩
  have O1 := Lib.hid o1; have B1 := Lib.hid b1
  have L1 := Lib.hid (show w.heap.size < w1.heap.size from (World.ownsRow.lt o1 w.heap.size rfl).2)
  clear o1 b1 RW
  go_wp2
  go_loopw [3, 9] (fun zn zi wr => ∃ i : Nat, i ≤ S.R.length ∧ zi = .int .i64 i ∧ zn = .int .i64 (lenR S.q (S.R.take i)) ∧ wr = w1) (fun _ zi _ => S.R.length - (intOf zi).toNat)
  case atStart => exact ⟨0, Nat.zero_le _, rfl, rfl, by first | rfl | assumption⟩
  case round =>
    obtain ⟨i, hi, rfl, rfl, rfl⟩ := hrel
    by_cases hlt : i < S.R.length
    · have z0 : (0 : Int) ≤ i := by omega
      have z1 : (i : Int) < S.R.length := by omega
      have c9 := O1.out.cellAt i (by omega)
      rw [List.getElem?_map, List.getElem?_eq_getElem hlt] at c9
      obtain ⟨j, hj, hjn⟩ := HH.out.inv.rb (S.R.getD i 0) (by rw [List.getD_eq_getElem?_getD, List.getElem?_eq_getElem hlt]; exact List.getElem_mem _)
      have hj2 : S.R[i] = (j : Int) := by rw [← hj, List.getD_eq_getElem?_getD, List.getElem?_eq_getElem hlt]; rfl
      rw [hj2] at c9
      have c9 : wr.cell? ⟨w.heap.size, i, none⟩ = some (.int .i64 j) := c9
      obtain ⟨vc, cs, Rb, vr, rp, rf, rk, h1, h2, h3, h4, inv, h6⟩ := HH.out.below B1.out
      have hjc : j < cs.length := by omega
      obtain ⟨g, cc, rfl, -, -, hcs⟩ := h1.form
      obtain ⟨q0, q1, q2, q3⟩ := hcs j hjc
      obtain ⟨c0, c1, c2, f2⟩ := h1.cell
      rw [h2] at c0
      have LN := qlenI (h1.each j hjc)
      have hk : (cs[j]'hjc).k = (S.q j).length := by rw [← (h3 j hjc).2.2]; exact (cont_length _ _ _ _).symm
      rw [hk] at LN
      have LNH := Lib.hid LN
      have e1 := LT.out i hlt
      rw [hj, Int.toNat_natCast] at e1
      have E1 := Lib.hid e1
      have bb := HBD.out i hi
      have b2 := inv.le j hjn
      have y0 : (0 : Int) ≤ j := by omega
      have y1 : (j : Int) < S.n := by omega
      clear h1 h2 h3 h4 h6 inv LN hk e1 hcs hj hj2 hjn
      generalize lenR S.q (S.R.take i) = t at *
      generalize (S.q j).length = u at *
      have b3 : (t : Int) ≤ 65536 := by omega
      have b4 : (u : Int) ≤ 1024 := by omega
      have b5 : (0 : Int) ≤ t := by omega
      have b6 : (0 : Int) ≤ u := by omega
      clear bb b2
      go_wp2_with fail
      refine LNH.out.mono ?_
      rintro e w3 ⟨rfl, rfl⟩
      go_wp2
      go_roundw
      case rel => exact ⟨i + 1, by omega, by go_num, by rw [E1.out]; first | rfl | (congr 1), by first | rfl | trivial⟩
      case measure => simp [intOf] <;> omega
    · obtain rfl : i = S.R.length := by omega
      rw [LA.out]
      go_wp2
      go_ret
      exact ⟨rfl, B1.out⟩
end
theorem dnext_nil (w : World) : Calls Try.prog 37 #[.pointer none] w fun e w' => e = .returned (.tuple #[.int .i64 0, .int .u64 0, .int .i64 0, .bool false]) ∧ w' = w := by
  have TN := Lib.hid (show Calls Try.prog 79 #[.pointer none] w fun e w' => e = .returned (.tuple #[.int .i64 0, .bool false]) ∧ w' = w from by
    go_enter Try.func79, Try.ntmps79
    go_wp2
    go_step3
    go_wp2
    try rw [Exit.noGoto_ret]
    go_ret2
    exact ⟨rfl, rfl⟩)
  go_enter Try.func37, Try.ntmps37
  go_wp2_with fail
  refine TN.out.mono ?_
  rintro e w1 ⟨rfl, rfl⟩
  go_wp2
  refine bodyPost_ret (v := .tuple #[.int .i64 0, .int .u64 0, .int .i64 0, .bool false]) (by simp [results, Try.results37, go_sem]) rfl ⟨rfl, rfl⟩
theorem dpush_nil (c size id : Int) (w : World) : Calls Try.prog 39 #[.pointer none, .int .i64 c, .int .u64 size, .int .i64 id] w fun e w' => e = .returned (.int .i64 10) ∧ w' = w := by
  go_enter Try.func39, Try.ntmps39
  go_wp2
  go_ret
  exact ⟨rfl, rfl⟩
theorem drow_nil (w : World) : Calls Try.prog 44 #[.pointer none] w fun e w' => e = .returned (.slice none 0 0) ∧ w' = w := by
  go_enter Try.func44, Try.ntmps44
  go_wp2
  go_ret
  exact ⟨rfl, rfl⟩
theorem dcredit_nil (c : Int) (w : World) : Calls Try.prog 41 #[.pointer none, .int .i64 c] w fun e w' => e = .returned (.int .u64 0) ∧ w' = w := by
  have HA := Lib.hid (show Calls Try.prog 86 #[.pointer none, .int .i64 c] w fun e w' => e = .returned (.bool false) ∧ w' = w from by
    go_enter Try.func86, Try.ntmps86
    go_wp2
    go_ret
    exact ⟨rfl, rfl⟩)
  go_enter Try.func41, Try.ntmps41
  go_wp2_with fail
  refine HA.out.mono ?_
  rintro e w1 ⟨rfl, rfl⟩
  go_wp2
  go_ret
  exact ⟨rfl, rfl⟩
theorem dlen_nil (w : World) : Calls Try.prog 42 #[.pointer none] w fun e w' => e = .returned (.int .i64 0) ∧ w' = w := by
  have RW := Lib.hid (drow_nil w)
  go_enter Try.func42, Try.ntmps42
  go_wp2_with fail
  refine RW.out.mono ?_
  rintro e w1 ⟨rfl, rfl⟩
  go_wp2
  refine wp_loop_rounds 1 ?_
  rw [rounds_succ]
  go_wp2
  go_ret
  exact ⟨rfl, rfl⟩
end Go.Proofs.Ytiogfgkfipekbaa
