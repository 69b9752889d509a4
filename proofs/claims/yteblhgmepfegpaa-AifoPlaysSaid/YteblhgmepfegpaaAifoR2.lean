/-
  The answer of layer 13, walked: a rank is offered. No block turns but the answer's own. No condition but that the numbers are in their bounds.
-/
import Derived.Test.YteblhgmepfegpaaAifoR
import Derived.Deep.CutBlock
import Derived.Deep.DeepCutAuto
import Derived.Deep.Onto
namespace Go.Proofs.Yteblhgmepfegpaa
set_option linter.unusedVariables false
set_option linter.unusedSimpArgs false
open Go.ChangeShapes Go.WideShapes Go.ChangeAt Go.RowKit
attribute [local go_sem] alloc_drewN setCell_drewN

/-- What stays of a window, so far. -/
def nxW (W : List Int) (most i : Nat) : List Int := if W.length < most then W.take i else (W.take i).drop 1
theorem nxW_step (W : List Int) (most i : Nat) (h : i < W.length) : (0 < i ∨ W.length < most → nxW W most (i + 1) = nxW W most i ++ [W.getD i 0]) ∧ (¬ (0 < i ∨ W.length < most) → nxW W most (i + 1) = nxW W most i) := by
  have e : W.take (i + 1) = W.take i ++ [W.getD i 0] := by
    rw [List.take_succ_eq_append_getElem h, List.getD_eq_getElem?_getD, List.getElem?_eq_getElem h]; rfl
  unfold nxW
  constructor
  · intro hh
    by_cases hm : W.length < most
    · rw [if_pos hm, if_pos hm, e]
    · rw [if_neg hm, if_neg hm, e, List.drop_append_of_le_length (by rw [List.length_take]; omega)]
  · intro hh
    have h0 : i = 0 := by omega
    subst h0
    rw [if_neg (fun hm => hh (Or.inr hm)), if_neg (fun hm => hh (Or.inr hm)), e]
    simp
section
variable {w : World} {base M : Nat} {room win num den : Int} {wait : Nat} {vm : Value} {W : List Int}
set_option maxRecDepth 100000 in
set_option maxHeartbeats 4000000 in
theorem roffer (h : R13 w base M room win num den wait vm W) (x : Int) (hbase : base ≤ w.heap.size) : Calls Try.prog 35 #[.pointer (some ⟨M, 0, none⟩), .int .u64 x] w fun e w' => e = .returned (.bool (mayP room num den wait W x)) ∧ ∃ vm', R13 w' base M room win num den (bump wait (mayP room num den wait W x)) vm' (winP W win.toNat x) ∧ MvS w w' (inM M vm) (inM M vm') := by
  obtain ⟨i0, hi0, hz0, hz1, hz2⟩ := info_parts infoU
  have MY := Lib.hid (rmay h x)
  have HH := Lib.hid h
  have hr1 := h.r1
  have HLT := Lib.hid (fun hm => mayP_lt (wait := wait) (room := room) (num := num) (den := den) (W := W) (x := x) hm)
  obtain ⟨a0, cc0, hvm0, -, -⟩ := h.own.form
  generalize mayP room num den wait W x = m at *
  clear h
  cases m with
  | false =>
    rw [show bump wait false = wait from rfl]
    clear HLT
    go_enter Try.func35, Try.ntmps35
    go_wp2_with fail
    refine MY.out.mono ?_
    rintro e w1 ⟨rfl, q, rfl⟩
    have H1 := Lib.hid (show R13 (w.drewN q) base M room win num den wait vm W from HH.out.keep (fun _ _ => rfl))
    have HM1 := Lib.hid (show MvS w (w.drewN q) (inM M vm) (inM M vm) from ⟨rfl, rfl, rfl, Nat.le_refl _, fun _ _ _ => rfl, fun _ h => Or.inr h⟩)
    clear MY HH hvm0
    generalize w.drewN q = W1 at *
    obtain ⟨c0, c1, c2, c3, c4, c5⟩ := H1.out.cell
    have hwl := H1.out.wl; have hw1 := H1.out.w1
    obtain ⟨a, c, hvm, -, hc⟩ := H1.out.own.form
    have HC := Lib.hid hc
    obtain ⟨n, hn⟩ : ∃ n, W.length = n := ⟨_, rfl⟩
    rw [hn] at hwl hvm
    rw [hvm] at c5
    have HN := Lib.hid (show W.length ≤ n ∧ n ≤ W.length by omega)
    have HML := Lib.hid ((Array.getElem?_eq_some_iff.1 H1.out.blk).1)
    have F5 := Lib.hid (H1.out.frz 5)
    have HBW := Lib.hid (show base ≤ W1.heap.size from Nat.le_trans hbase HM1.out.size)
    have HNX0 := Lib.hid (show nxW W win.toNat 0 = [] by unfold nxW; split <;> rfl)
    have HNXL := Lib.hid (show nxW W win.toNat n ++ [x] = winP W win.toNat x by
      unfold nxW winP
      rw [hn, List.take_of_length_le (by omega)])
    have HNXS := Lib.hid (fun i (hi : i < n) => nxW_step W win.toNat i (by omega))
    rw [hn] at HC
    clear hc hn hvm
    go_wp2
    go_loopw [6, 7] (fun y z wr => ∃ (vo : Value) (i : Nat), vo = y ∧ i ≤ n ∧ z = .int .i64 i ∧ U64s wr W1.heap.size vo (nxW W win.toNat i) ∧ Below W1.heap.size W1 wr) (fun _ z _ => n - (intOf z).toNat)
    case atStart => exact ⟨_, 0, rfl, Nat.zero_le _, rfl, by rw [HNX0.out]; exact U64s.nil _ _, Below.refl _ _⟩
    case round =>
      obtain ⟨vo, i, rfl, hi, rfl, ho, hb⟩ := hrel
      have d0 := (hb.cell (p := ⟨M, 1, none⟩) HML.out).trans c1
      have d5 := (hb.cell (p := ⟨M, 5, none⟩) HML.out).trans c5
      have hs := hb.size
      by_cases hlt : i < n
      · obtain ⟨g, rfl, _, hg, cg, _⟩ := HC.out i hlt
        have cg := (hb.cell (p := ⟨g, i, none⟩) hg).trans cg
        have ST := HNXS.out i hlt
        have HO := Lib.hid ho
        have HBB := Lib.hid hb
        have HXL := Lib.hid (show (nxW W win.toNat i).length ≤ 1024 by
          unfold nxW
          have := HN.out
          split
          · rw [List.length_take]; omega
          · rw [List.length_drop, List.length_take]; omega)
        have i0' : (0 : Int) ≤ i := by omega
        have i1 : (i : Int) < n := by omega
        clear ho hb
        by_cases hadd : 0 < i ∨ W.length < win.toNat
        · have HS := Lib.hid (ST.1 hadd)
          clear ST
          generalize W.getD i 0 = y at *
          have hxl := HXL.out
          have ho3 := HO.out
          generalize hxs : nxW W win.toNat i = xs at *
          clear hxs
          unfold U64s at ho3
          by_cases hp : 0 < i
          · have e1 : decide ((0 : Int) < (i : Int)) = true := decide_eq_true (by omega)
            have e2 : decide (0 < i) = true := decide_eq_true hp
            clear hadd
            go_wp2
            go_quiet (fail)
            go_wp2_with (at_builtin; refine wpList_append_own _ rfl _ _ 47 rfl W1.heap.size 50 i0 (.int .u64 0) 1 8 Try.underlying47 hi0 hz0 hz1 hz2 rfl (by decide) vo _ _ rfl ((show (wr.drewN nq).ownsRow _ _ _ _ _ _ from ho3).alloc _) ⟨wr.heap.size, 0, none⟩ 1 1 [.int .u64 y] rfl rfl (cells_one6 (wr.drewN nq) _ _) (fun x hx => by simp at hx; subst hx; rfl) (by unfold maxLen; omega) (by omega) (by simp; omega) ?_; intro v3 w3 ho4 hg3 hn3; clear hn3)
            go_roundw
            case rel => exact ⟨v3, i + 1, rfl, by omega, by go_num, by rw [HS.out]; exact U64s.of_append ho4, ((below_drewN nq HBB.out).alloc hs _).grown hg3 (by simp; omega) (fun g hg => (World.ownsRow.lt HO.out g hg).1)⟩
            case measure => simp [intOf] <;> omega
          · obtain rfl : i = 0 := by omega
            have e3 : decide ((n : Int) < win) = true := decide_eq_true (by
              rcases hadd with h | h
              · omega
              · have := HN.out; omega)
            clear hadd hp
            go_wp2
            go_quiet (fail)
            go_wp2_with (at_builtin; refine wpList_append_own _ rfl _ _ 47 rfl W1.heap.size 50 i0 (.int .u64 0) 1 8 Try.underlying47 hi0 hz0 hz1 hz2 rfl (by decide) vo _ _ rfl ((show (wr.drewN nq).ownsRow _ _ _ _ _ _ from ho3).alloc _) ⟨wr.heap.size, 0, none⟩ 1 1 [.int .u64 y] rfl rfl (cells_one6 (wr.drewN nq) _ _) (fun x hx => by simp at hx; subst hx; rfl) (by unfold maxLen; omega) (by omega) (by simp; omega) ?_; intro v3 w3 ho4 hg3 hn3; clear hn3)
            go_roundw
            case rel => exact ⟨v3, 0 + 1, rfl, by omega, by go_num, by rw [HS.out]; exact U64s.of_append ho4, ((below_drewN nq HBB.out).alloc hs _).grown hg3 (by simp; omega) (fun g hg => (World.ownsRow.lt HO.out g hg).1)⟩
            case measure => simp [intOf] <;> omega
        · have HS := Lib.hid (ST.2 hadd)
          clear ST
          obtain rfl : i = 0 := by omega
          have e3 : decide ((n : Int) < win) = false := decide_eq_false (by have := HN.out; omega)
          clear hadd
          go_wp2
          go_quiet (fail)
          go_wp2
          go_roundw
          case rel => exact ⟨vo, 0 + 1, rfl, by omega, by go_num, by rw [HS.out]; exact HO.out.heap rfl, below_drewN _ HBB.out⟩
          case measure => simp [intOf] <;> omega
      · obtain rfl : i = n := by omega
        have HO := Lib.hid ho
        have HBB := Lib.hid hb
        have HXL := Lib.hid (show (nxW W win.toNat i).length ≤ 1024 by
          unfold nxW
          have := HN.out
          split
          · rw [List.length_take]; omega
          · rw [List.length_drop, List.length_take]; omega)
        have HLEN := Lib.hid (show ((winP W win.toNat x).length : Int) ≤ win by
          have hw0 := H1.out.w0
          have := HN.out
          unfold winP
          rw [List.length_append, List.length_singleton]
          split
          · omega
          · rw [List.length_drop]; omega)
        clear ho hb
        have hxl := HXL.out
        have ho3 := HO.out
        generalize hxs : nxW W win.toNat i = xs at *
        clear hxs
        unfold U64s at ho3
        have KB := Lib.hid (show ∀ w3 : World, (wr.alloc (.cells #[.int .u64 x] 50)).grownBy w3 vo.ownBlock → w3.heap[M]? = some (.cells #[.int .i64 room, .int .i64 win, .int .u64 num, .int .u64 den, .int .i64 wait, vm] 81 (0, 0)) from fun w3 hg => by
          have hMr : M < wr.heap.size := Nat.lt_of_lt_of_le HML.out hs
          exact (hg.block M (by simp; omega) (fun e => by have h9 := (World.ownsRow.lt HO.out M e.symm).1; have h8 := HML.out; omega)).trans ((heap_alloc_old _ _ hMr).trans ((HBB.out.block M HML.out).trans H1.out.blk)))
        go_wp2_with (at_builtin; refine wpList_append_own_at _ rfl _ _ 47 rfl W1.heap.size 50 i0 (.int .u64 0) 1 8 Try.underlying47 hi0 hz0 hz1 hz2 rfl (by decide) vo _ _ rfl (ho3.alloc _) ⟨wr.heap.size, 0, none⟩ 1 1 [.int .u64 x] rfl rfl (cells_one6 _ _ _) (fun x hx => by simp at hx; subst hx; rfl) (by unfold maxLen; omega) (by omega) (by simp; omega) ?_; intro v3 w3 ho4 hg3 hn3 hat3; clear hn3; obtain ⟨g3, c3', rfl, hc3, hg3l⟩ := ho4.form (by omega); have KR := KB.out w3 hg3; have KC := cell_of_row w3 M 5 _ _ (0, 0) KR; have KF : w3.frozen? ⟨M, 5, none⟩ = false := frozen_of_row w3 M 5 _ _ KR)
        have HU : U64s w3 W1.heap.size (.slice (some ⟨g3, 0, none⟩) (xs.length + 1) c3') (winP W win.toNat x) := by rw [← HNXL.out]; exact U64s.of_append ho4
        have hgM : (Value.slice (some ⟨g3, 0, none⟩) (xs.length + 1) c3').ownBlock ≠ some M := fun e => by
          have h9 := (World.ownsRow.lt HU M e).1; have h8 := HML.out; omega
        have hbl : Below W1.heap.size W1 w3 := (HBB.out.alloc hs _).grown hg3 (by simp; omega) (fun g hg => (World.ownsRow.lt HO.out g hg).1)
        have FIN := Lib.hid (show ∃ vm', R13 (w3.setCell ⟨M, 5, none⟩ (.slice (some ⟨g3, 0, none⟩) (xs.length + 1) c3')) base M room win num den wait vm' (winP W win.toNat x) ∧ MvS w (w3.setCell ⟨M, 5, none⟩ (.slice (some ⟨g3, 0, none⟩) (xs.length + 1) c3')) (inM M vm) (inM M vm') by
          refine ⟨_, ⟨by simpa using heap_set KR 5 (.slice (some ⟨g3, 0, none⟩) (xs.length + 1) c3'), H1.out.low, ?_, H1.out.r0, H1.out.r1, H1.out.w0, H1.out.w1, H1.out.n0, H1.out.n1, H1.out.d1, H1.out.wt, HLEN.out⟩, HM1.out.trans ?_⟩
          · exact ownsRow_setCell_other (a := ⟨M, 5, none⟩) (World.ownsRow.mono HU HBW.out) hgM _
          · refine ⟨hbl.os, hbl.tape, hbl.output, ?_, fun j hj hS => (Below.heap_setCell w3 ⟨M, 5, none⟩ _ j (fun e => hS (Or.inl e))).trans (hbl.block j hj), fun j hj => ?_⟩
            · show W1.heap.size ≤ (w3.setCell _ _).heap.size
              have := hbl.size
              simp [World.setCell]; exact this
            · rcases hj with hj | hj
              · exact Or.inr (Or.inl hj)
              · exact Or.inl (World.ownsRow.lt HU j hj).1)
        clear HU hgM hbl KR KC KF ho4 hg3 hat3 hg3l
        go_wp2
        go_ret
        exact ⟨rfl, FIN.out⟩
  | true =>
    have hlt := HLT.out rfl
    clear HLT
    have ww : IntKind.i64.wrap ((wait : Int) + 1) = ((wait + 1 : Nat) : Int) := by rw [IntKind.wrap_i64]; omega
    obtain ⟨wt1, hwt1⟩ : ∃ wt1, wait + 1 = wt1 := ⟨_, rfl⟩
    have HW1 := Lib.hid (show bump wait true = wt1 from hwt1)
    rw [hwt1] at ww
    have HSW := Lib.hid (fun q => (show R13 (w.drewN q) base M room win num den wait vm W from HH.out.keep (fun _ _ => rfl)).setW wt1 (by omega))
    rw [HW1.out]
    clear hwt1
    go_enter Try.func35, Try.ntmps35
    go_wp2_with fail
    refine MY.out.mono ?_
    rintro e w1 ⟨rfl, q, rfl⟩
    obtain ⟨b0, b1, b2, b3, b4, b5⟩ := (show R13 (w.drewN q) base M room win num den wait vm W from HH.out.keep (fun _ _ => rfl)).cell
    have bz := (show R13 (w.drewN q) base M room win num den wait vm W from HH.out.keep (fun _ _ => rfl)).frz 4
    obtain ⟨H2, M1⟩ := HSW.out q
    have H1 := Lib.hid (show R13 ((w.setCell ⟨M, 4, none⟩ (.int .i64 wt1)).drewN q) base M room win num den wt1 vm W from H2)
    have HM1 := Lib.hid (show MvS w ((w.setCell ⟨M, 4, none⟩ (.int .i64 wt1)).drewN q) (inM M vm) (inM M vm) from ⟨M1.os, M1.tape, M1.output, M1.size, M1.block, M1.own⟩)
    clear H2 M1 HSW MY HH hvm0
    go_upto_region 4 with (fail)
    clear b0 b1 b2 b3 b4 b5 bz
    generalize (w.setCell ⟨M, 4, none⟩ (.int .i64 wt1)).drewN q = W1 at *
    obtain ⟨c0, c1, c2, c3, c4, c5⟩ := H1.out.cell
    have hwl := H1.out.wl; have hw1 := H1.out.w1
    obtain ⟨a, c, hvm, -, hc⟩ := H1.out.own.form
    have HC := Lib.hid hc
    obtain ⟨n, hn⟩ : ∃ n, W.length = n := ⟨_, rfl⟩
    rw [hn] at hwl hvm
    rw [hvm] at c5
    have HN := Lib.hid (show W.length ≤ n ∧ n ≤ W.length by omega)
    have HML := Lib.hid ((Array.getElem?_eq_some_iff.1 H1.out.blk).1)
    have F5 := Lib.hid (H1.out.frz 5)
    have HBW := Lib.hid (show base ≤ W1.heap.size from Nat.le_trans hbase HM1.out.size)
    have HNX0 := Lib.hid (show nxW W win.toNat 0 = [] by unfold nxW; split <;> rfl)
    have HNXL := Lib.hid (show nxW W win.toNat n ++ [x] = winP W win.toNat x by
      unfold nxW winP
      rw [hn, List.take_of_length_le (by omega)])
    have HNXS := Lib.hid (fun i (hi : i < n) => nxW_step W win.toNat i (by omega))
    rw [hn] at HC
    clear hc hn hvm
    go_wp2
    go_loopw [6, 7] (fun y z wr => ∃ (vo : Value) (i : Nat), vo = y ∧ i ≤ n ∧ z = .int .i64 i ∧ U64s wr W1.heap.size vo (nxW W win.toNat i) ∧ Below W1.heap.size W1 wr) (fun _ z _ => n - (intOf z).toNat)
    case atStart => exact ⟨_, 0, rfl, Nat.zero_le _, rfl, by rw [HNX0.out]; exact U64s.nil _ _, Below.refl _ _⟩
    case round =>
      obtain ⟨vo, i, rfl, hi, rfl, ho, hb⟩ := hrel
      have d0 := (hb.cell (p := ⟨M, 1, none⟩) HML.out).trans c1
      have d5 := (hb.cell (p := ⟨M, 5, none⟩) HML.out).trans c5
      have hs := hb.size
      by_cases hlt : i < n
      · obtain ⟨g, rfl, _, hg, cg, _⟩ := HC.out i hlt
        have cg := (hb.cell (p := ⟨g, i, none⟩) hg).trans cg
        have ST := HNXS.out i hlt
        have HO := Lib.hid ho
        have HBB := Lib.hid hb
        have HXL := Lib.hid (show (nxW W win.toNat i).length ≤ 1024 by
          unfold nxW
          have := HN.out
          split
          · rw [List.length_take]; omega
          · rw [List.length_drop, List.length_take]; omega)
        have i0' : (0 : Int) ≤ i := by omega
        have i1 : (i : Int) < n := by omega
        clear ho hb
        by_cases hadd : 0 < i ∨ W.length < win.toNat
        · have HS := Lib.hid (ST.1 hadd)
          clear ST
          generalize W.getD i 0 = y at *
          have hxl := HXL.out
          have ho3 := HO.out
          generalize hxs : nxW W win.toNat i = xs at *
          clear hxs
          unfold U64s at ho3
          by_cases hp : 0 < i
          · have e1 : decide ((0 : Int) < (i : Int)) = true := decide_eq_true (by omega)
            have e2 : decide (0 < i) = true := decide_eq_true hp
            clear hadd
            go_wp2
            go_quiet (fail)
            go_wp2_with (at_builtin; refine wpList_append_own _ rfl _ _ 47 rfl W1.heap.size 50 i0 (.int .u64 0) 1 8 Try.underlying47 hi0 hz0 hz1 hz2 rfl (by decide) vo _ _ rfl ((show (wr.drewN nq).ownsRow _ _ _ _ _ _ from ho3).alloc _) ⟨wr.heap.size, 0, none⟩ 1 1 [.int .u64 y] rfl rfl (cells_one6 (wr.drewN nq) _ _) (fun x hx => by simp at hx; subst hx; rfl) (by unfold maxLen; omega) (by omega) (by simp; omega) ?_; intro v3 w3 ho4 hg3 hn3; clear hn3)
            go_roundw
            case rel => exact ⟨v3, i + 1, rfl, by omega, by go_num, by rw [HS.out]; exact U64s.of_append ho4, ((below_drewN nq HBB.out).alloc hs _).grown hg3 (by simp; omega) (fun g hg => (World.ownsRow.lt HO.out g hg).1)⟩
            case measure => simp [intOf] <;> omega
          · obtain rfl : i = 0 := by omega
            have e3 : decide ((n : Int) < win) = true := decide_eq_true (by
              rcases hadd with h | h
              · omega
              · have := HN.out; omega)
            clear hadd hp
            go_wp2
            go_quiet (fail)
            go_wp2_with (at_builtin; refine wpList_append_own _ rfl _ _ 47 rfl W1.heap.size 50 i0 (.int .u64 0) 1 8 Try.underlying47 hi0 hz0 hz1 hz2 rfl (by decide) vo _ _ rfl ((show (wr.drewN nq).ownsRow _ _ _ _ _ _ from ho3).alloc _) ⟨wr.heap.size, 0, none⟩ 1 1 [.int .u64 y] rfl rfl (cells_one6 (wr.drewN nq) _ _) (fun x hx => by simp at hx; subst hx; rfl) (by unfold maxLen; omega) (by omega) (by simp; omega) ?_; intro v3 w3 ho4 hg3 hn3; clear hn3)
            go_roundw
            case rel => exact ⟨v3, 0 + 1, rfl, by omega, by go_num, by rw [HS.out]; exact U64s.of_append ho4, ((below_drewN nq HBB.out).alloc hs _).grown hg3 (by simp; omega) (fun g hg => (World.ownsRow.lt HO.out g hg).1)⟩
            case measure => simp [intOf] <;> omega
        · have HS := Lib.hid (ST.2 hadd)
          clear ST
          obtain rfl : i = 0 := by omega
          have e3 : decide ((n : Int) < win) = false := decide_eq_false (by have := HN.out; omega)
          clear hadd
          go_wp2
          go_quiet (fail)
          go_wp2
          go_roundw
          case rel => exact ⟨vo, 0 + 1, rfl, by omega, by go_num, by rw [HS.out]; exact HO.out.heap rfl, below_drewN _ HBB.out⟩
          case measure => simp [intOf] <;> omega
      · obtain rfl : i = n := by omega
        have HO := Lib.hid ho
        have HBB := Lib.hid hb
        have HXL := Lib.hid (show (nxW W win.toNat i).length ≤ 1024 by
          unfold nxW
          have := HN.out
          split
          · rw [List.length_take]; omega
          · rw [List.length_drop, List.length_take]; omega)
        have HLEN := Lib.hid (show ((winP W win.toNat x).length : Int) ≤ win by
          have hw0 := H1.out.w0
          have := HN.out
          unfold winP
          rw [List.length_append, List.length_singleton]
          split
          · omega
          · rw [List.length_drop]; omega)
        clear ho hb
        have hxl := HXL.out
        have ho3 := HO.out
        generalize hxs : nxW W win.toNat i = xs at *
        clear hxs
        unfold U64s at ho3
        have KB := Lib.hid (show ∀ w3 : World, (wr.alloc (.cells #[.int .u64 x] 50)).grownBy w3 vo.ownBlock → w3.heap[M]? = some (.cells #[.int .i64 room, .int .i64 win, .int .u64 num, .int .u64 den, .int .i64 wt1, vm] 81 (0, 0)) from fun w3 hg => by
          have hMr : M < wr.heap.size := Nat.lt_of_lt_of_le HML.out hs
          exact (hg.block M (by simp; omega) (fun e => by have h9 := (World.ownsRow.lt HO.out M e.symm).1; have h8 := HML.out; omega)).trans ((heap_alloc_old _ _ hMr).trans ((HBB.out.block M HML.out).trans H1.out.blk)))
        go_wp2_with (at_builtin; refine wpList_append_own_at _ rfl _ _ 47 rfl W1.heap.size 50 i0 (.int .u64 0) 1 8 Try.underlying47 hi0 hz0 hz1 hz2 rfl (by decide) vo _ _ rfl (ho3.alloc _) ⟨wr.heap.size, 0, none⟩ 1 1 [.int .u64 x] rfl rfl (cells_one6 _ _ _) (fun x hx => by simp at hx; subst hx; rfl) (by unfold maxLen; omega) (by omega) (by simp; omega) ?_; intro v3 w3 ho4 hg3 hn3 hat3; clear hn3; obtain ⟨g3, c3', rfl, hc3, hg3l⟩ := ho4.form (by omega); have KR := KB.out w3 hg3; have KC := cell_of_row w3 M 5 _ _ (0, 0) KR; have KF : w3.frozen? ⟨M, 5, none⟩ = false := frozen_of_row w3 M 5 _ _ KR)
        have HU : U64s w3 W1.heap.size (.slice (some ⟨g3, 0, none⟩) (xs.length + 1) c3') (winP W win.toNat x) := by rw [← HNXL.out]; exact U64s.of_append ho4
        have hgM : (Value.slice (some ⟨g3, 0, none⟩) (xs.length + 1) c3').ownBlock ≠ some M := fun e => by
          have h9 := (World.ownsRow.lt HU M e).1; have h8 := HML.out; omega
        have hbl : Below W1.heap.size W1 w3 := (HBB.out.alloc hs _).grown hg3 (by simp; omega) (fun g hg => (World.ownsRow.lt HO.out g hg).1)
        have FIN := Lib.hid (show ∃ vm', R13 (w3.setCell ⟨M, 5, none⟩ (.slice (some ⟨g3, 0, none⟩) (xs.length + 1) c3')) base M room win num den wt1 vm' (winP W win.toNat x) ∧ MvS w (w3.setCell ⟨M, 5, none⟩ (.slice (some ⟨g3, 0, none⟩) (xs.length + 1) c3')) (inM M vm) (inM M vm') by
          refine ⟨_, ⟨by simpa using heap_set KR 5 (.slice (some ⟨g3, 0, none⟩) (xs.length + 1) c3'), H1.out.low, ?_, H1.out.r0, H1.out.r1, H1.out.w0, H1.out.w1, H1.out.n0, H1.out.n1, H1.out.d1, H1.out.wt, HLEN.out⟩, HM1.out.trans ?_⟩
          · exact ownsRow_setCell_other (a := ⟨M, 5, none⟩) (World.ownsRow.mono HU HBW.out) hgM _
          · refine ⟨hbl.os, hbl.tape, hbl.output, ?_, fun j hj hS => (Below.heap_setCell w3 ⟨M, 5, none⟩ _ j (fun e => hS (Or.inl e))).trans (hbl.block j hj), fun j hj => ?_⟩
            · show W1.heap.size ≤ (w3.setCell _ _).heap.size
              have := hbl.size
              simp [World.setCell]; exact this
            · rcases hj with hj | hj
              · exact Or.inr (Or.inl hj)
              · exact Or.inl (World.ownsRow.lt HU j hj).1)
        clear HU hgM hbl KR KC KF ho4 hg3 hat3 hg3l
        go_wp2
        go_ret
        exact ⟨rfl, FIN.out⟩
end
end Go.Proofs.Yteblhgmepfegpaa
