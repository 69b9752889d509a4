/-
  The document's answer for layer 25: an operation's fields. What lay below the heap's end stands.
-/
import Derived.Test.YtdlcipbehalfhaaOps2
import Derived.Test.YtdlcipbehalfhaaVal
import Derived.StillTailTactics
import Derived.Deep.CutBlock
import Derived.Deep.DeepCutAuto
namespace Go.Proofs.Ytdlcipbehalfhaa
set_option linter.unusedVariables false
set_option linter.unusedSimpArgs false
open Go.ChangeShapes Go.WideShapes Go.ChangeAt Go.RowKit
attribute [-go_sem] run_index_string binOp_string_eql binOp_string_neq run_string_add_if run_slice_string_from_if run_slice_string_to_if
attribute [local go_sem] index_bt add_fits slice_from slice_to eql_str neq_str alloc_drewN setCell_drewN

theorem frow_of_block {w0 W : World} {g n : Nat} {cs : Array Value} {fl : List Fd} (hb : w0.heap.size ≤ g) (hg : W.heap[g]? = some (.cells cs 165 (0, 0))) (hn : fl.length = n) (hm : n ≤ maxLen) (hc : cs.toList = fl.flatMap Fd.cells) (hl : cs.size = n * 3) :
    W.ownsRow w0.heap.size 165 3 (.slice (some ⟨g, 0, none⟩) n n) n cs.toList := by
  subst hn
  refine ⟨by rw [Array.length_toList, hl], Or.inr ⟨g, fl.length, cs, rfl, hb, hg, Nat.le_refl _, hm, hl, ?_⟩⟩
  rw [List.take_of_length_le (by rw [Array.length_toList, hl]; omega)]
set_option maxRecDepth 100000 in
set_option maxHeartbeats 2000000 in
theorem rfields_any (x : Opn) (h : x.right = true) (hx : x.ok) (w : World) :
    Calls Try.prog 95 #[x.val] w fun e w' => ∃ v, e = .returned v ∧ FRow w w' v x.fds ∧ Below w.heap.size w w' := by
  obtain ⟨i0, hi, hz0, hz1, hz2⟩ := info_parts infoF
  obtain ⟨o0, o1, o2, o3, o4⟩ := hx
  rcases x.right_cases h with ⟨f, i, n, rfl⟩ | rfl | rfl | ⟨t, rfl⟩ | ⟨n, rfl, hn, hn2⟩
  · simp only at o1 o2 o3 o4
    clear h o0 o4
    obtain ⟨f0, f1⟩ := o1
    obtain ⟨j0, j1⟩ := o2
    obtain ⟨n0, n1⟩ := o3
    unfold Opn.val
    go_enter Try.func95, Try.ntmps95
    go_upto_region 6 with (fail)
    refine wp_genc ?_
    intro v0 hv0
    have XB : Below w.heap.size w v0 := by
      rw [hv0]
      (repeat' (first | (with_reducible exact Below.refl _ _) | (with_reducible assumption) | (with_reducible refine below_drewN _ ?_) | (with_reducible refine Below.drew ?_) | (with_reducible refine Below.setCell ?_ (by simp) _) | (with_reducible refine Below.alloc ?_ (by simp; try omega) _)))
    have Xp : v0.heap[w.heap.size]? = some (.cells #[.int .i64 1, .int .u32 f, .int .u32 i, .int .u64 n, .int .u64 0] 30 (0, 0)) := by
      rw [hv0]
      (repeat' (first | (with_reducible exact heap_alloc_new _ _) | (with_reducible exact blk_new (by first | (simp; done) | omega)) | (with_reducible refine blk_drew ?_) | (with_reducible apply put5_0) | (with_reducible apply put5_1) | (with_reducible apply put5_2) | (with_reducible apply put5_3) | (with_reducible apply put5_4) | (with_reducible refine blk_else (by omega) ?_) | (with_reducible refine blk_old ?_)))
    have Xq : v0.heap[w.heap.size + 1]? = some (.cells #[.int .i64 1, .int .u64 1, .string ⟨#[]⟩] 165 (0, 0)) := by
      rw [hv0]
      (repeat' (first | (with_reducible exact heap_alloc_new _ _) | (with_reducible exact blk_new (by first | (simp; done) | omega)) | (with_reducible refine blk_drew ?_) | (with_reducible apply put3_0) | (with_reducible apply put3_1) | (with_reducible apply put3_2) | (with_reducible refine blk_else (by omega) ?_) | (with_reducible refine blk_old ?_)))
    obtain ⟨Bq, hBq⟩ : ∃ x, x = w.heap.size + 1 := ⟨_, rfl⟩
    rw [← hBq] at Xq
    try rw [← hBq]
    have leq : w.heap.size ≤ Bq := by omega
    obtain ⟨Bp, hBp⟩ : ∃ x, x = w.heap.size := ⟨_, rfl⟩
    rw [← hBp] at Xp
    try rw [← hBp]
    have npq : ¬ Bp = Bq := by omega
    have nqp : ¬ Bq = Bp := fun h => npq h.symm
    have lep : w.heap.size ≤ Bp := by omega
    clear hBp hBq
    clear hv0
    have Hq1 := Lib.hid Xq
    have Hp1 := Lib.hid Xp
    have HB1 := Lib.hid XB
    clear Xq Xp XB
    obtain ⟨q0_, q1_, q2_, qf0_, qf1_, qf2_⟩ := at3 Hq1.out
    have qn_ := ne_blk Hq1.out
    have qm_ := Ne.symm (a := Bq) qn_
    have ql_ := lt_blk Hq1.out
    obtain ⟨p0_, p1_, p2_, p3_, p4_, pf0_, pf1_, pf2_, pf3_, pf4_⟩ := at5 Hp1.out
    have pn_ := ne_blk Hp1.out
    have pm_ := Ne.symm (a := Bp) pn_
    have pl_ := lt_blk Hp1.out
    have HO := Lib.hid (frow_of_block (w0 := w) (fl := [⟨1, 1, ⟨#[]⟩⟩]) leq Hq1.out rfl (by unfold maxLen; decide) rfl rfl)
    go_wp2_with (at_builtin; refine wpList_append_own _ rfl _ _ 161 rfl w.heap.size 165 i0 (.agg #[.int .i64 0, .int .u64 0, .string ⟨#[]⟩]) 3 32 Try.underlying161 hi hz0 hz1 hz2 rfl (by decide) _ 1 [.int .i64 1, .int .u64 1, .string ⟨#[]⟩] rfl (World.ownsRow.alloc HO.out _) ⟨v0.heap.size, 0, none⟩ 3 3 [.int .i64 3, .int .u64 f, .string ⟨#[]⟩, .int .i64 3, .int .u64 i, .string ⟨#[]⟩, .int .i64 5, .int .u64 n, .string ⟨#[]⟩] rfl rfl (cells_new _ #[.int .i64 3, .int .u64 f, .string ⟨#[]⟩, .int .i64 3, .int .u64 i, .string ⟨#[]⟩, .int .i64 5, .int .u64 n, .string ⟨#[]⟩] _) (fun x hx => by simp at hx; rcases hx with rfl | rfl | rfl | rfl | rfl | rfl | rfl | rfl | rfl <;> rfl) (by unfold maxLen; omega) (by omega) (by have := HB1.out.size; simp; omega) ?_; intro v' w3 hown' hgrow3 hnil3; clear hnil3; have Xp : w3.heap[Bp]? = some (.cells #[.int .i64 1, .int .u32 f, .int .u32 i, .int .u64 n, .int .u64 0] 30 (0, 0)) := (hgrow3.block Bp (by have := lt_blk Hp1.out; simp; omega) (fun h => npq (Option.some.inj h))).trans (blk_old Hp1.out); obtain ⟨r0_, r1_, r2_, r3_, r4_, rf_⟩ := at5 Xp)
    go_ret
    refine ⟨v', rfl, ?_, ?_⟩
    · exact hown'
    · exact (HB1.out.alloc (by have := HB1.out.size; omega) _).grown hgrow3 (by have := HB1.out.size; simp; omega) (fun g hg => (World.ownsRow.lt HO.out g hg).1)
  · clear h o0 o1 o2 o3 o4
    unfold Opn.val
    go_enter Try.func95, Try.ntmps95
    go_wp2
    go_ret
    refine ⟨_, rfl, ?_, ?_⟩
    · exact lit_frow (fl := [⟨1, 2, ⟨#[]⟩⟩]) (by simp; try omega) (by simp) rfl (by unfold maxLen; decide) rfl rfl
    · (repeat' (first | (with_reducible exact Below.refl _ _) | (with_reducible refine Below.setCell ?_ (by simp) _) | (with_reducible refine Below.alloc ?_ (by simp; try omega) _)))
  · clear h o0 o1 o2 o3 o4
    unfold Opn.val
    go_enter Try.func95, Try.ntmps95
    go_wp2
    go_ret
    refine ⟨_, rfl, ?_, ?_⟩
    · exact lit_frow (fl := [⟨1, 4, ⟨#[]⟩⟩]) (by simp; try omega) (by simp) rfl (by unfold maxLen; decide) rfl rfl
    · (repeat' (first | (with_reducible exact Below.refl _ _) | (with_reducible refine Below.setCell ?_ (by simp) _) | (with_reducible refine Below.alloc ?_ (by simp; try omega) _)))
  · clear h o0 o1 o2 o3
    obtain ⟨t0, t1⟩ := o4
    simp only at t0 t1
    unfold Opn.val
    go_enter Try.func95, Try.ntmps95
    go_upto_region 8 with (fail)
    refine wp_genc ?_
    intro v0 hv0
    have XB : Below w.heap.size w v0 := by
      rw [hv0]
      (repeat' (first | (with_reducible exact Below.refl _ _) | (with_reducible assumption) | (with_reducible refine below_drewN _ ?_) | (with_reducible refine Below.drew ?_) | (with_reducible refine Below.setCell ?_ (by simp) _) | (with_reducible refine Below.alloc ?_ (by simp; try omega) _)))
    have Xp : v0.heap[w.heap.size]? = some (.cells #[.int .i64 3, .int .u32 0, .int .u32 0, .int .u64 0, .int .u64 t] 30 (0, 0)) := by
      rw [hv0]
      (repeat' (first | (with_reducible exact heap_alloc_new _ _) | (with_reducible exact blk_new (by first | (simp; done) | omega)) | (with_reducible refine blk_drew ?_) | (with_reducible apply put5_0) | (with_reducible apply put5_1) | (with_reducible apply put5_2) | (with_reducible apply put5_3) | (with_reducible apply put5_4) | (with_reducible refine blk_else (by omega) ?_) | (with_reducible refine blk_old ?_)))
    have Xq : v0.heap[w.heap.size + 1]? = some (.cells #[.int .i64 1, .int .u64 3, .string ⟨#[]⟩] 165 (0, 0)) := by
      rw [hv0]
      (repeat' (first | (with_reducible exact heap_alloc_new _ _) | (with_reducible exact blk_new (by first | (simp; done) | omega)) | (with_reducible refine blk_drew ?_) | (with_reducible apply put3_0) | (with_reducible apply put3_1) | (with_reducible apply put3_2) | (with_reducible refine blk_else (by omega) ?_) | (with_reducible refine blk_old ?_)))
    obtain ⟨Bq, hBq⟩ : ∃ x, x = w.heap.size + 1 := ⟨_, rfl⟩
    rw [← hBq] at Xq
    try rw [← hBq]
    have leq : w.heap.size ≤ Bq := by omega
    obtain ⟨Bp, hBp⟩ : ∃ x, x = w.heap.size := ⟨_, rfl⟩
    rw [← hBp] at Xp
    try rw [← hBp]
    have npq : ¬ Bp = Bq := by omega
    have nqp : ¬ Bq = Bp := fun h => npq h.symm
    have lep : w.heap.size ≤ Bp := by omega
    clear hBp hBq
    clear hv0
    have Hq1 := Lib.hid Xq
    have Hp1 := Lib.hid Xp
    have HB1 := Lib.hid XB
    clear Xq Xp XB
    obtain ⟨q0_, q1_, q2_, qf0_, qf1_, qf2_⟩ := at3 Hq1.out
    have qn_ := ne_blk Hq1.out
    have qm_ := Ne.symm (a := Bq) qn_
    have ql_ := lt_blk Hq1.out
    obtain ⟨p0_, p1_, p2_, p3_, p4_, pf0_, pf1_, pf2_, pf3_, pf4_⟩ := at5 Hp1.out
    have pn_ := ne_blk Hp1.out
    have pm_ := Ne.symm (a := Bp) pn_
    have pl_ := lt_blk Hp1.out
    have HO := Lib.hid (frow_of_block (w0 := w) (fl := [⟨1, 3, ⟨#[]⟩⟩]) leq Hq1.out rfl (by unfold maxLen; decide) rfl rfl)
    go_wp2_with (at_builtin; refine wpList_append_own _ rfl _ _ 161 rfl w.heap.size 165 i0 (.agg #[.int .i64 0, .int .u64 0, .string ⟨#[]⟩]) 3 32 Try.underlying161 hi hz0 hz1 hz2 rfl (by decide) _ 1 [.int .i64 1, .int .u64 3, .string ⟨#[]⟩] rfl (World.ownsRow.alloc HO.out _) ⟨v0.heap.size, 0, none⟩ 1 1 [.int .i64 5, .int .u64 t, .string ⟨#[]⟩] rfl rfl (cells_new _ #[.int .i64 5, .int .u64 t, .string ⟨#[]⟩] _) (fun x hx => by simp at hx; rcases hx with rfl | rfl | rfl <;> rfl) (by unfold maxLen; omega) (by omega) (by have := HB1.out.size; simp; omega) ?_; intro v' w3 hown' hgrow3 hnil3; clear hnil3; have Xp : w3.heap[Bp]? = some (.cells #[.int .i64 3, .int .u32 0, .int .u32 0, .int .u64 0, .int .u64 t] 30 (0, 0)) := (hgrow3.block Bp (by have := lt_blk Hp1.out; simp; omega) (fun h => npq (Option.some.inj h))).trans (blk_old Hp1.out); obtain ⟨r0_, r1_, r2_, r3_, r4_, rf_⟩ := at5 Xp)
    go_ret
    refine ⟨v', rfl, ?_, ?_⟩
    · exact hown'
    · exact (HB1.out.alloc (by have := HB1.out.size; omega) _).grown hgrow3 (by have := HB1.out.size; simp; omega) (fun g hg => (World.ownsRow.lt HO.out g hg).1)
  · clear h o0 o1 o2 o4 hn2
    obtain ⟨n0, n1⟩ := o3
    simp only at n0 n1
    unfold Opn.val
    go_enter Try.func95, Try.ntmps95
    go_wp2
    go_ret
    refine ⟨_, rfl, ?_, ?_⟩
    · exact lit_frow (fl := [⟨1, n, ⟨#[]⟩⟩]) (by simp; try omega) (by simp) rfl (by unfold maxLen; decide) rfl rfl
    · (repeat' (first | (with_reducible exact Below.refl _ _) | (with_reducible refine Below.setCell ?_ (by simp) _) | (with_reducible refine Below.alloc ?_ (by simp; try omega) _)))
end Go.Proofs.Ytdlcipbehalfhaa
