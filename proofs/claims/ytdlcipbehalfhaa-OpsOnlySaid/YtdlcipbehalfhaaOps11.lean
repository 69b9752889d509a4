/-
  The law on operations that are put and read back: true for any operations. No condition.
-/
import Derived.Test.YtdlcipbehalfhaaOps10
import Derived.Deep.RegionHeld3
namespace Go.Proofs.Ytdlcipbehalfhaa
set_option linter.unusedVariables false
set_option linter.unusedSimpArgs false
open Go.ChangeShapes Go.WideShapes Go.ChangeAt Go.RowKit
attribute [-go_sem] run_index_string binOp_string_eql binOp_string_neq run_string_add_if run_slice_string_from_if run_slice_string_to_if
attribute [local go_sem] index_bt add_fits slice_from slice_to eql_str neq_str alloc_drewN setCell_drewN

set_option maxRecDepth 100000 in
set_option maxHeartbeats 4000000 in
theorem walk_opsBack (a : Option Addr) (n c : Nat) (l : List Opn) {w : World} (hr : RowOp w a n l) (hcap : n ≤ c) :
    Calls Try.prog 4 #[.slice a n c] w fun e w' => e = .returned (.bool true) ∧ Below w.heap.size w w' := by
  have LV := Lib.hid (fun W => lives25 W)
  have HSR := Lib.hid (SRow.of_row (c := c) hr)
  have hnm := hr.2.1
  unfold maxLen at hnm
  by_cases h5 : 500 < n
  · have g : decide ((500 : Int) < (n : Int)) = true := decide_eq_true (by omega)
    clear h5 hr
    go_enter Try.func4, Try.ntmps4
    go_wp2_with fail
    refine (LV.out _).mono ?_
    rintro e w5 ⟨rfl, h5⟩
    go_wp2
    go_ret
    exact ⟨rfl, h5⟩
  · have g : decide ((500 : Int) < (n : Int)) = false := decide_eq_false (by omega)
    have hn5 : n ≤ 500 := by omega
    clear h5
    obtain ⟨hl, _, hok, hcells⟩ := hr
    have HL := Lib.hid hl; have HOK := Lib.hid hok; have HCE := Lib.hid hcells
    clear hl hok hcells
    go_enter Try.func4, Try.ntmps4
    go_wp2
    go_loopw [15] (fun x wr => ∃ k : Nat, x = .int .i64 k ∧ k ≤ n ∧ Below w.heap.size w wr) (fun x _ => n - (intOf x).toNat)
    case atStart => exact ⟨0, rfl, Nat.zero_le _, Below.refl _ _⟩
    case round =>
      obtain ⟨k, rfl, hk, hbw⟩ := hrel
      have hsize := hbw.size
      by_cases hlt : k < n
      · obtain ⟨b, off, rfl, hb, hcs⟩ := HCE.out (by omega)
        obtain ⟨c0, c1, c2, c3, c4⟩ := hcs k hlt
        have c0 := (hbw.cell (p := ⟨b, off + k * 5, none⟩) hb).trans c0
        have c1 := (hbw.cell (p := ⟨b, off + k * 5 + 1, none⟩) hb).trans c1
        have c2 := (hbw.cell (p := ⟨b, off + k * 5 + 2, none⟩) hb).trans c2
        have c3 := (hbw.cell (p := ⟨b, off + k * 5 + 3, none⟩) hb).trans c3
        have c4 := (hbw.cell (p := ⟨b, off + k * 5 + 4, none⟩) hb).trans c4
        have hx := HOK.out (l.getD k Opn.nil) (by have := HL.out; rw [List.getD_eq_getElem?_getD, List.getElem?_eq_getElem (by omega : k < l.length)]; exact List.getElem_mem _)
        have x0 : (0 : Int) ≤ (k : Int) := by omega
        have x1 : (k : Int) < (n : Int) := by omega
        generalize l.getD k Opn.nil = x at *
        have RA := Lib.hid (fun W => right_any x hx W)
        have RR := Lib.hid (fun W => rright_any x hx W)
        have HB := Lib.hid hbw
        obtain ⟨xk, xf, xi, xn, xt⟩ := x
        unfold Opn.val at RA RR
        simp only at c0 c1 c2 c3 c4 RA RR
        generalize (Opn.mk xk xf xi xn xt).right = q at *
        clear hx hbw hcs
        go_upto_region 6 with (fail)
        refine wp_genc ?_
        intro v0 hv0
        have XB : Below wr.heap.size wr v0 := by
          rw [hv0]
          (repeat' (first | (with_reducible exact Below.refl _ _) | (with_reducible assumption) | (with_reducible refine below_drewN _ ?_) | (with_reducible refine Below.drew ?_) | (with_reducible refine Below.setCell ?_ (by simp) _) | (with_reducible refine Below.alloc ?_ (by simp; try omega) _)))
        have Xp : v0.heap[wr.heap.size]? = some (.cells #[.int .i64 xk, .int .u32 xf, .int .u32 xi, .int .u64 xn, .int .u64 xt] 30 (0, 0)) := by
          rw [hv0]
          (repeat' (first | (with_reducible exact heap_alloc_new _ _) | (with_reducible exact blk_new (by first | (simp; done) | omega)) | (with_reducible refine blk_drew ?_) | (with_reducible apply put5_0) | (with_reducible apply put5_1) | (with_reducible apply put5_2) | (with_reducible apply put5_3) | (with_reducible apply put5_4) | (with_reducible refine blk_else (by omega) ?_) | (with_reducible refine blk_old ?_)))
        obtain ⟨Bp, hBp⟩ : ∃ x, x = wr.heap.size := ⟨_, rfl⟩
        rw [← hBp] at Xp
        try rw [← hBp]
        have lep : wr.heap.size ≤ Bp := by omega
        clear hBp
        clear hv0
        have Hp1 := Lib.hid Xp
        have HB1 := Lib.hid XB
        clear Xp XB
        obtain ⟨p0_, p1_, p2_, p3_, p4_, pf0_, pf1_, pf2_, pf3_, pf4_⟩ := at5 Hp1.out
        have pn_ := ne_blk Hp1.out
        have pm_ := Ne.symm (a := Bp) pn_
        have pl_ := lt_blk Hp1.out
        have S0 := Lib.hid (fun v (hv : Below v0.heap.size v0 v) => (⟨cell_blk (blk_call hv Hp1.out) 0 rfl, cell_blk (blk_call hv Hp1.out) 1 rfl, cell_blk (blk_call hv Hp1.out) 2 rfl, cell_blk (blk_call hv Hp1.out) 3 rfl, cell_blk (blk_call hv Hp1.out) 4 rfl, bel_onto HB1.out hv HB1.out.size⟩ : v.cell? ⟨Bp, 0, none⟩ = some (.int .i64 xk) ∧ v.cell? ⟨Bp, 1, none⟩ = some (.int .u32 xf) ∧ v.cell? ⟨Bp, 2, none⟩ = some (.int .u32 xi) ∧ v.cell? ⟨Bp, 3, none⟩ = some (.int .u64 xn) ∧ v.cell? ⟨Bp, 4, none⟩ = some (.int .u64 xt) ∧ Below wr.heap.size wr v))
        go_region_held3 (fun v => v.cell? ⟨Bp, 0, none⟩ = some (.int .i64 xk) ∧ v.cell? ⟨Bp, 1, none⟩ = some (.int .u32 xf) ∧ v.cell? ⟨Bp, 2, none⟩ = some (.int .u32 xi) ∧ v.cell? ⟨Bp, 3, none⟩ = some (.int .u64 xn) ∧ v.cell? ⟨Bp, 4, none⟩ = some (.int .u64 xt) ∧ Below wr.heap.size wr v)
          (exact S0.out _ (by repeat' (first | (with_reducible exact Below.refl _ _) | (with_reducible exact (Below.refl _ _).drew) | (with_reducible refine bel_call (by with_reducible assumption) ?_ (Nat.le_refl _)))))
          (first
            | (go_at_call 19; with_reducible refine (RA.out _).mono ?_; rintro e u0 ⟨rfl, h0_⟩)
            | (go_at_call 20; with_reducible refine (RR.out _).mono ?_; rintro e u1 ⟨rfl, h1_⟩)
            | fail)
        all_goals
          go_wp2
          go_roundw
          case rel =>
            refine ⟨k + 1, by go_num, by omega, ?_⟩
            refine HB.out.trans (Below.mono (B := wr.heap.size) ?_ hsize)
            (repeat' (first | (with_reducible exact HB1.out) | (with_reducible refine below_drewN _ ?_) | (with_reducible refine Below.drew ?_) | (with_reducible refine bel_call (by with_reducible assumption) ?_ (by have := HB1.out.size; omega)) | (with_reducible refine Below.alloc ?_ (by have := HB1.out.size; simp; omega) _)))
          case measure => simp [intOf] <;> omega
      · have SR1 := Lib.hid (HSR.out.later hbw)
        have HB := Lib.hid hbw
        have hL := HL.out
        have ek : k = l.length := by omega
        subst hL
        subst ek
        clear hlt hbw
        by_cases ha : allR l = true
        · have hal : ∀ x ∈ l, x.right = true ∧ x.ok := fun x hx => ⟨List.all_eq_true.1 ha x hx, HOK.out x hx⟩
          have hsm := oput_small l hal
          have RB := oread_put' l hal
          have P1 := Lib.hid (fun (W : World) (h : SRow W (.slice a l.length c) l) => ops_put l (by omega) HOK.out h _ (fun _ => rfl) (fun x => by rw [ha] at x; cases x))
          have P2 := Lib.hid (fun (W : World) (h : SRow W (.slice a l.length c) l) => rops_put l (by omega) HOK.out h _ (fun _ => rfl) (fun x => by rw [ha] at x; cases x))
          have RD := Lib.hid (fun W => ops_read (oput l) (by omega) W)
          rw [RB] at RD
          have SM := Lib.hid (fun (W : World) (v1 v2 : Value) h1 h2 => same25 (w := W) (v1 := v1) (v2 := v2) (l := l) (by omega) h1 h2)
          clear hal RB ha
          generalize oput l = S at *
          go_wp2_with fail
          refine (P1.out _ SR1.out).mono ?_
          rintro e w1 ⟨rfl, h1⟩
          have HB1 := Lib.hid (HB.out.trans (h1.mono hsize))
          have SR2 := Lib.hid (SR1.out.later h1)
          clear h1
          go_wp2_with fail
          refine (P2.out _ SR2.out).mono ?_
          rintro e w2 ⟨rfl, h2⟩
          have HB2 := Lib.hid (HB1.out.trans (h2.mono HB1.out.size))
          have SR3 := Lib.hid (SR2.out.later h2)
          clear h2
          go_wp2_with fail
          refine (RD.out _).mono ?_
          rintro e w3 ⟨v3, rfl, ho3, h3⟩
          have SO := Lib.hid (SRow.of_own ho3)
          have SR4 := Lib.hid (SR3.out.later h3)
          have HB3 := Lib.hid (HB2.out.trans (h3.mono HB2.out.size))
          clear h3 ho3
          go_wp2_with fail
          refine (SM.out _ _ _ SO.out SR4.out).mono ?_
          rintro e w4 ⟨rfl, h4⟩
          have HB4 := Lib.hid (HB3.out.trans (h4.mono HB3.out.size))
          clear h4
          go_wp2_with fail
          refine (LV.out _).mono ?_
          rintro e w5 ⟨rfl, h5⟩
          go_wp2
          go_ret
          exact ⟨rfl, HB4.out.trans (h5.mono HB4.out.size)⟩
        · have ha : allR l = false := by cases h : allR l <;> simp_all
          have P1 := Lib.hid (fun (W : World) (h : SRow W (.slice a l.length c) l) => ops_put l (by omega) HOK.out h _ (fun x => by rw [ha] at x; cases x) (fun _ => rfl))
          have P2 := Lib.hid (fun (W : World) (h : SRow W (.slice a l.length c) l) => rops_put l (by omega) HOK.out h _ (fun x => by rw [ha] at x; cases x) (fun _ => rfl))
          clear ha
          go_wp2_with fail
          refine (P1.out _ SR1.out).mono ?_
          rintro e w1 ⟨rfl, h1⟩
          have HB1 := Lib.hid (HB.out.trans (h1.mono hsize))
          have SR2 := Lib.hid (SR1.out.later h1)
          clear h1
          go_wp2_with fail
          refine (P2.out _ SR2.out).mono ?_
          rintro e w2 ⟨rfl, h2⟩
          have HB2 := Lib.hid (HB1.out.trans (h2.mono HB1.out.size))
          clear h2
          go_wp2_with fail
          refine (LV.out _).mono ?_
          rintro e w5 ⟨rfl, h5⟩
          go_wp2
          go_ret
          exact ⟨rfl, HB2.out.trans (h5.mono HB2.out.size)⟩
end Go.Proofs.Ytdlcipbehalfhaa
