/-
  All records' bytes, by package trace. What lay below the heap's end stands.
-/
import Derived.Test.YtapjebhdgcpdjaaTc3
import Derived.Lib.AppendStr
namespace Go.Proofs.Ytapjebhdgcpdjaa
set_option linter.unusedVariables false
set_option linter.unusedSimpArgs false
open Go.ChangeShapes Go.WideShapes Go.ChangeAt Go.RowKit
attribute [-go_sem] run_index_string binOp_string_eql binOp_string_neq run_string_add_if run_slice_string_from_if run_slice_string_to_if
attribute [local go_sem] index_bt add_fits slice_from slice_to eql_str neq_str alloc_drewN setCell_drewN

def allR39 (l : List Rec) : Prop := ∀ x ∈ l, x.rt
theorem allR39_no (l : List Rec) (k : Nat) (h : k < l.length) (hr : ¬ (l.getD k Rec.nil).rt) : ¬ allR39 l := fun hh => hr (hh _ (getD_mem_rec h))
theorem take_snoc6 (l : List Rec) (k : Nat) (h : k < l.length) : l.take (k + 1) = l.take k ++ [l.getD k Rec.nil] := by
  rw [List.take_succ_eq_append_getElem h, List.getD_eq_getElem?_getD, List.getElem?_eq_getElem h]; rfl
theorem rt_snoc (l : List Rec) (k : Nat) (h : k < l.length) (hall : ∀ x ∈ l.take k, x.rt) (hr : (l.getD k Rec.nil).rt) : ∀ x ∈ l.take (k + 1), x.rt := by
  rw [take_snoc6 l k h]
  intro x hx
  rcases List.mem_append.1 hx with hx | hx
  · exact hall x hx
  · rw [List.mem_singleton.1 hx]; exact hr
set_option maxRecDepth 100000 in
set_option maxHeartbeats 4000000 in
theorem tcPut_at (b off c : Nat) (l : List Rec) (hn : l.length ≤ 1000) (hok : ∀ x ∈ l, x.ok) (w : World) (hb : b < w.heap.size) (hc : RCells w b off l) (R : Array Value)
    (h1 : allR39 l → R = #[.string (tput l), .int .i64 0]) (h0 : ¬ allR39 l → R = #[.string ⟨#[]⟩, .int .i64 6]) :
    Calls Try.prog 31 #[.slice (some ⟨b, off, none⟩) l.length c] w fun e w' => e = .returned (.tuple R) ∧ Below w.heap.size w w' := by
  obtain ⟨i0, hi, hz0, hz1, hz2⟩ := info_parts infoU8
  have HC := Lib.hid hc; have HOK := Lib.hid hok
  have R1 := Lib.hid h1; have R0 := Lib.hid h0
  clear hc hok h1 h0
  go_enter Try.func31, Try.ntmps31
  go_wp2
  go_loopw [4, 9] (fun x y wr => ∃ (v : Value) (k : Nat), v = x ∧ k ≤ l.length ∧ y = .int .i64 k ∧ (∀ x ∈ l.take k, x.rt) ∧ Own wr w.heap.size v (tput (l.take k)) ∧ Below w.heap.size w wr) (fun _ y _ => l.length - (intOf y).toNat)
  case atStart => exact ⟨_, 0, rfl, Nat.zero_le _, rfl, fun x h => (by cases h), World.ownsRow_nil _ _ _ _, Below.refl _ _⟩
  case round =>
    obtain ⟨v, k, rfl, hk, rfl, hall, ho, hbw⟩ := hrel
    have hsize := hbw.size
    by_cases hlt : k < l.length
    · obtain ⟨c0, c1, c2, c3, c4, c5⟩ := HC.out k hlt
      have c0 := (hbw.cell (p := ⟨b, off + k * 6, none⟩) hb).trans c0
      have c1 := (hbw.cell (p := ⟨b, off + k * 6 + 1, none⟩) hb).trans c1
      have c2 := (hbw.cell (p := ⟨b, off + k * 6 + 2, none⟩) hb).trans c2
      have c3 := (hbw.cell (p := ⟨b, off + k * 6 + 3, none⟩) hb).trans c3
      have c4 := (hbw.cell (p := ⟨b, off + k * 6 + 4, none⟩) hb).trans c4
      have c5 := (hbw.cell (p := ⟨b, off + k * 6 + 5, none⟩) hb).trans c5
      have hx := HOK.out _ (getD_mem_rec hlt)
      have x0 : (0 : Int) ≤ (k : Int) := by omega
      have x1 : (k : Int) < (l.length : Int) := by omega
      have HA := Lib.hid hall
      have NO := Lib.hid (allR39_no l k hlt)
      have YES := Lib.hid (rt_snoc l k hlt hall)
      have TS := Lib.hid (take_snoc6 l k hlt)
      have hts : (tput (l.take k)).size ≤ 30000 := by rw [tput_size, List.length_take]; omega
      obtain ⟨x, hxe⟩ : ∃ x, l.getD k Rec.nil = x := ⟨_, rfl⟩
      rw [hxe] at hx c0 c1 c2 c3 c4 c5 NO YES TS
      clear hxe hall
      obtain ⟨T, hT⟩ : ∃ T, tput (l.take k) = T := ⟨_, rfl⟩
      rw [hT] at hts ho
      have HTE := Lib.hid hT
      clear hT
      have RA := Lib.hid (fun W => tright_any x hx W)
      have PA := Lib.hid (fun h W => tcput_any x hx h W)
      have HO := Lib.hid ho; have HB := Lib.hid hbw
      have hz1_ := one_30 x
      clear hx ho hbw
      obtain ⟨O, hO⟩ : ∃ O, x.one = O := ⟨_, rfl⟩
      rw [hO] at PA hz1_
      have HOE := Lib.hid hO
      clear hO
      obtain ⟨xt, xk, xf, xi, xn, xc⟩ := x
      unfold Rec.val at RA PA
      simp only at c0 c1 c2 c3 c4 c5 RA PA
      by_cases hr : (Rec.mk xt xk xf xi xn xc).rt
      · rw [decide_eq_true hr] at RA
        have PB := Lib.hid (PA.out hr)
        have HR := Lib.hid hr
        clear PA NO hr
        go_wp2_with fail
        refine cl_gen ?_
        intro v0 hv0
        have XB : Below wr.heap.size wr v0 := by
          rw [hv0]
          (repeat' (first | (with_reducible exact Below.refl _ _) | (with_reducible assumption) | (with_reducible refine below_drewN _ ?_) | (with_reducible refine Below.drew ?_) | (with_reducible refine Below.setCell ?_ (by simp) _) | (with_reducible refine Below.alloc ?_ (by simp; try omega) _)))
        have Xp : v0.heap[wr.heap.size]? = some (.cells #[.int .u64 xt, .int .i64 xk, .int .u32 xf, .int .u32 xi, .int .u64 xn, .int .i64 xc] 64 (0, 0)) := by
          rw [hv0]
          (repeat' (first | (with_reducible exact heap_alloc_new _ _) | (with_reducible exact blk_new (by first | (simp; done) | omega)) | (with_reducible refine blk_drew ?_) | (with_reducible apply put6_0) | (with_reducible apply put6_1) | (with_reducible apply put6_2) | (with_reducible apply put6_3) | (with_reducible apply put6_4) | (with_reducible apply put6_5) | (with_reducible refine blk_else (by omega) ?_) | (with_reducible refine blk_old ?_)))
        obtain ⟨Bp, hBp⟩ : ∃ x, x = wr.heap.size := ⟨_, rfl⟩
        rw [← hBp] at Xp
        try rw [← hBp]
        have lep : wr.heap.size ≤ Bp := by omega
        clear hBp
        clear hv0
        refine (RA.out _).mono ?_
        rintro e w1 ⟨rfl, bb⟩
        have Hp1 := Lib.hid (blk_call bb Xp)
        have HB1 := Lib.hid (bel_onto XB bb XB.size)
        clear Xp XB bb
        obtain ⟨p0_, p1_, p2_, p3_, p4_, p5_, pf0_, pf1_, pf2_, pf3_, pf4_, pf5_⟩ := at6 Hp1.out
        have pn_ := ne_blk Hp1.out
        have pm_ := Ne.symm (a := Bp) pn_
        have pl_ := lt_blk Hp1.out
        go_wp2_with fail
        refine cl_gen ?_
        intro v1 hv1
        have XB : Below wr.heap.size wr v1 := by
          rw [hv1]
          (repeat' (first | (with_reducible exact HB1.out) | (with_reducible exact Below.refl _ _) | (with_reducible refine below_drewN _ ?_) | (with_reducible refine Below.drew ?_) | (with_reducible refine Below.setCell ?_ (by first | (simp; done) | omega) _) | (with_reducible refine Below.alloc ?_ (by have := HB1.out.size; simp; omega) _)))
        clear p0_ p1_ p2_ p3_ p4_ p5_ pf0_ pf1_ pf2_ pf3_ pf4_ pf5_ pn_ pm_ pl_
        clear hv1 Hp1 HB1
        refine (PB.out _).mono ?_
        rintro e w4 ⟨rfl, h4⟩
        have XB4 := bel_onto XB h4 XB.size
        clear XB
        have hs4 := XB4.size
        have ho5 : Own w4 w.heap.size v T := World.ownsRow.kept HO.out (row := some w4.heap.size) ⟨XB4.os, XB4.tape, XB4.output, XB4.size, fun k hk _ => XB4.block k hk⟩ (Or.inr (fun e => by
            have := World.ownsRow.lt HO.out _ e
            omega))
        have HO5 := Lib.hid ho5
        have HX4 := Lib.hid XB4
        clear ho5 XB4 h4
        go_wp2_with (at_builtin; refine Lib.wpList_append_own_string _ rfl _ _ 114 9 rfl w.heap.size 5 i0 Try.underlying114 Try.underlying9 hi hz0 hz1 hz2 v T.size (Lib.strCells T) rfl HO5.out O rfl (by unfold maxLen; omega) (by omega) (by omega) ?_; intro v' w9 hown' hgrow3 hnil3; clear hnil3)
        go_roundw
        case rel =>
          refine ⟨v', k + 1, rfl, by omega, by go_num, YES.out HR.out, ?_, ?_⟩
          · rw [TS.out, tput_snoc, HOE.out, HTE.out]
            unfold Own
            rw [strCells_append, ByteArray.size_append]
            exact hown'
          · exact (HB.out.trans (HX4.out.mono hsize)).grown hgrow3 (by omega) (fun g hg => (World.ownsRow.lt HO5.out g hg).1)
        case measure => simp [intOf] <;> omega
      · rw [decide_eq_false hr] at RA
        have HNO := Lib.hid (NO.out hr)
        clear PA NO hr YES
        go_wp2_with fail
        refine cl_gen ?_
        intro v0 hv0
        have XB : Below wr.heap.size wr v0 := by
          rw [hv0]
          (repeat' (first | (with_reducible exact Below.refl _ _) | (with_reducible assumption) | (with_reducible refine below_drewN _ ?_) | (with_reducible refine Below.drew ?_) | (with_reducible refine Below.setCell ?_ (by simp) _) | (with_reducible refine Below.alloc ?_ (by simp; try omega) _)))
        clear hv0
        refine (RA.out _).mono ?_
        rintro e w1 ⟨rfl, bb⟩
        have HB1 := Lib.hid (bel_onto XB bb XB.size)
        clear XB bb
        go_wp2
        go_ret2
        exact ⟨by rw [R0.out HNO.out]; rfl, HB.out.trans (HB1.out.mono hsize)⟩
    · have ek : k = l.length := by omega
      subst ek
      have et : l.take l.length = l := List.take_of_length_le (by simp)
      rw [et] at ho hall
      have cv := conv_own _ _ _ _ ho
      have HA := Lib.hid hall
      have HB := Lib.hid hbw
      clear hall et ho hbw
      go_wp2
      go_ret2
      exact ⟨by rw [R1.out HA.out]; rfl, HB.out⟩
theorem tcPut_none (a : Option Addr) (c : Nat) (w : World) :
    Calls Try.prog 31 #[.slice a 0 c] w fun e w' => e = .returned (.tuple #[.string ⟨#[]⟩, .int .i64 0]) ∧ Below w.heap.size w w' := by
  have cv := conv_own w w.heap.size (.slice none 0 0) ⟨#[]⟩ (World.ownsRow_nil _ _ _ _)
  go_enter Try.func31, Try.ntmps31
  go_wp2
  refine wp_loop_rounds 1 ?_
  rw [rounds_succ]
  go_wp2
  go_ret2
  exact ⟨rfl, Below.refl _ _⟩
theorem tcPut (l : List Rec) (hn : l.length ≤ 1000) (hok : ∀ x ∈ l, x.ok) {w : World} {v : Value} (h : SRc w v l) (R : Array Value)
    (h1 : allR39 l → R = #[.string (tput l), .int .i64 0]) (h0 : ¬ allR39 l → R = #[.string ⟨#[]⟩, .int .i64 6]) :
    Calls Try.prog 31 #[v] w fun e w' => e = .returned (.tuple R) ∧ Below w.heap.size w w' := by
  obtain ⟨a, c, rfl, h⟩ := h
  by_cases h2 : 0 < l.length
  · obtain ⟨b, off, rfl, hb, hc⟩ := h h2
    exact tcPut_at b off c l hn hok w hb hc R h1 h0
  · have hl : l = [] := List.length_eq_zero_iff.1 (by omega)
    subst hl
    rw [h1 (fun x h => by cases h)]
    exact tcPut_none a c w
end Go.Proofs.Ytapjebhdgcpdjaa
