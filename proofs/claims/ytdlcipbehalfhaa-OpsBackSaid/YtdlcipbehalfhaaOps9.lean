/-
  What operations are put as, by package ops and by the document's answer for layer 25. What lay below the heap's end stands.
-/
import Derived.Test.YtdlcipbehalfhaaOps8
import Derived.Test.YtdlcipbehalfhaaOps3
import Derived.Test.YtdlcipbehalfhaaOps3f
namespace Go.Proofs.Ytdlcipbehalfhaa
set_option linter.unusedVariables false
set_option linter.unusedSimpArgs false
open Go.ChangeShapes Go.WideShapes Go.ChangeAt Go.RowKit
attribute [-go_sem] run_index_string binOp_string_eql binOp_string_neq run_string_add_if run_slice_string_from_if run_slice_string_to_if
attribute [local go_sem] index_bt add_fits slice_from slice_to eql_str neq_str alloc_drewN setCell_drewN

theorem fds_ok (x : Opn) (h : x.right = true) (hx : x.ok) : ∀ f ∈ x.fds, f.ok := fun f hf => by
  obtain ⟨he, n0, n1⟩ := right_fds x h hx f hf
  obtain ⟨k1, k6, hs, _⟩ := er_range f he
  exact ⟨⟨by omega, by omega⟩, ⟨n0, n1⟩, by unfold maxLen; omega⟩
theorem ofds_snoc (l : List Opn) (x : Opn) : ofds (l ++ [x]) = ofds l ++ x.fds := by unfold ofds; rw [List.flatMap_append]; simp
theorem ofds_mem {l : List Opn} {f : Fd} (h : f ∈ ofds l) : ∃ x ∈ l, f ∈ x.fds := List.mem_flatMap.1 h
theorem fds_len (x : Opn) : 1 ≤ x.fds.length ∧ x.fds.length ≤ 4 := by
  unfold Opn.fds Opn.rest
  split
  · exact ⟨by simp, by simp⟩
  · split
    · exact ⟨by simp, by simp⟩
    · exact ⟨by simp, by simp⟩
theorem ofds_len (l : List Opn) : (ofds l).length ≤ 4 * l.length := by
  induction l with
  | nil => exact Nat.zero_le _
  | cons x l ih =>
    unfold ofds at *
    rw [List.flatMap_cons, List.length_append, List.length_cons]
    have := fds_len x
    omega
theorem take_snoc5 (l : List Opn) (k : Nat) (h : k < l.length) : l.take (k + 1) = l.take k ++ [l.getD k Opn.nil] := by
  rw [List.take_succ_eq_append_getElem h, List.getD_eq_getElem?_getD, List.getElem?_eq_getElem h]; rfl
theorem perr_right (l : List Opn) (h : ∀ x ∈ l, x.right = true ∧ x.ok) : perr (ofds l) = 0 := perr_all _ fun i hi => by
  have hm : (ofds l).getD i Fd.nil ∈ ofds l := by rw [List.getD_eq_getElem?_getD, List.getElem?_eq_getElem hi]; exact List.getElem_mem _
  obtain ⟨x, hx, hf⟩ := ofds_mem hm
  exact (right_fds x (h x hx).1 (h x hx).2 _ hf).1
/-- The same fields, put: of a row that a call owns. -/
theorem Put_own (fs : List Fd) (hn : fs.length ≤ 10000) (hok : ∀ x ∈ fs, x.ok) (hp : perr fs = 0) (base : Nat) (v : Value) (w : World) (h : w.ownsRow base 165 3 v fs.length (fs.flatMap Fd.cells)) :
    Calls Try.prog 93 #[v] w fun e w' => e = .returned (.tuple #[.string (pb fs), .int .i64 0]) ∧ Below w.heap.size w w' := by
  rcases own_fields _ _ _ _ _ h with ⟨rfl, rfl⟩ | ⟨g, cap, rfl, _, hg, hF⟩
  · exact Put_none none 0 w
  · exact Put_at g 0 cap fs hn hok w hg hF _ (fun _ => rfl) (fun x => absurd hp x)
theorem refPut_own (fs : List Fd) (hn : fs.length ≤ 10000) (hok : ∀ x ∈ fs, x.ok) (hp : perr fs = 0) (base : Nat) (v : Value) (w : World) (h : w.ownsRow base 165 3 v fs.length (fs.flatMap Fd.cells)) :
    Calls Try.prog 94 #[v] w fun e w' => e = .returned (.tuple #[.string (pb fs), .int .i64 0]) ∧ Below w.heap.size w w' := by
  rcases own_fields _ _ _ _ _ h with ⟨rfl, rfl⟩ | ⟨g, cap, rfl, _, hg, hF⟩
  · exact refPut_none none 0 w
  · exact refPut_at g 0 cap fs hn hok w hg hF _ (fun _ => rfl) (fun x => absurd hp x)
def allR (l : List Opn) : Bool := l.all Opn.right
theorem allR_take (l : List Opn) (k : Nat) (h : k < l.length) (hr : (l.getD k Opn.nil).right = false) : allR l = false := by
  unfold allR
  rw [← Bool.not_eq_true, List.all_eq_true]
  intro hh
  have := hh (l.getD k Opn.nil) (by rw [List.getD_eq_getElem?_getD, List.getElem?_eq_getElem h]; exact List.getElem_mem _)
  rw [hr] at this
  cases this
theorem allR_all (l : List Opn) (h : ∀ x ∈ l, x.right = true) : allR l = true := by
  unfold allR; rw [List.all_eq_true]; exact h
theorem right_snoc (l : List Opn) (k : Nat) (h : k < l.length) (hall : ∀ x ∈ l.take k, x.right = true) (hr : (l.getD k Opn.nil).right = true) : ∀ x ∈ l.take (k + 1), x.right = true := by
  rw [take_snoc5 l k h]
  intro x hx
  rcases List.mem_append.1 hx with hx | hx
  · exact hall x hx
  · rw [List.mem_singleton.1 hx]; exact hr
set_option maxRecDepth 100000 in
set_option maxHeartbeats 4000000 in
theorem ops_put_at (b off c : Nat) (l : List Opn) (hn : l.length ≤ 2000) (hok : ∀ x ∈ l, x.ok) (w : World) (hb : b < w.heap.size) (hc : OCells w b off l) (R : Array Value)
    (h1 : allR l = true → R = #[.string (oput l), .int .i64 0]) (h0 : allR l = false → R = #[.string ⟨#[]⟩, .int .i64 6]) :
    Calls Try.prog 21 #[.slice (some ⟨b, off, none⟩) l.length c] w fun e w' => e = .returned (.tuple R) ∧ Below w.heap.size w w' := by
  obtain ⟨i0, hi, hz0, hz1, hz2⟩ := info_parts infoF
  have HC := Lib.hid hc; have HOK := Lib.hid hok
  have R1 := Lib.hid h1; have R0 := Lib.hid h0
  clear hc hok h1 h0
  go_enter Try.func21, Try.ntmps21
  go_wp2
  go_loopw [4, 9] (fun x y wr => ∃ (v : Value) (k : Nat), v = x ∧ k ≤ l.length ∧ y = .int .i64 k ∧ (∀ x ∈ l.take k, x.right = true) ∧ FRow w wr v (ofds (l.take k)) ∧ Below w.heap.size w wr) (fun _ y _ => l.length - (intOf y).toNat)
  case atStart => exact ⟨_, 0, rfl, Nat.zero_le _, rfl, fun x h => (by cases h), World.ownsRow_nil _ _ _ _, Below.refl _ _⟩
  case round =>
    obtain ⟨v, k, rfl, hk, rfl, hall, ho, hbw⟩ := hrel
    have hsize := hbw.size
    by_cases hlt : k < l.length
    · obtain ⟨c0, c1, c2, c3, c4⟩ := HC.out k hlt
      have c0 := (hbw.cell (p := ⟨b, off + k * 5, none⟩) hb).trans c0
      have c1 := (hbw.cell (p := ⟨b, off + k * 5 + 1, none⟩) hb).trans c1
      have c2 := (hbw.cell (p := ⟨b, off + k * 5 + 2, none⟩) hb).trans c2
      have c3 := (hbw.cell (p := ⟨b, off + k * 5 + 3, none⟩) hb).trans c3
      have c4 := (hbw.cell (p := ⟨b, off + k * 5 + 4, none⟩) hb).trans c4
      have hx := HOK.out (l.getD k Opn.nil) (by rw [List.getD_eq_getElem?_getD, List.getElem?_eq_getElem hlt]; exact List.getElem_mem _)
      have x0 : (0 : Int) ≤ (k : Int) := by omega
      have x1 : (k : Int) < (l.length : Int) := by omega
      have HA := Lib.hid hall
      have NO := Lib.hid (allR_take l k hlt)
      have YES := Lib.hid (right_snoc l k hlt hall)
      have TS := Lib.hid (take_snoc5 l k hlt)
      obtain ⟨x, hxe⟩ : ∃ x, l.getD k Opn.nil = x := ⟨_, rfl⟩
      rw [hxe] at hx c0 c1 c2 c3 c4 NO YES TS
      clear hxe hall
      have RA := Lib.hid (fun W => right_any x hx W)
      have HX := Lib.hid hx
      have HO := Lib.hid ho; have HB := Lib.hid hbw
      clear hx ho hbw
      have FA := Lib.hid (fun h W => ofields_any x h HX.out W)
      have hfl := fds_len x
      have hfl2 := ofds_len (l.take k)
      have hfl3 : (l.take k).length ≤ k := List.length_take_le _ _
      obtain ⟨xk, xf, xi, xn, xt⟩ := x
      unfold Opn.val at RA FA
      simp only at c0 c1 c2 c3 c4 RA FA
      by_cases hr : (Opn.mk xk xf xi xn xt).right = true
      · rw [hr] at RA
        have FB := Lib.hid (FA.out hr)
        have HR := Lib.hid hr
        clear FA NO hr
        go_wp2_with fail
        refine cl_gen ?_
        intro v0 hv0
        have XB : Below wr.heap.size wr v0 := by
          rw [hv0]
          (repeat' (first | (with_reducible exact Below.refl _ _) | (with_reducible assumption) | (with_reducible refine below_drewN _ ?_) | (with_reducible refine Below.drew ?_) | (with_reducible refine Below.setCell ?_ (by simp) _) | (with_reducible refine Below.alloc ?_ (by simp; try omega) _)))
        have Xp : v0.heap[wr.heap.size]? = some (.cells #[.int .i64 xk, .int .u32 xf, .int .u32 xi, .int .u64 xn, .int .u64 xt] 30 (0, 0)) := by
          rw [hv0]
          (repeat' (first | (with_reducible exact heap_alloc_new _ _) | (with_reducible exact blk_new (by first | (simp; done) | omega)) | (with_reducible refine blk_drew ?_) | (with_reducible apply put5_0) | (with_reducible apply put5_1) | (with_reducible apply put5_2) | (with_reducible apply put5_3) | (with_reducible apply put5_4) | (with_reducible refine blk_else (by omega) ?_) | (with_reducible refine blk_old ?_)))
        obtain ⟨Bp, hBp⟩ : ∃ x, x = wr.heap.size := ⟨_, rfl⟩
        rw [← hBp] at Xp
        try rw [← hBp]
        have lep : wr.heap.size ≤ Bp := by omega
        clear hBp
        clear hv0
        refine (RA.out _).mono ?_
        rintro e w1 ⟨rfl, bb⟩
        have Hp1 := Lib.hid (blk_call bb Xp)
        have HB1 := Lib.hid (bel_onto XB bb XB.size)
        clear Xp XB bb
        obtain ⟨p0_, p1_, p2_, p3_, p4_, pf0_, pf1_, pf2_, pf3_, pf4_⟩ := at5 Hp1.out
        have pn_ := ne_blk Hp1.out
        have pm_ := Ne.symm (a := Bp) pn_
        have pl_ := lt_blk Hp1.out
        go_wp2_with fail
        refine cl_gen ?_
        intro v1 hv1
        have Xp : v1.heap[Bp]? = some (.cells #[.int .i64 xk, .int .u32 xf, .int .u32 xi, .int .u64 xn, .int .u64 xt] 30 (0, 0)) := by
          rw [hv1]
          (repeat' (first | (with_reducible exact Hp1.out) | (with_reducible exact heap_alloc_new _ _) | (with_reducible exact blk_new (by first | (simp; done) | omega)) | (with_reducible refine blk_drew ?_) | (with_reducible apply put5_0) | (with_reducible apply put5_1) | (with_reducible apply put5_2) | (with_reducible apply put5_3) | (with_reducible apply put5_4) | (with_reducible refine blk_else (by omega) ?_) | (with_reducible refine blk_old ?_)))
        have XB : Below wr.heap.size wr v1 := by
          rw [hv1]
          (repeat' (first | (with_reducible exact HB1.out) | (with_reducible exact Below.refl _ _) | (with_reducible refine below_drewN _ ?_) | (with_reducible refine Below.drew ?_) | (with_reducible refine Below.setCell ?_ (by first | (simp; done) | omega) _) | (with_reducible refine Below.alloc ?_ (by have := HB1.out.size; simp; omega) _)))
        clear p0_ p1_ p2_ p3_ p4_ pf0_ pf1_ pf2_ pf3_ pf4_ pn_ pm_ pl_
        clear hv1 Hp1 HB1
        refine (FB.out _).mono ?_
        rintro e w4 ⟨v4, rfl, ho4, h4⟩
        unfold FRow at ho4
        rcases own_fields _ _ _ _ _ ho4 with ⟨_, h⟩ | ⟨g, cap, rfl, hgb, hg, hF⟩
        · have h9 := hfl.1
          rw [h] at h9
          exact absurd h9 (by decide)
        · have GC := Lib.hid (World.ownsRow.cells ho4 (g := g) rfl)
          have XB4 := bel_onto XB h4 XB.size
          clear XB Xp
          have ho5 : w4.ownsRow w.heap.size 165 3 v (ofds (l.take k)).length ((ofds (l.take k)).flatMap Fd.cells) := World.ownsRow.kept (show wr.ownsRow w.heap.size 165 3 v (ofds (l.take k)).length ((ofds (l.take k)).flatMap Fd.cells) from HO.out) (row := some w4.heap.size) ⟨XB4.os, XB4.tape, XB4.output, XB4.size, fun k hk _ => XB4.block k hk⟩ (Or.inr (fun e => by
            have := World.ownsRow.lt (show wr.ownsRow w.heap.size 165 3 v (ofds (l.take k)).length ((ofds (l.take k)).flatMap Fd.cells) from HO.out) _ e
            have := XB4.size
            omega))
          have HO5 := Lib.hid ho5
          have hcp : (Opn.mk xk xf xi xn xt).fds.length ≤ cap := by
            rcases ho4.2 with ⟨h, _⟩ | ⟨g', c', cur, h, _, _, hc, _⟩
            · cases h
            · injection h with _ _ h; omega
          have HX4 := Lib.hid XB4
          have hs4 := XB4.size
          have hone : ∀ x ∈ (Opn.mk xk xf xi xn xt).fds.flatMap Fd.cells, x.oneCell' = true := fun x hx => by
            obtain ⟨f, _, hx⟩ := List.mem_flatMap.1 hx
            simp only [Fd.cells, List.mem_cons, List.not_mem_nil, or_false] at hx
            rcases hx with rfl | rfl | rfl <;> rfl
          have HONE := Lib.hid hone
          have hxl : ((Opn.mk xk xf xi xn xt).fds.flatMap Fd.cells).length = (Opn.mk xk xf xi xn xt).fds.length * 3 := ho4.1
          have HXL := Lib.hid hxl
          clear ho5 hone XB4 ho4 h4 hxl hF
          obtain ⟨FL, hFL⟩ : ∃ q, (Opn.mk xk xf xi xn xt).fds = q := ⟨_, rfl⟩
          have hfl' := hfl
          rw [hFL] at hfl' hcp HONE HXL GC ⊢
          have HFL := Lib.hid hFL
          clear hFL hfl
          obtain ⟨m, hm⟩ : ∃ m, FL.length = m := ⟨_, rfl⟩
          rw [hm] at hfl' hcp HXL ⊢
          have HM := Lib.hid hm
          clear hm
          go_wp2_with (at_builtin; refine wpList_append_own _ rfl _ _ 161 rfl w.heap.size 165 i0 (.agg #[.int .i64 0, .int .u64 0, .string ⟨#[]⟩]) 3 32 Try.underlying161 hi hz0 hz1 hz2 rfl (by decide) _ _ _ rfl HO5.out ⟨g, 0, none⟩ m cap (FL.flatMap Fd.cells) rfl HXL.out GC.out HONE.out (by unfold maxLen; omega) (by omega) (by omega) ?_; intro v' w9 hown' hgrow3 hnil3; clear hnil3)
          go_roundw
          case rel =>
            refine ⟨v', k + 1, rfl, by omega, by go_num, YES.out HR.out, ?_, ?_⟩
            · unfold FRow
              rw [TS.out, ofds_snoc, List.length_append, List.flatMap_append, HFL.out, HM.out]
              exact hown'
            · exact (HB.out.trans (HX4.out.mono hsize)).grown hgrow3 (by omega) (fun g hg => (World.ownsRow.lt HO5.out g hg).1)
          case measure => simp [intOf] <;> omega
      · have hr2 : (Opn.mk xk xf xi xn xt).right = false := by cases h : (Opn.mk xk xf xi xn xt).right <;> simp_all
        rw [hr2] at RA
        have HNO := Lib.hid (NO.out hr2)
        clear FA NO hr hr2 YES
        go_wp2_with fail
        refine cl_gen ?_
        intro v0 hv0
        have XB : Below wr.heap.size wr v0 := by
          rw [hv0]
          (repeat' (first | (with_reducible exact Below.refl _ _) | (with_reducible assumption) | (with_reducible refine below_drewN _ ?_) | (with_reducible refine Below.drew ?_) | (with_reducible refine Below.setCell ?_ (by simp) _) | (with_reducible refine Below.alloc ?_ (by simp; try omega) _)))
        have Xp : v0.heap[wr.heap.size]? = some (.cells #[.int .i64 xk, .int .u32 xf, .int .u32 xi, .int .u64 xn, .int .u64 xt] 30 (0, 0)) := by
          rw [hv0]
          (repeat' (first | (with_reducible exact heap_alloc_new _ _) | (with_reducible exact blk_new (by first | (simp; done) | omega)) | (with_reducible refine blk_drew ?_) | (with_reducible apply put5_0) | (with_reducible apply put5_1) | (with_reducible apply put5_2) | (with_reducible apply put5_3) | (with_reducible apply put5_4) | (with_reducible refine blk_else (by omega) ?_) | (with_reducible refine blk_old ?_)))
        obtain ⟨Bp, hBp⟩ : ∃ x, x = wr.heap.size := ⟨_, rfl⟩
        rw [← hBp] at Xp
        try rw [← hBp]
        have lep : wr.heap.size ≤ Bp := by omega
        clear hBp
        clear hv0
        refine (RA.out _).mono ?_
        rintro e w1 ⟨rfl, bb⟩
        have Hp1 := Lib.hid (blk_call bb Xp)
        have HB1 := Lib.hid (bel_onto XB bb XB.size)
        clear Xp XB bb
        obtain ⟨p0_, p1_, p2_, p3_, p4_, pf0_, pf1_, pf2_, pf3_, pf4_⟩ := at5 Hp1.out
        have pn_ := ne_blk Hp1.out
        have pm_ := Ne.symm (a := Bp) pn_
        have pl_ := lt_blk Hp1.out
        go_wp2
        go_ret2
        exact ⟨by rw [R0.out HNO.out]; rfl, HB.out.trans (HB1.out.mono hsize)⟩
    · have ek : k = l.length := by omega
      subst ek
      have et : l.take l.length = l := List.take_of_length_le (by simp)
      rw [et] at ho hall
      have hall2 : ∀ x ∈ l, x.right = true ∧ x.ok := fun x hx => ⟨hall x hx, HOK.out x hx⟩
      have PW := Lib.hid (Put_own (ofds l) (by have := ofds_len l; omega) (fun f hf => by obtain ⟨x, hx, hf⟩ := ofds_mem hf; exact fds_ok x (hall2 x hx).1 (hall2 x hx).2 f hf) (perr_right l hall2) _ v wr ho)
      have HA := Lib.hid (allR_all l hall)
      have HB := Lib.hid hbw
      clear hall hall2 et ho hbw
      go_wp2_with fail
      refine (PW.out).mono ?_
      rintro e w5 ⟨rfl, h5⟩
      go_wp2
      go_ret2
      exact ⟨by rw [R1.out HA.out]; rfl, HB.out.trans (h5.mono hsize)⟩
theorem ops_put_none (a : Option Addr) (c : Nat) (w : World) :
    Calls Try.prog 21 #[.slice a 0 c] w fun e w' => e = .returned (.tuple #[.string ⟨#[]⟩, .int .i64 0]) ∧ Below w.heap.size w w' := by
  go_enter Try.func21, Try.ntmps21
  go_wp2
  refine wp_loop_rounds 1 ?_
  rw [rounds_succ]
  go_wp2_with fail
  refine (Put_none _ _ _).mono ?_
  rintro e w1 ⟨rfl, h1⟩
  go_wp2
  go_ret2
  exact ⟨rfl, h1⟩
theorem ops_put (l : List Opn) (hn : l.length ≤ 2000) (hok : ∀ x ∈ l, x.ok) {w : World} {v : Value} (h : SRow w v l) (R : Array Value)
    (h1 : allR l = true → R = #[.string (oput l), .int .i64 0]) (h0 : allR l = false → R = #[.string ⟨#[]⟩, .int .i64 6]) :
    Calls Try.prog 21 #[v] w fun e w' => e = .returned (.tuple R) ∧ Below w.heap.size w w' := by
  obtain ⟨a, c, rfl, h⟩ := h
  by_cases h2 : 0 < l.length
  · obtain ⟨b, off, rfl, hb, hc⟩ := h h2
    exact ops_put_at b off c l hn hok w hb hc R h1 h0
  · have hl : l = [] := List.length_eq_zero_iff.1 (by omega)
    subst hl
    rw [h1 rfl]
    exact ops_put_none a c w
end Go.Proofs.Ytdlcipbehalfhaa
