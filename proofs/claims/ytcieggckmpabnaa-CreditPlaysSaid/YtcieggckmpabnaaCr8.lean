/-
  The law on a class and the document's answer: true for any class and packets. No condition.
-/
import Derived.Test.YtcieggckmpabnaaCr7
import Derived.Test.YtcieggckmpabnaaCr4
import Derived.Laws.StructEq
import Derived.Deep.DeepMust
namespace Go.Proofs.Ytcieggckmpabnaa
set_option linter.unusedVariables false
set_option linter.unusedSimpArgs false
open Go.ChangeShapes Go.WideShapes Go.ChangeAt Go.RowKit
attribute [local go_sem] alloc_drewN setCell_drewN

theorem wpAnyH_norm {P : Program} {md : Region.Mode} {ops : Array Oper} {Q : Exit → Act → World → Prop} {S : World → Prop} {fuel n : Nat} {listed l : Array Bool} {a : Act} {w : World} (hn : fuel = n) (hl : listed = l) (h : wpAnyH P md ops Q S n l a w) : wpAnyH P md ops Q S fuel listed a w := by
  subst hn hl
  exact h
theorem take_list {P : Program} {md : Region.Mode} {ops : Array Oper} {Q : Exit → Act → World → Prop} {S : World → Prop} {i : Nat} {oi : Oper} {v : Value} {fuel : Nat} {listed : Array Bool} {a : Act} {w : World} (hi : ops.toList[i]? = some oi)
    (hs : Region.noSelect ops = true) (hf : Region.free md ops listed i = true) (hr : (Region.ready md ops listed).contains i = true)
    (hQ : ∀ c a w, Q (.panic c) (a.put oi.dst v) w → Q (.panic c) a w) (hy : YieldsIf P ops S oi v a) (hS : S w)
    (h : wpAnyH P md ops Q S fuel (listed.setIfInBounds i true) (a.put oi.dst v) w) : wpAnyH P md ops Q S (fuel + 1) listed a w :=
  wpAnyH_take (by rw [← hi]; simp) hs hf hr hQ hy hS h
theorem cons_list {P : Program} {md : Region.Mode} {ops : Array Oper} {Q : Exit → Act → World → Prop} {S : World → Prop} {fuel : Nat} {listed : Array Bool} {a : Act} {w : World} {i : Nat} {rs : List Nat} {o : Oper} (ho : ops.toList[i]? = some o) 
    (h : ∀ K' : Act → World → Prop, Shut (∀ a w, S w → (S w → wpAnyH P md ops Q S fuel (listed.setIfInBounds i true) a w) → K' a w) → if Region.wanted o (yielded ops a.tmps) = true then Oper.wp P o a w K' Q else K' (a.put o.dst undef) w)
    (hs : AllReadyH P md ops Q S fuel listed a w rs) : AllReadyH P md ops Q S fuel listed a w (i :: rs) :=
  AllReadyH.cons (by rw [← ho]; simp) h hs
theorem cr_checkb (i s h v : Int) (w : World) :
    Calls Try.prog 58 #[.agg #[.int .i64 i, .int .i64 s, .int .i64 h, .int .i64 v]] w fun e w' => e = .returned (.int .i64 (cre i s h v)) ∧ Below w.heap.size w w' := by
  refine (cr_check i s h v w).mono ?_
  rintro e w' ⟨rfl, rfl⟩
  exact ⟨rfl, (Below.refl _ w).alloc (Nat.le_refl _) _⟩
set_option maxRecDepth 100000 in
set_option maxHeartbeats 4000000 in
theorem walk_creditPlays (ci : Int) (ci0 : -9223372036854775808 ≤ ci) (ci1 : ci ≤ 9223372036854775807) (cs : Int) (cs0 : -9223372036854775808 ≤ cs) (cs1 : cs ≤ 9223372036854775807) (ch : Int) (ch0 : -9223372036854775808 ≤ ch) (ch1 : ch ≤ 9223372036854775807) (cv : Int) (cv0 : -9223372036854775808 ≤ cv) (cv1 : cv ≤ 9223372036854775807) (a : Option Addr) (n cc : Nat) (fs : List Act23) {w : World} (hr : RowA23 w a n fs) (hcap : n ≤ cc) :
    Calls Try.prog 10 #[.agg #[.int .i64 ci, .int .i64 cs, .int .i64 ch, .int .i64 cv], .slice a n cc] w fun e w' => e = .returned (.bool true) ∧ Below w.heap.size w w' := by
  have LV := Lib.hid (fun W => lives23 W)
  have hm1 : Try.prog.eqGuardType Try.prog.depth 123 = false := by kernel_rfl
  have hm2 : Try.prog.eqGuardType Try.prog.depth 121 = false := by kernel_rfl
  have NW := Lib.hid (fun W => cr_new ci cs ch W)
  have MB := Lib.hid (fun W => cr_rmay ci cs ch 0 W)
  have CK := Lib.hid (fun W => cr_checkb ci cs ch cv W)
  have MY := Lib.hid (fun W => cr_rmay ci cs ch cv W)
  have HR := Lib.hid hr
  have hnm := hr.2.1
  unfold maxLen at hnm
  clear hr
  by_cases hlong : 200 < n
  · have g200 : decide ((200 : Int) < n) = true := decide_eq_true (by omega)
    go_enter Try.func10, Try.ntmps10
    go_wp2_with fail
    refine cl_gen ?_
    intro v0 hv0
    have XB : Below w.heap.size w v0 := by
      rw [hv0]
      (repeat' (first | (with_reducible exact Below.refl _ _) | (with_reducible assumption) | (with_reducible refine below_drewN _ ?_) | (with_reducible refine Below.drew ?_) | (with_reducible refine Below.setCell ?_ (by simp) _) | (with_reducible refine Below.alloc ?_ (by simp; try omega) _)))
    clear hv0
    refine (LV.out _).mono ?_
    rintro e w1 ⟨rfl, bb⟩
    have HB1 := Lib.hid (bel_onto XB bb XB.size)
    clear XB bb
    go_wp2
    go_ret
    exact ⟨rfl, HB1.out⟩
  · have g200 : decide ((200 : Int) < n) = false := decide_eq_false (by omega)
    have hn200 : n ≤ 200 := by omega
    clear hlong
    have MID : ∀ (K : Nat) (B Fr : Array Value), True := fun _ _ _ => trivial
    clear MID
    obtain ⟨f0, f1, f2, f3, eB, hB, hNW⟩ : ∃ f0 f1 f2 f3 eB : Int, (eB = 0 ∧ decide (CD.ok ⟨ci, cs, ch, 0⟩) = true ∧ ci = f0 ∧ cs = f1 ∧ ch = f2 ∧ 0 = f3 ∨ eB = 6 ∧ decide (CD.ok ⟨ci, cs, ch, 0⟩) = false ∧ 0 = f0 ∧ 0 = f1 ∧ 0 = f2 ∧ 0 = f3) ∧
        (Value.tuple #[if cre ci cs ch 0 = 0 then .agg #[.int .i64 ci, .int .i64 cs, .int .i64 ch, .int .i64 0] else .agg #[.int .i64 0, .int .i64 0, .int .i64 0, .int .i64 0], .int .i64 (cre ci cs ch 0)]) = .tuple #[.agg #[.int .i64 f0, .int .i64 f1, .int .i64 f2, .int .i64 f3], .int .i64 eB] := by
      unfold cre
      by_cases x : CD.ok ⟨ci, cs, ch, 0⟩
      · exact ⟨ci, cs, ch, 0, 0, Or.inl ⟨rfl, decide_eq_true x, rfl, rfl, rfl, rfl⟩, by rw [if_pos x, if_pos rfl]⟩
      · exact ⟨0, 0, 0, 0, 6, Or.inr ⟨rfl, decide_eq_false x, rfl, rfl, rfl, rfl⟩, by rw [if_neg x, if_neg (by decide)]⟩
    rw [hNW] at NW
    clear hNW
    have hC : cre ci cs ch cv = 0 ∧ decide (CD.ok ⟨ci, cs, ch, cv⟩) = true ∨ cre ci cs ch cv = 6 ∧ decide (CD.ok ⟨ci, cs, ch, cv⟩) = false := by
      unfold cre
      by_cases x : CD.ok ⟨ci, cs, ch, cv⟩
      · exact Or.inl ⟨if_pos x, decide_eq_true x⟩
      · exact Or.inr ⟨if_neg x, decide_eq_false x⟩
    go_enter Try.func10, Try.ntmps10
    go_wp2_with fail
    refine cl_gen ?_
    intro v0 hv0
    have XB : Below w.heap.size w v0 := by
      rw [hv0]
      (repeat' (first | (with_reducible exact Below.refl _ _) | (with_reducible assumption) | (with_reducible refine below_drewN _ ?_) | (with_reducible refine Below.drew ?_) | (with_reducible refine Below.setCell ?_ (by simp) _) | (with_reducible refine Below.alloc ?_ (by simp; try omega) _)))
    have Xc : v0.heap[w.heap.size]? = some (.cells #[.int .i64 ci, .int .i64 cs, .int .i64 ch, .int .i64 cv] 121 (0, 0)) := by
      rw [hv0]
      (repeat' (first | (with_reducible exact heap_alloc_new _ _) | (with_reducible exact blk_new (by first | (simp; done) | omega)) | (with_reducible refine blk_drew ?_) | (with_reducible apply put4_0) | (with_reducible apply put4_1) | (with_reducible apply put4_2) | (with_reducible apply put4_3) | (with_reducible refine blk_else (by omega) ?_) | (with_reducible refine blk_old ?_)))
    have Xd : v0.heap[w.heap.size + 1]? = some (.cells #[.int .i64 ci, .int .i64 cs, .int .i64 ch, .int .i64 cv] 123 (0, 0)) := by
      rw [hv0]
      (repeat' (first | (with_reducible exact heap_alloc_new _ _) | (with_reducible exact blk_new (by first | (simp; done) | omega)) | (with_reducible refine blk_drew ?_) | (with_reducible apply put4_0) | (with_reducible apply put4_1) | (with_reducible apply put4_2) | (with_reducible apply put4_3) | (with_reducible refine blk_else (by omega) ?_) | (with_reducible refine blk_old ?_)))
    obtain ⟨Bd, hBd⟩ : ∃ x, x = w.heap.size + 1 := ⟨_, rfl⟩
    rw [← hBd] at Xd
    try rw [← hBd]
    have led : w.heap.size ≤ Bd := by omega
    obtain ⟨Bc, hBc⟩ : ∃ x, x = w.heap.size := ⟨_, rfl⟩
    rw [← hBc] at Xc
    try rw [← hBc]
    have ncd : ¬ Bc = Bd := by omega
    have ndc : ¬ Bd = Bc := fun h => ncd h.symm
    have lec : w.heap.size ≤ Bc := by omega
    clear hBc hBd
    clear hv0
    refine (NW.out _).mono ?_
    rintro e w1 ⟨rfl, bb⟩
    have Hd1 := Lib.hid (blk_call bb Xd)
    have Hc1 := Lib.hid (blk_call bb Xc)
    have HB1 := Lib.hid (bel_onto XB bb XB.size)
    clear Xd Xc XB bb
    obtain ⟨d0_, d1_, d2_, d3_, df0_, df1_, df2_, df3_⟩ := at4 Hd1.out
    have dn_ := ne_blk Hd1.out
    have dm_ := Ne.symm (a := Bd) dn_
    have dl_ := lt_blk Hd1.out
    obtain ⟨c0_, c1_, c2_, c3_, cf0_, cf1_, cf2_, cf3_⟩ := at4 Hc1.out
    have cn_ := ne_blk Hc1.out
    have cm_ := Ne.symm (a := Bc) cn_
    have cl_ := lt_blk Hc1.out
    go_upto_region 6 with (fail)
    refine wp_genc ?_
    intro v1 hv1
    have Xd : v1.heap[Bd]? = some (.cells #[.int .i64 ci, .int .i64 cs, .int .i64 ch, .int .i64 cv] 123 (0, 0)) := by
      rw [hv1]
      (repeat' (first | (with_reducible exact Hd1.out) | (with_reducible exact heap_alloc_new _ _) | (with_reducible exact blk_new (by first | (simp; done) | omega)) | (with_reducible refine blk_drew ?_) | (with_reducible apply put4_0) | (with_reducible apply put4_1) | (with_reducible apply put4_2) | (with_reducible apply put4_3) | (with_reducible refine blk_else (by omega) ?_) | (with_reducible refine blk_old ?_)))
    have Xc : v1.heap[Bc]? = some (.cells #[.int .i64 ci, .int .i64 cs, .int .i64 ch, .int .i64 cv] 121 (0, 0)) := by
      rw [hv1]
      (repeat' (first | (with_reducible exact Hc1.out) | (with_reducible exact heap_alloc_new _ _) | (with_reducible exact blk_new (by first | (simp; done) | omega)) | (with_reducible refine blk_drew ?_) | (with_reducible apply put4_0) | (with_reducible apply put4_1) | (with_reducible apply put4_2) | (with_reducible apply put4_3) | (with_reducible refine blk_else (by omega) ?_) | (with_reducible refine blk_old ?_)))
    have XB : Below w.heap.size w v1 := by
      rw [hv1]
      (repeat' (first | (with_reducible exact HB1.out) | (with_reducible exact Below.refl _ _) | (with_reducible refine below_drewN _ ?_) | (with_reducible refine Below.drew ?_) | (with_reducible refine Below.setCell ?_ (by first | (simp; done) | omega) _) | (with_reducible refine Below.alloc ?_ (by have := HB1.out.size; simp; omega) _)))
    have Xf : v1.heap[w1.heap.size]? = some (.cells #[.int .i64 f0, .int .i64 f1, .int .i64 f2, .int .i64 f3] 123 (0, 0)) := by
      rw [hv1]
      (repeat' (first | (with_reducible exact heap_alloc_new _ _) | (with_reducible exact blk_new (by first | (simp; done) | omega)) | (with_reducible refine blk_drew ?_) | (with_reducible apply put4_0) | (with_reducible apply put4_1) | (with_reducible apply put4_2) | (with_reducible apply put4_3) | (with_reducible refine blk_else (by omega) ?_) | (with_reducible refine blk_old ?_)))
    have Xb : v1.heap[w1.heap.size + 1]? = some (.cells #[.int .i64 ci, .int .i64 cs, .int .i64 ch, .int .i64 0] 121 (0, 0)) := by
      rw [hv1]
      (repeat' (first | (with_reducible exact heap_alloc_new _ _) | (with_reducible exact blk_new (by first | (simp; done) | omega)) | (with_reducible refine blk_drew ?_) | (with_reducible apply put4_0) | (with_reducible apply put4_1) | (with_reducible apply put4_2) | (with_reducible apply put4_3) | (with_reducible refine blk_else (by omega) ?_) | (with_reducible refine blk_old ?_)))
    obtain ⟨Bb, hBb⟩ : ∃ x, x = w1.heap.size + 1 := ⟨_, rfl⟩
    rw [← hBb] at Xb
    try rw [← hBb]
    have nbd : ¬ Bb = Bd := by have := lt_blk Hd1.out; omega
    have ndb : ¬ Bd = Bb := fun h => nbd h.symm
    have nbc : ¬ Bb = Bc := by have := lt_blk Hc1.out; omega
    have ncb : ¬ Bc = Bb := fun h => nbc h.symm
    have leb : w.heap.size ≤ Bb := by have := HB1.out.size; omega
    obtain ⟨Bf, hBf⟩ : ∃ x, x = w1.heap.size := ⟨_, rfl⟩
    rw [← hBf] at Xf
    try rw [← hBf]
    have nfd : ¬ Bf = Bd := by have := lt_blk Hd1.out; omega
    have ndf : ¬ Bd = Bf := fun h => nfd h.symm
    have nfc : ¬ Bf = Bc := by have := lt_blk Hc1.out; omega
    have ncf : ¬ Bc = Bf := fun h => nfc h.symm
    have nfb : ¬ Bf = Bb := by omega
    have nbf : ¬ Bb = Bf := fun h => nfb h.symm
    have lef : w.heap.size ≤ Bf := by have := HB1.out.size; omega
    clear hBf hBb
    clear d0_ d1_ d2_ d3_ df0_ df1_ df2_ df3_ dn_ dm_ dl_ c0_ c1_ c2_ c3_ cf0_ cf1_ cf2_ cf3_ cn_ cm_ cl_
    clear hv1 Hd1 Hc1 HB1
    have Hd2 := Lib.hid Xd
    have Hc2 := Lib.hid Xc
    have Hb2 := Lib.hid Xb
    have Hf2 := Lib.hid Xf
    have HB2 := Lib.hid XB
    clear Xd Xc Xb Xf XB
    obtain ⟨d0_, d1_, d2_, d3_, df0_, df1_, df2_, df3_⟩ := at4 Hd2.out
    have dn_ := ne_blk Hd2.out
    have dm_ := Ne.symm (a := Bd) dn_
    have dl_ := lt_blk Hd2.out
    obtain ⟨c0_, c1_, c2_, c3_, cf0_, cf1_, cf2_, cf3_⟩ := at4 Hc2.out
    have cn_ := ne_blk Hc2.out
    have cm_ := Ne.symm (a := Bc) cn_
    have cl_ := lt_blk Hc2.out
    obtain ⟨b0_, b1_, b2_, b3_, bf0_, bf1_, bf2_, bf3_⟩ := at4 Hb2.out
    have bn_ := ne_blk Hb2.out
    have bm_ := Ne.symm (a := Bb) bn_
    have bl_ := lt_blk Hb2.out
    obtain ⟨f0_, f1_, f2_, f3_, ff0_, ff1_, ff2_, ff3_⟩ := at4 Hf2.out
    have fn_ := ne_blk Hf2.out
    have fm_ := Ne.symm (a := Bf) fn_
    have fl_ := lt_blk Hf2.out
    go_cut [64] (fun e64 wx => e64 = .bool false ∧ wx.heap[Bc]? = some (.cells #[.int .i64 ci, .int .i64 cs, .int .i64 ch, .int .i64 cv] 121 (0, 0)) ∧ wx.heap[Bd]? = some (.cells #[.int .i64 ci, .int .i64 cs, .int .i64 ch, .int .i64 cv] 123 (0, 0)) ∧ Below w.heap.size w wx)
    case first =>
      rcases hB with ⟨rfl, hB2, rfl, rfl, rfl, rfl⟩ | ⟨rfl, hB2, rfl, rfl, rfl, rfl⟩
      · rw [hB2] at MB
        clear hB2
        go_wp2_with fail
        refine cl_gen ?_
        intro v2 hv2
        have Xd : v2.heap[Bd]? = some (.cells #[.int .i64 ci, .int .i64 cs, .int .i64 ch, .int .i64 cv] 123 (0, 0)) := by
          rw [hv2]
          (repeat' (first | (with_reducible exact Hd2.out) | (with_reducible exact heap_alloc_new _ _) | (with_reducible exact blk_new (by first | (simp; done) | omega)) | (with_reducible refine blk_drew ?_) | (with_reducible apply put4_0) | (with_reducible apply put4_1) | (with_reducible apply put4_2) | (with_reducible apply put4_3) | (with_reducible refine blk_else (by omega) ?_) | (with_reducible refine blk_old ?_)))
        have Xc : v2.heap[Bc]? = some (.cells #[.int .i64 ci, .int .i64 cs, .int .i64 ch, .int .i64 cv] 121 (0, 0)) := by
          rw [hv2]
          (repeat' (first | (with_reducible exact Hc2.out) | (with_reducible exact heap_alloc_new _ _) | (with_reducible exact blk_new (by first | (simp; done) | omega)) | (with_reducible refine blk_drew ?_) | (with_reducible apply put4_0) | (with_reducible apply put4_1) | (with_reducible apply put4_2) | (with_reducible apply put4_3) | (with_reducible refine blk_else (by omega) ?_) | (with_reducible refine blk_old ?_)))
        have Xb : v2.heap[Bb]? = some (.cells #[.int .i64 ci, .int .i64 cs, .int .i64 ch, .int .i64 0] 121 (0, 0)) := by
          rw [hv2]
          (repeat' (first | (with_reducible exact Hb2.out) | (with_reducible exact heap_alloc_new _ _) | (with_reducible exact blk_new (by first | (simp; done) | omega)) | (with_reducible refine blk_drew ?_) | (with_reducible apply put4_0) | (with_reducible apply put4_1) | (with_reducible apply put4_2) | (with_reducible apply put4_3) | (with_reducible refine blk_else (by omega) ?_) | (with_reducible refine blk_old ?_)))
        have Xf : v2.heap[Bf]? = some (.cells #[.int .i64 ci, .int .i64 cs, .int .i64 ch, .int .i64 0] 123 (0, 0)) := by
          rw [hv2]
          (repeat' (first | (with_reducible exact Hf2.out) | (with_reducible exact heap_alloc_new _ _) | (with_reducible exact blk_new (by first | (simp; done) | omega)) | (with_reducible refine blk_drew ?_) | (with_reducible apply put4_0) | (with_reducible apply put4_1) | (with_reducible apply put4_2) | (with_reducible apply put4_3) | (with_reducible refine blk_else (by omega) ?_) | (with_reducible refine blk_old ?_)))
        have XB : Below w.heap.size w v2 := by
          rw [hv2]
          (repeat' (first | (with_reducible exact HB2.out) | (with_reducible exact Below.refl _ _) | (with_reducible refine below_drewN _ ?_) | (with_reducible refine Below.drew ?_) | (with_reducible refine Below.setCell ?_ (by first | (simp; done) | omega) _) | (with_reducible refine Below.alloc ?_ (by have := HB2.out.size; simp; omega) _)))
        clear d0_ d1_ d2_ d3_ df0_ df1_ df2_ df3_ dn_ dm_ dl_ c0_ c1_ c2_ c3_ cf0_ cf1_ cf2_ cf3_ cn_ cm_ cl_ b0_ b1_ b2_ b3_ bf0_ bf1_ bf2_ bf3_ bn_ bm_ bl_ f0_ f1_ f2_ f3_ ff0_ ff1_ ff2_ ff3_ fn_ fm_ fl_
        clear hv2 Hd2 Hc2 Hb2 Hf2 HB2
        refine (MB.out _).mono ?_
        rintro e w3 ⟨rfl, bb⟩
        have Hd3 := Lib.hid (blk_call bb Xd)
        have Hc3 := Lib.hid (blk_call bb Xc)
        have Hb3 := Lib.hid (blk_call bb Xb)
        have Hf3 := Lib.hid (blk_call bb Xf)
        have HB3 := Lib.hid (bel_onto XB bb XB.size)
        clear Xd Xc Xb Xf XB bb
        obtain ⟨d0_, d1_, d2_, d3_, df0_, df1_, df2_, df3_⟩ := at4 Hd3.out
        have dn_ := ne_blk Hd3.out
        have dm_ := Ne.symm (a := Bd) dn_
        have dl_ := lt_blk Hd3.out
        obtain ⟨c0_, c1_, c2_, c3_, cf0_, cf1_, cf2_, cf3_⟩ := at4 Hc3.out
        have cn_ := ne_blk Hc3.out
        have cm_ := Ne.symm (a := Bc) cn_
        have cl_ := lt_blk Hc3.out
        obtain ⟨b0_, b1_, b2_, b3_, bf0_, bf1_, bf2_, bf3_⟩ := at4 Hb3.out
        have bn_ := ne_blk Hb3.out
        have bm_ := Ne.symm (a := Bb) bn_
        have bl_ := lt_blk Hb3.out
        obtain ⟨f0_, f1_, f2_, f3_, ff0_, ff1_, ff2_, ff3_⟩ := at4 Hf3.out
        have fn_ := ne_blk Hf3.out
        have fm_ := Ne.symm (a := Bf) fn_
        have fl_ := lt_blk Hf3.out
        go_wp2_with fail
        refine cl_gen ?_
        intro v3 hv3
        have Xd : v3.heap[Bd]? = some (.cells #[.int .i64 ci, .int .i64 cs, .int .i64 ch, .int .i64 cv] 123 (0, 0)) := by
          rw [hv3]
          (repeat' (first | (with_reducible exact Hd3.out) | (with_reducible exact heap_alloc_new _ _) | (with_reducible exact blk_new (by first | (simp; done) | omega)) | (with_reducible refine blk_drew ?_) | (with_reducible apply put4_0) | (with_reducible apply put4_1) | (with_reducible apply put4_2) | (with_reducible apply put4_3) | (with_reducible refine blk_else (by omega) ?_) | (with_reducible refine blk_old ?_)))
        have Xc : v3.heap[Bc]? = some (.cells #[.int .i64 ci, .int .i64 cs, .int .i64 ch, .int .i64 cv] 121 (0, 0)) := by
          rw [hv3]
          (repeat' (first | (with_reducible exact Hc3.out) | (with_reducible exact heap_alloc_new _ _) | (with_reducible exact blk_new (by first | (simp; done) | omega)) | (with_reducible refine blk_drew ?_) | (with_reducible apply put4_0) | (with_reducible apply put4_1) | (with_reducible apply put4_2) | (with_reducible apply put4_3) | (with_reducible refine blk_else (by omega) ?_) | (with_reducible refine blk_old ?_)))
        have Xb : v3.heap[Bb]? = some (.cells #[.int .i64 ci, .int .i64 cs, .int .i64 ch, .int .i64 0] 121 (0, 0)) := by
          rw [hv3]
          (repeat' (first | (with_reducible exact Hb3.out) | (with_reducible exact heap_alloc_new _ _) | (with_reducible exact blk_new (by first | (simp; done) | omega)) | (with_reducible refine blk_drew ?_) | (with_reducible apply put4_0) | (with_reducible apply put4_1) | (with_reducible apply put4_2) | (with_reducible apply put4_3) | (with_reducible refine blk_else (by omega) ?_) | (with_reducible refine blk_old ?_)))
        have Xf : v3.heap[Bf]? = some (.cells #[.int .i64 ci, .int .i64 cs, .int .i64 ch, .int .i64 0] 123 (0, 0)) := by
          rw [hv3]
          (repeat' (first | (with_reducible exact Hf3.out) | (with_reducible exact heap_alloc_new _ _) | (with_reducible exact blk_new (by first | (simp; done) | omega)) | (with_reducible refine blk_drew ?_) | (with_reducible apply put4_0) | (with_reducible apply put4_1) | (with_reducible apply put4_2) | (with_reducible apply put4_3) | (with_reducible refine blk_else (by omega) ?_) | (with_reducible refine blk_old ?_)))
        have XB : Below w.heap.size w v3 := by
          rw [hv3]
          (repeat' (first | (with_reducible exact HB3.out) | (with_reducible exact Below.refl _ _) | (with_reducible refine below_drewN _ ?_) | (with_reducible refine Below.drew ?_) | (with_reducible refine Below.setCell ?_ (by first | (simp; done) | omega) _) | (with_reducible refine Below.alloc ?_ (by have := HB3.out.size; simp; omega) _)))
        clear d0_ d1_ d2_ d3_ df0_ df1_ df2_ df3_ dn_ dm_ dl_ c0_ c1_ c2_ c3_ cf0_ cf1_ cf2_ cf3_ cn_ cm_ cl_ b0_ b1_ b2_ b3_ bf0_ bf1_ bf2_ bf3_ bn_ bm_ bl_ f0_ f1_ f2_ f3_ ff0_ ff1_ ff2_ ff3_ fn_ fm_ fl_
        clear hv3 Hd3 Hc3 Hb3 Hf3 HB3
        refine (MB.out _).mono ?_
        rintro e w4 ⟨rfl, bb⟩
        have Hd4 := Lib.hid (blk_call bb Xd)
        have Hc4 := Lib.hid (blk_call bb Xc)
        have Hb4 := Lib.hid (blk_call bb Xb)
        have Hf4 := Lib.hid (blk_call bb Xf)
        have HB4 := Lib.hid (bel_onto XB bb XB.size)
        clear Xd Xc Xb Xf XB bb
        obtain ⟨d0_, d1_, d2_, d3_, df0_, df1_, df2_, df3_⟩ := at4 Hd4.out
        have dn_ := ne_blk Hd4.out
        have dm_ := Ne.symm (a := Bd) dn_
        have dl_ := lt_blk Hd4.out
        obtain ⟨c0_, c1_, c2_, c3_, cf0_, cf1_, cf2_, cf3_⟩ := at4 Hc4.out
        have cn_ := ne_blk Hc4.out
        have cm_ := Ne.symm (a := Bc) cn_
        have cl_ := lt_blk Hc4.out
        obtain ⟨b0_, b1_, b2_, b3_, bf0_, bf1_, bf2_, bf3_⟩ := at4 Hb4.out
        have bn_ := ne_blk Hb4.out
        have bm_ := Ne.symm (a := Bb) bn_
        have bl_ := lt_blk Hb4.out
        obtain ⟨f0_, f1_, f2_, f3_, ff0_, ff1_, ff2_, ff3_⟩ := at4 Hf4.out
        have fn_ := ne_blk Hf4.out
        have fm_ := Ne.symm (a := Bf) fn_
        have fl_ := lt_blk Hf4.out
        go_wp2_with fail
        refine cl_gen ?_
        intro v4 hv4
        have Xd : v4.heap[Bd]? = some (.cells #[.int .i64 ci, .int .i64 cs, .int .i64 ch, .int .i64 cv] 123 (0, 0)) := by
          rw [hv4]
          (repeat' (first | (with_reducible exact Hd4.out) | (with_reducible exact heap_alloc_new _ _) | (with_reducible exact blk_new (by first | (simp; done) | omega)) | (with_reducible refine blk_drew ?_) | (with_reducible apply put4_0) | (with_reducible apply put4_1) | (with_reducible apply put4_2) | (with_reducible apply put4_3) | (with_reducible refine blk_else (by omega) ?_) | (with_reducible refine blk_old ?_)))
        have Xc : v4.heap[Bc]? = some (.cells #[.int .i64 ci, .int .i64 cs, .int .i64 ch, .int .i64 cv] 121 (0, 0)) := by
          rw [hv4]
          (repeat' (first | (with_reducible exact Hc4.out) | (with_reducible exact heap_alloc_new _ _) | (with_reducible exact blk_new (by first | (simp; done) | omega)) | (with_reducible refine blk_drew ?_) | (with_reducible apply put4_0) | (with_reducible apply put4_1) | (with_reducible apply put4_2) | (with_reducible apply put4_3) | (with_reducible refine blk_else (by omega) ?_) | (with_reducible refine blk_old ?_)))
        have Xb : v4.heap[Bb]? = some (.cells #[.int .i64 ci, .int .i64 cs, .int .i64 ch, .int .i64 0] 121 (0, 0)) := by
          rw [hv4]
          (repeat' (first | (with_reducible exact Hb4.out) | (with_reducible exact heap_alloc_new _ _) | (with_reducible exact blk_new (by first | (simp; done) | omega)) | (with_reducible refine blk_drew ?_) | (with_reducible apply put4_0) | (with_reducible apply put4_1) | (with_reducible apply put4_2) | (with_reducible apply put4_3) | (with_reducible refine blk_else (by omega) ?_) | (with_reducible refine blk_old ?_)))
        have Xf : v4.heap[Bf]? = some (.cells #[.int .i64 ci, .int .i64 cs, .int .i64 ch, .int .i64 0] 123 (0, 0)) := by
          rw [hv4]
          (repeat' (first | (with_reducible exact Hf4.out) | (with_reducible exact heap_alloc_new _ _) | (with_reducible exact blk_new (by first | (simp; done) | omega)) | (with_reducible refine blk_drew ?_) | (with_reducible apply put4_0) | (with_reducible apply put4_1) | (with_reducible apply put4_2) | (with_reducible apply put4_3) | (with_reducible refine blk_else (by omega) ?_) | (with_reducible refine blk_old ?_)))
        have XB : Below w.heap.size w v4 := by
          rw [hv4]
          (repeat' (first | (with_reducible exact HB4.out) | (with_reducible exact Below.refl _ _) | (with_reducible refine below_drewN _ ?_) | (with_reducible refine Below.drew ?_) | (with_reducible refine Below.setCell ?_ (by first | (simp; done) | omega) _) | (with_reducible refine Below.alloc ?_ (by have := HB4.out.size; simp; omega) _)))
        clear d0_ d1_ d2_ d3_ df0_ df1_ df2_ df3_ dn_ dm_ dl_ c0_ c1_ c2_ c3_ cf0_ cf1_ cf2_ cf3_ cn_ cm_ cl_ b0_ b1_ b2_ b3_ bf0_ bf1_ bf2_ bf3_ bn_ bm_ bl_ f0_ f1_ f2_ f3_ ff0_ ff1_ ff2_ ff3_ fn_ fm_ fl_
        clear hv4 Hd4 Hc4 Hb4 Hf4 HB4
        refine (MB.out _).mono ?_
        rintro e w5 ⟨rfl, bb⟩
        have Hd5 := Lib.hid (blk_call bb Xd)
        have Hc5 := Lib.hid (blk_call bb Xc)
        have Hb5 := Lib.hid (blk_call bb Xb)
        have Hf5 := Lib.hid (blk_call bb Xf)
        have HB5 := Lib.hid (bel_onto XB bb XB.size)
        clear Xd Xc Xb Xf XB bb
        obtain ⟨d0_, d1_, d2_, d3_, df0_, df1_, df2_, df3_⟩ := at4 Hd5.out
        have dn_ := ne_blk Hd5.out
        have dm_ := Ne.symm (a := Bd) dn_
        have dl_ := lt_blk Hd5.out
        obtain ⟨c0_, c1_, c2_, c3_, cf0_, cf1_, cf2_, cf3_⟩ := at4 Hc5.out
        have cn_ := ne_blk Hc5.out
        have cm_ := Ne.symm (a := Bc) cn_
        have cl_ := lt_blk Hc5.out
        obtain ⟨b0_, b1_, b2_, b3_, bf0_, bf1_, bf2_, bf3_⟩ := at4 Hb5.out
        have bn_ := ne_blk Hb5.out
        have bm_ := Ne.symm (a := Bb) bn_
        have bl_ := lt_blk Hb5.out
        obtain ⟨f0_, f1_, f2_, f3_, ff0_, ff1_, ff2_, ff3_⟩ := at4 Hf5.out
        have fn_ := ne_blk Hf5.out
        have fm_ := Ne.symm (a := Bf) fn_
        have fl_ := lt_blk Hf5.out
        go_wp2
        go_meet
        refine ⟨rfl, ?_, ?_, ?_⟩
        · (repeat' (first | (with_reducible exact Hc5.out) | (with_reducible exact heap_alloc_new _ _) | (with_reducible exact blk_new (by first | (simp; done) | omega)) | (with_reducible refine blk_drew ?_) | (with_reducible apply put1_0) | (with_reducible apply put2_0) | (with_reducible apply put2_1) | (with_reducible apply put3_0) | (with_reducible apply put3_1) | (with_reducible apply put3_2) | (with_reducible apply put4_0) | (with_reducible apply put4_1) | (with_reducible apply put4_2) | (with_reducible apply put4_3) | (with_reducible apply put5_0) | (with_reducible apply put5_1) | (with_reducible apply put5_2) | (with_reducible apply put5_3) | (with_reducible apply put5_4) | (with_reducible apply put6_0) | (with_reducible apply put6_1) | (with_reducible apply put6_2) | (with_reducible apply put6_3) | (with_reducible apply put6_4) | (with_reducible apply put6_5) | (with_reducible refine blk_else (by omega) ?_) | (with_reducible refine blk_old ?_)))
        · (repeat' (first | (with_reducible exact Hd5.out) | (with_reducible exact heap_alloc_new _ _) | (with_reducible exact blk_new (by first | (simp; done) | omega)) | (with_reducible refine blk_drew ?_) | (with_reducible apply put1_0) | (with_reducible apply put2_0) | (with_reducible apply put2_1) | (with_reducible apply put3_0) | (with_reducible apply put3_1) | (with_reducible apply put3_2) | (with_reducible apply put4_0) | (with_reducible apply put4_1) | (with_reducible apply put4_2) | (with_reducible apply put4_3) | (with_reducible apply put5_0) | (with_reducible apply put5_1) | (with_reducible apply put5_2) | (with_reducible apply put5_3) | (with_reducible apply put5_4) | (with_reducible apply put6_0) | (with_reducible apply put6_1) | (with_reducible apply put6_2) | (with_reducible apply put6_3) | (with_reducible apply put6_4) | (with_reducible apply put6_5) | (with_reducible refine blk_else (by omega) ?_) | (with_reducible refine blk_old ?_)))
        · (repeat' (first | (with_reducible exact HB5.out) | (with_reducible exact Below.refl _ _) | (with_reducible refine below_drewN _ ?_) | (with_reducible refine Below.drew ?_) | (with_reducible refine Below.setCell ?_ (by first | (simp; done) | omega) _) | (with_reducible refine Below.alloc ?_ (by have := HB5.out.size; simp; omega) _)))
      · rw [hB2] at MB
        clear hB2
        go_wp2_with fail
        refine cl_gen ?_
        intro v2 hv2
        have Xd : v2.heap[Bd]? = some (.cells #[.int .i64 ci, .int .i64 cs, .int .i64 ch, .int .i64 cv] 123 (0, 0)) := by
          rw [hv2]
          (repeat' (first | (with_reducible exact Hd2.out) | (with_reducible exact heap_alloc_new _ _) | (with_reducible exact blk_new (by first | (simp; done) | omega)) | (with_reducible refine blk_drew ?_) | (with_reducible apply put4_0) | (with_reducible apply put4_1) | (with_reducible apply put4_2) | (with_reducible apply put4_3) | (with_reducible refine blk_else (by omega) ?_) | (with_reducible refine blk_old ?_)))
        have Xc : v2.heap[Bc]? = some (.cells #[.int .i64 ci, .int .i64 cs, .int .i64 ch, .int .i64 cv] 121 (0, 0)) := by
          rw [hv2]
          (repeat' (first | (with_reducible exact Hc2.out) | (with_reducible exact heap_alloc_new _ _) | (with_reducible exact blk_new (by first | (simp; done) | omega)) | (with_reducible refine blk_drew ?_) | (with_reducible apply put4_0) | (with_reducible apply put4_1) | (with_reducible apply put4_2) | (with_reducible apply put4_3) | (with_reducible refine blk_else (by omega) ?_) | (with_reducible refine blk_old ?_)))
        have Xb : v2.heap[Bb]? = some (.cells #[.int .i64 ci, .int .i64 cs, .int .i64 ch, .int .i64 0] 121 (0, 0)) := by
          rw [hv2]
          (repeat' (first | (with_reducible exact Hb2.out) | (with_reducible exact heap_alloc_new _ _) | (with_reducible exact blk_new (by first | (simp; done) | omega)) | (with_reducible refine blk_drew ?_) | (with_reducible apply put4_0) | (with_reducible apply put4_1) | (with_reducible apply put4_2) | (with_reducible apply put4_3) | (with_reducible refine blk_else (by omega) ?_) | (with_reducible refine blk_old ?_)))
        have Xf : v2.heap[Bf]? = some (.cells #[.int .i64 0, .int .i64 0, .int .i64 0, .int .i64 0] 123 (0, 0)) := by
          rw [hv2]
          (repeat' (first | (with_reducible exact Hf2.out) | (with_reducible exact heap_alloc_new _ _) | (with_reducible exact blk_new (by first | (simp; done) | omega)) | (with_reducible refine blk_drew ?_) | (with_reducible apply put4_0) | (with_reducible apply put4_1) | (with_reducible apply put4_2) | (with_reducible apply put4_3) | (with_reducible refine blk_else (by omega) ?_) | (with_reducible refine blk_old ?_)))
        have XB : Below w.heap.size w v2 := by
          rw [hv2]
          (repeat' (first | (with_reducible exact HB2.out) | (with_reducible exact Below.refl _ _) | (with_reducible refine below_drewN _ ?_) | (with_reducible refine Below.drew ?_) | (with_reducible refine Below.setCell ?_ (by first | (simp; done) | omega) _) | (with_reducible refine Below.alloc ?_ (by have := HB2.out.size; simp; omega) _)))
        clear d0_ d1_ d2_ d3_ df0_ df1_ df2_ df3_ dn_ dm_ dl_ c0_ c1_ c2_ c3_ cf0_ cf1_ cf2_ cf3_ cn_ cm_ cl_ b0_ b1_ b2_ b3_ bf0_ bf1_ bf2_ bf3_ bn_ bm_ bl_ f0_ f1_ f2_ f3_ ff0_ ff1_ ff2_ ff3_ fn_ fm_ fl_
        clear hv2 Hd2 Hc2 Hb2 Hf2 HB2
        refine (MB.out _).mono ?_
        rintro e w3 ⟨rfl, bb⟩
        have Hd3 := Lib.hid (blk_call bb Xd)
        have Hc3 := Lib.hid (blk_call bb Xc)
        have Hb3 := Lib.hid (blk_call bb Xb)
        have Hf3 := Lib.hid (blk_call bb Xf)
        have HB3 := Lib.hid (bel_onto XB bb XB.size)
        clear Xd Xc Xb Xf XB bb
        obtain ⟨d0_, d1_, d2_, d3_, df0_, df1_, df2_, df3_⟩ := at4 Hd3.out
        have dn_ := ne_blk Hd3.out
        have dm_ := Ne.symm (a := Bd) dn_
        have dl_ := lt_blk Hd3.out
        obtain ⟨c0_, c1_, c2_, c3_, cf0_, cf1_, cf2_, cf3_⟩ := at4 Hc3.out
        have cn_ := ne_blk Hc3.out
        have cm_ := Ne.symm (a := Bc) cn_
        have cl_ := lt_blk Hc3.out
        obtain ⟨b0_, b1_, b2_, b3_, bf0_, bf1_, bf2_, bf3_⟩ := at4 Hb3.out
        have bn_ := ne_blk Hb3.out
        have bm_ := Ne.symm (a := Bb) bn_
        have bl_ := lt_blk Hb3.out
        obtain ⟨f0_, f1_, f2_, f3_, ff0_, ff1_, ff2_, ff3_⟩ := at4 Hf3.out
        have fn_ := ne_blk Hf3.out
        have fm_ := Ne.symm (a := Bf) fn_
        have fl_ := lt_blk Hf3.out
        go_wp2_with fail
        refine cl_gen ?_
        intro v3 hv3
        have Xd : v3.heap[Bd]? = some (.cells #[.int .i64 ci, .int .i64 cs, .int .i64 ch, .int .i64 cv] 123 (0, 0)) := by
          rw [hv3]
          (repeat' (first | (with_reducible exact Hd3.out) | (with_reducible exact heap_alloc_new _ _) | (with_reducible exact blk_new (by first | (simp; done) | omega)) | (with_reducible refine blk_drew ?_) | (with_reducible apply put4_0) | (with_reducible apply put4_1) | (with_reducible apply put4_2) | (with_reducible apply put4_3) | (with_reducible refine blk_else (by omega) ?_) | (with_reducible refine blk_old ?_)))
        have Xc : v3.heap[Bc]? = some (.cells #[.int .i64 ci, .int .i64 cs, .int .i64 ch, .int .i64 cv] 121 (0, 0)) := by
          rw [hv3]
          (repeat' (first | (with_reducible exact Hc3.out) | (with_reducible exact heap_alloc_new _ _) | (with_reducible exact blk_new (by first | (simp; done) | omega)) | (with_reducible refine blk_drew ?_) | (with_reducible apply put4_0) | (with_reducible apply put4_1) | (with_reducible apply put4_2) | (with_reducible apply put4_3) | (with_reducible refine blk_else (by omega) ?_) | (with_reducible refine blk_old ?_)))
        have Xb : v3.heap[Bb]? = some (.cells #[.int .i64 ci, .int .i64 cs, .int .i64 ch, .int .i64 0] 121 (0, 0)) := by
          rw [hv3]
          (repeat' (first | (with_reducible exact Hb3.out) | (with_reducible exact heap_alloc_new _ _) | (with_reducible exact blk_new (by first | (simp; done) | omega)) | (with_reducible refine blk_drew ?_) | (with_reducible apply put4_0) | (with_reducible apply put4_1) | (with_reducible apply put4_2) | (with_reducible apply put4_3) | (with_reducible refine blk_else (by omega) ?_) | (with_reducible refine blk_old ?_)))
        have Xf : v3.heap[Bf]? = some (.cells #[.int .i64 0, .int .i64 0, .int .i64 0, .int .i64 0] 123 (0, 0)) := by
          rw [hv3]
          (repeat' (first | (with_reducible exact Hf3.out) | (with_reducible exact heap_alloc_new _ _) | (with_reducible exact blk_new (by first | (simp; done) | omega)) | (with_reducible refine blk_drew ?_) | (with_reducible apply put4_0) | (with_reducible apply put4_1) | (with_reducible apply put4_2) | (with_reducible apply put4_3) | (with_reducible refine blk_else (by omega) ?_) | (with_reducible refine blk_old ?_)))
        have XB : Below w.heap.size w v3 := by
          rw [hv3]
          (repeat' (first | (with_reducible exact HB3.out) | (with_reducible exact Below.refl _ _) | (with_reducible refine below_drewN _ ?_) | (with_reducible refine Below.drew ?_) | (with_reducible refine Below.setCell ?_ (by first | (simp; done) | omega) _) | (with_reducible refine Below.alloc ?_ (by have := HB3.out.size; simp; omega) _)))
        clear d0_ d1_ d2_ d3_ df0_ df1_ df2_ df3_ dn_ dm_ dl_ c0_ c1_ c2_ c3_ cf0_ cf1_ cf2_ cf3_ cn_ cm_ cl_ b0_ b1_ b2_ b3_ bf0_ bf1_ bf2_ bf3_ bn_ bm_ bl_ f0_ f1_ f2_ f3_ ff0_ ff1_ ff2_ ff3_ fn_ fm_ fl_
        clear hv3 Hd3 Hc3 Hb3 Hf3 HB3
        refine (MB.out _).mono ?_
        rintro e w4 ⟨rfl, bb⟩
        have Hd4 := Lib.hid (blk_call bb Xd)
        have Hc4 := Lib.hid (blk_call bb Xc)
        have Hb4 := Lib.hid (blk_call bb Xb)
        have Hf4 := Lib.hid (blk_call bb Xf)
        have HB4 := Lib.hid (bel_onto XB bb XB.size)
        clear Xd Xc Xb Xf XB bb
        obtain ⟨d0_, d1_, d2_, d3_, df0_, df1_, df2_, df3_⟩ := at4 Hd4.out
        have dn_ := ne_blk Hd4.out
        have dm_ := Ne.symm (a := Bd) dn_
        have dl_ := lt_blk Hd4.out
        obtain ⟨c0_, c1_, c2_, c3_, cf0_, cf1_, cf2_, cf3_⟩ := at4 Hc4.out
        have cn_ := ne_blk Hc4.out
        have cm_ := Ne.symm (a := Bc) cn_
        have cl_ := lt_blk Hc4.out
        obtain ⟨b0_, b1_, b2_, b3_, bf0_, bf1_, bf2_, bf3_⟩ := at4 Hb4.out
        have bn_ := ne_blk Hb4.out
        have bm_ := Ne.symm (a := Bb) bn_
        have bl_ := lt_blk Hb4.out
        obtain ⟨f0_, f1_, f2_, f3_, ff0_, ff1_, ff2_, ff3_⟩ := at4 Hf4.out
        have fn_ := ne_blk Hf4.out
        have fm_ := Ne.symm (a := Bf) fn_
        have fl_ := lt_blk Hf4.out
        go_wp2_with fail
        refine cl_gen ?_
        intro v4 hv4
        have Xd : v4.heap[Bd]? = some (.cells #[.int .i64 ci, .int .i64 cs, .int .i64 ch, .int .i64 cv] 123 (0, 0)) := by
          rw [hv4]
          (repeat' (first | (with_reducible exact Hd4.out) | (with_reducible exact heap_alloc_new _ _) | (with_reducible exact blk_new (by first | (simp; done) | omega)) | (with_reducible refine blk_drew ?_) | (with_reducible apply put4_0) | (with_reducible apply put4_1) | (with_reducible apply put4_2) | (with_reducible apply put4_3) | (with_reducible refine blk_else (by omega) ?_) | (with_reducible refine blk_old ?_)))
        have Xc : v4.heap[Bc]? = some (.cells #[.int .i64 ci, .int .i64 cs, .int .i64 ch, .int .i64 cv] 121 (0, 0)) := by
          rw [hv4]
          (repeat' (first | (with_reducible exact Hc4.out) | (with_reducible exact heap_alloc_new _ _) | (with_reducible exact blk_new (by first | (simp; done) | omega)) | (with_reducible refine blk_drew ?_) | (with_reducible apply put4_0) | (with_reducible apply put4_1) | (with_reducible apply put4_2) | (with_reducible apply put4_3) | (with_reducible refine blk_else (by omega) ?_) | (with_reducible refine blk_old ?_)))
        have Xb : v4.heap[Bb]? = some (.cells #[.int .i64 ci, .int .i64 cs, .int .i64 ch, .int .i64 0] 121 (0, 0)) := by
          rw [hv4]
          (repeat' (first | (with_reducible exact Hb4.out) | (with_reducible exact heap_alloc_new _ _) | (with_reducible exact blk_new (by first | (simp; done) | omega)) | (with_reducible refine blk_drew ?_) | (with_reducible apply put4_0) | (with_reducible apply put4_1) | (with_reducible apply put4_2) | (with_reducible apply put4_3) | (with_reducible refine blk_else (by omega) ?_) | (with_reducible refine blk_old ?_)))
        have Xf : v4.heap[Bf]? = some (.cells #[.int .i64 0, .int .i64 0, .int .i64 0, .int .i64 0] 123 (0, 0)) := by
          rw [hv4]
          (repeat' (first | (with_reducible exact Hf4.out) | (with_reducible exact heap_alloc_new _ _) | (with_reducible exact blk_new (by first | (simp; done) | omega)) | (with_reducible refine blk_drew ?_) | (with_reducible apply put4_0) | (with_reducible apply put4_1) | (with_reducible apply put4_2) | (with_reducible apply put4_3) | (with_reducible refine blk_else (by omega) ?_) | (with_reducible refine blk_old ?_)))
        have XB : Below w.heap.size w v4 := by
          rw [hv4]
          (repeat' (first | (with_reducible exact HB4.out) | (with_reducible exact Below.refl _ _) | (with_reducible refine below_drewN _ ?_) | (with_reducible refine Below.drew ?_) | (with_reducible refine Below.setCell ?_ (by first | (simp; done) | omega) _) | (with_reducible refine Below.alloc ?_ (by have := HB4.out.size; simp; omega) _)))
        clear d0_ d1_ d2_ d3_ df0_ df1_ df2_ df3_ dn_ dm_ dl_ c0_ c1_ c2_ c3_ cf0_ cf1_ cf2_ cf3_ cn_ cm_ cl_ b0_ b1_ b2_ b3_ bf0_ bf1_ bf2_ bf3_ bn_ bm_ bl_ f0_ f1_ f2_ f3_ ff0_ ff1_ ff2_ ff3_ fn_ fm_ fl_
        clear hv4 Hd4 Hc4 Hb4 Hf4 HB4
        refine (MB.out _).mono ?_
        rintro e w5 ⟨rfl, bb⟩
        have Hd5 := Lib.hid (blk_call bb Xd)
        have Hc5 := Lib.hid (blk_call bb Xc)
        have Hb5 := Lib.hid (blk_call bb Xb)
        have Hf5 := Lib.hid (blk_call bb Xf)
        have HB5 := Lib.hid (bel_onto XB bb XB.size)
        clear Xd Xc Xb Xf XB bb
        obtain ⟨d0_, d1_, d2_, d3_, df0_, df1_, df2_, df3_⟩ := at4 Hd5.out
        have dn_ := ne_blk Hd5.out
        have dm_ := Ne.symm (a := Bd) dn_
        have dl_ := lt_blk Hd5.out
        obtain ⟨c0_, c1_, c2_, c3_, cf0_, cf1_, cf2_, cf3_⟩ := at4 Hc5.out
        have cn_ := ne_blk Hc5.out
        have cm_ := Ne.symm (a := Bc) cn_
        have cl_ := lt_blk Hc5.out
        obtain ⟨b0_, b1_, b2_, b3_, bf0_, bf1_, bf2_, bf3_⟩ := at4 Hb5.out
        have bn_ := ne_blk Hb5.out
        have bm_ := Ne.symm (a := Bb) bn_
        have bl_ := lt_blk Hb5.out
        obtain ⟨f0_, f1_, f2_, f3_, ff0_, ff1_, ff2_, ff3_⟩ := at4 Hf5.out
        have fn_ := ne_blk Hf5.out
        have fm_ := Ne.symm (a := Bf) fn_
        have fl_ := lt_blk Hf5.out
        go_wp2
        go_meet
        refine ⟨rfl, ?_, ?_, ?_⟩
        · (repeat' (first | (with_reducible exact Hc5.out) | (with_reducible exact heap_alloc_new _ _) | (with_reducible exact blk_new (by first | (simp; done) | omega)) | (with_reducible refine blk_drew ?_) | (with_reducible apply put1_0) | (with_reducible apply put2_0) | (with_reducible apply put2_1) | (with_reducible apply put3_0) | (with_reducible apply put3_1) | (with_reducible apply put3_2) | (with_reducible apply put4_0) | (with_reducible apply put4_1) | (with_reducible apply put4_2) | (with_reducible apply put4_3) | (with_reducible apply put5_0) | (with_reducible apply put5_1) | (with_reducible apply put5_2) | (with_reducible apply put5_3) | (with_reducible apply put5_4) | (with_reducible apply put6_0) | (with_reducible apply put6_1) | (with_reducible apply put6_2) | (with_reducible apply put6_3) | (with_reducible apply put6_4) | (with_reducible apply put6_5) | (with_reducible refine blk_else (by omega) ?_) | (with_reducible refine blk_old ?_)))
        · (repeat' (first | (with_reducible exact Hd5.out) | (with_reducible exact heap_alloc_new _ _) | (with_reducible exact blk_new (by first | (simp; done) | omega)) | (with_reducible refine blk_drew ?_) | (with_reducible apply put1_0) | (with_reducible apply put2_0) | (with_reducible apply put2_1) | (with_reducible apply put3_0) | (with_reducible apply put3_1) | (with_reducible apply put3_2) | (with_reducible apply put4_0) | (with_reducible apply put4_1) | (with_reducible apply put4_2) | (with_reducible apply put4_3) | (with_reducible apply put5_0) | (with_reducible apply put5_1) | (with_reducible apply put5_2) | (with_reducible apply put5_3) | (with_reducible apply put5_4) | (with_reducible apply put6_0) | (with_reducible apply put6_1) | (with_reducible apply put6_2) | (with_reducible apply put6_3) | (with_reducible apply put6_4) | (with_reducible apply put6_5) | (with_reducible refine blk_else (by omega) ?_) | (with_reducible refine blk_old ?_)))
        · (repeat' (first | (with_reducible exact HB5.out) | (with_reducible exact Below.refl _ _) | (with_reducible refine below_drewN _ ?_) | (with_reducible refine Below.drew ?_) | (with_reducible refine Below.setCell ?_ (by first | (simp; done) | omega) _) | (with_reducible refine Below.alloc ?_ (by have := HB5.out.size; simp; omega) _)))
    obtain ⟨rfl, xc_, xd_, xb_⟩ := hcut
    generalize wc = W0 at *
    clear d0_ d1_ d2_ d3_ df0_ df1_ df2_ df3_ dn_ dm_ dl_ c0_ c1_ c2_ c3_ cf0_ cf1_ cf2_ cf3_ cn_ cm_ cl_ b0_ b1_ b2_ b3_ bf0_ bf1_ bf2_ bf3_ bn_ bm_ bl_ f0_ f1_ f2_ f3_ ff0_ ff1_ ff2_ ff3_ fn_ fm_ fl_ hB MB Hc2 Hd2 Hf2 Hb2 HB2
    have Hc9 := Lib.hid xc_; have Hd9 := Lib.hid xd_; have HB9 := Lib.hid xb_
    clear xc_ xd_ xb_
    obtain ⟨c0_, c1_, c2_, c3_, cf0_, cf1_, cf2_, cf3_⟩ := at4 Hc9.out
    have cn_ := ne_blk Hc9.out
    have cm_ := Ne.symm (a := Bc) cn_
    have cl_ := lt_blk Hc9.out
    obtain ⟨d0_, d1_, d2_, d3_, df0_, df1_, df2_, df3_⟩ := at4 Hd9.out
    have dn_ := ne_blk Hd9.out
    have dm_ := Ne.symm (a := Bd) dn_
    have dl_ := lt_blk Hd9.out
    go_upto_region 8 with (fail)
    go_cut [80] (fun e80 wx => e80 = .bool false ∧ wx.heap[Bc]? = some (.cells #[.int .i64 ci, .int .i64 cs, .int .i64 ch, .int .i64 cv] 121 (0, 0)) ∧ wx.heap[Bd]? = some (.cells #[.int .i64 ci, .int .i64 cs, .int .i64 ch, .int .i64 cv] 123 (0, 0)) ∧ Below w.heap.size w wx)
    case first =>
      rcases hC with ⟨hC1, hC2⟩ | ⟨hC1, hC2⟩
      · rw [hC1] at CK
        rw [hC2] at MY
        clear hC1 hC2
        go_region_with (first
          | (go_at_call 58; (with_reducible refine (CK.out _).mono ?_); rintro e uu ⟨rfl, huu⟩; have Yc : uu.heap[Bc]? = some (.cells #[.int .i64 ci, .int .i64 cs, .int .i64 ch, .int .i64 cv] 121 (0, 0)) := blk_call huu (by (repeat' (first | (with_reducible exact HYc.out) | (with_reducible exact Hc9.out) | (with_reducible refine blk_drew ?_)))); have Yd : uu.heap[Bd]? = some (.cells #[.int .i64 ci, .int .i64 cs, .int .i64 ch, .int .i64 cv] 123 (0, 0)) := blk_call huu (by (repeat' (first | (with_reducible exact HYd.out) | (with_reducible exact Hd9.out) | (with_reducible refine blk_drew ?_)))); have YB := bel_call huu (show Below w.heap.size w _ by (repeat' (first | (with_reducible exact HYB.out) | (with_reducible exact HB9.out) | (with_reducible refine below_drewN _ ?_) | (with_reducible refine Below.drew ?_)))) (by have := HB9.out.size; first | omega | (have := HYB.out.size; omega) | (simp; omega)); obtain ⟨c0c, c1c, c2c, c3c, cf0c, cf1c, cf2c, cf3c⟩ := at4 Yc; have clc := lt_blk Yc; obtain ⟨d0c, d1c, d2c, d3c, df0c, df1c, df2c, df3c⟩ := at4 Yd; have dlc := lt_blk Yd; have HYc := Lib.hid Yc; have HYd := Lib.hid Yd; have HYB := Lib.hid YB; clear huu YB Yc Yd)
          | (go_at_call 57; (with_reducible refine (MY.out _).mono ?_); rintro e uu ⟨rfl, huu⟩; have Yc : uu.heap[Bc]? = some (.cells #[.int .i64 ci, .int .i64 cs, .int .i64 ch, .int .i64 cv] 121 (0, 0)) := blk_call huu (by (repeat' (first | (with_reducible exact HYc.out) | (with_reducible exact Hc9.out) | (with_reducible refine blk_drew ?_)))); have Yd : uu.heap[Bd]? = some (.cells #[.int .i64 ci, .int .i64 cs, .int .i64 ch, .int .i64 cv] 123 (0, 0)) := blk_call huu (by (repeat' (first | (with_reducible exact HYd.out) | (with_reducible exact Hd9.out) | (with_reducible refine blk_drew ?_)))); have YB := bel_call huu (show Below w.heap.size w _ by (repeat' (first | (with_reducible exact HYB.out) | (with_reducible exact HB9.out) | (with_reducible refine below_drewN _ ?_) | (with_reducible refine Below.drew ?_)))) (by have := HB9.out.size; first | omega | (have := HYB.out.size; omega) | (simp; omega)); obtain ⟨c0c, c1c, c2c, c3c, cf0c, cf1c, cf2c, cf3c⟩ := at4 Yc; have clc := lt_blk Yc; obtain ⟨d0c, d1c, d2c, d3c, df0c, df1c, df2c, df3c⟩ := at4 Yd; have dlc := lt_blk Yd; have HYc := Lib.hid Yc; have HYd := Lib.hid Yd; have HYB := Lib.hid YB; clear huu YB Yc Yd)
          | fail)
        all_goals
          go_wp2
          go_meet
          refine ⟨rfl, ?_, ?_, ?_⟩
          · (repeat' (first | (with_reducible exact HYc.out) | (with_reducible refine blk_drew ?_) | (with_reducible refine blk_call (by with_reducible assumption) ?_)))
          · (repeat' (first | (with_reducible exact HYd.out) | (with_reducible refine blk_drew ?_) | (with_reducible refine blk_call (by with_reducible assumption) ?_)))
          · (repeat' (first | (with_reducible exact HYB.out) | (with_reducible refine below_drewN _ ?_) | (with_reducible refine Below.drew ?_) | (with_reducible refine bel_call (by with_reducible assumption) ?_ (by have := HYB.out.size; first | omega | (simp; omega)))))
      · rw [hC1] at CK
        rw [hC2] at MY
        clear hC1 hC2
        go_region_with (first
          | (go_at_call 58; (with_reducible refine (CK.out _).mono ?_); rintro e uu ⟨rfl, huu⟩; have Yc : uu.heap[Bc]? = some (.cells #[.int .i64 ci, .int .i64 cs, .int .i64 ch, .int .i64 cv] 121 (0, 0)) := blk_call huu (by (repeat' (first | (with_reducible exact HYc.out) | (with_reducible exact Hc9.out) | (with_reducible refine blk_drew ?_)))); have Yd : uu.heap[Bd]? = some (.cells #[.int .i64 ci, .int .i64 cs, .int .i64 ch, .int .i64 cv] 123 (0, 0)) := blk_call huu (by (repeat' (first | (with_reducible exact HYd.out) | (with_reducible exact Hd9.out) | (with_reducible refine blk_drew ?_)))); have YB := bel_call huu (show Below w.heap.size w _ by (repeat' (first | (with_reducible exact HYB.out) | (with_reducible exact HB9.out) | (with_reducible refine below_drewN _ ?_) | (with_reducible refine Below.drew ?_)))) (by have := HB9.out.size; first | omega | (have := HYB.out.size; omega) | (simp; omega)); obtain ⟨c0c, c1c, c2c, c3c, cf0c, cf1c, cf2c, cf3c⟩ := at4 Yc; have clc := lt_blk Yc; obtain ⟨d0c, d1c, d2c, d3c, df0c, df1c, df2c, df3c⟩ := at4 Yd; have dlc := lt_blk Yd; have HYc := Lib.hid Yc; have HYd := Lib.hid Yd; have HYB := Lib.hid YB; clear huu YB Yc Yd)
          | (go_at_call 57; (with_reducible refine (MY.out _).mono ?_); rintro e uu ⟨rfl, huu⟩; have Yc : uu.heap[Bc]? = some (.cells #[.int .i64 ci, .int .i64 cs, .int .i64 ch, .int .i64 cv] 121 (0, 0)) := blk_call huu (by (repeat' (first | (with_reducible exact HYc.out) | (with_reducible exact Hc9.out) | (with_reducible refine blk_drew ?_)))); have Yd : uu.heap[Bd]? = some (.cells #[.int .i64 ci, .int .i64 cs, .int .i64 ch, .int .i64 cv] 123 (0, 0)) := blk_call huu (by (repeat' (first | (with_reducible exact HYd.out) | (with_reducible exact Hd9.out) | (with_reducible refine blk_drew ?_)))); have YB := bel_call huu (show Below w.heap.size w _ by (repeat' (first | (with_reducible exact HYB.out) | (with_reducible exact HB9.out) | (with_reducible refine below_drewN _ ?_) | (with_reducible refine Below.drew ?_)))) (by have := HB9.out.size; first | omega | (have := HYB.out.size; omega) | (simp; omega)); obtain ⟨c0c, c1c, c2c, c3c, cf0c, cf1c, cf2c, cf3c⟩ := at4 Yc; have clc := lt_blk Yc; obtain ⟨d0c, d1c, d2c, d3c, df0c, df1c, df2c, df3c⟩ := at4 Yd; have dlc := lt_blk Yd; have HYc := Lib.hid Yc; have HYd := Lib.hid Yd; have HYB := Lib.hid YB; clear huu YB Yc Yd)
          | fail)
        all_goals
          go_wp2
          go_meet
          refine ⟨rfl, ?_, ?_, ?_⟩
          · (repeat' (first | (with_reducible exact HYc.out) | (with_reducible refine blk_drew ?_) | (with_reducible refine blk_call (by with_reducible assumption) ?_)))
          · (repeat' (first | (with_reducible exact HYd.out) | (with_reducible refine blk_drew ?_) | (with_reducible refine blk_call (by with_reducible assumption) ?_)))
          · (repeat' (first | (with_reducible exact HYB.out) | (with_reducible refine below_drewN _ ?_) | (with_reducible refine Below.drew ?_) | (with_reducible refine bel_call (by with_reducible assumption) ?_ (by have := HYB.out.size; first | omega | (simp; omega)))))
    obtain ⟨rfl, xc_, xd_, xb_⟩ := hcut
    generalize wc = W1 at *
    clear c0_ c1_ c2_ c3_ cf0_ cf1_ cf2_ cf3_ cn_ cm_ cl_ d0_ d1_ d2_ d3_ df0_ df1_ df2_ df3_ dn_ dm_ dl_ Hc9 Hd9 HB9 hC CK MY
    have Hc9 := Lib.hid xc_; have Hd9 := Lib.hid xd_; have HB9 := Lib.hid xb_
    clear xc_ xd_ xb_
    go_wp2
    go_loopw [83] (fun e wr => ∃ (j : Nat) (xi xs xh xv : Int), e = .int .i64 j ∧ j ≤ n ∧ wr.heap[Bc]? = some (.cells #[.int .i64 xi, .int .i64 xs, .int .i64 xh, .int .i64 xv] 121 (0, 0)) ∧ wr.heap[Bd]? = some (.cells #[.int .i64 xi, .int .i64 xs, .int .i64 xh, .int .i64 xv] 123 (0, 0)) ∧ Below w.heap.size w wr) (fun e _ => n - (intOf e).toNat)
    case atStart => exact ⟨0, ci, cs, ch, cv, rfl, Nat.zero_le _, Hc9.out, Hd9.out, HB9.out⟩
    case round =>
      clear Hc9 Hd9 HB9 g200
      obtain ⟨j, xi, xs, xh, xv, rfl, hj, xc, xd, xb⟩ := hrel
      have Hc9 := Lib.hid xc; have Hd9 := Lib.hid xd; have HB9 := Lib.hid xb
      have ndc_ : ¬ Bd = Bc := fun e => ncd e.symm
      clear xc xd
      by_cases hlt : j < n
      · obtain ⟨hzl, hzm, hzw, hzc⟩ := HR.out
        obtain ⟨b, off, rfl, hb0, hcs⟩ := hzc (by omega)
        obtain ⟨cx0, cx1, cx2⟩ := hcs j hlt
        have ac0_ := (xb.cell (p := ⟨b, off + j * 3, none⟩) hb0).trans cx0
        have ac1_ := (xb.cell (p := ⟨b, off + j * 3 + 1, none⟩) hb0).trans cx1
        have ac2_ := (xb.cell (p := ⟨b, off + j * 3 + 2, none⟩) hb0).trans cx2
        have hxw : (fs.getD j Act23.nil).ok := hzw _ (by rw [List.getD_eq_getElem?_getD, List.getElem?_eq_getElem (by omega : j < fs.length)]; exact List.getElem_mem _)
        generalize fs.getD j Act23.nil = act at *
        obtain ⟨ad, an, ab⟩ := act
        obtain ⟨⟨p0, p1⟩, p2, p3⟩ := hxw
        dsimp only at p0 p1 p2 p3 ac0_ ac1_ ac2_
        have T1 := Lib.hid (fun W => cr_tick ⟨xi, xs, xh, xv⟩ ad p0 p1 ab W)
        have T2 := Lib.hid (fun W => cr_rtick ⟨xi, xs, xh, xv⟩ ad p0 p1 ab W)
        generalize CD.tick ⟨xi, xs, xh, xv⟩ ad ab = y at *
        obtain ⟨yi, ys, yh, yv⟩ := y
        have WA := Lib.hid (fun W => cr_wait ⟨yi, ys, yh, yv⟩ W)
        have WB := Lib.hid (fun W => cr_rwait ⟨yi, ys, yh, yv⟩ W)
        have MA := Lib.hid (fun W => cr_may ⟨yi, ys, yh, yv⟩ W)
        have MR := Lib.hid (fun W => cr_rmay yi ys yh yv W)
        have SA := Lib.hid (fun W => cr_sent ⟨yi, ys, yh, yv⟩ an p2 p3 W)
        have SB := Lib.hid (fun W => cr_rsent ⟨yi, ys, yh, yv⟩ an p2 p3 W)
        generalize CD.wait ⟨yi, ys, yh, yv⟩ = N at *
        generalize CD.sent ⟨yi, ys, yh, yv⟩ an = z at *
        obtain ⟨⟨zi, zs, zh, zv⟩, q_⟩ := z
        have hgs : ∃ g1 g2 : Bool, CD.may ⟨yi, ys, yh, yv⟩ = (g1 && g2) ∧ decide (CD.ok ⟨yi, ys, yh, yv⟩) = g1 ∧ decide (0 ≤ yv) = g2 := ⟨_, _, by
          unfold CD.may
          by_cases a1 : CD.ok ⟨yi, ys, yh, yv⟩
          · by_cases a2 : 0 ≤ yv
            · rw [decide_eq_true a1, decide_eq_true a2, decide_eq_true ⟨a1, a2⟩]; rfl
            · rw [decide_eq_true a1, decide_eq_false a2, decide_eq_false (fun x => a2 x.2)]; rfl
          · rw [decide_eq_false a1, decide_eq_false (fun x => a1 x.1)]; rfl, rfl, rfl⟩
        obtain ⟨g1, g2, e1, e2, e3⟩ := hgs
        rw [e1] at MA
        rw [e2] at MR
        clear e1 e2
        simp only [cd_val] at T1 T2 WA WB MA SA SB
        clear hzl hzm hzw hzc hcs cx0 cx1 cx2 xb
        obtain ⟨c0_, c1_, c2_, c3_, cf0_, cf1_, cf2_, cf3_⟩ := at4 Hc9.out
        have cn_ := ne_blk Hc9.out
        have cm_ := Ne.symm (a := Bc) cn_
        have cl_ := lt_blk Hc9.out
        obtain ⟨d0_, d1_, d2_, d3_, df0_, df1_, df2_, df3_⟩ := at4 Hd9.out
        have dn_ := ne_blk Hd9.out
        have dm_ := Ne.symm (a := Bd) dn_
        have dl_ := lt_blk Hd9.out
        go_upto_region 13 with (fail)
        refine wp_genc ?_
        intro v9 hv9
        have Xc : v9.heap[Bc]? = some (.cells #[.int .i64 xi, .int .i64 xs, .int .i64 xh, .int .i64 xv] 121 (0, 0)) := by
          rw [hv9]
          (repeat' (first | (with_reducible exact Hc9.out) | (with_reducible exact heap_alloc_new _ _) | (with_reducible exact blk_new (by first | (simp; done) | omega)) | (with_reducible refine blk_drew ?_) | (with_reducible apply put4_0) | (with_reducible apply put4_1) | (with_reducible apply put4_2) | (with_reducible apply put4_3) | (with_reducible refine blk_else (by omega) ?_) | (with_reducible refine blk_old ?_)))
        have Xd : v9.heap[Bd]? = some (.cells #[.int .i64 xi, .int .i64 xs, .int .i64 xh, .int .i64 xv] 123 (0, 0)) := by
          rw [hv9]
          (repeat' (first | (with_reducible exact Hd9.out) | (with_reducible exact heap_alloc_new _ _) | (with_reducible exact blk_new (by first | (simp; done) | omega)) | (with_reducible refine blk_drew ?_) | (with_reducible apply put4_0) | (with_reducible apply put4_1) | (with_reducible apply put4_2) | (with_reducible apply put4_3) | (with_reducible refine blk_else (by omega) ?_) | (with_reducible refine blk_old ?_)))
        have XB : Below w.heap.size w v9 := by
          rw [hv9]
          (repeat' (first | (with_reducible exact HB9.out) | (with_reducible exact Below.refl _ _) | (with_reducible refine below_drewN _ ?_) | (with_reducible refine Below.drew ?_) | (with_reducible refine Below.setCell ?_ (by first | (simp; done) | omega) _) | (with_reducible refine Below.alloc ?_ (by have := HB9.out.size; simp; omega) _)))
        have Xe : v9.heap[wr.heap.size]? = some (.cells #[.int .u64 ad, .int .u64 an, .bool ab] 129 (0, 0)) := by
          rw [hv9]
          (repeat' (first | (with_reducible exact heap_alloc_new _ _) | (with_reducible exact blk_new (by first | (simp; done) | omega)) | (with_reducible refine blk_drew ?_) | (with_reducible apply put3_0) | (with_reducible apply put3_1) | (with_reducible apply put3_2) | (with_reducible refine blk_else (by omega) ?_) | (with_reducible refine blk_old ?_)))
        obtain ⟨Be, hBe⟩ : ∃ x, x = wr.heap.size := ⟨_, rfl⟩
        rw [← hBe] at Xe
        try rw [← hBe]
        have nec : ¬ Be = Bc := by have := lt_blk Hc9.out; omega
        have nce : ¬ Bc = Be := fun h => nec h.symm
        have ned : ¬ Be = Bd := by have := lt_blk Hd9.out; omega
        have nde : ¬ Bd = Be := fun h => ned h.symm
        have lee : w.heap.size ≤ Be := by have := HB9.out.size; omega
        clear hBe
        clear c0_ c1_ c2_ c3_ cf0_ cf1_ cf2_ cf3_ cn_ cm_ cl_ d0_ d1_ d2_ d3_ df0_ df1_ df2_ df3_ dn_ dm_ dl_ ac0_ ac1_ ac2_
        clear hv9 Hc9 Hd9 HB9
        have Hc10 := Lib.hid Xc
        have Hd10 := Lib.hid Xd
        have He10 := Lib.hid Xe
        have HB10 := Lib.hid XB
        clear Xc Xd Xe XB
        obtain ⟨c0_, c1_, c2_, c3_, cf0_, cf1_, cf2_, cf3_⟩ := at4 Hc10.out
        have cn_ := ne_blk Hc10.out
        have cm_ := Ne.symm (a := Bc) cn_
        have cl_ := lt_blk Hc10.out
        obtain ⟨d0_, d1_, d2_, d3_, df0_, df1_, df2_, df3_⟩ := at4 Hd10.out
        have dn_ := ne_blk Hd10.out
        have dm_ := Ne.symm (a := Bd) dn_
        have dl_ := lt_blk Hd10.out
        obtain ⟨e0_, e1_, e2_, ef0_, ef1_, ef2_⟩ := at3 He10.out
        have en_ := ne_blk He10.out
        have em_ := Ne.symm (a := Be) en_
        have el_ := lt_blk He10.out
        go_cut [98] (fun e98 wx => wx.heap[Bc]? = some (.cells #[.int .i64 yi, .int .i64 ys, .int .i64 yh, .int .i64 yv] 121 (0, 0)) ∧ wx.heap[Bd]? = some (.cells #[.int .i64 yi, .int .i64 ys, .int .i64 yh, .int .i64 yv] 123 (0, 0)) ∧ wx.heap[Be]? = some (.cells #[.int .u64 ad, .int .u64 an, .bool ab] 129 (0, 0)) ∧ Below w.heap.size w wx)
        case first =>
          have KTC := Lib.hid (fun (W : World) (a_ b_ c_ d_ : Value) (hS : W.cell? ⟨Be, 0, none⟩ = some (.int .u64 ad) ∧ W.cell? ⟨Be, 2, none⟩ = some (.bool ab)) =>
            have ng : ∀ k q, (⟨Bc, k, none⟩ : Addr) ≠ ⟨Be, q, none⟩ := fun k q e => by injection e with e1 e2 e3; exact nce e1
            (⟨(World.cell?_setCell_other _ ⟨Bc, 3, none⟩ ⟨Be, 0, none⟩ d_ (ng 3 0)).trans ((World.cell?_setCell_other _ ⟨Bc, 2, none⟩ ⟨Be, 0, none⟩ c_ (ng 2 0)).trans ((World.cell?_setCell_other _ ⟨Bc, 1, none⟩ ⟨Be, 0, none⟩ b_ (ng 1 0)).trans ((World.cell?_setCell_other _ ⟨Bc, 0, none⟩ ⟨Be, 0, none⟩ a_ (ng 0 0)).trans hS.1))), (World.cell?_setCell_other _ ⟨Bc, 3, none⟩ ⟨Be, 2, none⟩ d_ (ng 3 2)).trans ((World.cell?_setCell_other _ ⟨Bc, 2, none⟩ ⟨Be, 2, none⟩ c_ (ng 2 2)).trans ((World.cell?_setCell_other _ ⟨Bc, 1, none⟩ ⟨Be, 2, none⟩ b_ (ng 1 2)).trans ((World.cell?_setCell_other _ ⟨Bc, 0, none⟩ ⟨Be, 2, none⟩ a_ (ng 0 2)).trans hS.2)))⟩ : ((((W.setCell ⟨Bc, 0, none⟩ a_).setCell ⟨Bc, 1, none⟩ b_).setCell ⟨Bc, 2, none⟩ c_).setCell ⟨Bc, 3, none⟩ d_).cell? ⟨Be, 0, none⟩ = some (.int .u64 ad) ∧ ((((W.setCell ⟨Bc, 0, none⟩ a_).setCell ⟨Bc, 1, none⟩ b_).setCell ⟨Bc, 2, none⟩ c_).setCell ⟨Bc, 3, none⟩ d_).cell? ⟨Be, 2, none⟩ = some (.bool ab)))
          have KTD := Lib.hid (fun (W : World) (a_ b_ c_ d_ : Value) (hS : W.cell? ⟨Be, 0, none⟩ = some (.int .u64 ad) ∧ W.cell? ⟨Be, 2, none⟩ = some (.bool ab)) =>
            have ng : ∀ k q, (⟨Bd, k, none⟩ : Addr) ≠ ⟨Be, q, none⟩ := fun k q e => by injection e with e1 e2 e3; exact nde e1
            (⟨(World.cell?_setCell_other _ ⟨Bd, 3, none⟩ ⟨Be, 0, none⟩ d_ (ng 3 0)).trans ((World.cell?_setCell_other _ ⟨Bd, 2, none⟩ ⟨Be, 0, none⟩ c_ (ng 2 0)).trans ((World.cell?_setCell_other _ ⟨Bd, 1, none⟩ ⟨Be, 0, none⟩ b_ (ng 1 0)).trans ((World.cell?_setCell_other _ ⟨Bd, 0, none⟩ ⟨Be, 0, none⟩ a_ (ng 0 0)).trans hS.1))), (World.cell?_setCell_other _ ⟨Bd, 3, none⟩ ⟨Be, 2, none⟩ d_ (ng 3 2)).trans ((World.cell?_setCell_other _ ⟨Bd, 2, none⟩ ⟨Be, 2, none⟩ c_ (ng 2 2)).trans ((World.cell?_setCell_other _ ⟨Bd, 1, none⟩ ⟨Be, 2, none⟩ b_ (ng 1 2)).trans ((World.cell?_setCell_other _ ⟨Bd, 0, none⟩ ⟨Be, 2, none⟩ a_ (ng 0 2)).trans hS.2)))⟩ : ((((W.setCell ⟨Bd, 0, none⟩ a_).setCell ⟨Bd, 1, none⟩ b_).setCell ⟨Bd, 2, none⟩ c_).setCell ⟨Bd, 3, none⟩ d_).cell? ⟨Be, 0, none⟩ = some (.int .u64 ad) ∧ ((((W.setCell ⟨Bd, 0, none⟩ a_).setCell ⟨Bd, 1, none⟩ b_).setCell ⟨Bd, 2, none⟩ c_).setCell ⟨Bd, 3, none⟩ d_).cell? ⟨Be, 2, none⟩ = some (.bool ab)))
          refine wp_region_noPanic ?_
          refine wp_region_held_drew (S := (fun v => v.cell? ⟨Be, 0, none⟩ = some (.int .u64 ad) ∧ v.cell? ⟨Be, 2, none⟩ = some (.bool ab))) (by kernel_rfl) ⟨e0_, e2_⟩ (fun hHeld => ?_)
          refine take_list (i := 1) (oi := _) (v := ?_) rfl (by kernel_rfl) (by kernel_rfl) (by kernel_rfl) (fun _ _ _ h => h) (Or.inl ⟨by rfl, ?_⟩) (by assumption) ?_
          rotate_left 1
          · intro v hSw
            (try dsimp only at hSw)
            go_simp
            try with_reducible rfl
          try simp only [List.getElem_toArray, List.getElem_cons_succ, List.getElem_cons_zero, Act.put, List.setIfInBounds_toArray, List.set_cons_zero, List.set_cons_succ]
          refine take_list (i := 2) (oi := _) (v := ?_) rfl (by kernel_rfl) (by kernel_rfl) (by kernel_rfl) (fun _ _ _ h => h) (Or.inl ⟨by rfl, ?_⟩) (by assumption) ?_
          rotate_left 1
          · intro v hSw
            (try dsimp only at hSw)
            go_simp
            try with_reducible rfl
          try simp only [List.getElem_toArray, List.getElem_cons_succ, List.getElem_cons_zero, Act.put, List.setIfInBounds_toArray, List.set_cons_zero, List.set_cons_succ]
          refine take_list (i := 3) (oi := _) (v := ?_) rfl (by kernel_rfl) (by kernel_rfl) (by kernel_rfl) (fun _ _ _ h => h) (Or.inl ⟨by rfl, ?_⟩) (by assumption) ?_
          rotate_left 1
          · intro v hSw
            (try dsimp only at hSw)
            go_simp
            try with_reducible rfl
          try simp only [List.getElem_toArray, List.getElem_cons_succ, List.getElem_cons_zero, Act.put, List.setIfInBounds_toArray, List.set_cons_zero, List.set_cons_succ]
          refine take_list (i := 4) (oi := _) (v := ?_) rfl (by kernel_rfl) (by kernel_rfl) (by kernel_rfl) (fun _ _ _ h => h) (Or.inl ⟨by rfl, ?_⟩) (by assumption) ?_
          rotate_left 1
          · intro v hSw
            (try dsimp only at hSw)
            go_simp
            try with_reducible rfl
          try simp only [List.getElem_toArray, List.getElem_cons_succ, List.getElem_cons_zero, Act.put, List.setIfInBounds_toArray, List.set_cons_zero, List.set_cons_succ]
          refine take_list (i := 7) (oi := _) (v := ?_) rfl (by kernel_rfl) (by kernel_rfl) (by kernel_rfl) (fun _ _ _ h => h) (Or.inl ⟨by rfl, ?_⟩) (by assumption) ?_
          rotate_left 1
          · intro v hSw
            (try dsimp only at hSw)
            go_simp
            try with_reducible rfl
          try simp only [List.getElem_toArray, List.getElem_cons_succ, List.getElem_cons_zero, Act.put, List.setIfInBounds_toArray, List.set_cons_zero, List.set_cons_succ]
          refine take_list (i := 8) (oi := _) (v := ?_) rfl (by kernel_rfl) (by kernel_rfl) (by kernel_rfl) (fun _ _ _ h => h) (Or.inl ⟨by rfl, ?_⟩) (by assumption) ?_
          rotate_left 1
          · intro v hSw
            (try dsimp only at hSw)
            go_simp
            try with_reducible rfl
          try simp only [List.getElem_toArray, List.getElem_cons_succ, List.getElem_cons_zero, Act.put, List.setIfInBounds_toArray, List.set_cons_zero, List.set_cons_succ]
          refine take_list (i := 9) (oi := _) (v := ?_) rfl (by kernel_rfl) (by kernel_rfl) (by kernel_rfl) (fun _ _ _ h => h) (Or.inl ⟨by rfl, ?_⟩) (by assumption) ?_
          rotate_left 1
          · intro v hSw
            (try dsimp only at hSw)
            go_simp
            try with_reducible rfl
          try simp only [List.getElem_toArray, List.getElem_cons_succ, List.getElem_cons_zero, Act.put, List.setIfInBounds_toArray, List.set_cons_zero, List.set_cons_succ]
          refine take_list (i := 10) (oi := _) (v := ?_) rfl (by kernel_rfl) (by kernel_rfl) (by kernel_rfl) (fun _ _ _ h => h) (Or.inl ⟨by rfl, ?_⟩) (by assumption) ?_
          rotate_left 1
          · intro v hSw
            (try dsimp only at hSw)
            go_simp
            try with_reducible rfl
          try simp only [List.getElem_toArray, List.getElem_cons_succ, List.getElem_cons_zero, Act.put, List.setIfInBounds_toArray, List.set_cons_zero, List.set_cons_succ]
          refine wpAnyH_norm (n := 6) (l := #[false, true, true, true, true, false, false, true, true, true, true, false, false, false]) (by kernel_rfl) (by kernel_rfl) ?_
          refine wpAnyH_ready (rs := [0, 6]) (by kernel_rfl) (by simp) ?_
          refine (cons_list (o := _) rfl (fun KQ hK => ?_) (cons_list (o := _) rfl (fun KQ hK => ?_) AllReadyH.nil))
          · rw [if_pos (by rfl)]
            go_simp
            refine hK.out _ _ (⟨e0_, e2_⟩) (fun hHeld => ?_)
            clear hK KQ
            try simp only [List.getElem_toArray, List.getElem_cons_succ, List.getElem_cons_zero, Act.put, List.setIfInBounds_toArray, List.set_cons_zero, List.set_cons_succ]
            refine wpAnyH_norm (n := 5) (l := #[true, true, true, true, true, false, false, true, true, true, true, false, false, false]) (by kernel_rfl) (by kernel_rfl) ?_
            refine wpAnyH_ready (rs := [5, 6]) (by kernel_rfl) (by simp) ?_
            refine (cons_list (o := _) rfl (fun KQ hK => ?_) (cons_list (o := _) rfl (fun KQ hK => ?_) AllReadyH.nil))
            · rw [if_pos (by rfl)]
              go_wp2_with (go_at_call 59; (with_reducible refine (T1.out _).mono ?_); rintro e u1 ⟨rfl, hu1⟩; have Yc : u1.heap[Bc]? = some (.cells #[.int .i64 xi, .int .i64 xs, .int .i64 xh, .int .i64 xv] 121 (0, 0)) := blk_call hu1 (by first | (with_reducible exact Hc10.out) | (with_reducible exact blk_drew Hc10.out)); have Yd : u1.heap[Bd]? = some (.cells #[.int .i64 xi, .int .i64 xs, .int .i64 xh, .int .i64 xv] 123 (0, 0)) := blk_call hu1 (by first | (with_reducible exact Hd10.out) | (with_reducible exact blk_drew Hd10.out)); have Ye : u1.heap[Be]? = some (.cells #[.int .u64 ad, .int .u64 an, .bool ab] 129 (0, 0)) := blk_call hu1 (by first | (with_reducible exact He10.out) | (with_reducible exact blk_drew He10.out)); have YB := bel_call hu1 (show Below w.heap.size w _ by first | (with_reducible exact HB10.out) | (with_reducible exact HB10.out.drew)) (by have := HB10.out.size; first | omega | (simp; omega)); obtain ⟨c0q, c1q, c2q, c3q, cf0q, cf1q, cf2q, cf3q⟩ := at4 Yc; have clq := lt_blk Yc; obtain ⟨d0q, d1q, d2q, d3q, df0q, df1q, df2q, df3q⟩ := at4 Yd; have dlq := lt_blk Yd; have HS21 := Lib.hid (show u1.cell? ⟨Be, 0, none⟩ = some (.int .u64 ad) ∧ u1.cell? ⟨Be, 2, none⟩ = some (.bool ab) from ⟨cell_blk Ye 0 rfl, cell_blk Ye 2 rfl⟩); have Hc21 := Lib.hid Yc; have Hd21 := Lib.hid Yd; have He21 := Lib.hid Ye; have HB21 := Lib.hid YB; clear hu1 YB Yc Yd Ye)
              refine hK.out _ _ (HS21.out) (fun hHeld => ?_)
              clear hK KQ
              try simp only [List.getElem_toArray, List.getElem_cons_succ, List.getElem_cons_zero, Act.put, List.setIfInBounds_toArray, List.set_cons_zero, List.set_cons_succ]
              refine wpAnyH_norm (n := 4) (l := #[true, true, true, true, true, true, false, true, true, true, true, false, false, false]) (by kernel_rfl) (by kernel_rfl) ?_
              refine wpAnyH_ready (rs := [6]) (by kernel_rfl) (by simp) ?_
              refine (cons_list (o := _) rfl (fun KQ hK => ?_) AllReadyH.nil)
              rw [if_pos (by rfl)]
              go_simp
              refine hK.out _ _ (HS21.out) (fun hHeld => ?_)
              clear hK KQ
              try simp only [List.getElem_toArray, List.getElem_cons_succ, List.getElem_cons_zero, Act.put, List.setIfInBounds_toArray, List.set_cons_zero, List.set_cons_succ]
              refine wpAnyH_norm (n := 3) (l := #[true, true, true, true, true, true, true, true, true, true, true, false, false, false]) (by kernel_rfl) (by kernel_rfl) ?_
              refine wpAnyH_ready (rs := [11]) (by kernel_rfl) (by simp) ?_
              refine (cons_list (o := _) rfl (fun KQ hK => ?_) AllReadyH.nil)
              rw [if_pos (by rfl)]
              go_wp2_with (go_at_call 60; (with_reducible refine (T2.out _).mono ?_); rintro e u2 ⟨rfl, hu2⟩; have Yc : u2.heap[Bc]? = some (.cells #[.int .i64 xi, .int .i64 xs, .int .i64 xh, .int .i64 xv] 121 (0, 0)) := blk_call hu2 (by first | (with_reducible exact Hc21.out) | (with_reducible exact blk_drew Hc21.out)); have Yd : u2.heap[Bd]? = some (.cells #[.int .i64 xi, .int .i64 xs, .int .i64 xh, .int .i64 xv] 123 (0, 0)) := blk_call hu2 (by first | (with_reducible exact Hd21.out) | (with_reducible exact blk_drew Hd21.out)); have Ye : u2.heap[Be]? = some (.cells #[.int .u64 ad, .int .u64 an, .bool ab] 129 (0, 0)) := blk_call hu2 (by first | (with_reducible exact He21.out) | (with_reducible exact blk_drew He21.out)); have YB := bel_call hu2 (show Below w.heap.size w _ by first | (with_reducible exact HB21.out) | (with_reducible exact HB21.out.drew)) (by have := HB21.out.size; first | omega | (simp; omega)); clear c0q c1q c2q c3q cf0q cf1q cf2q cf3q clq d0q d1q d2q d3q df0q df1q df2q df3q dlq; obtain ⟨c0q, c1q, c2q, c3q, cf0q, cf1q, cf2q, cf3q⟩ := at4 Yc; have clq := lt_blk Yc; obtain ⟨d0q, d1q, d2q, d3q, df0q, df1q, df2q, df3q⟩ := at4 Yd; have dlq := lt_blk Yd; have HS22 := Lib.hid (show u2.cell? ⟨Be, 0, none⟩ = some (.int .u64 ad) ∧ u2.cell? ⟨Be, 2, none⟩ = some (.bool ab) from ⟨cell_blk Ye 0 rfl, cell_blk Ye 2 rfl⟩); have Hc22 := Lib.hid Yc; have Hd22 := Lib.hid Yd; have He22 := Lib.hid Ye; have HB22 := Lib.hid YB; clear hu2 YB Yc Yd Ye)
              refine hK.out _ _ (HS22.out) (fun hHeld => ?_)
              clear hK KQ
              try simp only [List.getElem_toArray, List.getElem_cons_succ, List.getElem_cons_zero, Act.put, List.setIfInBounds_toArray, List.set_cons_zero, List.set_cons_succ]
              refine wpAnyH_norm (n := 2) (l := #[true, true, true, true, true, true, true, true, true, true, true, true, false, false]) (by kernel_rfl) (by kernel_rfl) ?_
              refine wpAnyH_ready (rs := [12]) (by kernel_rfl) (by simp) ?_
              refine (cons_list (o := _) rfl (fun KQ hK => ?_) AllReadyH.nil)
              rw [if_pos (by rfl)]
              go_simp
              refine hK.out _ _ (KTD.out _ _ _ _ _ HS22.out) (fun hHeld => ?_)
              clear hK KQ
              try simp only [List.getElem_toArray, List.getElem_cons_succ, List.getElem_cons_zero, Act.put, List.setIfInBounds_toArray, List.set_cons_zero, List.set_cons_succ]
              refine wpAnyH_norm (n := 1) (l := #[true, true, true, true, true, true, true, true, true, true, true, true, true, false]) (by kernel_rfl) (by kernel_rfl) ?_
              refine wpAnyH_ready (rs := [13]) (by kernel_rfl) (by simp) ?_
              refine (cons_list (o := _) rfl (fun KQ hK => ?_) AllReadyH.nil)
              rw [if_pos (by rfl)]
              go_simp
              refine hK.out _ _ (KTC.out _ _ _ _ _ (KTD.out _ _ _ _ _ HS22.out)) (fun hHeld => ?_)
              clear hK KQ
              try simp only [List.getElem_toArray, List.getElem_cons_succ, List.getElem_cons_zero, Act.put, List.setIfInBounds_toArray, List.set_cons_zero, List.set_cons_succ]
              refine wpAnyH_norm (n := 0) (l := #[true, true, true, true, true, true, true, true, true, true, true, true, true, true]) (by kernel_rfl) (by kernel_rfl) ?_
              refine wpAnyH_done (by kernel_rfl) ?_ _
              refine NoPanic.normal ?_
              go_wp2
              go_meet
              refine ⟨?_, ?_, ?_, ?_⟩
              · (repeat' (first | (with_reducible exact Hc22.out) | (with_reducible exact heap_alloc_new _ _) | (with_reducible exact blk_new (by first | (simp; done) | omega)) | (with_reducible refine blk_drew ?_) | (with_reducible apply put1_0) | (with_reducible apply put2_0) | (with_reducible apply put2_1) | (with_reducible apply put3_0) | (with_reducible apply put3_1) | (with_reducible apply put3_2) | (with_reducible apply put4_0) | (with_reducible apply put4_1) | (with_reducible apply put4_2) | (with_reducible apply put4_3) | (with_reducible apply put5_0) | (with_reducible apply put5_1) | (with_reducible apply put5_2) | (with_reducible apply put5_3) | (with_reducible apply put5_4) | (with_reducible apply put6_0) | (with_reducible apply put6_1) | (with_reducible apply put6_2) | (with_reducible apply put6_3) | (with_reducible apply put6_4) | (with_reducible apply put6_5) | (with_reducible refine blk_else (by omega) ?_) | (with_reducible refine blk_old ?_)))
              · (repeat' (first | (with_reducible exact Hd22.out) | (with_reducible exact heap_alloc_new _ _) | (with_reducible exact blk_new (by first | (simp; done) | omega)) | (with_reducible refine blk_drew ?_) | (with_reducible apply put1_0) | (with_reducible apply put2_0) | (with_reducible apply put2_1) | (with_reducible apply put3_0) | (with_reducible apply put3_1) | (with_reducible apply put3_2) | (with_reducible apply put4_0) | (with_reducible apply put4_1) | (with_reducible apply put4_2) | (with_reducible apply put4_3) | (with_reducible apply put5_0) | (with_reducible apply put5_1) | (with_reducible apply put5_2) | (with_reducible apply put5_3) | (with_reducible apply put5_4) | (with_reducible apply put6_0) | (with_reducible apply put6_1) | (with_reducible apply put6_2) | (with_reducible apply put6_3) | (with_reducible apply put6_4) | (with_reducible apply put6_5) | (with_reducible refine blk_else (by omega) ?_) | (with_reducible refine blk_old ?_)))
              · (repeat' (first | (with_reducible exact He22.out) | (with_reducible exact heap_alloc_new _ _) | (with_reducible exact blk_new (by first | (simp; done) | omega)) | (with_reducible refine blk_drew ?_) | (with_reducible apply put1_0) | (with_reducible apply put2_0) | (with_reducible apply put2_1) | (with_reducible apply put3_0) | (with_reducible apply put3_1) | (with_reducible apply put3_2) | (with_reducible apply put4_0) | (with_reducible apply put4_1) | (with_reducible apply put4_2) | (with_reducible apply put4_3) | (with_reducible apply put5_0) | (with_reducible apply put5_1) | (with_reducible apply put5_2) | (with_reducible apply put5_3) | (with_reducible apply put5_4) | (with_reducible apply put6_0) | (with_reducible apply put6_1) | (with_reducible apply put6_2) | (with_reducible apply put6_3) | (with_reducible apply put6_4) | (with_reducible apply put6_5) | (with_reducible refine blk_else (by omega) ?_) | (with_reducible refine blk_old ?_)))
              · (repeat' (first | (with_reducible exact HB22.out) | (with_reducible exact Below.refl _ _) | (with_reducible refine below_drewN _ ?_) | (with_reducible refine Below.drew ?_) | (with_reducible refine Below.setCell ?_ (by first | (simp; done) | omega) _) | (with_reducible refine Below.alloc ?_ (by have := HB22.out.size; simp; omega) _)))
            · rw [if_pos (by rfl)]
              go_simp
              refine hK.out _ _ (⟨e0_, e2_⟩) (fun hHeld => ?_)
              clear hK KQ
              try simp only [List.getElem_toArray, List.getElem_cons_succ, List.getElem_cons_zero, Act.put, List.setIfInBounds_toArray, List.set_cons_zero, List.set_cons_succ]
              refine wpAnyH_norm (n := 4) (l := #[true, true, true, true, true, false, true, true, true, true, true, false, false, false]) (by kernel_rfl) (by kernel_rfl) ?_
              refine wpAnyH_ready (rs := [5]) (by kernel_rfl) (by simp) ?_
              refine (cons_list (o := _) rfl (fun KQ hK => ?_) AllReadyH.nil)
              rw [if_pos (by rfl)]
              go_wp2_with (go_at_call 59; (with_reducible refine (T1.out _).mono ?_); rintro e u1 ⟨rfl, hu1⟩; have Yc : u1.heap[Bc]? = some (.cells #[.int .i64 xi, .int .i64 xs, .int .i64 xh, .int .i64 xv] 121 (0, 0)) := blk_call hu1 (by first | (with_reducible exact Hc10.out) | (with_reducible exact blk_drew Hc10.out)); have Yd : u1.heap[Bd]? = some (.cells #[.int .i64 xi, .int .i64 xs, .int .i64 xh, .int .i64 xv] 123 (0, 0)) := blk_call hu1 (by first | (with_reducible exact Hd10.out) | (with_reducible exact blk_drew Hd10.out)); have Ye : u1.heap[Be]? = some (.cells #[.int .u64 ad, .int .u64 an, .bool ab] 129 (0, 0)) := blk_call hu1 (by first | (with_reducible exact He10.out) | (with_reducible exact blk_drew He10.out)); have YB := bel_call hu1 (show Below w.heap.size w _ by first | (with_reducible exact HB10.out) | (with_reducible exact HB10.out.drew)) (by have := HB10.out.size; first | omega | (simp; omega)); obtain ⟨c0q, c1q, c2q, c3q, cf0q, cf1q, cf2q, cf3q⟩ := at4 Yc; have clq := lt_blk Yc; obtain ⟨d0q, d1q, d2q, d3q, df0q, df1q, df2q, df3q⟩ := at4 Yd; have dlq := lt_blk Yd; have HS21 := Lib.hid (show u1.cell? ⟨Be, 0, none⟩ = some (.int .u64 ad) ∧ u1.cell? ⟨Be, 2, none⟩ = some (.bool ab) from ⟨cell_blk Ye 0 rfl, cell_blk Ye 2 rfl⟩); have Hc21 := Lib.hid Yc; have Hd21 := Lib.hid Yd; have He21 := Lib.hid Ye; have HB21 := Lib.hid YB; clear hu1 YB Yc Yd Ye)
              refine hK.out _ _ (HS21.out) (fun hHeld => ?_)
              clear hK KQ
              try simp only [List.getElem_toArray, List.getElem_cons_succ, List.getElem_cons_zero, Act.put, List.setIfInBounds_toArray, List.set_cons_zero, List.set_cons_succ]
              refine wpAnyH_norm (n := 3) (l := #[true, true, true, true, true, true, true, true, true, true, true, false, false, false]) (by kernel_rfl) (by kernel_rfl) ?_
              refine wpAnyH_ready (rs := [11]) (by kernel_rfl) (by simp) ?_
              refine (cons_list (o := _) rfl (fun KQ hK => ?_) AllReadyH.nil)
              rw [if_pos (by rfl)]
              go_wp2_with (go_at_call 60; (with_reducible refine (T2.out _).mono ?_); rintro e u2 ⟨rfl, hu2⟩; have Yc : u2.heap[Bc]? = some (.cells #[.int .i64 xi, .int .i64 xs, .int .i64 xh, .int .i64 xv] 121 (0, 0)) := blk_call hu2 (by first | (with_reducible exact Hc21.out) | (with_reducible exact blk_drew Hc21.out)); have Yd : u2.heap[Bd]? = some (.cells #[.int .i64 xi, .int .i64 xs, .int .i64 xh, .int .i64 xv] 123 (0, 0)) := blk_call hu2 (by first | (with_reducible exact Hd21.out) | (with_reducible exact blk_drew Hd21.out)); have Ye : u2.heap[Be]? = some (.cells #[.int .u64 ad, .int .u64 an, .bool ab] 129 (0, 0)) := blk_call hu2 (by first | (with_reducible exact He21.out) | (with_reducible exact blk_drew He21.out)); have YB := bel_call hu2 (show Below w.heap.size w _ by first | (with_reducible exact HB21.out) | (with_reducible exact HB21.out.drew)) (by have := HB21.out.size; first | omega | (simp; omega)); clear c0q c1q c2q c3q cf0q cf1q cf2q cf3q clq d0q d1q d2q d3q df0q df1q df2q df3q dlq; obtain ⟨c0q, c1q, c2q, c3q, cf0q, cf1q, cf2q, cf3q⟩ := at4 Yc; have clq := lt_blk Yc; obtain ⟨d0q, d1q, d2q, d3q, df0q, df1q, df2q, df3q⟩ := at4 Yd; have dlq := lt_blk Yd; have HS22 := Lib.hid (show u2.cell? ⟨Be, 0, none⟩ = some (.int .u64 ad) ∧ u2.cell? ⟨Be, 2, none⟩ = some (.bool ab) from ⟨cell_blk Ye 0 rfl, cell_blk Ye 2 rfl⟩); have Hc22 := Lib.hid Yc; have Hd22 := Lib.hid Yd; have He22 := Lib.hid Ye; have HB22 := Lib.hid YB; clear hu2 YB Yc Yd Ye)
              refine hK.out _ _ (HS22.out) (fun hHeld => ?_)
              clear hK KQ
              try simp only [List.getElem_toArray, List.getElem_cons_succ, List.getElem_cons_zero, Act.put, List.setIfInBounds_toArray, List.set_cons_zero, List.set_cons_succ]
              refine wpAnyH_norm (n := 2) (l := #[true, true, true, true, true, true, true, true, true, true, true, true, false, false]) (by kernel_rfl) (by kernel_rfl) ?_
              refine wpAnyH_ready (rs := [12]) (by kernel_rfl) (by simp) ?_
              refine (cons_list (o := _) rfl (fun KQ hK => ?_) AllReadyH.nil)
              rw [if_pos (by rfl)]
              go_simp
              refine hK.out _ _ (KTD.out _ _ _ _ _ HS22.out) (fun hHeld => ?_)
              clear hK KQ
              try simp only [List.getElem_toArray, List.getElem_cons_succ, List.getElem_cons_zero, Act.put, List.setIfInBounds_toArray, List.set_cons_zero, List.set_cons_succ]
              refine wpAnyH_norm (n := 1) (l := #[true, true, true, true, true, true, true, true, true, true, true, true, true, false]) (by kernel_rfl) (by kernel_rfl) ?_
              refine wpAnyH_ready (rs := [13]) (by kernel_rfl) (by simp) ?_
              refine (cons_list (o := _) rfl (fun KQ hK => ?_) AllReadyH.nil)
              rw [if_pos (by rfl)]
              go_simp
              refine hK.out _ _ (KTC.out _ _ _ _ _ (KTD.out _ _ _ _ _ HS22.out)) (fun hHeld => ?_)
              clear hK KQ
              try simp only [List.getElem_toArray, List.getElem_cons_succ, List.getElem_cons_zero, Act.put, List.setIfInBounds_toArray, List.set_cons_zero, List.set_cons_succ]
              refine wpAnyH_norm (n := 0) (l := #[true, true, true, true, true, true, true, true, true, true, true, true, true, true]) (by kernel_rfl) (by kernel_rfl) ?_
              refine wpAnyH_done (by kernel_rfl) ?_ _
              refine NoPanic.normal ?_
              go_wp2
              go_meet
              refine ⟨?_, ?_, ?_, ?_⟩
              · (repeat' (first | (with_reducible exact Hc22.out) | (with_reducible exact heap_alloc_new _ _) | (with_reducible exact blk_new (by first | (simp; done) | omega)) | (with_reducible refine blk_drew ?_) | (with_reducible apply put1_0) | (with_reducible apply put2_0) | (with_reducible apply put2_1) | (with_reducible apply put3_0) | (with_reducible apply put3_1) | (with_reducible apply put3_2) | (with_reducible apply put4_0) | (with_reducible apply put4_1) | (with_reducible apply put4_2) | (with_reducible apply put4_3) | (with_reducible apply put5_0) | (with_reducible apply put5_1) | (with_reducible apply put5_2) | (with_reducible apply put5_3) | (with_reducible apply put5_4) | (with_reducible apply put6_0) | (with_reducible apply put6_1) | (with_reducible apply put6_2) | (with_reducible apply put6_3) | (with_reducible apply put6_4) | (with_reducible apply put6_5) | (with_reducible refine blk_else (by omega) ?_) | (with_reducible refine blk_old ?_)))
              · (repeat' (first | (with_reducible exact Hd22.out) | (with_reducible exact heap_alloc_new _ _) | (with_reducible exact blk_new (by first | (simp; done) | omega)) | (with_reducible refine blk_drew ?_) | (with_reducible apply put1_0) | (with_reducible apply put2_0) | (with_reducible apply put2_1) | (with_reducible apply put3_0) | (with_reducible apply put3_1) | (with_reducible apply put3_2) | (with_reducible apply put4_0) | (with_reducible apply put4_1) | (with_reducible apply put4_2) | (with_reducible apply put4_3) | (with_reducible apply put5_0) | (with_reducible apply put5_1) | (with_reducible apply put5_2) | (with_reducible apply put5_3) | (with_reducible apply put5_4) | (with_reducible apply put6_0) | (with_reducible apply put6_1) | (with_reducible apply put6_2) | (with_reducible apply put6_3) | (with_reducible apply put6_4) | (with_reducible apply put6_5) | (with_reducible refine blk_else (by omega) ?_) | (with_reducible refine blk_old ?_)))
              · (repeat' (first | (with_reducible exact He22.out) | (with_reducible exact heap_alloc_new _ _) | (with_reducible exact blk_new (by first | (simp; done) | omega)) | (with_reducible refine blk_drew ?_) | (with_reducible apply put1_0) | (with_reducible apply put2_0) | (with_reducible apply put2_1) | (with_reducible apply put3_0) | (with_reducible apply put3_1) | (with_reducible apply put3_2) | (with_reducible apply put4_0) | (with_reducible apply put4_1) | (with_reducible apply put4_2) | (with_reducible apply put4_3) | (with_reducible apply put5_0) | (with_reducible apply put5_1) | (with_reducible apply put5_2) | (with_reducible apply put5_3) | (with_reducible apply put5_4) | (with_reducible apply put6_0) | (with_reducible apply put6_1) | (with_reducible apply put6_2) | (with_reducible apply put6_3) | (with_reducible apply put6_4) | (with_reducible apply put6_5) | (with_reducible refine blk_else (by omega) ?_) | (with_reducible refine blk_old ?_)))
              · (repeat' (first | (with_reducible exact HB22.out) | (with_reducible exact Below.refl _ _) | (with_reducible refine below_drewN _ ?_) | (with_reducible refine Below.drew ?_) | (with_reducible refine Below.setCell ?_ (by first | (simp; done) | omega) _) | (with_reducible refine Below.alloc ?_ (by have := HB22.out.size; simp; omega) _)))
          · rw [if_pos (by rfl)]
            go_simp
            refine hK.out _ _ (⟨e0_, e2_⟩) (fun hHeld => ?_)
            clear hK KQ
            try simp only [List.getElem_toArray, List.getElem_cons_succ, List.getElem_cons_zero, Act.put, List.setIfInBounds_toArray, List.set_cons_zero, List.set_cons_succ]
            refine wpAnyH_norm (n := 5) (l := #[false, true, true, true, true, false, true, true, true, true, true, false, false, false]) (by kernel_rfl) (by kernel_rfl) ?_
            refine wpAnyH_ready (rs := [0]) (by kernel_rfl) (by simp) ?_
            refine (cons_list (o := _) rfl (fun KQ hK => ?_) AllReadyH.nil)
            rw [if_pos (by rfl)]
            go_simp
            refine hK.out _ _ (⟨e0_, e2_⟩) (fun hHeld => ?_)
            clear hK KQ
            try simp only [List.getElem_toArray, List.getElem_cons_succ, List.getElem_cons_zero, Act.put, List.setIfInBounds_toArray, List.set_cons_zero, List.set_cons_succ]
            refine wpAnyH_norm (n := 4) (l := #[true, true, true, true, true, false, true, true, true, true, true, false, false, false]) (by kernel_rfl) (by kernel_rfl) ?_
            refine wpAnyH_ready (rs := [5]) (by kernel_rfl) (by simp) ?_
            refine (cons_list (o := _) rfl (fun KQ hK => ?_) AllReadyH.nil)
            rw [if_pos (by rfl)]
            go_wp2_with (go_at_call 59; (with_reducible refine (T1.out _).mono ?_); rintro e u1 ⟨rfl, hu1⟩; have Yc : u1.heap[Bc]? = some (.cells #[.int .i64 xi, .int .i64 xs, .int .i64 xh, .int .i64 xv] 121 (0, 0)) := blk_call hu1 (by first | (with_reducible exact Hc10.out) | (with_reducible exact blk_drew Hc10.out)); have Yd : u1.heap[Bd]? = some (.cells #[.int .i64 xi, .int .i64 xs, .int .i64 xh, .int .i64 xv] 123 (0, 0)) := blk_call hu1 (by first | (with_reducible exact Hd10.out) | (with_reducible exact blk_drew Hd10.out)); have Ye : u1.heap[Be]? = some (.cells #[.int .u64 ad, .int .u64 an, .bool ab] 129 (0, 0)) := blk_call hu1 (by first | (with_reducible exact He10.out) | (with_reducible exact blk_drew He10.out)); have YB := bel_call hu1 (show Below w.heap.size w _ by first | (with_reducible exact HB10.out) | (with_reducible exact HB10.out.drew)) (by have := HB10.out.size; first | omega | (simp; omega)); obtain ⟨c0q, c1q, c2q, c3q, cf0q, cf1q, cf2q, cf3q⟩ := at4 Yc; have clq := lt_blk Yc; obtain ⟨d0q, d1q, d2q, d3q, df0q, df1q, df2q, df3q⟩ := at4 Yd; have dlq := lt_blk Yd; have HS21 := Lib.hid (show u1.cell? ⟨Be, 0, none⟩ = some (.int .u64 ad) ∧ u1.cell? ⟨Be, 2, none⟩ = some (.bool ab) from ⟨cell_blk Ye 0 rfl, cell_blk Ye 2 rfl⟩); have Hc21 := Lib.hid Yc; have Hd21 := Lib.hid Yd; have He21 := Lib.hid Ye; have HB21 := Lib.hid YB; clear hu1 YB Yc Yd Ye)
            refine hK.out _ _ (HS21.out) (fun hHeld => ?_)
            clear hK KQ
            try simp only [List.getElem_toArray, List.getElem_cons_succ, List.getElem_cons_zero, Act.put, List.setIfInBounds_toArray, List.set_cons_zero, List.set_cons_succ]
            refine wpAnyH_norm (n := 3) (l := #[true, true, true, true, true, true, true, true, true, true, true, false, false, false]) (by kernel_rfl) (by kernel_rfl) ?_
            refine wpAnyH_ready (rs := [11]) (by kernel_rfl) (by simp) ?_
            refine (cons_list (o := _) rfl (fun KQ hK => ?_) AllReadyH.nil)
            rw [if_pos (by rfl)]
            go_wp2_with (go_at_call 60; (with_reducible refine (T2.out _).mono ?_); rintro e u2 ⟨rfl, hu2⟩; have Yc : u2.heap[Bc]? = some (.cells #[.int .i64 xi, .int .i64 xs, .int .i64 xh, .int .i64 xv] 121 (0, 0)) := blk_call hu2 (by first | (with_reducible exact Hc21.out) | (with_reducible exact blk_drew Hc21.out)); have Yd : u2.heap[Bd]? = some (.cells #[.int .i64 xi, .int .i64 xs, .int .i64 xh, .int .i64 xv] 123 (0, 0)) := blk_call hu2 (by first | (with_reducible exact Hd21.out) | (with_reducible exact blk_drew Hd21.out)); have Ye : u2.heap[Be]? = some (.cells #[.int .u64 ad, .int .u64 an, .bool ab] 129 (0, 0)) := blk_call hu2 (by first | (with_reducible exact He21.out) | (with_reducible exact blk_drew He21.out)); have YB := bel_call hu2 (show Below w.heap.size w _ by first | (with_reducible exact HB21.out) | (with_reducible exact HB21.out.drew)) (by have := HB21.out.size; first | omega | (simp; omega)); clear c0q c1q c2q c3q cf0q cf1q cf2q cf3q clq d0q d1q d2q d3q df0q df1q df2q df3q dlq; obtain ⟨c0q, c1q, c2q, c3q, cf0q, cf1q, cf2q, cf3q⟩ := at4 Yc; have clq := lt_blk Yc; obtain ⟨d0q, d1q, d2q, d3q, df0q, df1q, df2q, df3q⟩ := at4 Yd; have dlq := lt_blk Yd; have HS22 := Lib.hid (show u2.cell? ⟨Be, 0, none⟩ = some (.int .u64 ad) ∧ u2.cell? ⟨Be, 2, none⟩ = some (.bool ab) from ⟨cell_blk Ye 0 rfl, cell_blk Ye 2 rfl⟩); have Hc22 := Lib.hid Yc; have Hd22 := Lib.hid Yd; have He22 := Lib.hid Ye; have HB22 := Lib.hid YB; clear hu2 YB Yc Yd Ye)
            refine hK.out _ _ (HS22.out) (fun hHeld => ?_)
            clear hK KQ
            try simp only [List.getElem_toArray, List.getElem_cons_succ, List.getElem_cons_zero, Act.put, List.setIfInBounds_toArray, List.set_cons_zero, List.set_cons_succ]
            refine wpAnyH_norm (n := 2) (l := #[true, true, true, true, true, true, true, true, true, true, true, true, false, false]) (by kernel_rfl) (by kernel_rfl) ?_
            refine wpAnyH_ready (rs := [12]) (by kernel_rfl) (by simp) ?_
            refine (cons_list (o := _) rfl (fun KQ hK => ?_) AllReadyH.nil)
            rw [if_pos (by rfl)]
            go_simp
            refine hK.out _ _ (KTD.out _ _ _ _ _ HS22.out) (fun hHeld => ?_)
            clear hK KQ
            try simp only [List.getElem_toArray, List.getElem_cons_succ, List.getElem_cons_zero, Act.put, List.setIfInBounds_toArray, List.set_cons_zero, List.set_cons_succ]
            refine wpAnyH_norm (n := 1) (l := #[true, true, true, true, true, true, true, true, true, true, true, true, true, false]) (by kernel_rfl) (by kernel_rfl) ?_
            refine wpAnyH_ready (rs := [13]) (by kernel_rfl) (by simp) ?_
            refine (cons_list (o := _) rfl (fun KQ hK => ?_) AllReadyH.nil)
            rw [if_pos (by rfl)]
            go_simp
            refine hK.out _ _ (KTC.out _ _ _ _ _ (KTD.out _ _ _ _ _ HS22.out)) (fun hHeld => ?_)
            clear hK KQ
            try simp only [List.getElem_toArray, List.getElem_cons_succ, List.getElem_cons_zero, Act.put, List.setIfInBounds_toArray, List.set_cons_zero, List.set_cons_succ]
            refine wpAnyH_norm (n := 0) (l := #[true, true, true, true, true, true, true, true, true, true, true, true, true, true]) (by kernel_rfl) (by kernel_rfl) ?_
            refine wpAnyH_done (by kernel_rfl) ?_ _
            refine NoPanic.normal ?_
            go_wp2
            go_meet
            refine ⟨?_, ?_, ?_, ?_⟩
            · (repeat' (first | (with_reducible exact Hc22.out) | (with_reducible exact heap_alloc_new _ _) | (with_reducible exact blk_new (by first | (simp; done) | omega)) | (with_reducible refine blk_drew ?_) | (with_reducible apply put1_0) | (with_reducible apply put2_0) | (with_reducible apply put2_1) | (with_reducible apply put3_0) | (with_reducible apply put3_1) | (with_reducible apply put3_2) | (with_reducible apply put4_0) | (with_reducible apply put4_1) | (with_reducible apply put4_2) | (with_reducible apply put4_3) | (with_reducible apply put5_0) | (with_reducible apply put5_1) | (with_reducible apply put5_2) | (with_reducible apply put5_3) | (with_reducible apply put5_4) | (with_reducible apply put6_0) | (with_reducible apply put6_1) | (with_reducible apply put6_2) | (with_reducible apply put6_3) | (with_reducible apply put6_4) | (with_reducible apply put6_5) | (with_reducible refine blk_else (by omega) ?_) | (with_reducible refine blk_old ?_)))
            · (repeat' (first | (with_reducible exact Hd22.out) | (with_reducible exact heap_alloc_new _ _) | (with_reducible exact blk_new (by first | (simp; done) | omega)) | (with_reducible refine blk_drew ?_) | (with_reducible apply put1_0) | (with_reducible apply put2_0) | (with_reducible apply put2_1) | (with_reducible apply put3_0) | (with_reducible apply put3_1) | (with_reducible apply put3_2) | (with_reducible apply put4_0) | (with_reducible apply put4_1) | (with_reducible apply put4_2) | (with_reducible apply put4_3) | (with_reducible apply put5_0) | (with_reducible apply put5_1) | (with_reducible apply put5_2) | (with_reducible apply put5_3) | (with_reducible apply put5_4) | (with_reducible apply put6_0) | (with_reducible apply put6_1) | (with_reducible apply put6_2) | (with_reducible apply put6_3) | (with_reducible apply put6_4) | (with_reducible apply put6_5) | (with_reducible refine blk_else (by omega) ?_) | (with_reducible refine blk_old ?_)))
            · (repeat' (first | (with_reducible exact He22.out) | (with_reducible exact heap_alloc_new _ _) | (with_reducible exact blk_new (by first | (simp; done) | omega)) | (with_reducible refine blk_drew ?_) | (with_reducible apply put1_0) | (with_reducible apply put2_0) | (with_reducible apply put2_1) | (with_reducible apply put3_0) | (with_reducible apply put3_1) | (with_reducible apply put3_2) | (with_reducible apply put4_0) | (with_reducible apply put4_1) | (with_reducible apply put4_2) | (with_reducible apply put4_3) | (with_reducible apply put5_0) | (with_reducible apply put5_1) | (with_reducible apply put5_2) | (with_reducible apply put5_3) | (with_reducible apply put5_4) | (with_reducible apply put6_0) | (with_reducible apply put6_1) | (with_reducible apply put6_2) | (with_reducible apply put6_3) | (with_reducible apply put6_4) | (with_reducible apply put6_5) | (with_reducible refine blk_else (by omega) ?_) | (with_reducible refine blk_old ?_)))
            · (repeat' (first | (with_reducible exact HB22.out) | (with_reducible exact Below.refl _ _) | (with_reducible refine below_drewN _ ?_) | (with_reducible refine Below.drew ?_) | (with_reducible refine Below.setCell ?_ (by first | (simp; done) | omega) _) | (with_reducible refine Below.alloc ?_ (by have := HB22.out.size; simp; omega) _)))
        obtain ⟨xc_, xd_, xe_, xb_⟩ := hcut
        generalize wc = W3 at *
        clear c0_ c1_ c2_ c3_ cf0_ cf1_ cf2_ cf3_ cn_ cm_ cl_ d0_ d1_ d2_ d3_ df0_ df1_ df2_ df3_ dn_ dm_ dl_ e0_ e1_ e2_ ef0_ ef1_ ef2_ en_ em_ el_ Hc10 Hd10 He10 HB10 T1 T2
        have Hc30 := Lib.hid xc_; have Hd30 := Lib.hid xd_; have He30 := Lib.hid xe_; have HB30 := Lib.hid xb_
        clear xc_ xd_ xe_ xb_
        obtain ⟨c0_, c1_, c2_, c3_, cf0_, cf1_, cf2_, cf3_⟩ := at4 Hc30.out
        have cn_ := ne_blk Hc30.out
        have cm_ := Ne.symm (a := Bc) cn_
        have cl_ := lt_blk Hc30.out
        obtain ⟨d0_, d1_, d2_, d3_, df0_, df1_, df2_, df3_⟩ := at4 Hd30.out
        have dn_ := ne_blk Hd30.out
        have dm_ := Ne.symm (a := Bd) dn_
        have dl_ := lt_blk Hd30.out
        obtain ⟨e0_, e1_, e2_, ef0_, ef1_, ef2_⟩ := at3 He30.out
        have en_ := ne_blk He30.out
        have em_ := Ne.symm (a := Be) en_
        have el_ := lt_blk He30.out
        go_upto_region 14 with (fail)
        go_cut [120] (fun e120 wx => e120 = .bool false ∧ wx.heap[Bc]? = some (.cells #[.int .i64 yi, .int .i64 ys, .int .i64 yh, .int .i64 yv] 121 (0, 0)) ∧ wx.heap[Bd]? = some (.cells #[.int .i64 yi, .int .i64 ys, .int .i64 yh, .int .i64 yv] 123 (0, 0)) ∧ wx.heap[Be]? = some (.cells #[.int .u64 ad, .int .u64 an, .bool ab] 129 (0, 0)) ∧ Below w.heap.size w wx)
        case first =>
          rcases g1 with _ | _
          · refine wp_region_noPanic ?_
            refine wp_region_held_drew (S := fun v => v.cell? ⟨Bc, 0, none⟩ = some (.int .i64 yi) ∧ v.cell? ⟨Bc, 1, none⟩ = some (.int .i64 ys) ∧ v.cell? ⟨Bc, 2, none⟩ = some (.int .i64 yh) ∧ v.cell? ⟨Bc, 3, none⟩ = some (.int .i64 yv) ∧ v.cell? ⟨Bd, 0, none⟩ = some (.int .i64 yi) ∧ v.cell? ⟨Bd, 1, none⟩ = some (.int .i64 ys) ∧ v.cell? ⟨Bd, 2, none⟩ = some (.int .i64 yh) ∧ v.cell? ⟨Bd, 3, none⟩ = some (.int .i64 yv)) (by kernel_rfl) ⟨c0_, c1_, c2_, c3_, d0_, d1_, d2_, d3_⟩ (fun hHeld => ?_)
            refine take_list (i := 0) (oi := _) (v := ?_) rfl (by kernel_rfl) (by kernel_rfl) (by kernel_rfl) (fun _ _ _ h => h) (Or.inl ⟨by rfl, ?_⟩) (by assumption) ?_
            rotate_left 1
            · intro v hSw
              (try dsimp only at hSw)
              go_simp
              try with_reducible rfl
            try simp only [List.getElem_toArray, List.getElem_cons_succ, List.getElem_cons_zero, Act.put, List.setIfInBounds_toArray, List.set_cons_zero, List.set_cons_succ]
            refine take_list (i := 1) (oi := _) (v := ?_) rfl (by kernel_rfl) (by kernel_rfl) (by kernel_rfl) (fun _ _ _ h => h) (Or.inl ⟨by rfl, ?_⟩) (by assumption) ?_
            rotate_left 1
            · intro v hSw
              (try dsimp only at hSw)
              go_simp
              try with_reducible rfl
            try simp only [List.getElem_toArray, List.getElem_cons_succ, List.getElem_cons_zero, Act.put, List.setIfInBounds_toArray, List.set_cons_zero, List.set_cons_succ]
            refine take_list (i := 2) (oi := _) (v := ?_) rfl (by kernel_rfl) (by kernel_rfl) (by kernel_rfl) (fun _ _ _ h => h) (Or.inl ⟨by rfl, ?_⟩) (by assumption) ?_
            rotate_left 1
            · intro v hSw
              (try dsimp only at hSw)
              go_simp
              try with_reducible rfl
            try simp only [List.getElem_toArray, List.getElem_cons_succ, List.getElem_cons_zero, Act.put, List.setIfInBounds_toArray, List.set_cons_zero, List.set_cons_succ]
            refine take_list (i := 3) (oi := _) (v := ?_) rfl (by kernel_rfl) (by kernel_rfl) (by kernel_rfl) (fun _ _ _ h => h) (Or.inl ⟨by rfl, ?_⟩) (by assumption) ?_
            rotate_left 1
            · intro v hSw
              (try dsimp only at hSw)
              go_simp
              try with_reducible rfl
            try simp only [List.getElem_toArray, List.getElem_cons_succ, List.getElem_cons_zero, Act.put, List.setIfInBounds_toArray, List.set_cons_zero, List.set_cons_succ]
            refine take_list (i := 4) (oi := _) (v := ?_) rfl (by kernel_rfl) (by kernel_rfl) (by kernel_rfl) (fun _ _ _ h => h) (Or.inl ⟨by rfl, ?_⟩) (by assumption) ?_
            rotate_left 1
            · intro v hSw
              (try dsimp only at hSw)
              go_simp
              try with_reducible rfl
            try simp only [List.getElem_toArray, List.getElem_cons_succ, List.getElem_cons_zero, Act.put, List.setIfInBounds_toArray, List.set_cons_zero, List.set_cons_succ]
            refine take_list (i := 6) (oi := _) (v := ?_) rfl (by kernel_rfl) (by kernel_rfl) (by kernel_rfl) (fun _ _ _ h => h) (Or.inl ⟨by rfl, ?_⟩) (by assumption) ?_
            rotate_left 1
            · intro v hSw
              (try dsimp only at hSw)
              go_simp
              try with_reducible rfl
            try simp only [List.getElem_toArray, List.getElem_cons_succ, List.getElem_cons_zero, Act.put, List.setIfInBounds_toArray, List.set_cons_zero, List.set_cons_succ]
            refine wpAnyH_norm (n := 16) (l := #[true, true, true, true, true, false, true, false, false, false, false, false, false, false, false, false, false, false, false, false, false, false]) (by kernel_rfl) (by kernel_rfl) ?_
            refine wpAnyH_ready (rs := [5]) (by kernel_rfl) (by simp) ?_
            refine (cons_list (o := _) rfl (fun KQ hK => ?_) AllReadyH.nil)
            rw [if_pos (by rfl)]
            go_wp2_with (go_at_call 61; (with_reducible refine (WA.out _).mono ?_); rintro e v41 ⟨rfl, hv41⟩; have Yc : v41.heap[Bc]? = some (.cells #[.int .i64 yi, .int .i64 ys, .int .i64 yh, .int .i64 yv] 121 (0, 0)) := blk_call hv41 (by first | (with_reducible exact Hc30.out) | (with_reducible exact blk_drew Hc30.out)); have Yd : v41.heap[Bd]? = some (.cells #[.int .i64 yi, .int .i64 ys, .int .i64 yh, .int .i64 yv] 123 (0, 0)) := blk_call hv41 (by first | (with_reducible exact Hd30.out) | (with_reducible exact blk_drew Hd30.out)); have Ye : v41.heap[Be]? = some (.cells #[.int .u64 ad, .int .u64 an, .bool ab] 129 (0, 0)) := blk_call hv41 (by first | (with_reducible exact He30.out) | (with_reducible exact blk_drew He30.out)); have YB := bel_call hv41 (show Below w.heap.size w _ by first | (with_reducible exact HB30.out) | (with_reducible exact HB30.out.drew)) (by have := HB30.out.size; first | omega | (simp; omega)); obtain ⟨c0q, c1q, c2q, c3q, cf0q, cf1q, cf2q, cf3q⟩ := at4 Yc; have clq := lt_blk Yc; obtain ⟨d0q, d1q, d2q, d3q, df0q, df1q, df2q, df3q⟩ := at4 Yd; have dlq := lt_blk Yd; have HS41 := Lib.hid (show v41.cell? ⟨Bc, 0, none⟩ = some (.int .i64 yi) ∧ v41.cell? ⟨Bc, 1, none⟩ = some (.int .i64 ys) ∧ v41.cell? ⟨Bc, 2, none⟩ = some (.int .i64 yh) ∧ v41.cell? ⟨Bc, 3, none⟩ = some (.int .i64 yv) ∧ v41.cell? ⟨Bd, 0, none⟩ = some (.int .i64 yi) ∧ v41.cell? ⟨Bd, 1, none⟩ = some (.int .i64 ys) ∧ v41.cell? ⟨Bd, 2, none⟩ = some (.int .i64 yh) ∧ v41.cell? ⟨Bd, 3, none⟩ = some (.int .i64 yv) from ⟨cell_blk Yc 0 rfl, cell_blk Yc 1 rfl, cell_blk Yc 2 rfl, cell_blk Yc 3 rfl, cell_blk Yd 0 rfl, cell_blk Yd 1 rfl, cell_blk Yd 2 rfl, cell_blk Yd 3 rfl⟩); have Hc41 := Lib.hid Yc; have Hd41 := Lib.hid Yd; have He41 := Lib.hid Ye; have HB41 := Lib.hid YB; clear hv41 YB Yc Yd Ye)
            refine hK.out _ _ (HS41.out) (fun hHeld => ?_)
            clear hK KQ
            try simp only [List.getElem_toArray, List.getElem_cons_succ, List.getElem_cons_zero, Act.put, List.setIfInBounds_toArray, List.set_cons_zero, List.set_cons_succ]
            refine wpAnyH_norm (n := 15) (l := #[true, true, true, true, true, true, true, false, false, false, false, false, false, false, false, false, false, false, false, false, false, false]) (by kernel_rfl) (by kernel_rfl) ?_
            refine wpAnyH_ready (rs := [7]) (by kernel_rfl) (by simp) ?_
            refine (cons_list (o := _) rfl (fun KQ hK => ?_) AllReadyH.nil)
            rw [if_pos (by rfl)]
            go_wp2_with (go_at_call 62; (with_reducible refine (WB.out _).mono ?_); rintro e v42 ⟨rfl, hv42⟩; have Yc : v42.heap[Bc]? = some (.cells #[.int .i64 yi, .int .i64 ys, .int .i64 yh, .int .i64 yv] 121 (0, 0)) := blk_call hv42 (by first | (with_reducible exact Hc41.out) | (with_reducible exact blk_drew Hc41.out)); have Yd : v42.heap[Bd]? = some (.cells #[.int .i64 yi, .int .i64 ys, .int .i64 yh, .int .i64 yv] 123 (0, 0)) := blk_call hv42 (by first | (with_reducible exact Hd41.out) | (with_reducible exact blk_drew Hd41.out)); have Ye : v42.heap[Be]? = some (.cells #[.int .u64 ad, .int .u64 an, .bool ab] 129 (0, 0)) := blk_call hv42 (by first | (with_reducible exact He41.out) | (with_reducible exact blk_drew He41.out)); have YB := bel_call hv42 (show Below w.heap.size w _ by first | (with_reducible exact HB41.out) | (with_reducible exact HB41.out.drew)) (by have := HB41.out.size; first | omega | (simp; omega)); clear c0q c1q c2q c3q cf0q cf1q cf2q cf3q clq d0q d1q d2q d3q df0q df1q df2q df3q dlq; obtain ⟨c0q, c1q, c2q, c3q, cf0q, cf1q, cf2q, cf3q⟩ := at4 Yc; have clq := lt_blk Yc; obtain ⟨d0q, d1q, d2q, d3q, df0q, df1q, df2q, df3q⟩ := at4 Yd; have dlq := lt_blk Yd; have HS42 := Lib.hid (show v42.cell? ⟨Bc, 0, none⟩ = some (.int .i64 yi) ∧ v42.cell? ⟨Bc, 1, none⟩ = some (.int .i64 ys) ∧ v42.cell? ⟨Bc, 2, none⟩ = some (.int .i64 yh) ∧ v42.cell? ⟨Bc, 3, none⟩ = some (.int .i64 yv) ∧ v42.cell? ⟨Bd, 0, none⟩ = some (.int .i64 yi) ∧ v42.cell? ⟨Bd, 1, none⟩ = some (.int .i64 ys) ∧ v42.cell? ⟨Bd, 2, none⟩ = some (.int .i64 yh) ∧ v42.cell? ⟨Bd, 3, none⟩ = some (.int .i64 yv) from ⟨cell_blk Yc 0 rfl, cell_blk Yc 1 rfl, cell_blk Yc 2 rfl, cell_blk Yc 3 rfl, cell_blk Yd 0 rfl, cell_blk Yd 1 rfl, cell_blk Yd 2 rfl, cell_blk Yd 3 rfl⟩); have Hc42 := Lib.hid Yc; have Hd42 := Lib.hid Yd; have He42 := Lib.hid Ye; have HB42 := Lib.hid YB; clear hv42 YB Yc Yd Ye)
            refine hK.out _ _ (HS42.out) (fun hHeld => ?_)
            clear hK KQ
            try simp only [List.getElem_toArray, List.getElem_cons_succ, List.getElem_cons_zero, Act.put, List.setIfInBounds_toArray, List.set_cons_zero, List.set_cons_succ]
            refine wpAnyH_norm (n := 14) (l := #[true, true, true, true, true, true, true, true, false, false, false, false, false, false, false, false, false, false, false, false, false, false]) (by kernel_rfl) (by kernel_rfl) ?_
            refine take_list (i := 8) (oi := _) (v := ?_) rfl (by kernel_rfl) (by kernel_rfl) (by kernel_rfl) (fun _ _ _ h => h) (Or.inl ⟨by rfl, ?_⟩) (by assumption) ?_
            rotate_left 1
            · intro v hSw
              (try dsimp only at hSw)
              go_simp
              try with_reducible rfl
            try simp only [List.getElem_toArray, List.getElem_cons_succ, List.getElem_cons_zero, Act.put, List.setIfInBounds_toArray, List.set_cons_zero, List.set_cons_succ]
            refine take_list (i := 9) (oi := _) (v := ?_) rfl (by kernel_rfl) (by kernel_rfl) (by kernel_rfl) (fun _ _ _ h => h) (Or.inl ⟨by rfl, ?_⟩) (by assumption) ?_
            rotate_left 1
            · intro v hSw
              (try dsimp only at hSw)
              go_simp
              try with_reducible rfl
            try simp only [List.getElem_toArray, List.getElem_cons_succ, List.getElem_cons_zero, Act.put, List.setIfInBounds_toArray, List.set_cons_zero, List.set_cons_succ]
            refine take_list (i := 10) (oi := _) (v := ?_) rfl (by kernel_rfl) (by kernel_rfl) (by kernel_rfl) (fun _ _ _ h => h) (Or.inl ⟨by rfl, ?_⟩) (by assumption) ?_
            rotate_left 1
            · intro v hSw
              (try dsimp only at hSw)
              go_simp
              try with_reducible rfl
            try simp only [List.getElem_toArray, List.getElem_cons_succ, List.getElem_cons_zero, Act.put, List.setIfInBounds_toArray, List.set_cons_zero, List.set_cons_succ]
            refine take_list (i := 11) (oi := _) (v := ?_) rfl (by kernel_rfl) (by kernel_rfl) (by kernel_rfl) (fun _ _ _ h => h) (Or.inl ⟨by rfl, ?_⟩) (by assumption) ?_
            rotate_left 1
            · intro v hSw
              (try dsimp only at hSw)
              go_simp
              try with_reducible rfl
            try simp only [List.getElem_toArray, List.getElem_cons_succ, List.getElem_cons_zero, Act.put, List.setIfInBounds_toArray, List.set_cons_zero, List.set_cons_succ]
            refine take_list (i := 13) (oi := _) (v := ?_) rfl (by kernel_rfl) (by kernel_rfl) (by kernel_rfl) (fun _ _ _ h => h) (Or.inl ⟨by rfl, ?_⟩) (by assumption) ?_
            rotate_left 1
            · intro v hSw
              (try dsimp only at hSw)
              go_simp
              try with_reducible rfl
            try simp only [List.getElem_toArray, List.getElem_cons_succ, List.getElem_cons_zero, Act.put, List.setIfInBounds_toArray, List.set_cons_zero, List.set_cons_succ]
            refine wpAnyH_norm (n := 9) (l := #[true, true, true, true, true, true, true, true, true, true, true, true, false, true, false, false, false, false, false, false, false, false]) (by kernel_rfl) (by kernel_rfl) ?_
            refine wpAnyH_ready (rs := [12]) (by kernel_rfl) (by simp) ?_
            refine (cons_list (o := _) rfl (fun KQ hK => ?_) AllReadyH.nil)
            rw [if_pos (by rfl)]
            go_wp2_with (go_at_call 63; (with_reducible refine (MA.out _).mono ?_); rintro e v43 ⟨rfl, hv43⟩; have Yc : v43.heap[Bc]? = some (.cells #[.int .i64 yi, .int .i64 ys, .int .i64 yh, .int .i64 yv] 121 (0, 0)) := blk_call hv43 (by first | (with_reducible exact Hc42.out) | (with_reducible exact blk_drew Hc42.out)); have Yd : v43.heap[Bd]? = some (.cells #[.int .i64 yi, .int .i64 ys, .int .i64 yh, .int .i64 yv] 123 (0, 0)) := blk_call hv43 (by first | (with_reducible exact Hd42.out) | (with_reducible exact blk_drew Hd42.out)); have Ye : v43.heap[Be]? = some (.cells #[.int .u64 ad, .int .u64 an, .bool ab] 129 (0, 0)) := blk_call hv43 (by first | (with_reducible exact He42.out) | (with_reducible exact blk_drew He42.out)); have YB := bel_call hv43 (show Below w.heap.size w _ by first | (with_reducible exact HB42.out) | (with_reducible exact HB42.out.drew)) (by have := HB42.out.size; first | omega | (simp; omega)); clear c0q c1q c2q c3q cf0q cf1q cf2q cf3q clq d0q d1q d2q d3q df0q df1q df2q df3q dlq; obtain ⟨c0q, c1q, c2q, c3q, cf0q, cf1q, cf2q, cf3q⟩ := at4 Yc; have clq := lt_blk Yc; obtain ⟨d0q, d1q, d2q, d3q, df0q, df1q, df2q, df3q⟩ := at4 Yd; have dlq := lt_blk Yd; have HS43 := Lib.hid (show v43.cell? ⟨Bc, 0, none⟩ = some (.int .i64 yi) ∧ v43.cell? ⟨Bc, 1, none⟩ = some (.int .i64 ys) ∧ v43.cell? ⟨Bc, 2, none⟩ = some (.int .i64 yh) ∧ v43.cell? ⟨Bc, 3, none⟩ = some (.int .i64 yv) ∧ v43.cell? ⟨Bd, 0, none⟩ = some (.int .i64 yi) ∧ v43.cell? ⟨Bd, 1, none⟩ = some (.int .i64 ys) ∧ v43.cell? ⟨Bd, 2, none⟩ = some (.int .i64 yh) ∧ v43.cell? ⟨Bd, 3, none⟩ = some (.int .i64 yv) from ⟨cell_blk Yc 0 rfl, cell_blk Yc 1 rfl, cell_blk Yc 2 rfl, cell_blk Yc 3 rfl, cell_blk Yd 0 rfl, cell_blk Yd 1 rfl, cell_blk Yd 2 rfl, cell_blk Yd 3 rfl⟩); have Hc43 := Lib.hid Yc; have Hd43 := Lib.hid Yd; have He43 := Lib.hid Ye; have HB43 := Lib.hid YB; clear hv43 YB Yc Yd Ye)
            refine hK.out _ _ (HS43.out) (fun hHeld => ?_)
            clear hK KQ
            try simp only [List.getElem_toArray, List.getElem_cons_succ, List.getElem_cons_zero, Act.put, List.setIfInBounds_toArray, List.set_cons_zero, List.set_cons_succ]
            refine wpAnyH_norm (n := 8) (l := #[true, true, true, true, true, true, true, true, true, true, true, true, true, true, false, false, false, false, false, false, false, false]) (by kernel_rfl) (by kernel_rfl) ?_
            refine wpAnyH_ready (rs := [14]) (by kernel_rfl) (by simp) ?_
            refine (cons_list (o := _) rfl (fun KQ hK => ?_) AllReadyH.nil)
            rw [if_pos (by rfl)]
            go_wp2_with (go_at_call 57; (with_reducible refine (MR.out _).mono ?_); rintro e v44 ⟨rfl, hv44⟩; have Yc : v44.heap[Bc]? = some (.cells #[.int .i64 yi, .int .i64 ys, .int .i64 yh, .int .i64 yv] 121 (0, 0)) := blk_call hv44 (by first | (with_reducible exact Hc43.out) | (with_reducible exact blk_drew Hc43.out)); have Yd : v44.heap[Bd]? = some (.cells #[.int .i64 yi, .int .i64 ys, .int .i64 yh, .int .i64 yv] 123 (0, 0)) := blk_call hv44 (by first | (with_reducible exact Hd43.out) | (with_reducible exact blk_drew Hd43.out)); have Ye : v44.heap[Be]? = some (.cells #[.int .u64 ad, .int .u64 an, .bool ab] 129 (0, 0)) := blk_call hv44 (by first | (with_reducible exact He43.out) | (with_reducible exact blk_drew He43.out)); have YB := bel_call hv44 (show Below w.heap.size w _ by first | (with_reducible exact HB43.out) | (with_reducible exact HB43.out.drew)) (by have := HB43.out.size; first | omega | (simp; omega)); clear c0q c1q c2q c3q cf0q cf1q cf2q cf3q clq d0q d1q d2q d3q df0q df1q df2q df3q dlq; obtain ⟨c0q, c1q, c2q, c3q, cf0q, cf1q, cf2q, cf3q⟩ := at4 Yc; have clq := lt_blk Yc; obtain ⟨d0q, d1q, d2q, d3q, df0q, df1q, df2q, df3q⟩ := at4 Yd; have dlq := lt_blk Yd; have HS44 := Lib.hid (show v44.cell? ⟨Bc, 0, none⟩ = some (.int .i64 yi) ∧ v44.cell? ⟨Bc, 1, none⟩ = some (.int .i64 ys) ∧ v44.cell? ⟨Bc, 2, none⟩ = some (.int .i64 yh) ∧ v44.cell? ⟨Bc, 3, none⟩ = some (.int .i64 yv) ∧ v44.cell? ⟨Bd, 0, none⟩ = some (.int .i64 yi) ∧ v44.cell? ⟨Bd, 1, none⟩ = some (.int .i64 ys) ∧ v44.cell? ⟨Bd, 2, none⟩ = some (.int .i64 yh) ∧ v44.cell? ⟨Bd, 3, none⟩ = some (.int .i64 yv) from ⟨cell_blk Yc 0 rfl, cell_blk Yc 1 rfl, cell_blk Yc 2 rfl, cell_blk Yc 3 rfl, cell_blk Yd 0 rfl, cell_blk Yd 1 rfl, cell_blk Yd 2 rfl, cell_blk Yd 3 rfl⟩); have Hc44 := Lib.hid Yc; have Hd44 := Lib.hid Yd; have He44 := Lib.hid Ye; have HB44 := Lib.hid YB; clear hv44 YB Yc Yd Ye)
            refine hK.out _ _ (HS44.out) (fun hHeld => ?_)
            clear hK KQ
            try simp only [List.getElem_toArray, List.getElem_cons_succ, List.getElem_cons_zero, Act.put, List.setIfInBounds_toArray, List.set_cons_zero, List.set_cons_succ]
            refine wpAnyH_norm (n := 7) (l := #[true, true, true, true, true, true, true, true, true, true, true, true, true, true, true, false, false, false, false, false, false, false]) (by kernel_rfl) (by kernel_rfl) ?_
            refine take_list (i := 15) (oi := _) (v := ?_) rfl (by kernel_rfl) (by kernel_rfl) (by kernel_rfl) (fun _ _ _ h => h) (Or.inl ⟨by rfl, ?_⟩) (by assumption) ?_
            rotate_left 1
            · intro v hSw
              (try dsimp only at hSw)
              go_simp
              try with_reducible rfl
            try simp only [List.getElem_toArray, List.getElem_cons_succ, List.getElem_cons_zero, Act.put, List.setIfInBounds_toArray, List.set_cons_zero, List.set_cons_succ]
            refine take_list (i := 16) (oi := _) (v := undef) rfl (by kernel_rfl) (by kernel_rfl) (by kernel_rfl) (fun _ _ _ h => h) (Or.inr ⟨by rfl, rfl⟩) (by assumption) ?_
            try simp only [List.getElem_toArray, List.getElem_cons_succ, List.getElem_cons_zero, Act.put, List.setIfInBounds_toArray, List.set_cons_zero, List.set_cons_succ]
            refine take_list (i := 17) (oi := _) (v := undef) rfl (by kernel_rfl) (by kernel_rfl) (by kernel_rfl) (fun _ _ _ h => h) (Or.inr ⟨by rfl, rfl⟩) (by assumption) ?_
            try simp only [List.getElem_toArray, List.getElem_cons_succ, List.getElem_cons_zero, Act.put, List.setIfInBounds_toArray, List.set_cons_zero, List.set_cons_succ]
            refine take_list (i := 18) (oi := _) (v := undef) rfl (by kernel_rfl) (by kernel_rfl) (by kernel_rfl) (fun _ _ _ h => h) (Or.inr ⟨by rfl, rfl⟩) (by assumption) ?_
            try simp only [List.getElem_toArray, List.getElem_cons_succ, List.getElem_cons_zero, Act.put, List.setIfInBounds_toArray, List.set_cons_zero, List.set_cons_succ]
            refine take_list (i := 19) (oi := _) (v := ?_) rfl (by kernel_rfl) (by kernel_rfl) (by kernel_rfl) (fun _ _ _ h => h) (Or.inl ⟨by rfl, ?_⟩) (by assumption) ?_
            rotate_left 1
            · intro v hSw
              (try dsimp only at hSw)
              go_simp
              try with_reducible rfl
            try simp only [List.getElem_toArray, List.getElem_cons_succ, List.getElem_cons_zero, Act.put, List.setIfInBounds_toArray, List.set_cons_zero, List.set_cons_succ]
            refine take_list (i := 20) (oi := _) (v := ?_) rfl (by kernel_rfl) (by kernel_rfl) (by kernel_rfl) (fun _ _ _ h => h) (Or.inl ⟨by rfl, ?_⟩) (by assumption) ?_
            rotate_left 1
            · intro v hSw
              (try dsimp only at hSw)
              go_simp
              try with_reducible rfl
            try simp only [List.getElem_toArray, List.getElem_cons_succ, List.getElem_cons_zero, Act.put, List.setIfInBounds_toArray, List.set_cons_zero, List.set_cons_succ]
            refine take_list (i := 21) (oi := _) (v := ?_) rfl (by kernel_rfl) (by kernel_rfl) (by kernel_rfl) (fun _ _ _ h => h) (Or.inl ⟨by rfl, ?_⟩) (by assumption) ?_
            rotate_left 1
            · intro v hSw
              (try dsimp only at hSw)
              go_simp
              try with_reducible rfl
            try simp only [List.getElem_toArray, List.getElem_cons_succ, List.getElem_cons_zero, Act.put, List.setIfInBounds_toArray, List.set_cons_zero, List.set_cons_succ]
            refine wpAnyH_norm (n := 0) (l := #[true, true, true, true, true, true, true, true, true, true, true, true, true, true, true, true, true, true, true, true, true, true]) (by kernel_rfl) (by kernel_rfl) ?_
            refine wpAnyH_done (by kernel_rfl) ?_ _
            refine NoPanic.normal ?_
            go_wp2
            go_meet
            refine ⟨rfl, ?_, ?_, ?_, ?_⟩
            · (repeat' (first | (with_reducible exact Hc44.out) | (with_reducible exact heap_alloc_new _ _) | (with_reducible exact blk_new (by first | (simp; done) | omega)) | (with_reducible refine blk_drew ?_) | (with_reducible apply put1_0) | (with_reducible apply put2_0) | (with_reducible apply put2_1) | (with_reducible apply put3_0) | (with_reducible apply put3_1) | (with_reducible apply put3_2) | (with_reducible apply put4_0) | (with_reducible apply put4_1) | (with_reducible apply put4_2) | (with_reducible apply put4_3) | (with_reducible apply put5_0) | (with_reducible apply put5_1) | (with_reducible apply put5_2) | (with_reducible apply put5_3) | (with_reducible apply put5_4) | (with_reducible apply put6_0) | (with_reducible apply put6_1) | (with_reducible apply put6_2) | (with_reducible apply put6_3) | (with_reducible apply put6_4) | (with_reducible apply put6_5) | (with_reducible refine blk_else (by omega) ?_) | (with_reducible refine blk_old ?_)))
            · (repeat' (first | (with_reducible exact Hd44.out) | (with_reducible exact heap_alloc_new _ _) | (with_reducible exact blk_new (by first | (simp; done) | omega)) | (with_reducible refine blk_drew ?_) | (with_reducible apply put1_0) | (with_reducible apply put2_0) | (with_reducible apply put2_1) | (with_reducible apply put3_0) | (with_reducible apply put3_1) | (with_reducible apply put3_2) | (with_reducible apply put4_0) | (with_reducible apply put4_1) | (with_reducible apply put4_2) | (with_reducible apply put4_3) | (with_reducible apply put5_0) | (with_reducible apply put5_1) | (with_reducible apply put5_2) | (with_reducible apply put5_3) | (with_reducible apply put5_4) | (with_reducible apply put6_0) | (with_reducible apply put6_1) | (with_reducible apply put6_2) | (with_reducible apply put6_3) | (with_reducible apply put6_4) | (with_reducible apply put6_5) | (with_reducible refine blk_else (by omega) ?_) | (with_reducible refine blk_old ?_)))
            · (repeat' (first | (with_reducible exact He44.out) | (with_reducible exact heap_alloc_new _ _) | (with_reducible exact blk_new (by first | (simp; done) | omega)) | (with_reducible refine blk_drew ?_) | (with_reducible apply put1_0) | (with_reducible apply put2_0) | (with_reducible apply put2_1) | (with_reducible apply put3_0) | (with_reducible apply put3_1) | (with_reducible apply put3_2) | (with_reducible apply put4_0) | (with_reducible apply put4_1) | (with_reducible apply put4_2) | (with_reducible apply put4_3) | (with_reducible apply put5_0) | (with_reducible apply put5_1) | (with_reducible apply put5_2) | (with_reducible apply put5_3) | (with_reducible apply put5_4) | (with_reducible apply put6_0) | (with_reducible apply put6_1) | (with_reducible apply put6_2) | (with_reducible apply put6_3) | (with_reducible apply put6_4) | (with_reducible apply put6_5) | (with_reducible refine blk_else (by omega) ?_) | (with_reducible refine blk_old ?_)))
            · (repeat' (first | (with_reducible exact HB44.out) | (with_reducible exact Below.refl _ _) | (with_reducible refine below_drewN _ ?_) | (with_reducible refine Below.drew ?_) | (with_reducible refine Below.setCell ?_ (by first | (simp; done) | omega) _) | (with_reducible refine Below.alloc ?_ (by have := HB44.out.size; simp; omega) _)))
          · rcases g2 with _ | _
            · refine wp_region_noPanic ?_
              refine wp_region_held_drew (S := fun v => v.cell? ⟨Bc, 0, none⟩ = some (.int .i64 yi) ∧ v.cell? ⟨Bc, 1, none⟩ = some (.int .i64 ys) ∧ v.cell? ⟨Bc, 2, none⟩ = some (.int .i64 yh) ∧ v.cell? ⟨Bc, 3, none⟩ = some (.int .i64 yv) ∧ v.cell? ⟨Bd, 0, none⟩ = some (.int .i64 yi) ∧ v.cell? ⟨Bd, 1, none⟩ = some (.int .i64 ys) ∧ v.cell? ⟨Bd, 2, none⟩ = some (.int .i64 yh) ∧ v.cell? ⟨Bd, 3, none⟩ = some (.int .i64 yv)) (by kernel_rfl) ⟨c0_, c1_, c2_, c3_, d0_, d1_, d2_, d3_⟩ (fun hHeld => ?_)
              refine take_list (i := 0) (oi := _) (v := ?_) rfl (by kernel_rfl) (by kernel_rfl) (by kernel_rfl) (fun _ _ _ h => h) (Or.inl ⟨by rfl, ?_⟩) (by assumption) ?_
              rotate_left 1
              · intro v hSw
                (try dsimp only at hSw)
                go_simp
                try with_reducible rfl
              try simp only [List.getElem_toArray, List.getElem_cons_succ, List.getElem_cons_zero, Act.put, List.setIfInBounds_toArray, List.set_cons_zero, List.set_cons_succ]
              refine take_list (i := 1) (oi := _) (v := ?_) rfl (by kernel_rfl) (by kernel_rfl) (by kernel_rfl) (fun _ _ _ h => h) (Or.inl ⟨by rfl, ?_⟩) (by assumption) ?_
              rotate_left 1
              · intro v hSw
                (try dsimp only at hSw)
                go_simp
                try with_reducible rfl
              try simp only [List.getElem_toArray, List.getElem_cons_succ, List.getElem_cons_zero, Act.put, List.setIfInBounds_toArray, List.set_cons_zero, List.set_cons_succ]
              refine take_list (i := 2) (oi := _) (v := ?_) rfl (by kernel_rfl) (by kernel_rfl) (by kernel_rfl) (fun _ _ _ h => h) (Or.inl ⟨by rfl, ?_⟩) (by assumption) ?_
              rotate_left 1
              · intro v hSw
                (try dsimp only at hSw)
                go_simp
                try with_reducible rfl
              try simp only [List.getElem_toArray, List.getElem_cons_succ, List.getElem_cons_zero, Act.put, List.setIfInBounds_toArray, List.set_cons_zero, List.set_cons_succ]
              refine take_list (i := 3) (oi := _) (v := ?_) rfl (by kernel_rfl) (by kernel_rfl) (by kernel_rfl) (fun _ _ _ h => h) (Or.inl ⟨by rfl, ?_⟩) (by assumption) ?_
              rotate_left 1
              · intro v hSw
                (try dsimp only at hSw)
                go_simp
                try with_reducible rfl
              try simp only [List.getElem_toArray, List.getElem_cons_succ, List.getElem_cons_zero, Act.put, List.setIfInBounds_toArray, List.set_cons_zero, List.set_cons_succ]
              refine take_list (i := 4) (oi := _) (v := ?_) rfl (by kernel_rfl) (by kernel_rfl) (by kernel_rfl) (fun _ _ _ h => h) (Or.inl ⟨by rfl, ?_⟩) (by assumption) ?_
              rotate_left 1
              · intro v hSw
                (try dsimp only at hSw)
                go_simp
                try with_reducible rfl
              try simp only [List.getElem_toArray, List.getElem_cons_succ, List.getElem_cons_zero, Act.put, List.setIfInBounds_toArray, List.set_cons_zero, List.set_cons_succ]
              refine take_list (i := 6) (oi := _) (v := ?_) rfl (by kernel_rfl) (by kernel_rfl) (by kernel_rfl) (fun _ _ _ h => h) (Or.inl ⟨by rfl, ?_⟩) (by assumption) ?_
              rotate_left 1
              · intro v hSw
                (try dsimp only at hSw)
                go_simp
                try with_reducible rfl
              try simp only [List.getElem_toArray, List.getElem_cons_succ, List.getElem_cons_zero, Act.put, List.setIfInBounds_toArray, List.set_cons_zero, List.set_cons_succ]
              refine wpAnyH_norm (n := 16) (l := #[true, true, true, true, true, false, true, false, false, false, false, false, false, false, false, false, false, false, false, false, false, false]) (by kernel_rfl) (by kernel_rfl) ?_
              refine wpAnyH_ready (rs := [5]) (by kernel_rfl) (by simp) ?_
              refine (cons_list (o := _) rfl (fun KQ hK => ?_) AllReadyH.nil)
              rw [if_pos (by rfl)]
              go_wp2_with (go_at_call 61; (with_reducible refine (WA.out _).mono ?_); rintro e v41 ⟨rfl, hv41⟩; have Yc : v41.heap[Bc]? = some (.cells #[.int .i64 yi, .int .i64 ys, .int .i64 yh, .int .i64 yv] 121 (0, 0)) := blk_call hv41 (by first | (with_reducible exact Hc30.out) | (with_reducible exact blk_drew Hc30.out)); have Yd : v41.heap[Bd]? = some (.cells #[.int .i64 yi, .int .i64 ys, .int .i64 yh, .int .i64 yv] 123 (0, 0)) := blk_call hv41 (by first | (with_reducible exact Hd30.out) | (with_reducible exact blk_drew Hd30.out)); have Ye : v41.heap[Be]? = some (.cells #[.int .u64 ad, .int .u64 an, .bool ab] 129 (0, 0)) := blk_call hv41 (by first | (with_reducible exact He30.out) | (with_reducible exact blk_drew He30.out)); have YB := bel_call hv41 (show Below w.heap.size w _ by first | (with_reducible exact HB30.out) | (with_reducible exact HB30.out.drew)) (by have := HB30.out.size; first | omega | (simp; omega)); obtain ⟨c0q, c1q, c2q, c3q, cf0q, cf1q, cf2q, cf3q⟩ := at4 Yc; have clq := lt_blk Yc; obtain ⟨d0q, d1q, d2q, d3q, df0q, df1q, df2q, df3q⟩ := at4 Yd; have dlq := lt_blk Yd; have HS41 := Lib.hid (show v41.cell? ⟨Bc, 0, none⟩ = some (.int .i64 yi) ∧ v41.cell? ⟨Bc, 1, none⟩ = some (.int .i64 ys) ∧ v41.cell? ⟨Bc, 2, none⟩ = some (.int .i64 yh) ∧ v41.cell? ⟨Bc, 3, none⟩ = some (.int .i64 yv) ∧ v41.cell? ⟨Bd, 0, none⟩ = some (.int .i64 yi) ∧ v41.cell? ⟨Bd, 1, none⟩ = some (.int .i64 ys) ∧ v41.cell? ⟨Bd, 2, none⟩ = some (.int .i64 yh) ∧ v41.cell? ⟨Bd, 3, none⟩ = some (.int .i64 yv) from ⟨cell_blk Yc 0 rfl, cell_blk Yc 1 rfl, cell_blk Yc 2 rfl, cell_blk Yc 3 rfl, cell_blk Yd 0 rfl, cell_blk Yd 1 rfl, cell_blk Yd 2 rfl, cell_blk Yd 3 rfl⟩); have Hc41 := Lib.hid Yc; have Hd41 := Lib.hid Yd; have He41 := Lib.hid Ye; have HB41 := Lib.hid YB; clear hv41 YB Yc Yd Ye)
              refine hK.out _ _ (HS41.out) (fun hHeld => ?_)
              clear hK KQ
              try simp only [List.getElem_toArray, List.getElem_cons_succ, List.getElem_cons_zero, Act.put, List.setIfInBounds_toArray, List.set_cons_zero, List.set_cons_succ]
              refine wpAnyH_norm (n := 15) (l := #[true, true, true, true, true, true, true, false, false, false, false, false, false, false, false, false, false, false, false, false, false, false]) (by kernel_rfl) (by kernel_rfl) ?_
              refine wpAnyH_ready (rs := [7]) (by kernel_rfl) (by simp) ?_
              refine (cons_list (o := _) rfl (fun KQ hK => ?_) AllReadyH.nil)
              rw [if_pos (by rfl)]
              go_wp2_with (go_at_call 62; (with_reducible refine (WB.out _).mono ?_); rintro e v42 ⟨rfl, hv42⟩; have Yc : v42.heap[Bc]? = some (.cells #[.int .i64 yi, .int .i64 ys, .int .i64 yh, .int .i64 yv] 121 (0, 0)) := blk_call hv42 (by first | (with_reducible exact Hc41.out) | (with_reducible exact blk_drew Hc41.out)); have Yd : v42.heap[Bd]? = some (.cells #[.int .i64 yi, .int .i64 ys, .int .i64 yh, .int .i64 yv] 123 (0, 0)) := blk_call hv42 (by first | (with_reducible exact Hd41.out) | (with_reducible exact blk_drew Hd41.out)); have Ye : v42.heap[Be]? = some (.cells #[.int .u64 ad, .int .u64 an, .bool ab] 129 (0, 0)) := blk_call hv42 (by first | (with_reducible exact He41.out) | (with_reducible exact blk_drew He41.out)); have YB := bel_call hv42 (show Below w.heap.size w _ by first | (with_reducible exact HB41.out) | (with_reducible exact HB41.out.drew)) (by have := HB41.out.size; first | omega | (simp; omega)); clear c0q c1q c2q c3q cf0q cf1q cf2q cf3q clq d0q d1q d2q d3q df0q df1q df2q df3q dlq; obtain ⟨c0q, c1q, c2q, c3q, cf0q, cf1q, cf2q, cf3q⟩ := at4 Yc; have clq := lt_blk Yc; obtain ⟨d0q, d1q, d2q, d3q, df0q, df1q, df2q, df3q⟩ := at4 Yd; have dlq := lt_blk Yd; have HS42 := Lib.hid (show v42.cell? ⟨Bc, 0, none⟩ = some (.int .i64 yi) ∧ v42.cell? ⟨Bc, 1, none⟩ = some (.int .i64 ys) ∧ v42.cell? ⟨Bc, 2, none⟩ = some (.int .i64 yh) ∧ v42.cell? ⟨Bc, 3, none⟩ = some (.int .i64 yv) ∧ v42.cell? ⟨Bd, 0, none⟩ = some (.int .i64 yi) ∧ v42.cell? ⟨Bd, 1, none⟩ = some (.int .i64 ys) ∧ v42.cell? ⟨Bd, 2, none⟩ = some (.int .i64 yh) ∧ v42.cell? ⟨Bd, 3, none⟩ = some (.int .i64 yv) from ⟨cell_blk Yc 0 rfl, cell_blk Yc 1 rfl, cell_blk Yc 2 rfl, cell_blk Yc 3 rfl, cell_blk Yd 0 rfl, cell_blk Yd 1 rfl, cell_blk Yd 2 rfl, cell_blk Yd 3 rfl⟩); have Hc42 := Lib.hid Yc; have Hd42 := Lib.hid Yd; have He42 := Lib.hid Ye; have HB42 := Lib.hid YB; clear hv42 YB Yc Yd Ye)
              refine hK.out _ _ (HS42.out) (fun hHeld => ?_)
              clear hK KQ
              try simp only [List.getElem_toArray, List.getElem_cons_succ, List.getElem_cons_zero, Act.put, List.setIfInBounds_toArray, List.set_cons_zero, List.set_cons_succ]
              refine wpAnyH_norm (n := 14) (l := #[true, true, true, true, true, true, true, true, false, false, false, false, false, false, false, false, false, false, false, false, false, false]) (by kernel_rfl) (by kernel_rfl) ?_
              refine take_list (i := 8) (oi := _) (v := ?_) rfl (by kernel_rfl) (by kernel_rfl) (by kernel_rfl) (fun _ _ _ h => h) (Or.inl ⟨by rfl, ?_⟩) (by assumption) ?_
              rotate_left 1
              · intro v hSw
                (try dsimp only at hSw)
                go_simp
                try with_reducible rfl
              try simp only [List.getElem_toArray, List.getElem_cons_succ, List.getElem_cons_zero, Act.put, List.setIfInBounds_toArray, List.set_cons_zero, List.set_cons_succ]
              refine take_list (i := 9) (oi := _) (v := ?_) rfl (by kernel_rfl) (by kernel_rfl) (by kernel_rfl) (fun _ _ _ h => h) (Or.inl ⟨by rfl, ?_⟩) (by assumption) ?_
              rotate_left 1
              · intro v hSw
                (try dsimp only at hSw)
                go_simp
                try with_reducible rfl
              try simp only [List.getElem_toArray, List.getElem_cons_succ, List.getElem_cons_zero, Act.put, List.setIfInBounds_toArray, List.set_cons_zero, List.set_cons_succ]
              refine take_list (i := 10) (oi := _) (v := ?_) rfl (by kernel_rfl) (by kernel_rfl) (by kernel_rfl) (fun _ _ _ h => h) (Or.inl ⟨by rfl, ?_⟩) (by assumption) ?_
              rotate_left 1
              · intro v hSw
                (try dsimp only at hSw)
                go_simp
                try with_reducible rfl
              try simp only [List.getElem_toArray, List.getElem_cons_succ, List.getElem_cons_zero, Act.put, List.setIfInBounds_toArray, List.set_cons_zero, List.set_cons_succ]
              refine take_list (i := 11) (oi := _) (v := ?_) rfl (by kernel_rfl) (by kernel_rfl) (by kernel_rfl) (fun _ _ _ h => h) (Or.inl ⟨by rfl, ?_⟩) (by assumption) ?_
              rotate_left 1
              · intro v hSw
                (try dsimp only at hSw)
                go_simp
                try with_reducible rfl
              try simp only [List.getElem_toArray, List.getElem_cons_succ, List.getElem_cons_zero, Act.put, List.setIfInBounds_toArray, List.set_cons_zero, List.set_cons_succ]
              refine take_list (i := 13) (oi := _) (v := ?_) rfl (by kernel_rfl) (by kernel_rfl) (by kernel_rfl) (fun _ _ _ h => h) (Or.inl ⟨by rfl, ?_⟩) (by assumption) ?_
              rotate_left 1
              · intro v hSw
                (try dsimp only at hSw)
                go_simp
                try with_reducible rfl
              try simp only [List.getElem_toArray, List.getElem_cons_succ, List.getElem_cons_zero, Act.put, List.setIfInBounds_toArray, List.set_cons_zero, List.set_cons_succ]
              refine wpAnyH_norm (n := 9) (l := #[true, true, true, true, true, true, true, true, true, true, true, true, false, true, false, false, false, false, false, false, false, false]) (by kernel_rfl) (by kernel_rfl) ?_
              refine wpAnyH_ready (rs := [12]) (by kernel_rfl) (by simp) ?_
              refine (cons_list (o := _) rfl (fun KQ hK => ?_) AllReadyH.nil)
              rw [if_pos (by rfl)]
              go_wp2_with (go_at_call 63; (with_reducible refine (MA.out _).mono ?_); rintro e v43 ⟨rfl, hv43⟩; have Yc : v43.heap[Bc]? = some (.cells #[.int .i64 yi, .int .i64 ys, .int .i64 yh, .int .i64 yv] 121 (0, 0)) := blk_call hv43 (by first | (with_reducible exact Hc42.out) | (with_reducible exact blk_drew Hc42.out)); have Yd : v43.heap[Bd]? = some (.cells #[.int .i64 yi, .int .i64 ys, .int .i64 yh, .int .i64 yv] 123 (0, 0)) := blk_call hv43 (by first | (with_reducible exact Hd42.out) | (with_reducible exact blk_drew Hd42.out)); have Ye : v43.heap[Be]? = some (.cells #[.int .u64 ad, .int .u64 an, .bool ab] 129 (0, 0)) := blk_call hv43 (by first | (with_reducible exact He42.out) | (with_reducible exact blk_drew He42.out)); have YB := bel_call hv43 (show Below w.heap.size w _ by first | (with_reducible exact HB42.out) | (with_reducible exact HB42.out.drew)) (by have := HB42.out.size; first | omega | (simp; omega)); clear c0q c1q c2q c3q cf0q cf1q cf2q cf3q clq d0q d1q d2q d3q df0q df1q df2q df3q dlq; obtain ⟨c0q, c1q, c2q, c3q, cf0q, cf1q, cf2q, cf3q⟩ := at4 Yc; have clq := lt_blk Yc; obtain ⟨d0q, d1q, d2q, d3q, df0q, df1q, df2q, df3q⟩ := at4 Yd; have dlq := lt_blk Yd; have HS43 := Lib.hid (show v43.cell? ⟨Bc, 0, none⟩ = some (.int .i64 yi) ∧ v43.cell? ⟨Bc, 1, none⟩ = some (.int .i64 ys) ∧ v43.cell? ⟨Bc, 2, none⟩ = some (.int .i64 yh) ∧ v43.cell? ⟨Bc, 3, none⟩ = some (.int .i64 yv) ∧ v43.cell? ⟨Bd, 0, none⟩ = some (.int .i64 yi) ∧ v43.cell? ⟨Bd, 1, none⟩ = some (.int .i64 ys) ∧ v43.cell? ⟨Bd, 2, none⟩ = some (.int .i64 yh) ∧ v43.cell? ⟨Bd, 3, none⟩ = some (.int .i64 yv) from ⟨cell_blk Yc 0 rfl, cell_blk Yc 1 rfl, cell_blk Yc 2 rfl, cell_blk Yc 3 rfl, cell_blk Yd 0 rfl, cell_blk Yd 1 rfl, cell_blk Yd 2 rfl, cell_blk Yd 3 rfl⟩); have Hc43 := Lib.hid Yc; have Hd43 := Lib.hid Yd; have He43 := Lib.hid Ye; have HB43 := Lib.hid YB; clear hv43 YB Yc Yd Ye)
              refine hK.out _ _ (HS43.out) (fun hHeld => ?_)
              clear hK KQ
              try simp only [List.getElem_toArray, List.getElem_cons_succ, List.getElem_cons_zero, Act.put, List.setIfInBounds_toArray, List.set_cons_zero, List.set_cons_succ]
              refine wpAnyH_norm (n := 8) (l := #[true, true, true, true, true, true, true, true, true, true, true, true, true, true, false, false, false, false, false, false, false, false]) (by kernel_rfl) (by kernel_rfl) ?_
              refine wpAnyH_ready (rs := [14]) (by kernel_rfl) (by simp) ?_
              refine (cons_list (o := _) rfl (fun KQ hK => ?_) AllReadyH.nil)
              rw [if_pos (by rfl)]
              go_wp2_with (go_at_call 57; (with_reducible refine (MR.out _).mono ?_); rintro e v44 ⟨rfl, hv44⟩; have Yc : v44.heap[Bc]? = some (.cells #[.int .i64 yi, .int .i64 ys, .int .i64 yh, .int .i64 yv] 121 (0, 0)) := blk_call hv44 (by first | (with_reducible exact Hc43.out) | (with_reducible exact blk_drew Hc43.out)); have Yd : v44.heap[Bd]? = some (.cells #[.int .i64 yi, .int .i64 ys, .int .i64 yh, .int .i64 yv] 123 (0, 0)) := blk_call hv44 (by first | (with_reducible exact Hd43.out) | (with_reducible exact blk_drew Hd43.out)); have Ye : v44.heap[Be]? = some (.cells #[.int .u64 ad, .int .u64 an, .bool ab] 129 (0, 0)) := blk_call hv44 (by first | (with_reducible exact He43.out) | (with_reducible exact blk_drew He43.out)); have YB := bel_call hv44 (show Below w.heap.size w _ by first | (with_reducible exact HB43.out) | (with_reducible exact HB43.out.drew)) (by have := HB43.out.size; first | omega | (simp; omega)); clear c0q c1q c2q c3q cf0q cf1q cf2q cf3q clq d0q d1q d2q d3q df0q df1q df2q df3q dlq; obtain ⟨c0q, c1q, c2q, c3q, cf0q, cf1q, cf2q, cf3q⟩ := at4 Yc; have clq := lt_blk Yc; obtain ⟨d0q, d1q, d2q, d3q, df0q, df1q, df2q, df3q⟩ := at4 Yd; have dlq := lt_blk Yd; have HS44 := Lib.hid (show v44.cell? ⟨Bc, 0, none⟩ = some (.int .i64 yi) ∧ v44.cell? ⟨Bc, 1, none⟩ = some (.int .i64 ys) ∧ v44.cell? ⟨Bc, 2, none⟩ = some (.int .i64 yh) ∧ v44.cell? ⟨Bc, 3, none⟩ = some (.int .i64 yv) ∧ v44.cell? ⟨Bd, 0, none⟩ = some (.int .i64 yi) ∧ v44.cell? ⟨Bd, 1, none⟩ = some (.int .i64 ys) ∧ v44.cell? ⟨Bd, 2, none⟩ = some (.int .i64 yh) ∧ v44.cell? ⟨Bd, 3, none⟩ = some (.int .i64 yv) from ⟨cell_blk Yc 0 rfl, cell_blk Yc 1 rfl, cell_blk Yc 2 rfl, cell_blk Yc 3 rfl, cell_blk Yd 0 rfl, cell_blk Yd 1 rfl, cell_blk Yd 2 rfl, cell_blk Yd 3 rfl⟩); have Hc44 := Lib.hid Yc; have Hd44 := Lib.hid Yd; have He44 := Lib.hid Ye; have HB44 := Lib.hid YB; clear hv44 YB Yc Yd Ye)
              refine hK.out _ _ (HS44.out) (fun hHeld => ?_)
              clear hK KQ
              try simp only [List.getElem_toArray, List.getElem_cons_succ, List.getElem_cons_zero, Act.put, List.setIfInBounds_toArray, List.set_cons_zero, List.set_cons_succ]
              refine wpAnyH_norm (n := 7) (l := #[true, true, true, true, true, true, true, true, true, true, true, true, true, true, true, false, false, false, false, false, false, false]) (by kernel_rfl) (by kernel_rfl) ?_
              refine take_list (i := 15) (oi := _) (v := ?_) rfl (by kernel_rfl) (by kernel_rfl) (by kernel_rfl) (fun _ _ _ h => h) (Or.inl ⟨by rfl, ?_⟩) (by assumption) ?_
              rotate_left 1
              · intro v hSw
                (try dsimp only at hSw)
                go_simp
                try with_reducible rfl
              try simp only [List.getElem_toArray, List.getElem_cons_succ, List.getElem_cons_zero, Act.put, List.setIfInBounds_toArray, List.set_cons_zero, List.set_cons_succ]
              refine take_list (i := 16) (oi := _) (v := ?_) rfl (by kernel_rfl) (by kernel_rfl) (by kernel_rfl) (fun _ _ _ h => h) (Or.inl ⟨by rfl, ?_⟩) (by assumption) ?_
              rotate_left 1
              · intro v hSw
                (try dsimp only at hSw)
                go_simp
                try with_reducible rfl
              try simp only [List.getElem_toArray, List.getElem_cons_succ, List.getElem_cons_zero, Act.put, List.setIfInBounds_toArray, List.set_cons_zero, List.set_cons_succ]
              refine take_list (i := 17) (oi := _) (v := ?_) rfl (by kernel_rfl) (by kernel_rfl) (by kernel_rfl) (fun _ _ _ h => h) (Or.inl ⟨by rfl, ?_⟩) (by assumption) ?_
              rotate_left 1
              · intro v hSw
                (try dsimp only at hSw)
                go_simp
                try with_reducible rfl
              try simp only [List.getElem_toArray, List.getElem_cons_succ, List.getElem_cons_zero, Act.put, List.setIfInBounds_toArray, List.set_cons_zero, List.set_cons_succ]
              refine take_list (i := 18) (oi := _) (v := ?_) rfl (by kernel_rfl) (by kernel_rfl) (by kernel_rfl) (fun _ _ _ h => h) (Or.inl ⟨by rfl, ?_⟩) (by assumption) ?_
              rotate_left 1
              · intro v hSw
                (try dsimp only at hSw)
                go_simp
                try with_reducible rfl
              try simp only [List.getElem_toArray, List.getElem_cons_succ, List.getElem_cons_zero, Act.put, List.setIfInBounds_toArray, List.set_cons_zero, List.set_cons_succ]
              refine take_list (i := 19) (oi := _) (v := ?_) rfl (by kernel_rfl) (by kernel_rfl) (by kernel_rfl) (fun _ _ _ h => h) (Or.inl ⟨by rfl, ?_⟩) (by assumption) ?_
              rotate_left 1
              · intro v hSw
                (try dsimp only at hSw)
                go_simp
                try with_reducible rfl
              try simp only [List.getElem_toArray, List.getElem_cons_succ, List.getElem_cons_zero, Act.put, List.setIfInBounds_toArray, List.set_cons_zero, List.set_cons_succ]
              refine take_list (i := 20) (oi := _) (v := ?_) rfl (by kernel_rfl) (by kernel_rfl) (by kernel_rfl) (fun _ _ _ h => h) (Or.inl ⟨by rfl, ?_⟩) (by assumption) ?_
              rotate_left 1
              · intro v hSw
                (try dsimp only at hSw)
                go_simp
                try with_reducible rfl
              try simp only [List.getElem_toArray, List.getElem_cons_succ, List.getElem_cons_zero, Act.put, List.setIfInBounds_toArray, List.set_cons_zero, List.set_cons_succ]
              refine take_list (i := 21) (oi := _) (v := ?_) rfl (by kernel_rfl) (by kernel_rfl) (by kernel_rfl) (fun _ _ _ h => h) (Or.inl ⟨by rfl, ?_⟩) (by assumption) ?_
              rotate_left 1
              · intro v hSw
                (try dsimp only at hSw)
                go_simp
                try with_reducible rfl
              try simp only [List.getElem_toArray, List.getElem_cons_succ, List.getElem_cons_zero, Act.put, List.setIfInBounds_toArray, List.set_cons_zero, List.set_cons_succ]
              refine wpAnyH_norm (n := 0) (l := #[true, true, true, true, true, true, true, true, true, true, true, true, true, true, true, true, true, true, true, true, true, true]) (by kernel_rfl) (by kernel_rfl) ?_
              refine wpAnyH_done (by kernel_rfl) ?_ _
              refine NoPanic.normal ?_
              go_wp2
              go_meet
              refine ⟨rfl, ?_, ?_, ?_, ?_⟩
              · (repeat' (first | (with_reducible exact Hc44.out) | (with_reducible exact heap_alloc_new _ _) | (with_reducible exact blk_new (by first | (simp; done) | omega)) | (with_reducible refine blk_drew ?_) | (with_reducible apply put1_0) | (with_reducible apply put2_0) | (with_reducible apply put2_1) | (with_reducible apply put3_0) | (with_reducible apply put3_1) | (with_reducible apply put3_2) | (with_reducible apply put4_0) | (with_reducible apply put4_1) | (with_reducible apply put4_2) | (with_reducible apply put4_3) | (with_reducible apply put5_0) | (with_reducible apply put5_1) | (with_reducible apply put5_2) | (with_reducible apply put5_3) | (with_reducible apply put5_4) | (with_reducible apply put6_0) | (with_reducible apply put6_1) | (with_reducible apply put6_2) | (with_reducible apply put6_3) | (with_reducible apply put6_4) | (with_reducible apply put6_5) | (with_reducible refine blk_else (by omega) ?_) | (with_reducible refine blk_old ?_)))
              · (repeat' (first | (with_reducible exact Hd44.out) | (with_reducible exact heap_alloc_new _ _) | (with_reducible exact blk_new (by first | (simp; done) | omega)) | (with_reducible refine blk_drew ?_) | (with_reducible apply put1_0) | (with_reducible apply put2_0) | (with_reducible apply put2_1) | (with_reducible apply put3_0) | (with_reducible apply put3_1) | (with_reducible apply put3_2) | (with_reducible apply put4_0) | (with_reducible apply put4_1) | (with_reducible apply put4_2) | (with_reducible apply put4_3) | (with_reducible apply put5_0) | (with_reducible apply put5_1) | (with_reducible apply put5_2) | (with_reducible apply put5_3) | (with_reducible apply put5_4) | (with_reducible apply put6_0) | (with_reducible apply put6_1) | (with_reducible apply put6_2) | (with_reducible apply put6_3) | (with_reducible apply put6_4) | (with_reducible apply put6_5) | (with_reducible refine blk_else (by omega) ?_) | (with_reducible refine blk_old ?_)))
              · (repeat' (first | (with_reducible exact He44.out) | (with_reducible exact heap_alloc_new _ _) | (with_reducible exact blk_new (by first | (simp; done) | omega)) | (with_reducible refine blk_drew ?_) | (with_reducible apply put1_0) | (with_reducible apply put2_0) | (with_reducible apply put2_1) | (with_reducible apply put3_0) | (with_reducible apply put3_1) | (with_reducible apply put3_2) | (with_reducible apply put4_0) | (with_reducible apply put4_1) | (with_reducible apply put4_2) | (with_reducible apply put4_3) | (with_reducible apply put5_0) | (with_reducible apply put5_1) | (with_reducible apply put5_2) | (with_reducible apply put5_3) | (with_reducible apply put5_4) | (with_reducible apply put6_0) | (with_reducible apply put6_1) | (with_reducible apply put6_2) | (with_reducible apply put6_3) | (with_reducible apply put6_4) | (with_reducible apply put6_5) | (with_reducible refine blk_else (by omega) ?_) | (with_reducible refine blk_old ?_)))
              · (repeat' (first | (with_reducible exact HB44.out) | (with_reducible exact Below.refl _ _) | (with_reducible refine below_drewN _ ?_) | (with_reducible refine Below.drew ?_) | (with_reducible refine Below.setCell ?_ (by first | (simp; done) | omega) _) | (with_reducible refine Below.alloc ?_ (by have := HB44.out.size; simp; omega) _)))
            · refine wp_region_noPanic ?_
              refine wp_region_held_drew (S := fun v => v.cell? ⟨Bc, 0, none⟩ = some (.int .i64 yi) ∧ v.cell? ⟨Bc, 1, none⟩ = some (.int .i64 ys) ∧ v.cell? ⟨Bc, 2, none⟩ = some (.int .i64 yh) ∧ v.cell? ⟨Bc, 3, none⟩ = some (.int .i64 yv) ∧ v.cell? ⟨Bd, 0, none⟩ = some (.int .i64 yi) ∧ v.cell? ⟨Bd, 1, none⟩ = some (.int .i64 ys) ∧ v.cell? ⟨Bd, 2, none⟩ = some (.int .i64 yh) ∧ v.cell? ⟨Bd, 3, none⟩ = some (.int .i64 yv)) (by kernel_rfl) ⟨c0_, c1_, c2_, c3_, d0_, d1_, d2_, d3_⟩ (fun hHeld => ?_)
              refine take_list (i := 0) (oi := _) (v := ?_) rfl (by kernel_rfl) (by kernel_rfl) (by kernel_rfl) (fun _ _ _ h => h) (Or.inl ⟨by rfl, ?_⟩) (by assumption) ?_
              rotate_left 1
              · intro v hSw
                (try dsimp only at hSw)
                go_simp
                try with_reducible rfl
              try simp only [List.getElem_toArray, List.getElem_cons_succ, List.getElem_cons_zero, Act.put, List.setIfInBounds_toArray, List.set_cons_zero, List.set_cons_succ]
              refine take_list (i := 1) (oi := _) (v := ?_) rfl (by kernel_rfl) (by kernel_rfl) (by kernel_rfl) (fun _ _ _ h => h) (Or.inl ⟨by rfl, ?_⟩) (by assumption) ?_
              rotate_left 1
              · intro v hSw
                (try dsimp only at hSw)
                go_simp
                try with_reducible rfl
              try simp only [List.getElem_toArray, List.getElem_cons_succ, List.getElem_cons_zero, Act.put, List.setIfInBounds_toArray, List.set_cons_zero, List.set_cons_succ]
              refine take_list (i := 2) (oi := _) (v := ?_) rfl (by kernel_rfl) (by kernel_rfl) (by kernel_rfl) (fun _ _ _ h => h) (Or.inl ⟨by rfl, ?_⟩) (by assumption) ?_
              rotate_left 1
              · intro v hSw
                (try dsimp only at hSw)
                go_simp
                try with_reducible rfl
              try simp only [List.getElem_toArray, List.getElem_cons_succ, List.getElem_cons_zero, Act.put, List.setIfInBounds_toArray, List.set_cons_zero, List.set_cons_succ]
              refine take_list (i := 3) (oi := _) (v := ?_) rfl (by kernel_rfl) (by kernel_rfl) (by kernel_rfl) (fun _ _ _ h => h) (Or.inl ⟨by rfl, ?_⟩) (by assumption) ?_
              rotate_left 1
              · intro v hSw
                (try dsimp only at hSw)
                go_simp
                try with_reducible rfl
              try simp only [List.getElem_toArray, List.getElem_cons_succ, List.getElem_cons_zero, Act.put, List.setIfInBounds_toArray, List.set_cons_zero, List.set_cons_succ]
              refine take_list (i := 4) (oi := _) (v := ?_) rfl (by kernel_rfl) (by kernel_rfl) (by kernel_rfl) (fun _ _ _ h => h) (Or.inl ⟨by rfl, ?_⟩) (by assumption) ?_
              rotate_left 1
              · intro v hSw
                (try dsimp only at hSw)
                go_simp
                try with_reducible rfl
              try simp only [List.getElem_toArray, List.getElem_cons_succ, List.getElem_cons_zero, Act.put, List.setIfInBounds_toArray, List.set_cons_zero, List.set_cons_succ]
              refine take_list (i := 6) (oi := _) (v := ?_) rfl (by kernel_rfl) (by kernel_rfl) (by kernel_rfl) (fun _ _ _ h => h) (Or.inl ⟨by rfl, ?_⟩) (by assumption) ?_
              rotate_left 1
              · intro v hSw
                (try dsimp only at hSw)
                go_simp
                try with_reducible rfl
              try simp only [List.getElem_toArray, List.getElem_cons_succ, List.getElem_cons_zero, Act.put, List.setIfInBounds_toArray, List.set_cons_zero, List.set_cons_succ]
              refine wpAnyH_norm (n := 16) (l := #[true, true, true, true, true, false, true, false, false, false, false, false, false, false, false, false, false, false, false, false, false, false]) (by kernel_rfl) (by kernel_rfl) ?_
              refine wpAnyH_ready (rs := [5]) (by kernel_rfl) (by simp) ?_
              refine (cons_list (o := _) rfl (fun KQ hK => ?_) AllReadyH.nil)
              rw [if_pos (by rfl)]
              go_wp2_with (go_at_call 61; (with_reducible refine (WA.out _).mono ?_); rintro e v41 ⟨rfl, hv41⟩; have Yc : v41.heap[Bc]? = some (.cells #[.int .i64 yi, .int .i64 ys, .int .i64 yh, .int .i64 yv] 121 (0, 0)) := blk_call hv41 (by first | (with_reducible exact Hc30.out) | (with_reducible exact blk_drew Hc30.out)); have Yd : v41.heap[Bd]? = some (.cells #[.int .i64 yi, .int .i64 ys, .int .i64 yh, .int .i64 yv] 123 (0, 0)) := blk_call hv41 (by first | (with_reducible exact Hd30.out) | (with_reducible exact blk_drew Hd30.out)); have Ye : v41.heap[Be]? = some (.cells #[.int .u64 ad, .int .u64 an, .bool ab] 129 (0, 0)) := blk_call hv41 (by first | (with_reducible exact He30.out) | (with_reducible exact blk_drew He30.out)); have YB := bel_call hv41 (show Below w.heap.size w _ by first | (with_reducible exact HB30.out) | (with_reducible exact HB30.out.drew)) (by have := HB30.out.size; first | omega | (simp; omega)); obtain ⟨c0q, c1q, c2q, c3q, cf0q, cf1q, cf2q, cf3q⟩ := at4 Yc; have clq := lt_blk Yc; obtain ⟨d0q, d1q, d2q, d3q, df0q, df1q, df2q, df3q⟩ := at4 Yd; have dlq := lt_blk Yd; have HS41 := Lib.hid (show v41.cell? ⟨Bc, 0, none⟩ = some (.int .i64 yi) ∧ v41.cell? ⟨Bc, 1, none⟩ = some (.int .i64 ys) ∧ v41.cell? ⟨Bc, 2, none⟩ = some (.int .i64 yh) ∧ v41.cell? ⟨Bc, 3, none⟩ = some (.int .i64 yv) ∧ v41.cell? ⟨Bd, 0, none⟩ = some (.int .i64 yi) ∧ v41.cell? ⟨Bd, 1, none⟩ = some (.int .i64 ys) ∧ v41.cell? ⟨Bd, 2, none⟩ = some (.int .i64 yh) ∧ v41.cell? ⟨Bd, 3, none⟩ = some (.int .i64 yv) from ⟨cell_blk Yc 0 rfl, cell_blk Yc 1 rfl, cell_blk Yc 2 rfl, cell_blk Yc 3 rfl, cell_blk Yd 0 rfl, cell_blk Yd 1 rfl, cell_blk Yd 2 rfl, cell_blk Yd 3 rfl⟩); have Hc41 := Lib.hid Yc; have Hd41 := Lib.hid Yd; have He41 := Lib.hid Ye; have HB41 := Lib.hid YB; clear hv41 YB Yc Yd Ye)
              refine hK.out _ _ (HS41.out) (fun hHeld => ?_)
              clear hK KQ
              try simp only [List.getElem_toArray, List.getElem_cons_succ, List.getElem_cons_zero, Act.put, List.setIfInBounds_toArray, List.set_cons_zero, List.set_cons_succ]
              refine wpAnyH_norm (n := 15) (l := #[true, true, true, true, true, true, true, false, false, false, false, false, false, false, false, false, false, false, false, false, false, false]) (by kernel_rfl) (by kernel_rfl) ?_
              refine wpAnyH_ready (rs := [7]) (by kernel_rfl) (by simp) ?_
              refine (cons_list (o := _) rfl (fun KQ hK => ?_) AllReadyH.nil)
              rw [if_pos (by rfl)]
              go_wp2_with (go_at_call 62; (with_reducible refine (WB.out _).mono ?_); rintro e v42 ⟨rfl, hv42⟩; have Yc : v42.heap[Bc]? = some (.cells #[.int .i64 yi, .int .i64 ys, .int .i64 yh, .int .i64 yv] 121 (0, 0)) := blk_call hv42 (by first | (with_reducible exact Hc41.out) | (with_reducible exact blk_drew Hc41.out)); have Yd : v42.heap[Bd]? = some (.cells #[.int .i64 yi, .int .i64 ys, .int .i64 yh, .int .i64 yv] 123 (0, 0)) := blk_call hv42 (by first | (with_reducible exact Hd41.out) | (with_reducible exact blk_drew Hd41.out)); have Ye : v42.heap[Be]? = some (.cells #[.int .u64 ad, .int .u64 an, .bool ab] 129 (0, 0)) := blk_call hv42 (by first | (with_reducible exact He41.out) | (with_reducible exact blk_drew He41.out)); have YB := bel_call hv42 (show Below w.heap.size w _ by first | (with_reducible exact HB41.out) | (with_reducible exact HB41.out.drew)) (by have := HB41.out.size; first | omega | (simp; omega)); clear c0q c1q c2q c3q cf0q cf1q cf2q cf3q clq d0q d1q d2q d3q df0q df1q df2q df3q dlq; obtain ⟨c0q, c1q, c2q, c3q, cf0q, cf1q, cf2q, cf3q⟩ := at4 Yc; have clq := lt_blk Yc; obtain ⟨d0q, d1q, d2q, d3q, df0q, df1q, df2q, df3q⟩ := at4 Yd; have dlq := lt_blk Yd; have HS42 := Lib.hid (show v42.cell? ⟨Bc, 0, none⟩ = some (.int .i64 yi) ∧ v42.cell? ⟨Bc, 1, none⟩ = some (.int .i64 ys) ∧ v42.cell? ⟨Bc, 2, none⟩ = some (.int .i64 yh) ∧ v42.cell? ⟨Bc, 3, none⟩ = some (.int .i64 yv) ∧ v42.cell? ⟨Bd, 0, none⟩ = some (.int .i64 yi) ∧ v42.cell? ⟨Bd, 1, none⟩ = some (.int .i64 ys) ∧ v42.cell? ⟨Bd, 2, none⟩ = some (.int .i64 yh) ∧ v42.cell? ⟨Bd, 3, none⟩ = some (.int .i64 yv) from ⟨cell_blk Yc 0 rfl, cell_blk Yc 1 rfl, cell_blk Yc 2 rfl, cell_blk Yc 3 rfl, cell_blk Yd 0 rfl, cell_blk Yd 1 rfl, cell_blk Yd 2 rfl, cell_blk Yd 3 rfl⟩); have Hc42 := Lib.hid Yc; have Hd42 := Lib.hid Yd; have He42 := Lib.hid Ye; have HB42 := Lib.hid YB; clear hv42 YB Yc Yd Ye)
              refine hK.out _ _ (HS42.out) (fun hHeld => ?_)
              clear hK KQ
              try simp only [List.getElem_toArray, List.getElem_cons_succ, List.getElem_cons_zero, Act.put, List.setIfInBounds_toArray, List.set_cons_zero, List.set_cons_succ]
              refine wpAnyH_norm (n := 14) (l := #[true, true, true, true, true, true, true, true, false, false, false, false, false, false, false, false, false, false, false, false, false, false]) (by kernel_rfl) (by kernel_rfl) ?_
              refine take_list (i := 8) (oi := _) (v := ?_) rfl (by kernel_rfl) (by kernel_rfl) (by kernel_rfl) (fun _ _ _ h => h) (Or.inl ⟨by rfl, ?_⟩) (by assumption) ?_
              rotate_left 1
              · intro v hSw
                (try dsimp only at hSw)
                go_simp
                try with_reducible rfl
              try simp only [List.getElem_toArray, List.getElem_cons_succ, List.getElem_cons_zero, Act.put, List.setIfInBounds_toArray, List.set_cons_zero, List.set_cons_succ]
              refine take_list (i := 9) (oi := _) (v := ?_) rfl (by kernel_rfl) (by kernel_rfl) (by kernel_rfl) (fun _ _ _ h => h) (Or.inl ⟨by rfl, ?_⟩) (by assumption) ?_
              rotate_left 1
              · intro v hSw
                (try dsimp only at hSw)
                go_simp
                try with_reducible rfl
              try simp only [List.getElem_toArray, List.getElem_cons_succ, List.getElem_cons_zero, Act.put, List.setIfInBounds_toArray, List.set_cons_zero, List.set_cons_succ]
              refine take_list (i := 10) (oi := _) (v := ?_) rfl (by kernel_rfl) (by kernel_rfl) (by kernel_rfl) (fun _ _ _ h => h) (Or.inl ⟨by rfl, ?_⟩) (by assumption) ?_
              rotate_left 1
              · intro v hSw
                (try dsimp only at hSw)
                go_simp
                try with_reducible rfl
              try simp only [List.getElem_toArray, List.getElem_cons_succ, List.getElem_cons_zero, Act.put, List.setIfInBounds_toArray, List.set_cons_zero, List.set_cons_succ]
              refine take_list (i := 11) (oi := _) (v := ?_) rfl (by kernel_rfl) (by kernel_rfl) (by kernel_rfl) (fun _ _ _ h => h) (Or.inl ⟨by rfl, ?_⟩) (by assumption) ?_
              rotate_left 1
              · intro v hSw
                (try dsimp only at hSw)
                go_simp
                try with_reducible rfl
              try simp only [List.getElem_toArray, List.getElem_cons_succ, List.getElem_cons_zero, Act.put, List.setIfInBounds_toArray, List.set_cons_zero, List.set_cons_succ]
              refine take_list (i := 13) (oi := _) (v := ?_) rfl (by kernel_rfl) (by kernel_rfl) (by kernel_rfl) (fun _ _ _ h => h) (Or.inl ⟨by rfl, ?_⟩) (by assumption) ?_
              rotate_left 1
              · intro v hSw
                (try dsimp only at hSw)
                go_simp
                try with_reducible rfl
              try simp only [List.getElem_toArray, List.getElem_cons_succ, List.getElem_cons_zero, Act.put, List.setIfInBounds_toArray, List.set_cons_zero, List.set_cons_succ]
              refine wpAnyH_norm (n := 9) (l := #[true, true, true, true, true, true, true, true, true, true, true, true, false, true, false, false, false, false, false, false, false, false]) (by kernel_rfl) (by kernel_rfl) ?_
              refine wpAnyH_ready (rs := [12]) (by kernel_rfl) (by simp) ?_
              refine (cons_list (o := _) rfl (fun KQ hK => ?_) AllReadyH.nil)
              rw [if_pos (by rfl)]
              go_wp2_with (go_at_call 63; (with_reducible refine (MA.out _).mono ?_); rintro e v43 ⟨rfl, hv43⟩; have Yc : v43.heap[Bc]? = some (.cells #[.int .i64 yi, .int .i64 ys, .int .i64 yh, .int .i64 yv] 121 (0, 0)) := blk_call hv43 (by first | (with_reducible exact Hc42.out) | (with_reducible exact blk_drew Hc42.out)); have Yd : v43.heap[Bd]? = some (.cells #[.int .i64 yi, .int .i64 ys, .int .i64 yh, .int .i64 yv] 123 (0, 0)) := blk_call hv43 (by first | (with_reducible exact Hd42.out) | (with_reducible exact blk_drew Hd42.out)); have Ye : v43.heap[Be]? = some (.cells #[.int .u64 ad, .int .u64 an, .bool ab] 129 (0, 0)) := blk_call hv43 (by first | (with_reducible exact He42.out) | (with_reducible exact blk_drew He42.out)); have YB := bel_call hv43 (show Below w.heap.size w _ by first | (with_reducible exact HB42.out) | (with_reducible exact HB42.out.drew)) (by have := HB42.out.size; first | omega | (simp; omega)); clear c0q c1q c2q c3q cf0q cf1q cf2q cf3q clq d0q d1q d2q d3q df0q df1q df2q df3q dlq; obtain ⟨c0q, c1q, c2q, c3q, cf0q, cf1q, cf2q, cf3q⟩ := at4 Yc; have clq := lt_blk Yc; obtain ⟨d0q, d1q, d2q, d3q, df0q, df1q, df2q, df3q⟩ := at4 Yd; have dlq := lt_blk Yd; have HS43 := Lib.hid (show v43.cell? ⟨Bc, 0, none⟩ = some (.int .i64 yi) ∧ v43.cell? ⟨Bc, 1, none⟩ = some (.int .i64 ys) ∧ v43.cell? ⟨Bc, 2, none⟩ = some (.int .i64 yh) ∧ v43.cell? ⟨Bc, 3, none⟩ = some (.int .i64 yv) ∧ v43.cell? ⟨Bd, 0, none⟩ = some (.int .i64 yi) ∧ v43.cell? ⟨Bd, 1, none⟩ = some (.int .i64 ys) ∧ v43.cell? ⟨Bd, 2, none⟩ = some (.int .i64 yh) ∧ v43.cell? ⟨Bd, 3, none⟩ = some (.int .i64 yv) from ⟨cell_blk Yc 0 rfl, cell_blk Yc 1 rfl, cell_blk Yc 2 rfl, cell_blk Yc 3 rfl, cell_blk Yd 0 rfl, cell_blk Yd 1 rfl, cell_blk Yd 2 rfl, cell_blk Yd 3 rfl⟩); have Hc43 := Lib.hid Yc; have Hd43 := Lib.hid Yd; have He43 := Lib.hid Ye; have HB43 := Lib.hid YB; clear hv43 YB Yc Yd Ye)
              refine hK.out _ _ (HS43.out) (fun hHeld => ?_)
              clear hK KQ
              try simp only [List.getElem_toArray, List.getElem_cons_succ, List.getElem_cons_zero, Act.put, List.setIfInBounds_toArray, List.set_cons_zero, List.set_cons_succ]
              refine wpAnyH_norm (n := 8) (l := #[true, true, true, true, true, true, true, true, true, true, true, true, true, true, false, false, false, false, false, false, false, false]) (by kernel_rfl) (by kernel_rfl) ?_
              refine wpAnyH_ready (rs := [14]) (by kernel_rfl) (by simp) ?_
              refine (cons_list (o := _) rfl (fun KQ hK => ?_) AllReadyH.nil)
              rw [if_pos (by rfl)]
              go_wp2_with (go_at_call 57; (with_reducible refine (MR.out _).mono ?_); rintro e v44 ⟨rfl, hv44⟩; have Yc : v44.heap[Bc]? = some (.cells #[.int .i64 yi, .int .i64 ys, .int .i64 yh, .int .i64 yv] 121 (0, 0)) := blk_call hv44 (by first | (with_reducible exact Hc43.out) | (with_reducible exact blk_drew Hc43.out)); have Yd : v44.heap[Bd]? = some (.cells #[.int .i64 yi, .int .i64 ys, .int .i64 yh, .int .i64 yv] 123 (0, 0)) := blk_call hv44 (by first | (with_reducible exact Hd43.out) | (with_reducible exact blk_drew Hd43.out)); have Ye : v44.heap[Be]? = some (.cells #[.int .u64 ad, .int .u64 an, .bool ab] 129 (0, 0)) := blk_call hv44 (by first | (with_reducible exact He43.out) | (with_reducible exact blk_drew He43.out)); have YB := bel_call hv44 (show Below w.heap.size w _ by first | (with_reducible exact HB43.out) | (with_reducible exact HB43.out.drew)) (by have := HB43.out.size; first | omega | (simp; omega)); clear c0q c1q c2q c3q cf0q cf1q cf2q cf3q clq d0q d1q d2q d3q df0q df1q df2q df3q dlq; obtain ⟨c0q, c1q, c2q, c3q, cf0q, cf1q, cf2q, cf3q⟩ := at4 Yc; have clq := lt_blk Yc; obtain ⟨d0q, d1q, d2q, d3q, df0q, df1q, df2q, df3q⟩ := at4 Yd; have dlq := lt_blk Yd; have HS44 := Lib.hid (show v44.cell? ⟨Bc, 0, none⟩ = some (.int .i64 yi) ∧ v44.cell? ⟨Bc, 1, none⟩ = some (.int .i64 ys) ∧ v44.cell? ⟨Bc, 2, none⟩ = some (.int .i64 yh) ∧ v44.cell? ⟨Bc, 3, none⟩ = some (.int .i64 yv) ∧ v44.cell? ⟨Bd, 0, none⟩ = some (.int .i64 yi) ∧ v44.cell? ⟨Bd, 1, none⟩ = some (.int .i64 ys) ∧ v44.cell? ⟨Bd, 2, none⟩ = some (.int .i64 yh) ∧ v44.cell? ⟨Bd, 3, none⟩ = some (.int .i64 yv) from ⟨cell_blk Yc 0 rfl, cell_blk Yc 1 rfl, cell_blk Yc 2 rfl, cell_blk Yc 3 rfl, cell_blk Yd 0 rfl, cell_blk Yd 1 rfl, cell_blk Yd 2 rfl, cell_blk Yd 3 rfl⟩); have Hc44 := Lib.hid Yc; have Hd44 := Lib.hid Yd; have He44 := Lib.hid Ye; have HB44 := Lib.hid YB; clear hv44 YB Yc Yd Ye)
              refine hK.out _ _ (HS44.out) (fun hHeld => ?_)
              clear hK KQ
              try simp only [List.getElem_toArray, List.getElem_cons_succ, List.getElem_cons_zero, Act.put, List.setIfInBounds_toArray, List.set_cons_zero, List.set_cons_succ]
              refine wpAnyH_norm (n := 7) (l := #[true, true, true, true, true, true, true, true, true, true, true, true, true, true, true, false, false, false, false, false, false, false]) (by kernel_rfl) (by kernel_rfl) ?_
              refine take_list (i := 15) (oi := _) (v := ?_) rfl (by kernel_rfl) (by kernel_rfl) (by kernel_rfl) (fun _ _ _ h => h) (Or.inl ⟨by rfl, ?_⟩) (by assumption) ?_
              rotate_left 1
              · intro v hSw
                (try dsimp only at hSw)
                go_simp
                try with_reducible rfl
              try simp only [List.getElem_toArray, List.getElem_cons_succ, List.getElem_cons_zero, Act.put, List.setIfInBounds_toArray, List.set_cons_zero, List.set_cons_succ]
              refine take_list (i := 16) (oi := _) (v := ?_) rfl (by kernel_rfl) (by kernel_rfl) (by kernel_rfl) (fun _ _ _ h => h) (Or.inl ⟨by rfl, ?_⟩) (by assumption) ?_
              rotate_left 1
              · intro v hSw
                (try dsimp only at hSw)
                go_simp
                try with_reducible rfl
              try simp only [List.getElem_toArray, List.getElem_cons_succ, List.getElem_cons_zero, Act.put, List.setIfInBounds_toArray, List.set_cons_zero, List.set_cons_succ]
              refine take_list (i := 17) (oi := _) (v := ?_) rfl (by kernel_rfl) (by kernel_rfl) (by kernel_rfl) (fun _ _ _ h => h) (Or.inl ⟨by rfl, ?_⟩) (by assumption) ?_
              rotate_left 1
              · intro v hSw
                (try dsimp only at hSw)
                go_simp
                try with_reducible rfl
              try simp only [List.getElem_toArray, List.getElem_cons_succ, List.getElem_cons_zero, Act.put, List.setIfInBounds_toArray, List.set_cons_zero, List.set_cons_succ]
              refine take_list (i := 18) (oi := _) (v := ?_) rfl (by kernel_rfl) (by kernel_rfl) (by kernel_rfl) (fun _ _ _ h => h) (Or.inl ⟨by rfl, ?_⟩) (by assumption) ?_
              rotate_left 1
              · intro v hSw
                (try dsimp only at hSw)
                go_simp
                try with_reducible rfl
              try simp only [List.getElem_toArray, List.getElem_cons_succ, List.getElem_cons_zero, Act.put, List.setIfInBounds_toArray, List.set_cons_zero, List.set_cons_succ]
              refine take_list (i := 19) (oi := _) (v := ?_) rfl (by kernel_rfl) (by kernel_rfl) (by kernel_rfl) (fun _ _ _ h => h) (Or.inl ⟨by rfl, ?_⟩) (by assumption) ?_
              rotate_left 1
              · intro v hSw
                (try dsimp only at hSw)
                go_simp
                try with_reducible rfl
              try simp only [List.getElem_toArray, List.getElem_cons_succ, List.getElem_cons_zero, Act.put, List.setIfInBounds_toArray, List.set_cons_zero, List.set_cons_succ]
              refine take_list (i := 20) (oi := _) (v := ?_) rfl (by kernel_rfl) (by kernel_rfl) (by kernel_rfl) (fun _ _ _ h => h) (Or.inl ⟨by rfl, ?_⟩) (by assumption) ?_
              rotate_left 1
              · intro v hSw
                (try dsimp only at hSw)
                go_simp
                try with_reducible rfl
              try simp only [List.getElem_toArray, List.getElem_cons_succ, List.getElem_cons_zero, Act.put, List.setIfInBounds_toArray, List.set_cons_zero, List.set_cons_succ]
              refine take_list (i := 21) (oi := _) (v := ?_) rfl (by kernel_rfl) (by kernel_rfl) (by kernel_rfl) (fun _ _ _ h => h) (Or.inl ⟨by rfl, ?_⟩) (by assumption) ?_
              rotate_left 1
              · intro v hSw
                (try dsimp only at hSw)
                go_simp
                try with_reducible rfl
              try simp only [List.getElem_toArray, List.getElem_cons_succ, List.getElem_cons_zero, Act.put, List.setIfInBounds_toArray, List.set_cons_zero, List.set_cons_succ]
              refine wpAnyH_norm (n := 0) (l := #[true, true, true, true, true, true, true, true, true, true, true, true, true, true, true, true, true, true, true, true, true, true]) (by kernel_rfl) (by kernel_rfl) ?_
              refine wpAnyH_done (by kernel_rfl) ?_ _
              refine NoPanic.normal ?_
              go_wp2
              go_meet
              refine ⟨rfl, ?_, ?_, ?_, ?_⟩
              · (repeat' (first | (with_reducible exact Hc44.out) | (with_reducible exact heap_alloc_new _ _) | (with_reducible exact blk_new (by first | (simp; done) | omega)) | (with_reducible refine blk_drew ?_) | (with_reducible apply put1_0) | (with_reducible apply put2_0) | (with_reducible apply put2_1) | (with_reducible apply put3_0) | (with_reducible apply put3_1) | (with_reducible apply put3_2) | (with_reducible apply put4_0) | (with_reducible apply put4_1) | (with_reducible apply put4_2) | (with_reducible apply put4_3) | (with_reducible apply put5_0) | (with_reducible apply put5_1) | (with_reducible apply put5_2) | (with_reducible apply put5_3) | (with_reducible apply put5_4) | (with_reducible apply put6_0) | (with_reducible apply put6_1) | (with_reducible apply put6_2) | (with_reducible apply put6_3) | (with_reducible apply put6_4) | (with_reducible apply put6_5) | (with_reducible refine blk_else (by omega) ?_) | (with_reducible refine blk_old ?_)))
              · (repeat' (first | (with_reducible exact Hd44.out) | (with_reducible exact heap_alloc_new _ _) | (with_reducible exact blk_new (by first | (simp; done) | omega)) | (with_reducible refine blk_drew ?_) | (with_reducible apply put1_0) | (with_reducible apply put2_0) | (with_reducible apply put2_1) | (with_reducible apply put3_0) | (with_reducible apply put3_1) | (with_reducible apply put3_2) | (with_reducible apply put4_0) | (with_reducible apply put4_1) | (with_reducible apply put4_2) | (with_reducible apply put4_3) | (with_reducible apply put5_0) | (with_reducible apply put5_1) | (with_reducible apply put5_2) | (with_reducible apply put5_3) | (with_reducible apply put5_4) | (with_reducible apply put6_0) | (with_reducible apply put6_1) | (with_reducible apply put6_2) | (with_reducible apply put6_3) | (with_reducible apply put6_4) | (with_reducible apply put6_5) | (with_reducible refine blk_else (by omega) ?_) | (with_reducible refine blk_old ?_)))
              · (repeat' (first | (with_reducible exact He44.out) | (with_reducible exact heap_alloc_new _ _) | (with_reducible exact blk_new (by first | (simp; done) | omega)) | (with_reducible refine blk_drew ?_) | (with_reducible apply put1_0) | (with_reducible apply put2_0) | (with_reducible apply put2_1) | (with_reducible apply put3_0) | (with_reducible apply put3_1) | (with_reducible apply put3_2) | (with_reducible apply put4_0) | (with_reducible apply put4_1) | (with_reducible apply put4_2) | (with_reducible apply put4_3) | (with_reducible apply put5_0) | (with_reducible apply put5_1) | (with_reducible apply put5_2) | (with_reducible apply put5_3) | (with_reducible apply put5_4) | (with_reducible apply put6_0) | (with_reducible apply put6_1) | (with_reducible apply put6_2) | (with_reducible apply put6_3) | (with_reducible apply put6_4) | (with_reducible apply put6_5) | (with_reducible refine blk_else (by omega) ?_) | (with_reducible refine blk_old ?_)))
              · (repeat' (first | (with_reducible exact HB44.out) | (with_reducible exact Below.refl _ _) | (with_reducible refine below_drewN _ ?_) | (with_reducible refine Below.drew ?_) | (with_reducible refine Below.setCell ?_ (by first | (simp; done) | omega) _) | (with_reducible refine Below.alloc ?_ (by have := HB44.out.size; simp; omega) _)))
        obtain ⟨rfl, xc_, xd_, xe_, xb_⟩ := hcut
        generalize wc = W4 at *
        clear c0_ c1_ c2_ c3_ cf0_ cf1_ cf2_ cf3_ cn_ cm_ cl_ d0_ d1_ d2_ d3_ df0_ df1_ df2_ df3_ dn_ dm_ dl_ e0_ e1_ e2_ ef0_ ef1_ ef2_ en_ em_ el_ Hc30 Hd30 He30 HB30 WA WB MA MR
        have Hc40 := Lib.hid xc_; have Hd40 := Lib.hid xd_; have He40 := Lib.hid xe_; have HB40 := Lib.hid xb_
        clear xc_ xd_ xe_ xb_
        obtain ⟨c0_, c1_, c2_, c3_, cf0_, cf1_, cf2_, cf3_⟩ := at4 Hc40.out
        have cn_ := ne_blk Hc40.out
        have cm_ := Ne.symm (a := Bc) cn_
        have cl_ := lt_blk Hc40.out
        obtain ⟨d0_, d1_, d2_, d3_, df0_, df1_, df2_, df3_⟩ := at4 Hd40.out
        have dn_ := ne_blk Hd40.out
        have dm_ := Ne.symm (a := Bd) dn_
        have dl_ := lt_blk Hd40.out
        obtain ⟨e0_, e1_, e2_, ef0_, ef1_, ef2_⟩ := at3 He40.out
        have en_ := ne_blk He40.out
        have em_ := Ne.symm (a := Be) en_
        have el_ := lt_blk He40.out
        go_wp2_with fail
        refine cl_gen ?_
        intro v40 hv40
        have Xc : v40.heap[Bc]? = some (.cells #[.int .i64 yi, .int .i64 ys, .int .i64 yh, .int .i64 yv] 121 (0, 0)) := by
          rw [hv40]
          (repeat' (first | (with_reducible exact Hc40.out) | (with_reducible exact heap_alloc_new _ _) | (with_reducible exact blk_new (by first | (simp; done) | omega)) | (with_reducible refine blk_drew ?_) | (with_reducible apply put4_0) | (with_reducible apply put4_1) | (with_reducible apply put4_2) | (with_reducible apply put4_3) | (with_reducible refine blk_else (by omega) ?_) | (with_reducible refine blk_old ?_)))
        have Xd : v40.heap[Bd]? = some (.cells #[.int .i64 yi, .int .i64 ys, .int .i64 yh, .int .i64 yv] 123 (0, 0)) := by
          rw [hv40]
          (repeat' (first | (with_reducible exact Hd40.out) | (with_reducible exact heap_alloc_new _ _) | (with_reducible exact blk_new (by first | (simp; done) | omega)) | (with_reducible refine blk_drew ?_) | (with_reducible apply put4_0) | (with_reducible apply put4_1) | (with_reducible apply put4_2) | (with_reducible apply put4_3) | (with_reducible refine blk_else (by omega) ?_) | (with_reducible refine blk_old ?_)))
        have Xe : v40.heap[Be]? = some (.cells #[.int .u64 ad, .int .u64 an, .bool ab] 129 (0, 0)) := by
          rw [hv40]
          (repeat' (first | (with_reducible exact He40.out) | (with_reducible exact heap_alloc_new _ _) | (with_reducible exact blk_new (by first | (simp; done) | omega)) | (with_reducible refine blk_drew ?_) | (with_reducible apply put3_0) | (with_reducible apply put3_1) | (with_reducible apply put3_2) | (with_reducible refine blk_else (by omega) ?_) | (with_reducible refine blk_old ?_)))
        have XB : Below w.heap.size w v40 := by
          rw [hv40]
          (repeat' (first | (with_reducible exact HB40.out) | (with_reducible exact Below.refl _ _) | (with_reducible refine below_drewN _ ?_) | (with_reducible refine Below.drew ?_) | (with_reducible refine Below.setCell ?_ (by first | (simp; done) | omega) _) | (with_reducible refine Below.alloc ?_ (by have := HB40.out.size; simp; omega) _)))
        clear c0_ c1_ c2_ c3_ cf0_ cf1_ cf2_ cf3_ cn_ cm_ cl_ d0_ d1_ d2_ d3_ df0_ df1_ df2_ df3_ dn_ dm_ dl_ e0_ e1_ e2_ ef0_ ef1_ ef2_ en_ em_ el_
        clear hv40 Hc40 Hd40 He40 HB40
        refine (SA.out _).mono ?_
        rintro e w41 ⟨rfl, bb⟩
        have Hc41 := Lib.hid (blk_call bb Xc)
        have Hd41 := Lib.hid (blk_call bb Xd)
        have He41 := Lib.hid (blk_call bb Xe)
        have HB41 := Lib.hid (bel_onto XB bb XB.size)
        clear Xc Xd Xe XB bb
        obtain ⟨c0_, c1_, c2_, c3_, cf0_, cf1_, cf2_, cf3_⟩ := at4 Hc41.out
        have cn_ := ne_blk Hc41.out
        have cm_ := Ne.symm (a := Bc) cn_
        have cl_ := lt_blk Hc41.out
        obtain ⟨d0_, d1_, d2_, d3_, df0_, df1_, df2_, df3_⟩ := at4 Hd41.out
        have dn_ := ne_blk Hd41.out
        have dm_ := Ne.symm (a := Bd) dn_
        have dl_ := lt_blk Hd41.out
        obtain ⟨e0_, e1_, e2_, ef0_, ef1_, ef2_⟩ := at3 He41.out
        have en_ := ne_blk He41.out
        have em_ := Ne.symm (a := Be) en_
        have el_ := lt_blk He41.out
        go_wp2_with fail
        refine cl_gen ?_
        intro v41 hv41
        have Xc : v41.heap[Bc]? = some (.cells #[.int .i64 yi, .int .i64 ys, .int .i64 yh, .int .i64 yv] 121 (0, 0)) := by
          rw [hv41]
          (repeat' (first | (with_reducible exact Hc41.out) | (with_reducible exact heap_alloc_new _ _) | (with_reducible exact blk_new (by first | (simp; done) | omega)) | (with_reducible refine blk_drew ?_) | (with_reducible apply put4_0) | (with_reducible apply put4_1) | (with_reducible apply put4_2) | (with_reducible apply put4_3) | (with_reducible refine blk_else (by omega) ?_) | (with_reducible refine blk_old ?_)))
        have Xd : v41.heap[Bd]? = some (.cells #[.int .i64 yi, .int .i64 ys, .int .i64 yh, .int .i64 yv] 123 (0, 0)) := by
          rw [hv41]
          (repeat' (first | (with_reducible exact Hd41.out) | (with_reducible exact heap_alloc_new _ _) | (with_reducible exact blk_new (by first | (simp; done) | omega)) | (with_reducible refine blk_drew ?_) | (with_reducible apply put4_0) | (with_reducible apply put4_1) | (with_reducible apply put4_2) | (with_reducible apply put4_3) | (with_reducible refine blk_else (by omega) ?_) | (with_reducible refine blk_old ?_)))
        have Xe : v41.heap[Be]? = some (.cells #[.int .u64 ad, .int .u64 an, .bool ab] 129 (0, 0)) := by
          rw [hv41]
          (repeat' (first | (with_reducible exact He41.out) | (with_reducible exact heap_alloc_new _ _) | (with_reducible exact blk_new (by first | (simp; done) | omega)) | (with_reducible refine blk_drew ?_) | (with_reducible apply put3_0) | (with_reducible apply put3_1) | (with_reducible apply put3_2) | (with_reducible refine blk_else (by omega) ?_) | (with_reducible refine blk_old ?_)))
        have XB : Below w.heap.size w v41 := by
          rw [hv41]
          (repeat' (first | (with_reducible exact HB41.out) | (with_reducible exact Below.refl _ _) | (with_reducible refine below_drewN _ ?_) | (with_reducible refine Below.drew ?_) | (with_reducible refine Below.setCell ?_ (by first | (simp; done) | omega) _) | (with_reducible refine Below.alloc ?_ (by have := HB41.out.size; simp; omega) _)))
        have Xx : v41.heap[w41.heap.size]? = some (.cells #[.int .i64 zi, .int .i64 zs, .int .i64 zh, .int .i64 zv] 123 (0, 0)) := by
          rw [hv41]
          (repeat' (first | (with_reducible exact heap_alloc_new _ _) | (with_reducible exact blk_new (by first | (simp; done) | omega)) | (with_reducible refine blk_drew ?_) | (with_reducible apply put4_0) | (with_reducible apply put4_1) | (with_reducible apply put4_2) | (with_reducible apply put4_3) | (with_reducible refine blk_else (by omega) ?_) | (with_reducible refine blk_old ?_)))
        obtain ⟨Bx, hBx⟩ : ∃ x, x = w41.heap.size := ⟨_, rfl⟩
        rw [← hBx] at Xx
        try rw [← hBx]
        have nxc : ¬ Bx = Bc := by have := lt_blk Hc41.out; omega
        have ncx : ¬ Bc = Bx := fun h => nxc h.symm
        have nxd : ¬ Bx = Bd := by have := lt_blk Hd41.out; omega
        have ndx : ¬ Bd = Bx := fun h => nxd h.symm
        have nxe : ¬ Bx = Be := by have := lt_blk He41.out; omega
        have nex : ¬ Be = Bx := fun h => nxe h.symm
        have lex : w.heap.size ≤ Bx := by have := HB41.out.size; omega
        clear hBx
        clear c0_ c1_ c2_ c3_ cf0_ cf1_ cf2_ cf3_ cn_ cm_ cl_ d0_ d1_ d2_ d3_ df0_ df1_ df2_ df3_ dn_ dm_ dl_ e0_ e1_ e2_ ef0_ ef1_ ef2_ en_ em_ el_
        clear hv41 Hc41 Hd41 He41 HB41
        refine (SB.out _).mono ?_
        rintro e w42 ⟨rfl, bb⟩
        have Hc42 := Lib.hid (blk_call bb Xc)
        have Hd42 := Lib.hid (blk_call bb Xd)
        have He42 := Lib.hid (blk_call bb Xe)
        have Hx42 := Lib.hid (blk_call bb Xx)
        have HB42 := Lib.hid (bel_onto XB bb XB.size)
        clear Xc Xd Xe Xx XB bb
        obtain ⟨c0_, c1_, c2_, c3_, cf0_, cf1_, cf2_, cf3_⟩ := at4 Hc42.out
        have cn_ := ne_blk Hc42.out
        have cm_ := Ne.symm (a := Bc) cn_
        have cl_ := lt_blk Hc42.out
        obtain ⟨d0_, d1_, d2_, d3_, df0_, df1_, df2_, df3_⟩ := at4 Hd42.out
        have dn_ := ne_blk Hd42.out
        have dm_ := Ne.symm (a := Bd) dn_
        have dl_ := lt_blk Hd42.out
        obtain ⟨e0_, e1_, e2_, ef0_, ef1_, ef2_⟩ := at3 He42.out
        have en_ := ne_blk He42.out
        have em_ := Ne.symm (a := Be) en_
        have el_ := lt_blk He42.out
        obtain ⟨x0_, x1_, x2_, x3_, xf0_, xf1_, xf2_, xf3_⟩ := at4 Hx42.out
        have xn_ := ne_blk Hx42.out
        have xm_ := Ne.symm (a := Bx) xn_
        have xl_ := lt_blk Hx42.out
        go_upto_region 20 with (fail)
        refine wp_genc ?_
        intro v42 hv42
        have Xc : v42.heap[Bc]? = some (.cells #[.int .i64 yi, .int .i64 ys, .int .i64 yh, .int .i64 yv] 121 (0, 0)) := by
          rw [hv42]
          (repeat' (first | (with_reducible exact Hc42.out) | (with_reducible exact heap_alloc_new _ _) | (with_reducible exact blk_new (by first | (simp; done) | omega)) | (with_reducible refine blk_drew ?_) | (with_reducible apply put4_0) | (with_reducible apply put4_1) | (with_reducible apply put4_2) | (with_reducible apply put4_3) | (with_reducible refine blk_else (by omega) ?_) | (with_reducible refine blk_old ?_)))
        have Xd : v42.heap[Bd]? = some (.cells #[.int .i64 yi, .int .i64 ys, .int .i64 yh, .int .i64 yv] 123 (0, 0)) := by
          rw [hv42]
          (repeat' (first | (with_reducible exact Hd42.out) | (with_reducible exact heap_alloc_new _ _) | (with_reducible exact blk_new (by first | (simp; done) | omega)) | (with_reducible refine blk_drew ?_) | (with_reducible apply put4_0) | (with_reducible apply put4_1) | (with_reducible apply put4_2) | (with_reducible apply put4_3) | (with_reducible refine blk_else (by omega) ?_) | (with_reducible refine blk_old ?_)))
        have Xe : v42.heap[Be]? = some (.cells #[.int .u64 ad, .int .u64 an, .bool ab] 129 (0, 0)) := by
          rw [hv42]
          (repeat' (first | (with_reducible exact He42.out) | (with_reducible exact heap_alloc_new _ _) | (with_reducible exact blk_new (by first | (simp; done) | omega)) | (with_reducible refine blk_drew ?_) | (with_reducible apply put3_0) | (with_reducible apply put3_1) | (with_reducible apply put3_2) | (with_reducible refine blk_else (by omega) ?_) | (with_reducible refine blk_old ?_)))
        have Xx : v42.heap[Bx]? = some (.cells #[.int .i64 zi, .int .i64 zs, .int .i64 zh, .int .i64 zv] 123 (0, 0)) := by
          rw [hv42]
          (repeat' (first | (with_reducible exact Hx42.out) | (with_reducible exact heap_alloc_new _ _) | (with_reducible exact blk_new (by first | (simp; done) | omega)) | (with_reducible refine blk_drew ?_) | (with_reducible apply put4_0) | (with_reducible apply put4_1) | (with_reducible apply put4_2) | (with_reducible apply put4_3) | (with_reducible refine blk_else (by omega) ?_) | (with_reducible refine blk_old ?_)))
        have XB : Below w.heap.size w v42 := by
          rw [hv42]
          (repeat' (first | (with_reducible exact HB42.out) | (with_reducible exact Below.refl _ _) | (with_reducible refine below_drewN _ ?_) | (with_reducible refine Below.drew ?_) | (with_reducible refine Below.setCell ?_ (by first | (simp; done) | omega) _) | (with_reducible refine Below.alloc ?_ (by have := HB42.out.size; simp; omega) _)))
        have Xy : v42.heap[w42.heap.size]? = some (.cells #[.int .i64 zi, .int .i64 zs, .int .i64 zh, .int .i64 zv] 121 (0, 0)) := by
          rw [hv42]
          (repeat' (first | (with_reducible exact heap_alloc_new _ _) | (with_reducible exact blk_new (by first | (simp; done) | omega)) | (with_reducible refine blk_drew ?_) | (with_reducible apply put4_0) | (with_reducible apply put4_1) | (with_reducible apply put4_2) | (with_reducible apply put4_3) | (with_reducible refine blk_else (by omega) ?_) | (with_reducible refine blk_old ?_)))
        obtain ⟨By, hBy⟩ : ∃ x, x = w42.heap.size := ⟨_, rfl⟩
        rw [← hBy] at Xy
        try rw [← hBy]
        have nyc : ¬ By = Bc := by have := lt_blk Hc42.out; omega
        have ncy : ¬ Bc = By := fun h => nyc h.symm
        have nyd : ¬ By = Bd := by have := lt_blk Hd42.out; omega
        have ndy : ¬ Bd = By := fun h => nyd h.symm
        have nye : ¬ By = Be := by have := lt_blk He42.out; omega
        have ney : ¬ Be = By := fun h => nye h.symm
        have nyx : ¬ By = Bx := by have := lt_blk Hx42.out; omega
        have nxy : ¬ Bx = By := fun h => nyx h.symm
        have ley : w.heap.size ≤ By := by have := HB42.out.size; omega
        clear hBy
        clear c0_ c1_ c2_ c3_ cf0_ cf1_ cf2_ cf3_ cn_ cm_ cl_ d0_ d1_ d2_ d3_ df0_ df1_ df2_ df3_ dn_ dm_ dl_ e0_ e1_ e2_ ef0_ ef1_ ef2_ en_ em_ el_ x0_ x1_ x2_ x3_ xf0_ xf1_ xf2_ xf3_ xn_ xm_ xl_
        clear hv42 Hc42 Hd42 He42 Hx42 HB42
        have Hc43 := Lib.hid Xc
        have Hd43 := Lib.hid Xd
        have He43 := Lib.hid Xe
        have Hx43 := Lib.hid Xx
        have Hy43 := Lib.hid Xy
        have HB43 := Lib.hid XB
        clear Xc Xd Xe Xx Xy XB
        obtain ⟨c0_, c1_, c2_, c3_, cf0_, cf1_, cf2_, cf3_⟩ := at4 Hc43.out
        have cn_ := ne_blk Hc43.out
        have cm_ := Ne.symm (a := Bc) cn_
        have cl_ := lt_blk Hc43.out
        obtain ⟨d0_, d1_, d2_, d3_, df0_, df1_, df2_, df3_⟩ := at4 Hd43.out
        have dn_ := ne_blk Hd43.out
        have dm_ := Ne.symm (a := Bd) dn_
        have dl_ := lt_blk Hd43.out
        obtain ⟨e0_, e1_, e2_, ef0_, ef1_, ef2_⟩ := at3 He43.out
        have en_ := ne_blk He43.out
        have em_ := Ne.symm (a := Be) en_
        have el_ := lt_blk He43.out
        obtain ⟨x0_, x1_, x2_, x3_, xf0_, xf1_, xf2_, xf3_⟩ := at4 Hx43.out
        have xn_ := ne_blk Hx43.out
        have xm_ := Ne.symm (a := Bx) xn_
        have xl_ := lt_blk Hx43.out
        obtain ⟨y0_, y1_, y2_, y3_, yf0_, yf1_, yf2_, yf3_⟩ := at4 Hy43.out
        have yn_ := ne_blk Hy43.out
        have ym_ := Ne.symm (a := By) yn_
        have yl_ := lt_blk Hy43.out
        go_region
        all_goals
          go_wp2
          go_roundw
          case rel =>
            refine ⟨j + 1, zi, zs, zh, zv, by go_num, by omega, ?_, ?_, ?_⟩
            · (repeat' (first | (with_reducible exact Hc43.out) | (with_reducible exact heap_alloc_new _ _) | (with_reducible exact blk_new (by first | (simp; done) | omega)) | (with_reducible refine blk_drew ?_) | (with_reducible apply put1_0) | (with_reducible apply put2_0) | (with_reducible apply put2_1) | (with_reducible apply put3_0) | (with_reducible apply put3_1) | (with_reducible apply put3_2) | (with_reducible apply put4_0) | (with_reducible apply put4_1) | (with_reducible apply put4_2) | (with_reducible apply put4_3) | (with_reducible apply put5_0) | (with_reducible apply put5_1) | (with_reducible apply put5_2) | (with_reducible apply put5_3) | (with_reducible apply put5_4) | (with_reducible apply put6_0) | (with_reducible apply put6_1) | (with_reducible apply put6_2) | (with_reducible apply put6_3) | (with_reducible apply put6_4) | (with_reducible apply put6_5) | (with_reducible refine blk_else (by omega) ?_) | (with_reducible refine blk_old ?_)))
            · (repeat' (first | (with_reducible exact Hd43.out) | (with_reducible exact heap_alloc_new _ _) | (with_reducible exact blk_new (by first | (simp; done) | omega)) | (with_reducible refine blk_drew ?_) | (with_reducible apply put1_0) | (with_reducible apply put2_0) | (with_reducible apply put2_1) | (with_reducible apply put3_0) | (with_reducible apply put3_1) | (with_reducible apply put3_2) | (with_reducible apply put4_0) | (with_reducible apply put4_1) | (with_reducible apply put4_2) | (with_reducible apply put4_3) | (with_reducible apply put5_0) | (with_reducible apply put5_1) | (with_reducible apply put5_2) | (with_reducible apply put5_3) | (with_reducible apply put5_4) | (with_reducible apply put6_0) | (with_reducible apply put6_1) | (with_reducible apply put6_2) | (with_reducible apply put6_3) | (with_reducible apply put6_4) | (with_reducible apply put6_5) | (with_reducible refine blk_else (by omega) ?_) | (with_reducible refine blk_old ?_)))
            · (repeat' (first | (with_reducible exact HB43.out) | (with_reducible exact Below.refl _ _) | (with_reducible refine below_drewN _ ?_) | (with_reducible refine Below.drew ?_) | (with_reducible refine Below.setCell ?_ (by first | (simp; done) | omega) _) | (with_reducible refine Below.alloc ?_ (by have := HB43.out.size; simp; omega) _)))
          case measure => simp [intOf] <;> omega
      · obtain rfl : j = n := by omega
        clear xb
        go_wp2_with fail
        refine cl_gen ?_
        intro v9 hv9
        have XB : Below w.heap.size w v9 := by
          rw [hv9]
          (repeat' (first | (with_reducible exact HB9.out) | (with_reducible exact Below.refl _ _) | (with_reducible refine below_drewN _ ?_) | (with_reducible refine Below.drew ?_) | (with_reducible refine Below.setCell ?_ (by first | (simp; done) | omega) _) | (with_reducible refine Below.alloc ?_ (by have := HB9.out.size; simp; omega) _)))
        clear hv9 HB9
        refine (LV.out _).mono ?_
        rintro e w10 ⟨rfl, bb⟩
        have HB10 := Lib.hid (bel_onto XB bb XB.size)
        clear XB bb
        go_wp2
        go_ret
        exact ⟨rfl, HB10.out⟩
end Go.Proofs.Ytcieggckmpabnaa
