/-
  The law on what is taken out of a bucket over stretches of time: true for any packets. No condition.
-/
import Derived.Test.YtgmdhanbeafagaaBk3
import Derived.Test.YtgmdhanbeafagaaOpen20
import Derived.Test.YtgmdhanbeafagaaRows2
import Derived.StillTailTactics
import Derived.Deep.DeepCutAuto
import Derived.Deep.DrawnRows
namespace Go.Proofs.Ytgmdhanbeafagaa
set_option linter.unusedVariables false
set_option linter.unusedSimpArgs false
open Go.ChangeShapes Go.WideShapes Go.ChangeAt Go.RowKit
attribute [local go_sem] alloc_drewN setCell_drewN

attribute [local go_sem ↓] Go.wp_at_zero Go.wp_at_succ
theorem infoU64b : (Try.prog.info? 22).map (fun i => (i.zero, i.size, i.bytes)) = some (some (.int .u64 0), 1, 8) := by kernel_rfl
theorem of_bel (a : Int) (h0 : 0 ≤ a) (h1 : a ≤ 18446744073709551615) (w : World) :
    Calls Try.prog 27 #[.int .u64 a] w fun e w' => ∃ a0 a1, e = .returned (.agg #[.int .u64 (a0), .int .u64 (a1), .int .u64 (0), .int .u64 (0)]) ∧ Wide a0 a1 0 0 a ∧ Below w.heap.size w w' := by
  refine (of_any a h0 h1 w).mono ?_
  rintro e w' ⟨a0, a1, o, rfl, h, rfl⟩
  exact ⟨a0, a1, rfl, h, (Below.refl _ w).alloc (Nat.le_refl _) _⟩
theorem tick_bk {r b t x : Int} (hok : BK.ok ⟨r, b, t⟩) (r0 : 0 ≤ r) (t0 : 0 ≤ t) (hx : 0 ≤ x) : ∃ t1, BK.tick ⟨r, b, t⟩ x = ⟨r, b, t1⟩ ∧ BK.ok ⟨r, b, t1⟩ ∧ 0 ≤ t1 ∧ t1 ≤ t + r * x ∧ t1 ≤ b := by
  obtain ⟨h1, h2, h3⟩ := id hok
  dsimp only at h1 h2 h3
  have p := Int.mul_nonneg r0 hx
  refine ⟨_, if_pos hok, ⟨h1, h2, ?_⟩, ?_, ?_, ?_⟩ <;> dsimp only <;> omega
theorem take_bk {r b t n : Int} (hok : BK.ok ⟨r, b, t⟩) (t0 : 0 ≤ t) (n0 : 0 ≤ n) : (∃ t3, BK.take ⟨r, b, t⟩ n = (⟨r, b, t3⟩, true) ∧ BK.ok ⟨r, b, t3⟩ ∧ 0 ≤ t3 ∧ n + t3 = t) ∨ BK.take ⟨r, b, t⟩ n = (⟨r, b, t⟩, false) := by
  obtain ⟨h1, h2, h3⟩ := id hok
  dsimp only at h1 h2 h3
  unfold BK.take
  rw [if_pos hok]
  dsimp only
  by_cases hn : t < n
  · rw [if_pos hn]; exact Or.inr rfl
  · rw [if_neg hn]; exact Or.inl ⟨_, rfl, ⟨h1, h2, by show t - n ≤ b; omega⟩, by omega, by omega⟩
/-- What the first loop keeps, of the numbers. -/
structure KB (r b : Int) (j : Nat) (t : Int) (g d : List Int) : Prop where
  lg : g.length = j
  ld : d.length = j
  ok : BK.ok ⟨r, b, t⟩
  low : 0 ≤ t
  cf : CF r b 0 g d t
  bg : ∀ x ∈ g, 0 ≤ x ∧ x ≤ 18446744073709551615
  bd : ∀ x ∈ d, 0 ≤ x ∧ x ≤ 18446744073709551615
theorem KB.snoc {r b t t3 x y : Int} {j : Nat} {g d : List Int} (h : KB r b j t g d) (ok : BK.ok ⟨r, b, t3⟩) (low : 0 ≤ t3) (h1 : x + t3 ≤ t + r * y) (h2 : x + t3 ≤ b) (x0 : 0 ≤ x) (x1 : x ≤ 18446744073709551615) (y0 : 0 ≤ y) (y1 : y ≤ 18446744073709551615) :
    KB r b (j + 1) t3 (g ++ [x]) (d ++ [y]) where
  lg := by rw [List.length_append, h.lg]; rfl
  ld := by rw [List.length_append, h.ld]; rfl
  ok := ok
  low := low
  cf := h.cf.snoc h1 h2 (by omega)
  bg := fun z hz => by
    rcases List.mem_append.1 hz with hz | hz
    · exact h.bg z hz
    · rw [List.mem_singleton.1 hz]; exact ⟨x0, x1⟩
  bd := fun z hz => by
    rcases List.mem_append.1 hz with hz | hz
    · exact h.bd z hz
    · rw [List.mem_singleton.1 hz]; exact ⟨y0, y1⟩
set_option maxRecDepth 100000 in
set_option maxHeartbeats 4000000 in
theorem walk_bucketConforms (r : Int) (r0 : 0 ≤ r) (r1 : r ≤ 18446744073709551615) (b : Int) (b0 : 0 ≤ b) (b1 : b ≤ 18446744073709551615) (a : Option Addr) (n cc : Nat) (fs : List Act20) {w : World} (hr : RowA20 w a n fs) (hc : n ≤ cc) :
    Calls Try.prog 4 #[.int .u64 r, .int .u64 b, .slice a n cc] w fun e w' => e = .returned (.bool true) ∧ Below w.heap.size w w' := by
  have LV := Lib.hid (fun W => lives20 W)
  have NW := Lib.hid (fun W => bk_new r b W)
  have HR := Lib.hid hr
  have hnm := hr.2.1
  unfold maxLen at hnm
  by_cases hk : bck r b b = 0
  · have hok := bck_ok.1 hk
    rw [if_pos hk, hk] at NW
    have H0 := Lib.hid (⟨rfl, rfl, hok, b0, CF.nil _ _ _ _, by simp, by simp⟩ : KB r b 0 b [] [])
    clear hok hr hk
    by_cases hlong : 60 < n
    · have g80 : decide ((60 : Int) < n) = true := decide_eq_true (by omega)
      go_enter Try.func4, Try.ntmps4
      go_wp2_with fail
      refine cl_gen ?_
      intro v0 hv0
      have XB : Below w.heap.size w v0 := by
        rw [hv0]
        (repeat' (first | (with_reducible exact Below.refl _ _) | (with_reducible assumption) | (with_reducible refine below_drewN _ ?_) | (with_reducible refine Below.drew ?_) | (with_reducible refine Below.setCell ?_ (by simp) _) | (with_reducible refine Below.alloc ?_ (by simp; try omega) _)))
      clear hv0
      refine (NW.out _).mono ?_
      rintro e w1 ⟨rfl, bb⟩
      have HB1 := Lib.hid (bel_onto XB bb XB.size)
      clear XB bb
      go_wp2_with fail
      refine cl_gen ?_
      intro v1 hv1
      have XB : Below w.heap.size w v1 := by
        rw [hv1]
        (repeat' (first | (with_reducible exact HB1.out) | (with_reducible exact Below.refl _ _) | (with_reducible refine below_drewN _ ?_) | (with_reducible refine Below.drew ?_) | (with_reducible refine Below.setCell ?_ (by first | (simp; done) | omega) _) | (with_reducible refine Below.alloc ?_ (by have := HB1.out.size; simp; omega) _)))
      clear hv1 HB1
      refine (LV.out _).mono ?_
      rintro e w2 ⟨rfl, bb⟩
      have HB2 := Lib.hid (bel_onto XB bb XB.size)
      clear XB bb
      go_wp2
      go_ret
      exact ⟨rfl, HB2.out⟩
    · have g80 : decide ((60 : Int) < n) = false := decide_eq_false (by omega)
      have hn80 : n ≤ 60 := by omega
      clear hlong
      go_enter Try.func4, Try.ntmps4
      go_wp2_with fail
      refine cl_gen ?_
      intro v0 hv0
      have XB : Below w.heap.size w v0 := by
        rw [hv0]
        (repeat' (first | (with_reducible exact Below.refl _ _) | (with_reducible assumption) | (with_reducible refine below_drewN _ ?_) | (with_reducible refine Below.drew ?_) | (with_reducible refine Below.setCell ?_ (by simp) _) | (with_reducible refine Below.alloc ?_ (by simp; try omega) _)))
      clear hv0
      refine (NW.out _).mono ?_
      rintro e w1 ⟨rfl, bb⟩
      have HB1 := Lib.hid (bel_onto XB bb XB.size)
      clear XB bb
      go_wp2
      refine wp_genc ?_
      intro v1 hv1
      have XB : Below w.heap.size w v1 := by
        rw [hv1]
        (repeat' (first | (with_reducible exact HB1.out) | (with_reducible exact Below.refl _ _) | (with_reducible refine below_drewN _ ?_) | (with_reducible refine Below.drew ?_) | (with_reducible refine Below.setCell ?_ (by first | (simp; done) | omega) _) | (with_reducible refine Below.alloc ?_ (by have := HB1.out.size; simp; omega) _)))
      have Xc : v1.heap[w1.heap.size]? = some (.cells #[.int .u64 r, .int .u64 b, .int .u64 b] 25 (0, 0)) := by
        rw [hv1]
        (repeat' (first | (with_reducible exact heap_alloc_new _ _) | (with_reducible exact blk_new (by first | (simp; done) | omega)) | (with_reducible refine blk_drew ?_) | (with_reducible apply put3_0) | (with_reducible apply put3_1) | (with_reducible apply put3_2) | (with_reducible refine blk_else (by omega) ?_) | (with_reducible refine blk_old ?_)))
      obtain ⟨Bc, hBc⟩ : ∃ x, x = w1.heap.size := ⟨_, rfl⟩
      rw [← hBc] at Xc
      try rw [← hBc]
      have lec : w.heap.size ≤ Bc := by have := HB1.out.size; omega
      clear hBc
      clear hv1 HB1
      have Hc2 := Lib.hid Xc
      have HB2 := Lib.hid XB
      clear Xc XB
      obtain ⟨c0_, c1_, c2_, cf0_, cf1_, cf2_⟩ := at3 Hc2.out
      have cn_ := ne_blk Hc2.out
      have cm_ := Ne.symm (a := Bc) cn_
      have cl_ := lt_blk Hc2.out
      obtain ⟨i0, hi, hz0, hz1, hz2⟩ := info_parts infoU64b
      go_loopw [9, 10, 37] (fun e9 e10 e37 wr => ∃ (j : Nat) (t : Int) (g d : List Int), e37 = .int .i64 j ∧ j ≤ n ∧ KB r b j t g d ∧ NR .u64 22 wr w.heap.size e9 g ∧ NR .u64 22 wr w.heap.size e10 d ∧ (∀ b, e9.ownBlock = some b → e10.ownBlock ≠ some b) ∧ wr.heap[Bc]? = some (.cells #[.int .u64 r, .int .u64 b, .int .u64 t] 25 (0, 0)) ∧ Below w.heap.size w wr) (fun _ _ e _ => n - (intOf e).toNat)
      case atStart => exact ⟨0, b, [], [], rfl, Nat.zero_le _, H0.out, NR.nil _ _ _ _, NR.nil _ _ _ _, (fun _ h => nomatch h), Hc2.out, HB2.out⟩
      case round =>
        clear c0_ c1_ c2_ cf0_ cf1_ cf2_ cn_ cm_ cl_ Hc2 HB2 g80
        obtain ⟨j, t, g, d, rfl, hj, KN0, NG, ND, AP0, xc, xb⟩ := hrel
        obtain ⟨a1, c1, rfl, hc1, cell1⟩ := NG.form
        obtain ⟨a2, c2, rfl, hc2, cell2⟩ := ND.form
        have hlg := KN0.lg
        have hld := KN0.ld
        rw [hlg] at NG hc1 cell1 ⊢
        rw [hld] at ND hc2 cell2 ⊢
        rw [hlg] at AP0
        rw [hld] at AP0
        have Hc9 := Lib.hid xc; have HB9 := Lib.hid xb
        by_cases hlt : j < n
        · obtain ⟨hzl, hzm, hzw, hzc⟩ := HR.out
          obtain ⟨b_, off, rfl, hb0, hcs⟩ := hzc (by omega)
          obtain ⟨cx0, cx1⟩ := hcs j hlt
          have d0_ := (xb.cell (p := ⟨b_, off + j * 2, none⟩) hb0).trans cx0
          have d1_ := (xb.cell (p := ⟨b_, off + j * 2 + 1, none⟩) hb0).trans cx1
          have hxw : (fs.getD j Act20.nil).ok := hzw _ (by rw [List.getD_eq_getElem?_getD, List.getElem?_eq_getElem (by omega : j < fs.length)]; exact List.getElem_mem _)
          generalize fs.getD j Act20.nil = act at *
          obtain ⟨ad, an⟩ := act
          obtain ⟨⟨p0, p1⟩, p2, p3⟩ := hxw
          dsimp only at p0 p1 p2 p3 d0_ d1_
          have t_le := KN0.ok.2.2
          dsimp only at t_le
          have T1 := Lib.hid (fun W => bk_tick ⟨r, b, t⟩ ⟨⟨r0, r1⟩, ⟨b0, b1⟩, KN0.low, by show t ≤ _; omega⟩ ad p0 p1 W)
          obtain ⟨t1, hv1, hk1, hl1, hu1, hs1⟩ := tick_bk KN0.ok r0 KN0.low p0
          rw [hv1] at T1
          have S1 := Lib.hid (fun W => bk_take ⟨r, b, t1⟩ ⟨⟨r0, r1⟩, ⟨b0, b1⟩, hl1, by show t1 ≤ _; omega⟩ an p2 p3 W)
          have sc := take_bk hk1 hl1 p2
          have AP := Lib.hid AP0
          have AQ := Lib.hid (fun g_ (h : (Value.slice a2 j c2).ownBlock = some g_) (e : (Value.slice a1 j c1).ownBlock = some g_) => AP0 g_ e h)
          have GE0 := Lib.hid (fun g_ h => (NG.lt g_ h).1)
          have GE1 := Lib.hid (fun g_ h => (ND.lt g_ h).1)
          have n0c := NG.ne xc (by decide)
          have n1c := ND.ne xc (by decide)
          have HR0_9 := Lib.hid NG
          have HR1_9 := Lib.hid ND
          have HKN := Lib.hid KN0
          have HL0 := Lib.hid hlg
          have HL1 := Lib.hid hld
          have HK1 := Lib.hid hk1
          simp only [vw] at T1
          clear hzl hzm hzw hzc hcs cx0 cx1 hv1 hk1 xb xc KN0 NG ND AP0 hlg hld cell1 cell2 hc1 hc2
          rcases sc with ⟨t3, hv3, hk3, hl3, hs3⟩ | hv3
          · rw [hv3] at S1
            simp only [vw] at S1
            have HK3 := Lib.hid hk3
            clear hk3 hv3
            obtain ⟨c0_, c1_, c2_, cf0_, cf1_, cf2_⟩ := at3 Hc9.out
            have cn_ := ne_blk Hc9.out
            have cm_ := Ne.symm (a := Bc) cn_
            have cl_ := lt_blk Hc9.out
            go_wp2_with fail
            refine cl_gen ?_
            intro v9 hv9
            have Xc : v9.heap[Bc]? = some (.cells #[.int .u64 r, .int .u64 b, .int .u64 t] 25 (0, 0)) := by
              rw [hv9]
              (repeat' (first | (with_reducible exact Hc9.out) | (with_reducible exact heap_alloc_new _ _) | (with_reducible exact blk_new (by first | (simp; done) | omega)) | (with_reducible refine blk_drew ?_) | (with_reducible apply put3_0) | (with_reducible apply put3_1) | (with_reducible apply put3_2) | (with_reducible refine blk_else (by omega) ?_) | (with_reducible refine blk_old ?_)))
            have XR0 : NR .u64 22 v9 w.heap.size (.slice a1 j c1) g := by
              rw [hv9]
              (repeat' (first | (with_reducible exact HR0_9.out) | (with_reducible refine NR.drew ?_) | (with_reducible refine NR.drewN ?_) | (with_reducible refine NR.put ?_ (by assumption) _) | (with_reducible refine NR.alloc ?_ _)))
            have XR1 : NR .u64 22 v9 w.heap.size (.slice a2 j c2) d := by
              rw [hv9]
              (repeat' (first | (with_reducible exact HR1_9.out) | (with_reducible refine NR.drew ?_) | (with_reducible refine NR.drewN ?_) | (with_reducible refine NR.put ?_ (by assumption) _) | (with_reducible refine NR.alloc ?_ _)))
            have XB : Below w.heap.size w v9 := by
              rw [hv9]
              (repeat' (first | (with_reducible exact HB9.out) | (with_reducible exact Below.refl _ _) | (with_reducible refine below_drewN _ ?_) | (with_reducible refine Below.drew ?_) | (with_reducible refine Below.setCell ?_ (by first | (simp; done) | omega) _) | (with_reducible refine Below.alloc ?_ (by have := HB9.out.size; simp; omega) _)))
            have Xe : v9.heap[wr.heap.size]? = some (.cells #[.int .u64 ad, .int .u64 an] 45 (0, 0)) := by
              rw [hv9]
              (repeat' (first | (with_reducible exact heap_alloc_new _ _) | (with_reducible exact blk_new (by first | (simp; done) | omega)) | (with_reducible refine blk_drew ?_) | (with_reducible apply put2_0) | (with_reducible apply put2_1) | (with_reducible refine blk_else (by omega) ?_) | (with_reducible refine blk_old ?_)))
            obtain ⟨Be, hBe⟩ : ∃ x, x = wr.heap.size := ⟨_, rfl⟩
            rw [← hBe] at Xe
            try rw [← hBe]
            have nec : ¬ Be = Bc := by have := lt_blk Hc9.out; omega
            have nce : ¬ Bc = Be := fun h => nec h.symm
            have lee : w.heap.size ≤ Be := by have := HB9.out.size; omega
            clear hBe
            clear c0_ c1_ c2_ cf0_ cf1_ cf2_ cn_ cm_ cl_ d0_ d1_
            clear hv9 Hc9 HB9
            clear HR0_9 HR1_9
            refine (T1.out _).mono ?_
            rintro e w10 ⟨rfl, bb⟩
            have HR0_10 := Lib.hid (NR.below XR0 bb)
            have HR1_10 := Lib.hid (NR.below XR1 bb)
            clear XR0 XR1
            have Hc10 := Lib.hid (blk_call bb Xc)
            have He10 := Lib.hid (blk_call bb Xe)
            have HB10 := Lib.hid (bel_onto XB bb XB.size)
            clear Xc Xe XB bb
            obtain ⟨c0_, c1_, c2_, cf0_, cf1_, cf2_⟩ := at3 Hc10.out
            have cn_ := ne_blk Hc10.out
            have cm_ := Ne.symm (a := Bc) cn_
            have cl_ := lt_blk Hc10.out
            obtain ⟨e0_, e1_, ef0_, ef1_⟩ := at2 He10.out
            have en_ := ne_blk He10.out
            have em_ := Ne.symm (a := Be) en_
            have el_ := lt_blk He10.out
            go_wp2_with fail
            refine cl_gen ?_
            intro v10 hv10
            have Xc : v10.heap[Bc]? = some (.cells #[.int .u64 r, .int .u64 b, .int .u64 t1] 25 (0, 0)) := by
              rw [hv10]
              (repeat' (first | (with_reducible exact Hc10.out) | (with_reducible exact heap_alloc_new _ _) | (with_reducible exact blk_new (by first | (simp; done) | omega)) | (with_reducible refine blk_drew ?_) | (with_reducible apply put3_0) | (with_reducible apply put3_1) | (with_reducible apply put3_2) | (with_reducible refine blk_else (by omega) ?_) | (with_reducible refine blk_old ?_)))
            have Xe : v10.heap[Be]? = some (.cells #[.int .u64 ad, .int .u64 an] 45 (0, 0)) := by
              rw [hv10]
              (repeat' (first | (with_reducible exact He10.out) | (with_reducible exact heap_alloc_new _ _) | (with_reducible exact blk_new (by first | (simp; done) | omega)) | (with_reducible refine blk_drew ?_) | (with_reducible apply put2_0) | (with_reducible apply put2_1) | (with_reducible refine blk_else (by omega) ?_) | (with_reducible refine blk_old ?_)))
            have XR0 : NR .u64 22 v10 w.heap.size (.slice a1 j c1) g := by
              rw [hv10]
              (repeat' (first | (with_reducible exact HR0_10.out) | (with_reducible refine NR.drew ?_) | (with_reducible refine NR.drewN ?_) | (with_reducible refine NR.put ?_ (by assumption) _) | (with_reducible refine NR.alloc ?_ _)))
            have XR1 : NR .u64 22 v10 w.heap.size (.slice a2 j c2) d := by
              rw [hv10]
              (repeat' (first | (with_reducible exact HR1_10.out) | (with_reducible refine NR.drew ?_) | (with_reducible refine NR.drewN ?_) | (with_reducible refine NR.put ?_ (by assumption) _) | (with_reducible refine NR.alloc ?_ _)))
            have XB : Below w.heap.size w v10 := by
              rw [hv10]
              (repeat' (first | (with_reducible exact HB10.out) | (with_reducible exact Below.refl _ _) | (with_reducible refine below_drewN _ ?_) | (with_reducible refine Below.drew ?_) | (with_reducible refine Below.setCell ?_ (by first | (simp; done) | omega) _) | (with_reducible refine Below.alloc ?_ (by have := HB10.out.size; simp; omega) _)))
            clear c0_ c1_ c2_ cf0_ cf1_ cf2_ cn_ cm_ cl_ e0_ e1_ ef0_ ef1_ en_ em_ el_
            clear hv10 Hc10 He10 HB10
            clear HR0_10 HR1_10
            refine (S1.out _).mono ?_
            rintro e w11 ⟨rfl, bb⟩
            have HR0_11 := Lib.hid (NR.below XR0 bb)
            have HR1_11 := Lib.hid (NR.below XR1 bb)
            clear XR0 XR1
            have Hc11 := Lib.hid (blk_call bb Xc)
            have He11 := Lib.hid (blk_call bb Xe)
            have HB11 := Lib.hid (bel_onto XB bb XB.size)
            clear Xc Xe XB bb
            obtain ⟨c0_, c1_, c2_, cf0_, cf1_, cf2_⟩ := at3 Hc11.out
            have cn_ := ne_blk Hc11.out
            have cm_ := Ne.symm (a := Bc) cn_
            have cl_ := lt_blk Hc11.out
            obtain ⟨e0_, e1_, ef0_, ef1_⟩ := at2 He11.out
            have en_ := ne_blk He11.out
            have em_ := Ne.symm (a := Be) en_
            have el_ := lt_blk He11.out
            go_upto_region 14 with (fail)
            refine wp_genc ?_
            intro v11 hv11
            have Xc : v11.heap[Bc]? = some (.cells #[.int .u64 r, .int .u64 b, .int .u64 t3] 25 (0, 0)) := by
              rw [hv11]
              (repeat' (first | (with_reducible exact Hc11.out) | (with_reducible exact heap_alloc_new _ _) | (with_reducible exact blk_new (by first | (simp; done) | omega)) | (with_reducible refine blk_drew ?_) | (with_reducible apply put3_0) | (with_reducible apply put3_1) | (with_reducible apply put3_2) | (with_reducible refine blk_else (by omega) ?_) | (with_reducible refine blk_old ?_)))
            have Xe : v11.heap[Be]? = some (.cells #[.int .u64 ad, .int .u64 an] 45 (0, 0)) := by
              rw [hv11]
              (repeat' (first | (with_reducible exact He11.out) | (with_reducible exact heap_alloc_new _ _) | (with_reducible exact blk_new (by first | (simp; done) | omega)) | (with_reducible refine blk_drew ?_) | (with_reducible apply put2_0) | (with_reducible apply put2_1) | (with_reducible refine blk_else (by omega) ?_) | (with_reducible refine blk_old ?_)))
            have XR0 : NR .u64 22 v11 w.heap.size (.slice a1 j c1) g := by
              rw [hv11]
              (repeat' (first | (with_reducible exact HR0_11.out) | (with_reducible refine NR.drew ?_) | (with_reducible refine NR.drewN ?_) | (with_reducible refine NR.put ?_ (by assumption) _) | (with_reducible refine NR.alloc ?_ _)))
            have XR1 : NR .u64 22 v11 w.heap.size (.slice a2 j c2) d := by
              rw [hv11]
              (repeat' (first | (with_reducible exact HR1_11.out) | (with_reducible refine NR.drew ?_) | (with_reducible refine NR.drewN ?_) | (with_reducible refine NR.put ?_ (by assumption) _) | (with_reducible refine NR.alloc ?_ _)))
            have XB : Below w.heap.size w v11 := by
              rw [hv11]
              (repeat' (first | (with_reducible exact HB11.out) | (with_reducible exact Below.refl _ _) | (with_reducible refine below_drewN _ ?_) | (with_reducible refine Below.drew ?_) | (with_reducible refine Below.setCell ?_ (by first | (simp; done) | omega) _) | (with_reducible refine Below.alloc ?_ (by have := HB11.out.size; simp; omega) _)))
            clear c0_ c1_ c2_ cf0_ cf1_ cf2_ cn_ cm_ cl_ e0_ e1_ ef0_ ef1_ en_ em_ el_
            clear hv11 Hc11 He11 HB11
            clear HR0_11 HR1_11
            have HR0_12 := Lib.hid XR0
            have HR1_12 := Lib.hid XR1
            clear XR0 XR1
            have Hc12 := Lib.hid Xc
            have He12 := Lib.hid Xe
            have HB12 := Lib.hid XB
            clear Xc Xe XB
            obtain ⟨c0_, c1_, c2_, cf0_, cf1_, cf2_⟩ := at3 Hc12.out
            have cn_ := ne_blk Hc12.out
            have cm_ := Ne.symm (a := Bc) cn_
            have cl_ := lt_blk Hc12.out
            obtain ⟨e0_, e1_, ef0_, ef1_⟩ := at2 He12.out
            have en_ := ne_blk He12.out
            have em_ := Ne.symm (a := Be) en_
            have el_ := lt_blk He12.out
            have R0 := HR0_12
            have R1 := HR1_12
            have L0 := Lib.hid (fun g_ h => (R0.out.lt g_ h).2)
            have L1 := Lib.hid (fun g_ h => (R1.out.lt g_ h).2)
            have NE0c := Lib.hid n0c
            have NE1c := Lib.hid n1c
            have NE0e := Lib.hid (R0.out.ne He12.out (by decide))
            have NE1e := Lib.hid (R1.out.ne He12.out (by decide))
            have OC0 := Lib.hid (show ∀ u ∈ ([.int .u64 an] : List Value), u.oneCell' = true from fun u hu => by rw [List.mem_singleton.1 hu]; rfl)
            have OC1 := Lib.hid (show ∀ u ∈ ([.int .u64 ad] : List Value), u.oneCell' = true from fun u hu => by rw [List.mem_singleton.1 hu]; rfl)
            have m63 : j + 1 ≤ maxLen := by unfold maxLen; omega
            have mby : (j + 1) * 8 ≤ 140737488355328 := by omega
            have KN2 := Lib.hid (HKN.out.snoc HK3.out (by omega) (by omega) (by omega) (by omega) (by omega) (by omega) (by omega) : KB r b (j + 1) t3 (g ++ [an]) (d ++ [ad]))
            clear HKN
            clear c0_ c1_ c2_ cf0_ cf1_ cf2_ cn_ cm_ cl_ e0_ e1_ ef0_ ef1_ en_ em_ el_
            have O0 := Lib.hid (show v11.ownsRow w.heap.size 22 1 (.slice a1 j c1) j (g.map (Value.int .u64)) from by have h := R0.out; unfold NR at h; rw [HL0.out] at h; exact h)
            have O1 := Lib.hid (show v11.ownsRow w.heap.size 22 1 (.slice a2 j c2) j (d.map (Value.int .u64)) from by have h := R1.out; unfold NR at h; rw [HL1.out] at h; exact h)
            have tok0 : True := trivial
            have tok1 : True := trivial
            go_region_held3 (fun v => v.cell? ⟨Be, 0, none⟩ = some (.int .u64 ad))
              (exact cell_blk (by (repeat' (first | (with_reducible exact He12.out) | (with_reducible exact heap_alloc_new _ _) | (with_reducible exact blk_new (by first | (simp; done) | omega)) | (with_reducible refine blk_drew ?_) | (with_reducible refine blk_drewNr ?_) | (with_reducible refine blk_old ?_) | (refine blk_grown hgrow0 (NE0e.out) ?_) | (refine blk_grown hgrow1 (NE1e.out) ?_)))) 0 rfl)
              (first
                | (have _t := tok0; refine step_append_lies _ (by rfl) _ _ 43 (by rfl) w.heap.size 22 i0 (.int .u64 0) 1 8 Try.underlying43 hi hz0 hz1 hz2 (by rfl) (by decide) (.slice a1 j c1) j (g.map (Value.int .u64)) (by rfl) (by (repeat' (first | (with_reducible exact O0.out) | (with_reducible refine World.ownsRow.alloc ?_ _) | (with_reducible refine World.ownsRow.drew ?_) | (refine own_grown hgrow1 AP.out ?_)))) _ 1 1 [.int .u64 an] (by rfl) (by rfl) (by exact World.news_of_block (cs := #[.int .u64 an]) (by (repeat' (first | (with_reducible exact heap_alloc_new _ _) | (with_reducible exact blk_new (by first | (simp; done) | omega)) | (with_reducible refine blk_drew ?_) | (with_reducible refine blk_drewNr ?_) | (with_reducible refine blk_old ?_) | (refine blk_grown hgrow1 (row_new L1.out (by first | omega | (simp; omega))) ?_))))) OC0.out (by decide) m63 mby (by first | (have := HB12.out.size; simp; omega) | (have := HB12.out.size; have h9 := hgrow0.size; simp at h9 ⊢; omega) | (have := HB12.out.size; have h9 := hgrow1.size; simp at h9 ⊢; omega)) _ rfl ?_; intro g0 cap0 W0 hown0 hgrow0 hat0 hlt0; clear tok0)
                | (have _t := tok1; refine step_append_lies _ (by rfl) _ _ 43 (by rfl) w.heap.size 22 i0 (.int .u64 0) 1 8 Try.underlying43 hi hz0 hz1 hz2 (by rfl) (by decide) (.slice a2 j c2) j (d.map (Value.int .u64)) (by rfl) (by (repeat' (first | (with_reducible exact O1.out) | (with_reducible refine World.ownsRow.alloc ?_ _) | (with_reducible refine World.ownsRow.drew ?_) | (refine own_grown hgrow0 AQ.out ?_)))) _ 1 1 [.int .u64 ad] (by rfl) (by rfl) (by exact World.news_of_block (cs := #[.int .u64 ad]) (by (repeat' (first | (with_reducible exact heap_alloc_new _ _) | (with_reducible exact blk_new (by first | (simp; done) | omega)) | (with_reducible refine blk_drew ?_) | (with_reducible refine blk_drewNr ?_) | (with_reducible refine blk_old ?_) | (refine blk_grown hgrow0 (row_new L0.out (by first | omega | (simp; omega))) ?_))))) OC1.out (by decide) m63 mby (by first | (have := HB12.out.size; simp; omega) | (have := HB12.out.size; have h9 := hgrow0.size; simp at h9 ⊢; omega) | (have := HB12.out.size; have h9 := hgrow1.size; simp at h9 ⊢; omega)) _ rfl ?_; intro g1 cap1 W1 hown1 hgrow1 hat1 hlt1; clear tok1))
            all_goals
              go_wp2
              go_roundw
              case rel =>
                refine ⟨j + 1, t3, _, _, by go_num, by omega, KN2.out, ?_, ?_, ?_, ?_, ?_⟩
                · (refine NR.snoc (n := _) HL0.out ?_; repeat' (first | (with_reducible exact hown0) | (with_reducible refine World.ownsRow.alloc ?_ _) | (with_reducible refine World.ownsRow.drew ?_) | (refine own_new hgrow1 AP.out L1.out hat0 (by first | (simp; done) | (simp; omega) | omega) ?_)))
                · (refine NR.snoc (n := _) HL1.out ?_; repeat' (first | (with_reducible exact hown1) | (with_reducible refine World.ownsRow.alloc ?_ _) | (with_reducible refine World.ownsRow.drew ?_) | (refine own_new hgrow0 AQ.out L0.out hat1 (by first | (simp; done) | (simp; omega) | omega) ?_)))
                · (refine apt ?_; first | exact apart2 AP.out L0.out L1.out hat0 (by first | (simp; done) | (simp; omega) | omega) hlt0 hat1 (by first | (simp; done) | (simp; omega) | omega) | exact (apart2 AQ.out L1.out L0.out hat1 (by first | (simp; done) | (simp; omega) | omega) hlt1 hat0 (by first | (simp; done) | (simp; omega) | omega)).symm)
                · (repeat' (first | (with_reducible exact Hc12.out) | (with_reducible exact heap_alloc_new _ _) | (with_reducible exact blk_new (by first | (simp; done) | omega)) | (with_reducible refine blk_drew ?_) | (with_reducible refine blk_drewNr ?_) | (with_reducible refine blk_old ?_) | (refine blk_grown hgrow0 (NE0c.out) ?_) | (refine blk_grown hgrow1 (NE1c.out) ?_)))
                · (repeat' (first | (with_reducible exact HB12.out) | (with_reducible refine below_drewN _ ?_) | (with_reducible refine Below.drew ?_) | (with_reducible refine Below.alloc ?_ (by first | (have := HB12.out.size; simp; omega) | (have := HB12.out.size; have h9 := hgrow0.size; simp at h9 ⊢; omega) | (have := HB12.out.size; have h9 := hgrow1.size; simp at h9 ⊢; omega)) _) | (refine Below.grown ?_ hgrow0 (by first | (have := HB12.out.size; simp; omega) | (have := HB12.out.size; have h9 := hgrow1.size; simp at h9 ⊢; omega)) GE0.out) | (refine Below.grown ?_ hgrow1 (by first | (have := HB12.out.size; simp; omega) | (have := HB12.out.size; have h9 := hgrow0.size; simp at h9 ⊢; omega)) GE1.out)))
              case measure => simp [intOf] <;> omega
          · rw [hv3] at S1
            simp only [vw] at S1
            clear hv3
            obtain ⟨c0_, c1_, c2_, cf0_, cf1_, cf2_⟩ := at3 Hc9.out
            have cn_ := ne_blk Hc9.out
            have cm_ := Ne.symm (a := Bc) cn_
            have cl_ := lt_blk Hc9.out
            go_wp2_with fail
            refine cl_gen ?_
            intro v9 hv9
            have Xc : v9.heap[Bc]? = some (.cells #[.int .u64 r, .int .u64 b, .int .u64 t] 25 (0, 0)) := by
              rw [hv9]
              (repeat' (first | (with_reducible exact Hc9.out) | (with_reducible exact heap_alloc_new _ _) | (with_reducible exact blk_new (by first | (simp; done) | omega)) | (with_reducible refine blk_drew ?_) | (with_reducible apply put3_0) | (with_reducible apply put3_1) | (with_reducible apply put3_2) | (with_reducible refine blk_else (by omega) ?_) | (with_reducible refine blk_old ?_)))
            have XR0 : NR .u64 22 v9 w.heap.size (.slice a1 j c1) g := by
              rw [hv9]
              (repeat' (first | (with_reducible exact HR0_9.out) | (with_reducible refine NR.drew ?_) | (with_reducible refine NR.drewN ?_) | (with_reducible refine NR.put ?_ (by assumption) _) | (with_reducible refine NR.alloc ?_ _)))
            have XR1 : NR .u64 22 v9 w.heap.size (.slice a2 j c2) d := by
              rw [hv9]
              (repeat' (first | (with_reducible exact HR1_9.out) | (with_reducible refine NR.drew ?_) | (with_reducible refine NR.drewN ?_) | (with_reducible refine NR.put ?_ (by assumption) _) | (with_reducible refine NR.alloc ?_ _)))
            have XB : Below w.heap.size w v9 := by
              rw [hv9]
              (repeat' (first | (with_reducible exact HB9.out) | (with_reducible exact Below.refl _ _) | (with_reducible refine below_drewN _ ?_) | (with_reducible refine Below.drew ?_) | (with_reducible refine Below.setCell ?_ (by first | (simp; done) | omega) _) | (with_reducible refine Below.alloc ?_ (by have := HB9.out.size; simp; omega) _)))
            have Xe : v9.heap[wr.heap.size]? = some (.cells #[.int .u64 ad, .int .u64 an] 45 (0, 0)) := by
              rw [hv9]
              (repeat' (first | (with_reducible exact heap_alloc_new _ _) | (with_reducible exact blk_new (by first | (simp; done) | omega)) | (with_reducible refine blk_drew ?_) | (with_reducible apply put2_0) | (with_reducible apply put2_1) | (with_reducible refine blk_else (by omega) ?_) | (with_reducible refine blk_old ?_)))
            obtain ⟨Be, hBe⟩ : ∃ x, x = wr.heap.size := ⟨_, rfl⟩
            rw [← hBe] at Xe
            try rw [← hBe]
            have nec : ¬ Be = Bc := by have := lt_blk Hc9.out; omega
            have nce : ¬ Bc = Be := fun h => nec h.symm
            have lee : w.heap.size ≤ Be := by have := HB9.out.size; omega
            clear hBe
            clear c0_ c1_ c2_ cf0_ cf1_ cf2_ cn_ cm_ cl_ d0_ d1_
            clear hv9 Hc9 HB9
            clear HR0_9 HR1_9
            refine (T1.out _).mono ?_
            rintro e w10 ⟨rfl, bb⟩
            have HR0_10 := Lib.hid (NR.below XR0 bb)
            have HR1_10 := Lib.hid (NR.below XR1 bb)
            clear XR0 XR1
            have Hc10 := Lib.hid (blk_call bb Xc)
            have He10 := Lib.hid (blk_call bb Xe)
            have HB10 := Lib.hid (bel_onto XB bb XB.size)
            clear Xc Xe XB bb
            obtain ⟨c0_, c1_, c2_, cf0_, cf1_, cf2_⟩ := at3 Hc10.out
            have cn_ := ne_blk Hc10.out
            have cm_ := Ne.symm (a := Bc) cn_
            have cl_ := lt_blk Hc10.out
            obtain ⟨e0_, e1_, ef0_, ef1_⟩ := at2 He10.out
            have en_ := ne_blk He10.out
            have em_ := Ne.symm (a := Be) en_
            have el_ := lt_blk He10.out
            go_wp2_with fail
            refine cl_gen ?_
            intro v10 hv10
            have Xc : v10.heap[Bc]? = some (.cells #[.int .u64 r, .int .u64 b, .int .u64 t1] 25 (0, 0)) := by
              rw [hv10]
              (repeat' (first | (with_reducible exact Hc10.out) | (with_reducible exact heap_alloc_new _ _) | (with_reducible exact blk_new (by first | (simp; done) | omega)) | (with_reducible refine blk_drew ?_) | (with_reducible apply put3_0) | (with_reducible apply put3_1) | (with_reducible apply put3_2) | (with_reducible refine blk_else (by omega) ?_) | (with_reducible refine blk_old ?_)))
            have Xe : v10.heap[Be]? = some (.cells #[.int .u64 ad, .int .u64 an] 45 (0, 0)) := by
              rw [hv10]
              (repeat' (first | (with_reducible exact He10.out) | (with_reducible exact heap_alloc_new _ _) | (with_reducible exact blk_new (by first | (simp; done) | omega)) | (with_reducible refine blk_drew ?_) | (with_reducible apply put2_0) | (with_reducible apply put2_1) | (with_reducible refine blk_else (by omega) ?_) | (with_reducible refine blk_old ?_)))
            have XR0 : NR .u64 22 v10 w.heap.size (.slice a1 j c1) g := by
              rw [hv10]
              (repeat' (first | (with_reducible exact HR0_10.out) | (with_reducible refine NR.drew ?_) | (with_reducible refine NR.drewN ?_) | (with_reducible refine NR.put ?_ (by assumption) _) | (with_reducible refine NR.alloc ?_ _)))
            have XR1 : NR .u64 22 v10 w.heap.size (.slice a2 j c2) d := by
              rw [hv10]
              (repeat' (first | (with_reducible exact HR1_10.out) | (with_reducible refine NR.drew ?_) | (with_reducible refine NR.drewN ?_) | (with_reducible refine NR.put ?_ (by assumption) _) | (with_reducible refine NR.alloc ?_ _)))
            have XB : Below w.heap.size w v10 := by
              rw [hv10]
              (repeat' (first | (with_reducible exact HB10.out) | (with_reducible exact Below.refl _ _) | (with_reducible refine below_drewN _ ?_) | (with_reducible refine Below.drew ?_) | (with_reducible refine Below.setCell ?_ (by first | (simp; done) | omega) _) | (with_reducible refine Below.alloc ?_ (by have := HB10.out.size; simp; omega) _)))
            clear c0_ c1_ c2_ cf0_ cf1_ cf2_ cn_ cm_ cl_ e0_ e1_ ef0_ ef1_ en_ em_ el_
            clear hv10 Hc10 He10 HB10
            clear HR0_10 HR1_10
            refine (S1.out _).mono ?_
            rintro e w11 ⟨rfl, bb⟩
            have HR0_11 := Lib.hid (NR.below XR0 bb)
            have HR1_11 := Lib.hid (NR.below XR1 bb)
            clear XR0 XR1
            have Hc11 := Lib.hid (blk_call bb Xc)
            have He11 := Lib.hid (blk_call bb Xe)
            have HB11 := Lib.hid (bel_onto XB bb XB.size)
            clear Xc Xe XB bb
            obtain ⟨c0_, c1_, c2_, cf0_, cf1_, cf2_⟩ := at3 Hc11.out
            have cn_ := ne_blk Hc11.out
            have cm_ := Ne.symm (a := Bc) cn_
            have cl_ := lt_blk Hc11.out
            obtain ⟨e0_, e1_, ef0_, ef1_⟩ := at2 He11.out
            have en_ := ne_blk He11.out
            have em_ := Ne.symm (a := Be) en_
            have el_ := lt_blk He11.out
            go_upto_region 14 with (fail)
            refine wp_genc ?_
            intro v11 hv11
            have Xc : v11.heap[Bc]? = some (.cells #[.int .u64 r, .int .u64 b, .int .u64 t1] 25 (0, 0)) := by
              rw [hv11]
              (repeat' (first | (with_reducible exact Hc11.out) | (with_reducible exact heap_alloc_new _ _) | (with_reducible exact blk_new (by first | (simp; done) | omega)) | (with_reducible refine blk_drew ?_) | (with_reducible apply put3_0) | (with_reducible apply put3_1) | (with_reducible apply put3_2) | (with_reducible refine blk_else (by omega) ?_) | (with_reducible refine blk_old ?_)))
            have Xe : v11.heap[Be]? = some (.cells #[.int .u64 ad, .int .u64 an] 45 (0, 0)) := by
              rw [hv11]
              (repeat' (first | (with_reducible exact He11.out) | (with_reducible exact heap_alloc_new _ _) | (with_reducible exact blk_new (by first | (simp; done) | omega)) | (with_reducible refine blk_drew ?_) | (with_reducible apply put2_0) | (with_reducible apply put2_1) | (with_reducible refine blk_else (by omega) ?_) | (with_reducible refine blk_old ?_)))
            have XR0 : NR .u64 22 v11 w.heap.size (.slice a1 j c1) g := by
              rw [hv11]
              (repeat' (first | (with_reducible exact HR0_11.out) | (with_reducible refine NR.drew ?_) | (with_reducible refine NR.drewN ?_) | (with_reducible refine NR.put ?_ (by assumption) _) | (with_reducible refine NR.alloc ?_ _)))
            have XR1 : NR .u64 22 v11 w.heap.size (.slice a2 j c2) d := by
              rw [hv11]
              (repeat' (first | (with_reducible exact HR1_11.out) | (with_reducible refine NR.drew ?_) | (with_reducible refine NR.drewN ?_) | (with_reducible refine NR.put ?_ (by assumption) _) | (with_reducible refine NR.alloc ?_ _)))
            have XB : Below w.heap.size w v11 := by
              rw [hv11]
              (repeat' (first | (with_reducible exact HB11.out) | (with_reducible exact Below.refl _ _) | (with_reducible refine below_drewN _ ?_) | (with_reducible refine Below.drew ?_) | (with_reducible refine Below.setCell ?_ (by first | (simp; done) | omega) _) | (with_reducible refine Below.alloc ?_ (by have := HB11.out.size; simp; omega) _)))
            clear c0_ c1_ c2_ cf0_ cf1_ cf2_ cn_ cm_ cl_ e0_ e1_ ef0_ ef1_ en_ em_ el_
            clear hv11 Hc11 He11 HB11
            clear HR0_11 HR1_11
            have HR0_12 := Lib.hid XR0
            have HR1_12 := Lib.hid XR1
            clear XR0 XR1
            have Hc12 := Lib.hid Xc
            have He12 := Lib.hid Xe
            have HB12 := Lib.hid XB
            clear Xc Xe XB
            obtain ⟨c0_, c1_, c2_, cf0_, cf1_, cf2_⟩ := at3 Hc12.out
            have cn_ := ne_blk Hc12.out
            have cm_ := Ne.symm (a := Bc) cn_
            have cl_ := lt_blk Hc12.out
            obtain ⟨e0_, e1_, ef0_, ef1_⟩ := at2 He12.out
            have en_ := ne_blk He12.out
            have em_ := Ne.symm (a := Be) en_
            have el_ := lt_blk He12.out
            have R0 := HR0_12
            have R1 := HR1_12
            have L0 := Lib.hid (fun g_ h => (R0.out.lt g_ h).2)
            have L1 := Lib.hid (fun g_ h => (R1.out.lt g_ h).2)
            have NE0c := Lib.hid n0c
            have NE1c := Lib.hid n1c
            have NE0e := Lib.hid (R0.out.ne He12.out (by decide))
            have NE1e := Lib.hid (R1.out.ne He12.out (by decide))
            have OC0 := Lib.hid (show ∀ u ∈ ([.int .u64 0] : List Value), u.oneCell' = true from fun u hu => by rw [List.mem_singleton.1 hu]; rfl)
            have OC1 := Lib.hid (show ∀ u ∈ ([.int .u64 ad] : List Value), u.oneCell' = true from fun u hu => by rw [List.mem_singleton.1 hu]; rfl)
            have m63 : j + 1 ≤ maxLen := by unfold maxLen; omega
            have mby : (j + 1) * 8 ≤ 140737488355328 := by omega
            have KN2 := Lib.hid (HKN.out.snoc HK1.out (by omega) (by omega) (by omega) (by omega) (by omega) (by omega) (by omega) : KB r b (j + 1) t1 (g ++ [0]) (d ++ [ad]))
            clear HKN
            clear c0_ c1_ c2_ cf0_ cf1_ cf2_ cn_ cm_ cl_ e0_ e1_ ef0_ ef1_ en_ em_ el_
            have O0 := Lib.hid (show v11.ownsRow w.heap.size 22 1 (.slice a1 j c1) j (g.map (Value.int .u64)) from by have h := R0.out; unfold NR at h; rw [HL0.out] at h; exact h)
            have O1 := Lib.hid (show v11.ownsRow w.heap.size 22 1 (.slice a2 j c2) j (d.map (Value.int .u64)) from by have h := R1.out; unfold NR at h; rw [HL1.out] at h; exact h)
            have tok0 : True := trivial
            have tok1 : True := trivial
            go_region_held3 (fun v => v.cell? ⟨Be, 0, none⟩ = some (.int .u64 ad))
              (exact cell_blk (by (repeat' (first | (with_reducible exact He12.out) | (with_reducible exact heap_alloc_new _ _) | (with_reducible exact blk_new (by first | (simp; done) | omega)) | (with_reducible refine blk_drew ?_) | (with_reducible refine blk_drewNr ?_) | (with_reducible refine blk_old ?_) | (refine blk_grown hgrow0 (NE0e.out) ?_) | (refine blk_grown hgrow1 (NE1e.out) ?_)))) 0 rfl)
              (first
                | (have _t := tok0; refine step_append_lies _ (by rfl) _ _ 43 (by rfl) w.heap.size 22 i0 (.int .u64 0) 1 8 Try.underlying43 hi hz0 hz1 hz2 (by rfl) (by decide) (.slice a1 j c1) j (g.map (Value.int .u64)) (by rfl) (by (repeat' (first | (with_reducible exact O0.out) | (with_reducible refine World.ownsRow.alloc ?_ _) | (with_reducible refine World.ownsRow.drew ?_) | (refine own_grown hgrow1 AP.out ?_)))) _ 1 1 [.int .u64 0] (by rfl) (by rfl) (by exact World.news_of_block (cs := #[.int .u64 0]) (by (repeat' (first | (with_reducible exact heap_alloc_new _ _) | (with_reducible exact blk_new (by first | (simp; done) | omega)) | (with_reducible refine blk_drew ?_) | (with_reducible refine blk_drewNr ?_) | (with_reducible refine blk_old ?_) | (refine blk_grown hgrow1 (row_new L1.out (by first | omega | (simp; omega))) ?_))))) OC0.out (by decide) m63 mby (by first | (have := HB12.out.size; simp; omega) | (have := HB12.out.size; have h9 := hgrow0.size; simp at h9 ⊢; omega) | (have := HB12.out.size; have h9 := hgrow1.size; simp at h9 ⊢; omega)) _ rfl ?_; intro g0 cap0 W0 hown0 hgrow0 hat0 hlt0; clear tok0)
                | (have _t := tok1; refine step_append_lies _ (by rfl) _ _ 43 (by rfl) w.heap.size 22 i0 (.int .u64 0) 1 8 Try.underlying43 hi hz0 hz1 hz2 (by rfl) (by decide) (.slice a2 j c2) j (d.map (Value.int .u64)) (by rfl) (by (repeat' (first | (with_reducible exact O1.out) | (with_reducible refine World.ownsRow.alloc ?_ _) | (with_reducible refine World.ownsRow.drew ?_) | (refine own_grown hgrow0 AQ.out ?_)))) _ 1 1 [.int .u64 ad] (by rfl) (by rfl) (by exact World.news_of_block (cs := #[.int .u64 ad]) (by (repeat' (first | (with_reducible exact heap_alloc_new _ _) | (with_reducible exact blk_new (by first | (simp; done) | omega)) | (with_reducible refine blk_drew ?_) | (with_reducible refine blk_drewNr ?_) | (with_reducible refine blk_old ?_) | (refine blk_grown hgrow0 (row_new L0.out (by first | omega | (simp; omega))) ?_))))) OC1.out (by decide) m63 mby (by first | (have := HB12.out.size; simp; omega) | (have := HB12.out.size; have h9 := hgrow0.size; simp at h9 ⊢; omega) | (have := HB12.out.size; have h9 := hgrow1.size; simp at h9 ⊢; omega)) _ rfl ?_; intro g1 cap1 W1 hown1 hgrow1 hat1 hlt1; clear tok1))
            all_goals
              go_wp2
              go_roundw
              case rel =>
                refine ⟨j + 1, t1, _, _, by go_num, by omega, KN2.out, ?_, ?_, ?_, ?_, ?_⟩
                · (refine NR.snoc (n := _) HL0.out ?_; repeat' (first | (with_reducible exact hown0) | (with_reducible refine World.ownsRow.alloc ?_ _) | (with_reducible refine World.ownsRow.drew ?_) | (refine own_new hgrow1 AP.out L1.out hat0 (by first | (simp; done) | (simp; omega) | omega) ?_)))
                · (refine NR.snoc (n := _) HL1.out ?_; repeat' (first | (with_reducible exact hown1) | (with_reducible refine World.ownsRow.alloc ?_ _) | (with_reducible refine World.ownsRow.drew ?_) | (refine own_new hgrow0 AQ.out L0.out hat1 (by first | (simp; done) | (simp; omega) | omega) ?_)))
                · (refine apt ?_; first | exact apart2 AP.out L0.out L1.out hat0 (by first | (simp; done) | (simp; omega) | omega) hlt0 hat1 (by first | (simp; done) | (simp; omega) | omega) | exact (apart2 AQ.out L1.out L0.out hat1 (by first | (simp; done) | (simp; omega) | omega) hlt1 hat0 (by first | (simp; done) | (simp; omega) | omega)).symm)
                · (repeat' (first | (with_reducible exact Hc12.out) | (with_reducible exact heap_alloc_new _ _) | (with_reducible exact blk_new (by first | (simp; done) | omega)) | (with_reducible refine blk_drew ?_) | (with_reducible refine blk_drewNr ?_) | (with_reducible refine blk_old ?_) | (refine blk_grown hgrow0 (NE0c.out) ?_) | (refine blk_grown hgrow1 (NE1c.out) ?_)))
                · (repeat' (first | (with_reducible exact HB12.out) | (with_reducible refine below_drewN _ ?_) | (with_reducible refine Below.drew ?_) | (with_reducible refine Below.alloc ?_ (by first | (have := HB12.out.size; simp; omega) | (have := HB12.out.size; have h9 := hgrow0.size; simp at h9 ⊢; omega) | (have := HB12.out.size; have h9 := hgrow1.size; simp at h9 ⊢; omega)) _) | (refine Below.grown ?_ hgrow0 (by first | (have := HB12.out.size; simp; omega) | (have := HB12.out.size; have h9 := hgrow1.size; simp at h9 ⊢; omega)) GE0.out) | (refine Below.grown ?_ hgrow1 (by first | (have := HB12.out.size; simp; omega) | (have := HB12.out.size; have h9 := hgrow0.size; simp at h9 ⊢; omega)) GE1.out)))
              case measure => simp [intOf] <;> omega
        · have hjn : j = n := by omega
          subst hjn
          obtain ⟨W0, rfl⟩ : ∃ x, x = wr := ⟨_, rfl⟩
          have HCF := Lib.hid KN0.cf
          have HBG := Lib.hid KN0.bg
          have HBD := Lib.hid KN0.bd
          have C1 := Lib.hid cell1
          have C2 := Lib.hid cell2
          have HL0 := Lib.hid hlg
          have hmj : (j : Int) ≤ 60 := by omega
          have OF0 := Lib.hid (fun W => of_bel 0 (by decide) (by decide) W)
          have OFB := Lib.hid (fun W => of_bel b b0 b1 W)
          clear KN0 NG ND AP0 cell1 cell2 hc1 hc2 hlg hld hlt xb xc
          go_wp2
          go_loopw [68] (fun e wq => ∃ i : Nat, e = .int .i64 i ∧ i ≤ j ∧ Below W0.heap.size W0 wq) (fun e _ => j - (intOf e).toNat)
          case atStart => exact ⟨0, rfl, Nat.zero_le _, Below.refl _ _⟩
          case round =>
            obtain ⟨i, rfl, hij, hb⟩ := hrel
            obtain ⟨W1, rfl⟩ : ∃ x, x = wr := ⟨_, rfl⟩
            by_cases hlt2 : i < j
            · have HB9b := Lib.hid hb
              clear hb
              go_wp2_with fail
              refine cl_gen ?_
              intro v9 hv9
              have XB : Below W0.heap.size W0 v9 := by
                rw [hv9]
                (repeat' (first | (with_reducible exact HB9b.out) | (with_reducible exact Below.refl _ _) | (with_reducible refine below_drewN _ ?_) | (with_reducible refine Below.drew ?_) | (with_reducible refine Below.setCell ?_ (by first | (simp; done) | omega) _) | (with_reducible refine Below.alloc ?_ (by have := HB9b.out.size; simp; omega) _)))
              clear hv9 HB9b
              refine (OF0.out _).mono ?_
              rintro e w10 ⟨z0_, z1_, rfl, hwz, bb⟩
              have HB10 := Lib.hid (bel_onto XB bb XB.size)
              clear XB bb
              go_wp2_with fail
              refine cl_gen ?_
              intro v10 hv10
              have XB : Below W0.heap.size W0 v10 := by
                rw [hv10]
                (repeat' (first | (with_reducible exact HB10.out) | (with_reducible exact Below.refl _ _) | (with_reducible refine below_drewN _ ?_) | (with_reducible refine Below.drew ?_) | (with_reducible refine Below.setCell ?_ (by first | (simp; done) | omega) _) | (with_reducible refine Below.alloc ?_ (by have := HB10.out.size; simp; omega) _)))
              clear hv10 HB10
              refine (OFB.out _).mono ?_
              rintro e w11 ⟨b0_, b1_, rfl, hwb, bb⟩
              have HB11 := Lib.hid (bel_onto XB bb XB.size)
              clear XB bb
              go_wp2
              refine wp_genc ?_
              intro v11 hv11
              have XB : Below W0.heap.size W0 v11 := by
                rw [hv11]
                (repeat' (first | (with_reducible exact HB11.out) | (with_reducible exact Below.refl _ _) | (with_reducible refine below_drewN _ ?_) | (with_reducible refine Below.drew ?_) | (with_reducible refine Below.setCell ?_ (by first | (simp; done) | omega) _) | (with_reducible refine Below.alloc ?_ (by have := HB11.out.size; simp; omega) _)))
              have Xs : v11.heap[w11.heap.size]? = some (.cells #[.int .u64 z0_, .int .u64 z1_, .int .u64 0, .int .u64 0] 48 (0, 0)) := by
                rw [hv11]
                (repeat' (first | (with_reducible exact heap_alloc_new _ _) | (with_reducible exact blk_new (by first | (simp; done) | omega)) | (with_reducible refine blk_drew ?_) | (with_reducible apply put4_0) | (with_reducible apply put4_1) | (with_reducible apply put4_2) | (with_reducible apply put4_3) | (with_reducible refine blk_else (by omega) ?_) | (with_reducible refine blk_old ?_)))
              have Xm : v11.heap[w11.heap.size + 1]? = some (.cells #[.int .u64 b0_, .int .u64 b1_, .int .u64 0, .int .u64 0] 48 (0, 0)) := by
                rw [hv11]
                (repeat' (first | (with_reducible exact heap_alloc_new _ _) | (with_reducible exact blk_new (by first | (simp; done) | omega)) | (with_reducible refine blk_drew ?_) | (with_reducible apply put4_0) | (with_reducible apply put4_1) | (with_reducible apply put4_2) | (with_reducible apply put4_3) | (with_reducible refine blk_else (by omega) ?_) | (with_reducible refine blk_old ?_)))
              obtain ⟨Bm, hBm⟩ : ∃ x, x = w11.heap.size + 1 := ⟨_, rfl⟩
              rw [← hBm] at Xm
              try rw [← hBm]
              have lem : W0.heap.size ≤ Bm := by have := HB11.out.size; omega
              obtain ⟨Bs, hBs⟩ : ∃ x, x = w11.heap.size := ⟨_, rfl⟩
              rw [← hBs] at Xs
              try rw [← hBs]
              have nsm : ¬ Bs = Bm := by omega
              have nms : ¬ Bm = Bs := fun h => nsm h.symm
              have les : W0.heap.size ≤ Bs := by have := HB11.out.size; omega
              clear hBs hBm
              clear hv11 HB11
              have Hm12 := Lib.hid Xm
              have Hs12 := Lib.hid Xs
              have HB12 := Lib.hid XB
              clear Xm Xs XB
              obtain ⟨m0_, m1_, m2_, m3_, mf0_, mf1_, mf2_, mf3_⟩ := at4 Hm12.out
              have mn_ := ne_blk Hm12.out
              have mm_ := Ne.symm (a := Bm) mn_
              have ml_ := lt_blk Hm12.out
              obtain ⟨s0_, s1_, s2_, s3_, sf0_, sf1_, sf2_, sf3_⟩ := at4 Hs12.out
              have sn_ := ne_blk Hs12.out
              have sm_ := Ne.symm (a := Bs) sn_
              have sl_ := lt_blk Hs12.out
              clear m0_ m1_ m2_ m3_ mf0_ mf1_ mf2_ mf3_ mn_ mm_ ml_ s0_ s1_ s2_ s3_ sf0_ sf1_ sf2_ sf3_ sn_ sm_ sl_
              go_loopw [19] (fun e wu => ∃ (q : Nat) (sA sB sC sD mA mB mC mD : Int), e = .int .i64 ((i : Int) + q) ∧ i + q ≤ j ∧ Wide sA sB sC sD (seg g i q) ∧ Wide mA mB mC mD (b + r * seg d (i + 1) (q - 1)) ∧ b + r * seg d (i + 1) (q - 1) ≤ 18446744073709551616 + q * 79228162514264337593543950336 ∧ wu.heap[Bs]? = some (.cells #[.int .u64 sA, .int .u64 sB, .int .u64 sC, .int .u64 sD] 48 (0, 0)) ∧ wu.heap[Bm]? = some (.cells #[.int .u64 mA, .int .u64 mB, .int .u64 mC, .int .u64 mD] 48 (0, 0)) ∧ Below W0.heap.size W0 wu) (fun e _ => j - (intOf e).toNat)
              case atStart =>
                refine ⟨0, z0_, z1_, 0, 0, b0_, b1_, 0, 0, by simp, by omega, hwz, ?_, ?_, Hs12.out, Hm12.out, HB12.out⟩
                · rw [show seg d (i + 1) (0 - 1) = 0 from rfl, Int.mul_zero, Int.add_zero]; exact hwb
                · rw [show seg d (i + 1) (0 - 1) = 0 from rfl, Int.mul_zero, Int.add_zero]; omega
              case round =>
                clear Hs12 Hm12 HB12 hwz hwb
                obtain ⟨q, sA, sB, sC, sD, mA, mB, mC, mD, rfl, hqj, hws, hwm, hmb, xs_, xm_, xb_⟩ := hrel
                obtain ⟨W2, rfl⟩ : ∃ x, x = wr := ⟨_, rfl⟩
                have Hs9 := Lib.hid xs_; have Hm9 := Lib.hid xm_; have HB9c := Lib.hid xb_
                by_cases hlt3 : i + q < j
                · obtain ⟨gb, rfl, hgb, hgc⟩ := C1.out (i + q) hlt3
                  have k1_ := (xb_.cell (p := ⟨gb, i + q, none⟩) hgb).trans hgc
                  obtain ⟨db, rfl, hdb, hdc⟩ := C2.out (i + q) hlt3
                  have part := HCF.out.part i q (by rw [HL0.out]; exact hlt3)
                  obtain ⟨p0_, p1_⟩ := seg_bounds HBG.out (by decide) i q
                  obtain ⟨p4_, p5_⟩ := getD_all (P := fun x => 0 ≤ x ∧ x ≤ 18446744073709551615) HBG.out (by decide) (i + q)
                  obtain ⟨p6_, p7_⟩ := getD_all (P := fun x => 0 ≤ x ∧ x ≤ 18446744073709551615) HBD.out (by decide) (i + q)
                  have q80 : (q : Int) ≤ 60 := by omega
                  have p1' : seg g i q ≤ 60 * 18446744073709551615 := by omega
                  have E1 := Lib.hid (seg_succ g i q)
                  obtain ⟨gk, hgk⟩ : ∃ x, g.getD (i + q) 0 = x := ⟨_, rfl⟩
                  obtain ⟨dk, hdk⟩ : ∃ x, d.getD (i + q) 0 = x := ⟨_, rfl⟩
                  rw [hgk] at k1_ p4_ p5_ E1
                  rw [hdk] at hdc p6_ p7_
                  rw [E1.out, Int.add_zero] at part
                  have HDC := Lib.hid hdc
                  have kc_ : ((i : Int) + q) = ((i + q : Nat) : Int) := by omega
                  have OFG := Lib.hid (fun W => of_bel gk p4_ p5_ W)
                  have TM := Lib.hid (fun W => times_any r dk r0 r1 p6_ p7_ W)
                  have nsm : ¬ Bs = Bm := fun h => nms h.symm
                  clear p1_ hgc hdc xs_ xm_ xb_
                  by_cases hq : q = 0
                  · subst hq
                    obtain ⟨s0_, s1_, s2_, s3_, sf0_, sf1_, sf2_, sf3_⟩ := at4 Hs9.out
                    have sn_ := ne_blk Hs9.out
                    have sm_ := Ne.symm (a := Bs) sn_
                    have sl_ := lt_blk Hs9.out
                    obtain ⟨m0_, m1_, m2_, m3_, mf0_, mf1_, mf2_, mf3_⟩ := at4 Hm9.out
                    have mn_ := ne_blk Hm9.out
                    have mm_ := Ne.symm (a := Bm) mn_
                    have ml_ := lt_blk Hm9.out
                    rw [Nat.add_zero] at k1_ hlt3
                    have hle0 : seg g i 0 + gk ≤ b + r * seg d (i + 1) (0 - 1) := by
                      rw [show seg d (i + 1) (0 - 1) = 0 from rfl]
                      rw [show seg d (i + 1) 0 = 0 from rfl] at part
                      exact part
                    generalize hM : b + r * seg d (i + 1) (0 - 1) = M at *
                    have HM := Lib.hid hM
                    clear hM part
                    generalize seg g i 0 = S at *
                    go_upto_region 23 with (fail)
                    go_region_with (first
                      | (go_at_call 27; with_reducible refine (OFG.out _).mono ?_; rintro e u1 ⟨o0, o1, rfl, hwo, hu1⟩; have Ys : u1.heap[Bs]? = some (.cells #[.int .u64 sA, .int .u64 sB, .int .u64 sC, .int .u64 sD] 48 (0, 0)) := blk_call hu1 (by (repeat' (first | (with_reducible exact Hs9.out) | (with_reducible exact heap_alloc_new _ _) | (with_reducible exact blk_new (by first | (simp; done) | omega)) | (with_reducible refine blk_drew ?_) | (with_reducible apply put4_0) | (with_reducible apply put4_1) | (with_reducible apply put4_2) | (with_reducible apply put4_3) | (with_reducible refine blk_else (by omega) ?_) | (with_reducible refine blk_old ?_)))); have Ym : u1.heap[Bm]? = some (.cells #[.int .u64 mA, .int .u64 mB, .int .u64 mC, .int .u64 mD] 48 (0, 0)) := blk_call hu1 (by (repeat' (first | (with_reducible exact Hm9.out) | (with_reducible exact heap_alloc_new _ _) | (with_reducible exact blk_new (by first | (simp; done) | omega)) | (with_reducible refine blk_drew ?_) | (with_reducible apply put4_0) | (with_reducible apply put4_1) | (with_reducible apply put4_2) | (with_reducible apply put4_3) | (with_reducible refine blk_else (by omega) ?_) | (with_reducible refine blk_old ?_)))); have YB : Below W0.heap.size W0 u1 := bel_call hu1 (by (repeat' (first | (with_reducible exact HB9c.out) | (with_reducible refine below_drewN _ ?_) | (with_reducible refine Below.drew ?_) | (with_reducible refine Below.alloc ?_ (by have := HB9c.out.size; simp; omega) _)))) (Nat.le_refl _); obtain ⟨s0c, s1c, s2c, s3c, sf0c, sf1c, sf2c, sf3c⟩ := at4 Ys; have slc := lt_blk Ys; have snc := ne_blk Ys; have smc := Ne.symm (a := Bs) snc; have PL := Lib.hid (fun W => plus_any sA sB sC sD o0 o1 0 0 S gk hws hwo (by omega) W); have HYs := Lib.hid Ys; have HYm := Lib.hid Ym; have HYB := Lib.hid YB; clear hu1 Ys Ym YB hwo)
                      | (go_at_call 28; with_reducible refine (PL.out _).mono ?_; rintro e u2 ⟨tA, tB, tC, tD, rfl, hwt, hu2⟩; have Zs : u2.heap[Bs]? = some (.cells #[.int .u64 sA, .int .u64 sB, .int .u64 sC, .int .u64 sD] 48 (0, 0)) := blk_call hu2 (by (repeat' (first | (with_reducible exact HYs.out) | (with_reducible exact heap_alloc_new _ _) | (with_reducible exact blk_new (by first | (simp; done) | omega)) | (with_reducible refine blk_drew ?_) | (with_reducible apply put4_0) | (with_reducible apply put4_1) | (with_reducible apply put4_2) | (with_reducible apply put4_3) | (with_reducible refine blk_else (by omega) ?_) | (with_reducible refine blk_old ?_)))); have Zm : u2.heap[Bm]? = some (.cells #[.int .u64 mA, .int .u64 mB, .int .u64 mC, .int .u64 mD] 48 (0, 0)) := blk_call hu2 (by (repeat' (first | (with_reducible exact HYm.out) | (with_reducible exact heap_alloc_new _ _) | (with_reducible exact blk_new (by first | (simp; done) | omega)) | (with_reducible refine blk_drew ?_) | (with_reducible apply put4_0) | (with_reducible apply put4_1) | (with_reducible apply put4_2) | (with_reducible apply put4_3) | (with_reducible refine blk_else (by omega) ?_) | (with_reducible refine blk_old ?_)))); have ZB : Below W0.heap.size W0 u2 := bel_call hu2 (by (repeat' (first | (with_reducible exact HYB.out) | (with_reducible refine below_drewN _ ?_) | (with_reducible refine Below.drew ?_)))) (Nat.le_refl _); clear s0c s1c s2c s3c sf0c sf1c sf2c sf3c slc snc smc; obtain ⟨s0c, s1c, s2c, s3c, sf0c, sf1c, sf2c, sf3c⟩ := at4 Zs; have slc := lt_blk Zs; have snc := ne_blk Zs; have smc := Ne.symm (a := Bs) snc; have Hs20 := Lib.hid Zs; have Hm20 := Lib.hid Zm; have HB20 := Lib.hid ZB; clear hu2 Zs Zm ZB PL HYs HYm HYB)
                      | fail)
                    all_goals
                      have HMS := Lib.hid Hs9.out
                      clear HMS Hs9 Hm9 HB9c s0_ s1_ s2_ s3_ sf0_ sf1_ sf2_ sf3_ sn_ sm_ sl_ m0_ m1_ m2_ m3_ mf0_ mf1_ mf2_ mf3_ mn_ mm_ ml_
                      go_upto_region 24 with (fail)
                      refine wp_genc ?_
                      intro v20 hv20
                      have Xs : v20.heap[Bs]? = some (.cells #[.int .u64 tA, .int .u64 tB, .int .u64 tC, .int .u64 tD] 48 (0, 0)) := by
                        rw [hv20]
                        (repeat' (first | (with_reducible exact Hs20.out) | (with_reducible exact heap_alloc_new _ _) | (with_reducible exact blk_new (by first | (simp; done) | omega)) | (with_reducible refine blk_drew ?_) | (with_reducible apply put4_0) | (with_reducible apply put4_1) | (with_reducible apply put4_2) | (with_reducible apply put4_3) | (with_reducible refine blk_else (by omega) ?_) | (with_reducible refine blk_old ?_)))
                      have Xm : v20.heap[Bm]? = some (.cells #[.int .u64 mA, .int .u64 mB, .int .u64 mC, .int .u64 mD] 48 (0, 0)) := by
                        rw [hv20]
                        (repeat' (first | (with_reducible exact Hm20.out) | (with_reducible exact heap_alloc_new _ _) | (with_reducible exact blk_new (by first | (simp; done) | omega)) | (with_reducible refine blk_drew ?_) | (with_reducible apply put4_0) | (with_reducible apply put4_1) | (with_reducible apply put4_2) | (with_reducible apply put4_3) | (with_reducible refine blk_else (by omega) ?_) | (with_reducible refine blk_old ?_)))
                      have XB : Below W0.heap.size W0 v20 := by
                        rw [hv20]
                        (repeat' (first | (with_reducible exact HB20.out) | (with_reducible exact Below.refl _ _) | (with_reducible refine below_drewN _ ?_) | (with_reducible refine Below.drew ?_) | (with_reducible refine Below.setCell ?_ (by first | (simp; done) | omega) _) | (with_reducible refine Below.alloc ?_ (by have := HB20.out.size; simp; omega) _)))
                      clear hv20 Hs20 Hm20 HB20
                      have Hs21 := Lib.hid Xs
                      have Hm21 := Lib.hid Xm
                      have HB21 := Lib.hid XB
                      clear Xs Xm XB
                      obtain ⟨s0_, s1_, s2_, s3_, sf0_, sf1_, sf2_, sf3_⟩ := at4 Hs21.out
                      have sn_ := ne_blk Hs21.out
                      have sm_ := Ne.symm (a := Bs) sn_
                      have sl_ := lt_blk Hs21.out
                      obtain ⟨m0_, m1_, m2_, m3_, mf0_, mf1_, mf2_, mf3_⟩ := at4 Hm21.out
                      have mn_ := ne_blk Hm21.out
                      have mm_ := Ne.symm (a := Bm) mn_
                      have ml_ := lt_blk Hm21.out
                      clear s0c s1c s2c s3c sf0c sf1c sf2c sf3c slc snc smc
                      have LS := Lib.hid (fun W => less_any mA mB mC mD tA tB tC tD M (S + gk) hwm hwt W)
                      rw [show decide (M < S + gk) = false from decide_eq_false (by omega)] at LS
                      go_wp2_with fail
                      refine cl_gen ?_
                      intro v21 hv21
                      have Xs : v21.heap[Bs]? = some (.cells #[.int .u64 tA, .int .u64 tB, .int .u64 tC, .int .u64 tD] 48 (0, 0)) := by
                        rw [hv21]
                        (repeat' (first | (with_reducible exact Hs21.out) | (with_reducible exact heap_alloc_new _ _) | (with_reducible exact blk_new (by first | (simp; done) | omega)) | (with_reducible refine blk_drew ?_) | (with_reducible apply put4_0) | (with_reducible apply put4_1) | (with_reducible apply put4_2) | (with_reducible apply put4_3) | (with_reducible refine blk_else (by omega) ?_) | (with_reducible refine blk_old ?_)))
                      have Xm : v21.heap[Bm]? = some (.cells #[.int .u64 mA, .int .u64 mB, .int .u64 mC, .int .u64 mD] 48 (0, 0)) := by
                        rw [hv21]
                        (repeat' (first | (with_reducible exact Hm21.out) | (with_reducible exact heap_alloc_new _ _) | (with_reducible exact blk_new (by first | (simp; done) | omega)) | (with_reducible refine blk_drew ?_) | (with_reducible apply put4_0) | (with_reducible apply put4_1) | (with_reducible apply put4_2) | (with_reducible apply put4_3) | (with_reducible refine blk_else (by omega) ?_) | (with_reducible refine blk_old ?_)))
                      have XB : Below W0.heap.size W0 v21 := by
                        rw [hv21]
                        (repeat' (first | (with_reducible exact HB21.out) | (with_reducible exact Below.refl _ _) | (with_reducible refine below_drewN _ ?_) | (with_reducible refine Below.drew ?_) | (with_reducible refine Below.setCell ?_ (by first | (simp; done) | omega) _) | (with_reducible refine Below.alloc ?_ (by have := HB21.out.size; simp; omega) _)))
                      clear s0_ s1_ s2_ s3_ sf0_ sf1_ sf2_ sf3_ sn_ sm_ sl_ m0_ m1_ m2_ m3_ mf0_ mf1_ mf2_ mf3_ mn_ mm_ ml_
                      clear hv21 Hs21 Hm21 HB21
                      refine (LS.out _).mono ?_
                      rintro e w22 ⟨rfl, bb⟩
                      have Hs22 := Lib.hid (blk_call bb Xs)
                      have Hm22 := Lib.hid (blk_call bb Xm)
                      have HB22 := Lib.hid (bel_onto XB bb XB.size)
                      clear Xs Xm XB bb
                      obtain ⟨s0_, s1_, s2_, s3_, sf0_, sf1_, sf2_, sf3_⟩ := at4 Hs22.out
                      have sn_ := ne_blk Hs22.out
                      have sm_ := Ne.symm (a := Bs) sn_
                      have sl_ := lt_blk Hs22.out
                      obtain ⟨m0_, m1_, m2_, m3_, mf0_, mf1_, mf2_, mf3_⟩ := at4 Hm22.out
                      have mn_ := ne_blk Hm22.out
                      have mm_ := Ne.symm (a := Bm) mn_
                      have ml_ := lt_blk Hm22.out
                      go_wp2
                      go_roundw
                      case rel =>
                        refine ⟨0 + 1, tA, tB, tC, tD, mA, mB, mC, mD, by first | rfl | go_num, by omega, by rw [E1.out]; exact hwt, by rw [show b + r * seg d (i + 1) (0 + 1 - 1) = M from HM.out]; exact hwm, by rw [show b + r * seg d (i + 1) (0 + 1 - 1) = M from HM.out]; omega, ?_, ?_, ?_⟩
                        · (repeat' (first | (with_reducible exact Hs22.out) | (with_reducible exact heap_alloc_new _ _) | (with_reducible exact blk_new (by first | (simp; done) | omega)) | (with_reducible refine blk_drew ?_) | (with_reducible apply put4_0) | (with_reducible apply put4_1) | (with_reducible apply put4_2) | (with_reducible apply put4_3) | (with_reducible refine blk_else (by omega) ?_) | (with_reducible refine blk_old ?_)))
                        · (repeat' (first | (with_reducible exact Hm22.out) | (with_reducible exact heap_alloc_new _ _) | (with_reducible exact blk_new (by first | (simp; done) | omega)) | (with_reducible refine blk_drew ?_) | (with_reducible apply put4_0) | (with_reducible apply put4_1) | (with_reducible apply put4_2) | (with_reducible apply put4_3) | (with_reducible refine blk_else (by omega) ?_) | (with_reducible refine blk_old ?_)))
                        · (repeat' (first | (with_reducible exact HB22.out) | (with_reducible exact Below.refl _ _) | (with_reducible refine below_drewN _ ?_) | (with_reducible refine Below.drew ?_) | (with_reducible refine Below.setCell ?_ (by first | (simp; done) | omega) _) | (with_reducible refine Below.alloc ?_ (by have := HB22.out.size; simp; omega) _)))
                      case measure => simp [intOf] <;> omega
                  · obtain ⟨u, rfl⟩ : ∃ u, q = u + 1 := ⟨q - 1, by omega⟩
                    obtain ⟨s0_, s1_, s2_, s3_, sf0_, sf1_, sf2_, sf3_⟩ := at4 Hs9.out
                    have sn_ := ne_blk Hs9.out
                    have sm_ := Ne.symm (a := Bs) sn_
                    have sl_ := lt_blk Hs9.out
                    obtain ⟨m0_, m1_, m2_, m3_, mf0_, mf1_, mf2_, mf3_⟩ := at4 Hm9.out
                    have mn_ := ne_blk Hm9.out
                    have mm_ := Ne.symm (a := Bm) mn_
                    have ml_ := lt_blk Hm9.out
                    have gq : decide ((i : Int) < (i : Int) + ((u + 1 : Nat) : Int)) = true := decide_eq_true (by omega)
                    have gq2 : (i : Int) < (i : Int) + ((u : Int) + 1) := by omega
                    have E2 := Lib.hid (show b + r * seg d (i + 1) (u + 1 + 1 - 1) = b + r * seg d (i + 1) (u + 1 - 1) + r * dk by
                      rw [show u + 1 + 1 - 1 = u + 1 by omega, show u + 1 - 1 = u by omega, seg_succ, show i + 1 + u = i + (u + 1) by omega, hdk, Int.mul_add]
                      omega)
                    have hle0 : seg g i (u + 1) + gk ≤ b + r * seg d (i + 1) (u + 1 - 1) + r * dk := by
                      have h := E2.out
                      rw [show u + 1 + 1 - 1 = u + 1 by omega] at h
                      rw [← h]
                      exact part
                    clear part
                    generalize b + r * seg d (i + 1) (u + 1 - 1) = M at *
                    generalize seg g i (u + 1) = S at *
                    go_upto_region 23 with (fail)
                    go_region_with (first
                      | (go_at_call 27; with_reducible refine (OFG.out _).mono ?_; rintro e u1 ⟨o0, o1, rfl, hwo, hu1⟩; have Ys : u1.heap[Bs]? = some (.cells #[.int .u64 sA, .int .u64 sB, .int .u64 sC, .int .u64 sD] 48 (0, 0)) := blk_call hu1 (by (repeat' (first | (with_reducible exact Hs9.out) | (with_reducible exact heap_alloc_new _ _) | (with_reducible exact blk_new (by first | (simp; done) | omega)) | (with_reducible refine blk_drew ?_) | (with_reducible apply put4_0) | (with_reducible apply put4_1) | (with_reducible apply put4_2) | (with_reducible apply put4_3) | (with_reducible refine blk_else (by omega) ?_) | (with_reducible refine blk_old ?_)))); have Ym : u1.heap[Bm]? = some (.cells #[.int .u64 mA, .int .u64 mB, .int .u64 mC, .int .u64 mD] 48 (0, 0)) := blk_call hu1 (by (repeat' (first | (with_reducible exact Hm9.out) | (with_reducible exact heap_alloc_new _ _) | (with_reducible exact blk_new (by first | (simp; done) | omega)) | (with_reducible refine blk_drew ?_) | (with_reducible apply put4_0) | (with_reducible apply put4_1) | (with_reducible apply put4_2) | (with_reducible apply put4_3) | (with_reducible refine blk_else (by omega) ?_) | (with_reducible refine blk_old ?_)))); have YB : Below W0.heap.size W0 u1 := bel_call hu1 (by (repeat' (first | (with_reducible exact HB9c.out) | (with_reducible refine below_drewN _ ?_) | (with_reducible refine Below.drew ?_) | (with_reducible refine Below.alloc ?_ (by have := HB9c.out.size; simp; omega) _)))) (Nat.le_refl _); obtain ⟨s0c, s1c, s2c, s3c, sf0c, sf1c, sf2c, sf3c⟩ := at4 Ys; have slc := lt_blk Ys; have snc := ne_blk Ys; have smc := Ne.symm (a := Bs) snc; have PL := Lib.hid (fun W => plus_any sA sB sC sD o0 o1 0 0 S gk hws hwo (by omega) W); have HYs := Lib.hid Ys; have HYm := Lib.hid Ym; have HYB := Lib.hid YB; clear hu1 Ys Ym YB hwo)
                      | (go_at_call 28; with_reducible refine (PL.out _).mono ?_; rintro e u2 ⟨tA, tB, tC, tD, rfl, hwt, hu2⟩; have Zs : u2.heap[Bs]? = some (.cells #[.int .u64 sA, .int .u64 sB, .int .u64 sC, .int .u64 sD] 48 (0, 0)) := blk_call hu2 (by (repeat' (first | (with_reducible exact HYs.out) | (with_reducible exact heap_alloc_new _ _) | (with_reducible exact blk_new (by first | (simp; done) | omega)) | (with_reducible refine blk_drew ?_) | (with_reducible apply put4_0) | (with_reducible apply put4_1) | (with_reducible apply put4_2) | (with_reducible apply put4_3) | (with_reducible refine blk_else (by omega) ?_) | (with_reducible refine blk_old ?_)))); have Zm : u2.heap[Bm]? = some (.cells #[.int .u64 mA, .int .u64 mB, .int .u64 mC, .int .u64 mD] 48 (0, 0)) := blk_call hu2 (by (repeat' (first | (with_reducible exact HYm.out) | (with_reducible exact heap_alloc_new _ _) | (with_reducible exact blk_new (by first | (simp; done) | omega)) | (with_reducible refine blk_drew ?_) | (with_reducible apply put4_0) | (with_reducible apply put4_1) | (with_reducible apply put4_2) | (with_reducible apply put4_3) | (with_reducible refine blk_else (by omega) ?_) | (with_reducible refine blk_old ?_)))); have ZB : Below W0.heap.size W0 u2 := bel_call hu2 (by (repeat' (first | (with_reducible exact HYB.out) | (with_reducible refine below_drewN _ ?_) | (with_reducible refine Below.drew ?_)))) (Nat.le_refl _); clear s0c s1c s2c s3c sf0c sf1c sf2c sf3c slc snc smc; obtain ⟨s0c, s1c, s2c, s3c, sf0c, sf1c, sf2c, sf3c⟩ := at4 Zs; have slc := lt_blk Zs; have snc := ne_blk Zs; have smc := Ne.symm (a := Bs) snc; have Hs20 := Lib.hid Zs; have Hm20 := Lib.hid Zm; have HB20 := Lib.hid ZB; clear hu2 Zs Zm ZB PL HYs HYm HYB)
                      | fail)
                    all_goals
                      have HMS := Lib.hid Hs9.out
                      clear HMS Hs9 Hm9 HB9c s0_ s1_ s2_ s3_ sf0_ sf1_ sf2_ sf3_ sn_ sm_ sl_ m0_ m1_ m2_ m3_ mf0_ mf1_ mf2_ mf3_ mn_ mm_ ml_
                      go_upto_region 24 with (fail)
                      refine wp_genc ?_
                      intro v20 hv20
                      have Xs : v20.heap[Bs]? = some (.cells #[.int .u64 tA, .int .u64 tB, .int .u64 tC, .int .u64 tD] 48 (0, 0)) := by
                        rw [hv20]
                        (repeat' (first | (with_reducible exact Hs20.out) | (with_reducible exact heap_alloc_new _ _) | (with_reducible exact blk_new (by first | (simp; done) | omega)) | (with_reducible refine blk_drew ?_) | (with_reducible apply put4_0) | (with_reducible apply put4_1) | (with_reducible apply put4_2) | (with_reducible apply put4_3) | (with_reducible refine blk_else (by omega) ?_) | (with_reducible refine blk_old ?_)))
                      have Xm : v20.heap[Bm]? = some (.cells #[.int .u64 mA, .int .u64 mB, .int .u64 mC, .int .u64 mD] 48 (0, 0)) := by
                        rw [hv20]
                        (repeat' (first | (with_reducible exact Hm20.out) | (with_reducible exact heap_alloc_new _ _) | (with_reducible exact blk_new (by first | (simp; done) | omega)) | (with_reducible refine blk_drew ?_) | (with_reducible apply put4_0) | (with_reducible apply put4_1) | (with_reducible apply put4_2) | (with_reducible apply put4_3) | (with_reducible refine blk_else (by omega) ?_) | (with_reducible refine blk_old ?_)))
                      have XB : Below W0.heap.size W0 v20 := by
                        rw [hv20]
                        (repeat' (first | (with_reducible exact HB20.out) | (with_reducible exact Below.refl _ _) | (with_reducible refine below_drewN _ ?_) | (with_reducible refine Below.drew ?_) | (with_reducible refine Below.setCell ?_ (by first | (simp; done) | omega) _) | (with_reducible refine Below.alloc ?_ (by have := HB20.out.size; simp; omega) _)))
                      clear hv20 Hs20 Hm20 HB20
                      have Hs21 := Lib.hid Xs
                      have Hm21 := Lib.hid Xm
                      have HB21 := Lib.hid XB
                      clear Xs Xm XB
                      obtain ⟨s0_, s1_, s2_, s3_, sf0_, sf1_, sf2_, sf3_⟩ := at4 Hs21.out
                      have sn_ := ne_blk Hs21.out
                      have sm_ := Ne.symm (a := Bs) sn_
                      have sl_ := lt_blk Hs21.out
                      obtain ⟨m0_, m1_, m2_, m3_, mf0_, mf1_, mf2_, mf3_⟩ := at4 Hm21.out
                      have mn_ := ne_blk Hm21.out
                      have mm_ := Ne.symm (a := Bm) mn_
                      have ml_ := lt_blk Hm21.out
                      clear s0c s1c s2c s3c sf0c sf1c sf2c sf3c slc snc smc
                      have k2_ := (HB21.out.cell (p := ⟨db, i + (u + 1), none⟩) hdb).trans HDC.out
                      go_wp2_with fail
                      refine cl_gen ?_
                      intro v21 hv21
                      have Xs : v21.heap[Bs]? = some (.cells #[.int .u64 tA, .int .u64 tB, .int .u64 tC, .int .u64 tD] 48 (0, 0)) := by
                        rw [hv21]
                        (repeat' (first | (with_reducible exact Hs21.out) | (with_reducible exact heap_alloc_new _ _) | (with_reducible exact blk_new (by first | (simp; done) | omega)) | (with_reducible refine blk_drew ?_) | (with_reducible apply put4_0) | (with_reducible apply put4_1) | (with_reducible apply put4_2) | (with_reducible apply put4_3) | (with_reducible refine blk_else (by omega) ?_) | (with_reducible refine blk_old ?_)))
                      have Xm : v21.heap[Bm]? = some (.cells #[.int .u64 mA, .int .u64 mB, .int .u64 mC, .int .u64 mD] 48 (0, 0)) := by
                        rw [hv21]
                        (repeat' (first | (with_reducible exact Hm21.out) | (with_reducible exact heap_alloc_new _ _) | (with_reducible exact blk_new (by first | (simp; done) | omega)) | (with_reducible refine blk_drew ?_) | (with_reducible apply put4_0) | (with_reducible apply put4_1) | (with_reducible apply put4_2) | (with_reducible apply put4_3) | (with_reducible refine blk_else (by omega) ?_) | (with_reducible refine blk_old ?_)))
                      have XB : Below W0.heap.size W0 v21 := by
                        rw [hv21]
                        (repeat' (first | (with_reducible exact HB21.out) | (with_reducible exact Below.refl _ _) | (with_reducible refine below_drewN _ ?_) | (with_reducible refine Below.drew ?_) | (with_reducible refine Below.setCell ?_ (by first | (simp; done) | omega) _) | (with_reducible refine Below.alloc ?_ (by have := HB21.out.size; simp; omega) _)))
                      clear s0_ s1_ s2_ s3_ sf0_ sf1_ sf2_ sf3_ sn_ sm_ sl_ m0_ m1_ m2_ m3_ mf0_ mf1_ mf2_ mf3_ mn_ mm_ ml_
                      clear hv21 Hs21 Hm21 HB21
                      refine (TM.out _).mono ?_
                      rintro e w22 ⟨xA, xB, xC, xD, rfl, hwx, bb⟩
                      have Hs22 := Lib.hid (blk_call bb Xs)
                      have Hm22 := Lib.hid (blk_call bb Xm)
                      have HB22 := Lib.hid (bel_onto XB bb XB.size)
                      clear Xs Xm XB bb
                      obtain ⟨s0_, s1_, s2_, s3_, sf0_, sf1_, sf2_, sf3_⟩ := at4 Hs22.out
                      have sn_ := ne_blk Hs22.out
                      have sm_ := Ne.symm (a := Bs) sn_
                      have sl_ := lt_blk Hs22.out
                      obtain ⟨m0_, m1_, m2_, m3_, mf0_, mf1_, mf2_, mf3_⟩ := at4 Hm22.out
                      have mn_ := ne_blk Hm22.out
                      have mm_ := Ne.symm (a := Bm) mn_
                      have ml_ := lt_blk Hm22.out
                      clear k2_
                      by_cases hx3 : 0 < xD
                      · have gx : decide (0 < xD) = true := decide_eq_true hx3
                        go_wp2
                        go_roundw
                        case rel =>
                          refine ⟨i + 1, by go_num, by omega, ?_⟩
                          (repeat' (first | (with_reducible exact HB22.out) | (with_reducible exact Below.refl _ _) | (with_reducible refine below_drewN _ ?_) | (with_reducible refine Below.drew ?_) | (with_reducible refine Below.setCell ?_ (by first | (simp; done) | omega) _) | (with_reducible refine Below.alloc ?_ (by have := HB22.out.size; simp; omega) _)))
                        case measure => simp [intOf] <;> omega
                      · have gx : decide (0 < xD) = false := decide_eq_false hx3
                        obtain ⟨X, hX⟩ : ∃ x, r * dk = x := ⟨_, rfl⟩
                        rw [hX] at hwx hle0 E2
                        have hXb : X < 79228162514264337593543950336 := by
                          obtain ⟨⟨f0_, f1_⟩, ⟨f2_, f3_⟩, ⟨f4_, f5_⟩, ⟨f6_, f7_⟩, f8_⟩ := hwx
                          omega
                        have PM := Lib.hid (fun W => plus_any mA mB mC mD xA xB xC xD M X hwm hwx (by omega) W)
                        go_wp2_with fail
                        refine cl_gen ?_
                        intro v22 hv22
                        have Xs : v22.heap[Bs]? = some (.cells #[.int .u64 tA, .int .u64 tB, .int .u64 tC, .int .u64 tD] 48 (0, 0)) := by
                          rw [hv22]
                          (repeat' (first | (with_reducible exact Hs22.out) | (with_reducible exact heap_alloc_new _ _) | (with_reducible exact blk_new (by first | (simp; done) | omega)) | (with_reducible refine blk_drew ?_) | (with_reducible apply put4_0) | (with_reducible apply put4_1) | (with_reducible apply put4_2) | (with_reducible apply put4_3) | (with_reducible refine blk_else (by omega) ?_) | (with_reducible refine blk_old ?_)))
                        have Xm : v22.heap[Bm]? = some (.cells #[.int .u64 mA, .int .u64 mB, .int .u64 mC, .int .u64 mD] 48 (0, 0)) := by
                          rw [hv22]
                          (repeat' (first | (with_reducible exact Hm22.out) | (with_reducible exact heap_alloc_new _ _) | (with_reducible exact blk_new (by first | (simp; done) | omega)) | (with_reducible refine blk_drew ?_) | (with_reducible apply put4_0) | (with_reducible apply put4_1) | (with_reducible apply put4_2) | (with_reducible apply put4_3) | (with_reducible refine blk_else (by omega) ?_) | (with_reducible refine blk_old ?_)))
                        have XB : Below W0.heap.size W0 v22 := by
                          rw [hv22]
                          (repeat' (first | (with_reducible exact HB22.out) | (with_reducible exact Below.refl _ _) | (with_reducible refine below_drewN _ ?_) | (with_reducible refine Below.drew ?_) | (with_reducible refine Below.setCell ?_ (by first | (simp; done) | omega) _) | (with_reducible refine Below.alloc ?_ (by have := HB22.out.size; simp; omega) _)))
                        have Xx : v22.heap[w22.heap.size]? = some (.cells #[.int .u64 xA, .int .u64 xB, .int .u64 xC, .int .u64 xD] 48 (0, 0)) := by
                          rw [hv22]
                          (repeat' (first | (with_reducible exact heap_alloc_new _ _) | (with_reducible exact blk_new (by first | (simp; done) | omega)) | (with_reducible refine blk_drew ?_) | (with_reducible apply put4_0) | (with_reducible apply put4_1) | (with_reducible apply put4_2) | (with_reducible apply put4_3) | (with_reducible refine blk_else (by omega) ?_) | (with_reducible refine blk_old ?_)))
                        obtain ⟨Bx, hBx⟩ : ∃ x, x = w22.heap.size := ⟨_, rfl⟩
                        rw [← hBx] at Xx
                        try rw [← hBx]
                        have nxs : ¬ Bx = Bs := by have := lt_blk Hs22.out; omega
                        have nsx : ¬ Bs = Bx := fun h => nxs h.symm
                        have nxm : ¬ Bx = Bm := by have := lt_blk Hm22.out; omega
                        have nmx : ¬ Bm = Bx := fun h => nxm h.symm
                        have lex : W0.heap.size ≤ Bx := by have := HB22.out.size; omega
                        clear hBx
                        clear s0_ s1_ s2_ s3_ sf0_ sf1_ sf2_ sf3_ sn_ sm_ sl_ m0_ m1_ m2_ m3_ mf0_ mf1_ mf2_ mf3_ mn_ mm_ ml_
                        clear hv22 Hs22 Hm22 HB22
                        refine (PM.out _).mono ?_
                        rintro e w23 ⟨yA, yB, yC, yD, rfl, hwy, bb⟩
                        have Hs23 := Lib.hid (blk_call bb Xs)
                        have Hm23 := Lib.hid (blk_call bb Xm)
                        have Hx23 := Lib.hid (blk_call bb Xx)
                        have HB23 := Lib.hid (bel_onto XB bb XB.size)
                        clear Xs Xm Xx XB bb
                        obtain ⟨s0_, s1_, s2_, s3_, sf0_, sf1_, sf2_, sf3_⟩ := at4 Hs23.out
                        have sn_ := ne_blk Hs23.out
                        have sm_ := Ne.symm (a := Bs) sn_
                        have sl_ := lt_blk Hs23.out
                        obtain ⟨m0_, m1_, m2_, m3_, mf0_, mf1_, mf2_, mf3_⟩ := at4 Hm23.out
                        have mn_ := ne_blk Hm23.out
                        have mm_ := Ne.symm (a := Bm) mn_
                        have ml_ := lt_blk Hm23.out
                        obtain ⟨x0_, x1_, x2_, x3_, xf0_, xf1_, xf2_, xf3_⟩ := at4 Hx23.out
                        have xn_ := ne_blk Hx23.out
                        have xm_ := Ne.symm (a := Bx) xn_
                        have xl_ := lt_blk Hx23.out
                        have LS := Lib.hid (fun W => less_any yA yB yC yD tA tB tC tD (M + X) (S + gk) hwy hwt W)
                        rw [show decide (M + X < S + gk) = false from decide_eq_false (by omega)] at LS
                        go_wp2_with fail
                        refine cl_gen ?_
                        intro v23 hv23
                        have Xs : v23.heap[Bs]? = some (.cells #[.int .u64 tA, .int .u64 tB, .int .u64 tC, .int .u64 tD] 48 (0, 0)) := by
                          rw [hv23]
                          (repeat' (first | (with_reducible exact Hs23.out) | (with_reducible exact heap_alloc_new _ _) | (with_reducible exact blk_new (by first | (simp; done) | omega)) | (with_reducible refine blk_drew ?_) | (with_reducible apply put4_0) | (with_reducible apply put4_1) | (with_reducible apply put4_2) | (with_reducible apply put4_3) | (with_reducible refine blk_else (by omega) ?_) | (with_reducible refine blk_old ?_)))
                        have Xm : v23.heap[Bm]? = some (.cells #[.int .u64 yA, .int .u64 yB, .int .u64 yC, .int .u64 yD] 48 (0, 0)) := by
                          rw [hv23]
                          (repeat' (first | (with_reducible exact Hm23.out) | (with_reducible exact heap_alloc_new _ _) | (with_reducible exact blk_new (by first | (simp; done) | omega)) | (with_reducible refine blk_drew ?_) | (with_reducible apply put4_0) | (with_reducible apply put4_1) | (with_reducible apply put4_2) | (with_reducible apply put4_3) | (with_reducible refine blk_else (by omega) ?_) | (with_reducible refine blk_old ?_)))
                        have Xx : v23.heap[Bx]? = some (.cells #[.int .u64 xA, .int .u64 xB, .int .u64 xC, .int .u64 xD] 48 (0, 0)) := by
                          rw [hv23]
                          (repeat' (first | (with_reducible exact Hx23.out) | (with_reducible exact heap_alloc_new _ _) | (with_reducible exact blk_new (by first | (simp; done) | omega)) | (with_reducible refine blk_drew ?_) | (with_reducible apply put4_0) | (with_reducible apply put4_1) | (with_reducible apply put4_2) | (with_reducible apply put4_3) | (with_reducible refine blk_else (by omega) ?_) | (with_reducible refine blk_old ?_)))
                        have XB : Below W0.heap.size W0 v23 := by
                          rw [hv23]
                          (repeat' (first | (with_reducible exact HB23.out) | (with_reducible exact Below.refl _ _) | (with_reducible refine below_drewN _ ?_) | (with_reducible refine Below.drew ?_) | (with_reducible refine Below.setCell ?_ (by first | (simp; done) | omega) _) | (with_reducible refine Below.alloc ?_ (by have := HB23.out.size; simp; omega) _)))
                        clear s0_ s1_ s2_ s3_ sf0_ sf1_ sf2_ sf3_ sn_ sm_ sl_ m0_ m1_ m2_ m3_ mf0_ mf1_ mf2_ mf3_ mn_ mm_ ml_ x0_ x1_ x2_ x3_ xf0_ xf1_ xf2_ xf3_ xn_ xm_ xl_
                        clear hv23 Hs23 Hm23 Hx23 HB23
                        refine (LS.out _).mono ?_
                        rintro e w24 ⟨rfl, bb⟩
                        have Hs24 := Lib.hid (blk_call bb Xs)
                        have Hm24 := Lib.hid (blk_call bb Xm)
                        have Hx24 := Lib.hid (blk_call bb Xx)
                        have HB24 := Lib.hid (bel_onto XB bb XB.size)
                        clear Xs Xm Xx XB bb
                        obtain ⟨s0_, s1_, s2_, s3_, sf0_, sf1_, sf2_, sf3_⟩ := at4 Hs24.out
                        have sn_ := ne_blk Hs24.out
                        have sm_ := Ne.symm (a := Bs) sn_
                        have sl_ := lt_blk Hs24.out
                        obtain ⟨m0_, m1_, m2_, m3_, mf0_, mf1_, mf2_, mf3_⟩ := at4 Hm24.out
                        have mn_ := ne_blk Hm24.out
                        have mm_ := Ne.symm (a := Bm) mn_
                        have ml_ := lt_blk Hm24.out
                        obtain ⟨x0_, x1_, x2_, x3_, xf0_, xf1_, xf2_, xf3_⟩ := at4 Hx24.out
                        have xn_ := ne_blk Hx24.out
                        have xm_ := Ne.symm (a := Bx) xn_
                        have xl_ := lt_blk Hx24.out
                        go_wp2
                        go_roundw
                        case rel =>
                          refine ⟨u + 1 + 1, tA, tB, tC, tD, yA, yB, yC, yD, by first | rfl | go_num, by omega, by rw [E1.out]; exact hwt, by rw [E2.out]; exact hwy, by rw [E2.out]; omega, ?_, ?_, ?_⟩
                          · (repeat' (first | (with_reducible exact Hs24.out) | (with_reducible exact heap_alloc_new _ _) | (with_reducible exact blk_new (by first | (simp; done) | omega)) | (with_reducible refine blk_drew ?_) | (with_reducible apply put4_0) | (with_reducible apply put4_1) | (with_reducible apply put4_2) | (with_reducible apply put4_3) | (with_reducible refine blk_else (by omega) ?_) | (with_reducible refine blk_old ?_)))
                          · (repeat' (first | (with_reducible exact Hm24.out) | (with_reducible exact heap_alloc_new _ _) | (with_reducible exact blk_new (by first | (simp; done) | omega)) | (with_reducible refine blk_drew ?_) | (with_reducible apply put4_0) | (with_reducible apply put4_1) | (with_reducible apply put4_2) | (with_reducible apply put4_3) | (with_reducible refine blk_else (by omega) ?_) | (with_reducible refine blk_old ?_)))
                          · (repeat' (first | (with_reducible exact HB24.out) | (with_reducible exact Below.refl _ _) | (with_reducible refine below_drewN _ ?_) | (with_reducible refine Below.drew ?_) | (with_reducible refine Below.setCell ?_ (by first | (simp; done) | omega) _) | (with_reducible refine Below.alloc ?_ (by have := HB24.out.size; simp; omega) _)))
                        case measure => simp [intOf] <;> omega
                · go_wp2
                  go_roundw
                  case rel => exact ⟨i + 1, by go_num, by omega, xb_⟩
                  case measure => simp [intOf] <;> omega
            · obtain rfl : i = j := by omega
              have HB9 := Lib.hid (bel_onto HB9.out hb HB9.out.size)
              clear hb
              go_wp2_with fail
              refine cl_gen ?_
              intro v9 hv9
              have XB : Below w.heap.size w v9 := by
                rw [hv9]
                (repeat' (first | (with_reducible exact HB9.out) | (with_reducible exact Below.refl _ _) | (with_reducible refine below_drewN _ ?_) | (with_reducible refine Below.drew ?_) | (with_reducible refine Below.setCell ?_ (by first | (simp; done) | omega) _) | (with_reducible refine Below.alloc ?_ (by have := HB9.out.size; simp; omega) _)))
              clear hv9 HB9
              refine (LV.out _).mono ?_
              rintro e w10 ⟨rfl, bb⟩
              have HB10 := Lib.hid (bel_onto XB bb XB.size)
              clear XB bb
              go_wp2
              go_ret
              exact ⟨rfl, HB10.out⟩
  · rw [if_neg hk] at NW
    generalize bck r b b = q at *
    have g1 : (q != 0) = true := by simp [hk]
    clear hr hk
    go_enter Try.func4, Try.ntmps4
    go_wp2_with fail
    refine cl_gen ?_
    intro v0 hv0
    have XB : Below w.heap.size w v0 := by
      rw [hv0]
      (repeat' (first | (with_reducible exact Below.refl _ _) | (with_reducible assumption) | (with_reducible refine below_drewN _ ?_) | (with_reducible refine Below.drew ?_) | (with_reducible refine Below.setCell ?_ (by simp) _) | (with_reducible refine Below.alloc ?_ (by simp; try omega) _)))
    clear hv0
    refine (NW.out _).mono ?_
    rintro e w1 ⟨rfl, bb⟩
    have HB1 := Lib.hid (bel_onto XB bb XB.size)
    clear XB bb
    go_wp2_with fail
    refine cl_gen ?_
    intro v1 hv1
    have XB : Below w.heap.size w v1 := by
      rw [hv1]
      (repeat' (first | (with_reducible exact HB1.out) | (with_reducible exact Below.refl _ _) | (with_reducible refine below_drewN _ ?_) | (with_reducible refine Below.drew ?_) | (with_reducible refine Below.setCell ?_ (by first | (simp; done) | omega) _) | (with_reducible refine Below.alloc ?_ (by have := HB1.out.size; simp; omega) _)))
    clear hv1 HB1
    refine (LV.out _).mono ?_
    rintro e w2 ⟨rfl, bb⟩
    have HB2 := Lib.hid (bel_onto XB bb XB.size)
    clear XB bb
    go_wp2
    go_ret
    exact ⟨rfl, HB2.out⟩
end Go.Proofs.Ytgmdhanbeafagaa
