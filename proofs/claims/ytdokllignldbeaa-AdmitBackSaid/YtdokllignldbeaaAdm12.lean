/-
  The law of layer 17 on what comes in and goes out again: true for any configuration and acts. No condition.
-/
import Derived.Test.YtdokllignldbeaaAdm6
import Derived.Test.YtdokllignldbeaaAdm11
import Derived.Test.YtdokllignldbeaaOpen17
import Derived.Deep.CutBlock
import Derived.Deep.DeepCutAuto
namespace Go.Proofs.Ytdokllignldbeaa
set_option linter.unusedVariables false
set_option linter.unusedSimpArgs false
open Go.ChangeShapes Go.WideShapes Go.ChangeAt Go.RowKit
attribute [local go_sem] alloc_drewN setCell_drewN

theorem act_at {w : World} {b : Nat} {v0 v1 v2 : Value} {t : TypeId} (h : w.heap[b]? = some (.cells #[v0, v1, v2] t (0, 0))) : w.cell? ⟨b, 0, none⟩ = some v0 ∧ w.cell? ⟨b, 1, none⟩ = some v1 ∧ w.cell? ⟨b, 2, none⟩ = some v2 :=
  ⟨cell_of_row w b 0 _ _ (0, 0) h, cell_of_row w b 1 _ _ (0, 0) h, cell_of_row w b 2 _ _ (0, 0) h⟩
theorem four_at (w : World) (A B C D : Obj) : ((((w.alloc A).alloc B).alloc C).alloc D).heap[w.heap.size]? = some A ∧ ((((w.alloc A).alloc B).alloc C).alloc D).heap[w.heap.size + 1 + 1]? = some C ∧ ((((w.alloc A).alloc B).alloc C).alloc D).heap[w.heap.size + 1 + 1 + 1]? = some D ∧ Below w.heap.size w ((((w.alloc A).alloc B).alloc C).alloc D) := by
  have hD := alloc_two ((w.alloc A).alloc B) C D
  have hC := alloc_two (w.alloc A) B C
  rw [show ((w.alloc A).alloc B).heap.size = w.heap.size + 1 + 1 by simp] at hD
  rw [show (w.alloc A).heap.size = w.heap.size + 1 by simp] at hC
  refine ⟨(heap_alloc_old _ _ (by simp; omega)).trans ((heap_alloc_old _ _ (by simp; omega)).trans ((heap_alloc_old _ _ (by simp)).trans (heap_alloc_new w A))), (heap_alloc_old _ _ (by simp)).trans hC, hD, ?_⟩
  exact ((((Below.refl _ w).alloc (Nat.le_refl _) _).alloc (by simp) _).alloc (by simp; omega) _).alloc (by simp; omega) _
set_option maxRecDepth 100000 in
set_option maxHeartbeats 4000000 in
theorem back17_at (r bk lv qu pk by_ sh mtu rate burst : Int) (a : Option Addr) (n cc : Nat) (fs : List Fl) (b0 : 0 ≤ by_) (b1 : by_ ≤ 18446744073709551615) (m0 : 0 ≤ mtu) (aa : Option Addr) (nn ca : Nat) (as_ : List Act17) (x0 x1 x2 x3 x4 x5 : Int) (y0 : 0 ≤ x2) (y1 : x2 ≤ 18446744073709551615) (y2 : 0 ≤ x5) (y3 : x5 ≤ 18446744073709551615) (w : World) (hr : RowFl w a n fs) (ha : RowA17 w aa nn as_) (hnn : nn ≤ 200) :
    Calls Try.prog 5 #[.agg #[.int .i64 r, .int .i64 bk, .int .i64 lv, .int .i64 qu, .int .i64 pk, .int .u64 by_, .int .i64 sh, .int .u64 mtu, .int .u64 rate, .int .u64 burst, .slice a n cc], .slice aa nn ca, .agg #[.int .u8 x0, .int .u32 x1, .int .u64 x2, .int .u8 x3, .int .u32 x4, .int .u64 x5]] w fun e w' => e = .returned (.bool true) ∧ Below w.heap.size w w' := by
  have HR := Lib.hid hr
  have HA := Lib.hid ha
  clear hr ha
  have h200 : (nn : Int) ≤ 200 := by omega
  go_enter Try.func5, Try.ntmps5
  go_upto_region 1 with (fail)
  go_cut [7, 8] (fun x y wx => ∃ p q, x = .pointer (some ⟨p, 0, none⟩) ∧ y = .pointer (some ⟨q, 0, none⟩) ∧ wx.heap[p]? = some (.cells #[.int .u8 x0, .int .u32 x1, .int .u64 x2] 38 (0, 0)) ∧ wx.heap[q]? = some (.cells #[.int .u8 x3, .int .u32 x4, .int .u64 x5] 38 (0, 0)) ∧ wx.heap[w.heap.size]? = some (.cells #[.int .i64 r, .int .i64 bk, .int .i64 lv, .int .i64 qu, .int .i64 pk, .int .u64 by_, .int .i64 sh, .int .u64 mtu, .int .u64 rate, .int .u64 burst, .slice a n cc] 25 (0, 0)) ∧ Below w.heap.size w wx)
  case first =>
    go_region
    all_goals go_wp2
    all_goals go_meet
    · obtain ⟨z0, z1, z2, zb⟩ := four_at w (.cells #[.int .i64 r, .int .i64 bk, .int .i64 lv, .int .i64 qu, .int .i64 pk, .int .u64 by_, .int .i64 sh, .int .u64 mtu, .int .u64 rate, .int .u64 burst, .slice a n cc] 25) (.cells #[.int .u8 x0, .int .u32 x1, .int .u64 x2, .int .u8 x3, .int .u32 x4, .int .u64 x5] 48) (.cells #[.int .u8 x0, .int .u32 x1, .int .u64 x2] 38) (.cells #[.int .u8 x3, .int .u32 x4, .int .u64 x5] 38)
      exact ⟨_, _, rfl, rfl, z1, z2, z0, zb.drew⟩
    · obtain ⟨z0, z1, z2, zb⟩ := four_at w (.cells #[.int .i64 r, .int .i64 bk, .int .i64 lv, .int .i64 qu, .int .i64 pk, .int .u64 by_, .int .i64 sh, .int .u64 mtu, .int .u64 rate, .int .u64 burst, .slice a n cc] 25) (.cells #[.int .u8 x0, .int .u32 x1, .int .u64 x2, .int .u8 x3, .int .u32 x4, .int .u64 x5] 48) (.cells #[.int .u8 x3, .int .u32 x4, .int .u64 x5] 38) (.cells #[.int .u8 x0, .int .u32 x1, .int .u64 x2] 38)
      exact ⟨_, _, rfl, rfl, z2, z1, z0, zb.drew⟩
  obtain ⟨p, q, rfl, rfl, hp, hq, hc, bb⟩ := hcut
  generalize wc = wy at *
  have HP := Lib.hid hp; have HQ := Lib.hid hq; have HC := Lib.hid hc; have BB := Lib.hid bb
  have NW := Lib.hid (anew r bk lv qu pk by_ sh mtu rate burst a n cc fs b0 b1 m0 wy (rowfl_below HR.out bb))
  obtain ⟨c0, c1, c2, c3, c4, c5, c6, c7, c8, c9, c10⟩ := cells11 hc
  clear hp hq hc bb
  go_wp2_with fail
  refine NW.out.mono ?_
  rintro e w1 ⟨bn, (⟨hk, rfl⟩ | ⟨hk, base, G, T, v, es, bl, ds, rfl, l1, l2, g1, hall, hdat⟩)⟩
  · generalize chkC pk by_ sh mtu n fs = k at *
    have gk1 : (k == 0) = false := by simp [hk]
    have gk2 : (k != 0) = true := by simp [hk]
    have HBE := Lib.hid (below_onto BB.out bn BB.out.size)
    clear hk bn NW c0 c1 c2 c3 c4 c5 c6 c7 c8 c9 c10
    go_wp2_with fail
    refine (lives17 _).mono ?_
    rintro e w9 ⟨rfl, b9⟩
    have HB9 := Lib.hid (below_onto HBE.out b9 HBE.out.size)
    clear b9
    go_wp2
    go_ret
    exact ⟨rfl, HB9.out⟩
  · have OK1 := Lib.hid (AdOk.mk g1 (fun e he => by rw [(hdat e he).2.1]; exact (g1.dat e he).2.2.2.2.2.1) (by have := g1.cok.1.1; omega) (by have := g1.cok.2.1.1; omega))
    have HP1 := Lib.hid ((bn.block p (Array.getElem?_eq_some_iff.1 HP.out).1).trans HP.out)
    have HQ1 := Lib.hid ((bn.block q (Array.getElem?_eq_some_iff.1 HQ.out).1).trans HQ.out)
    have PL := Lib.hid (Nat.lt_of_lt_of_le (Array.getElem?_eq_some_iff.1 HP.out).1 l1)
    have QL := Lib.hid (Nat.lt_of_lt_of_le (Array.getElem?_eq_some_iff.1 HQ.out).1 l1)
    have HB1 := Lib.hid (below_onto BB.out bn BB.out.size)
    have L2 := Lib.hid l2
    have L0 := Lib.hid (show w.heap.size ≤ base from Nat.le_trans BB.out.size l1)
    clear hk bn g1 hall hdat l1 l2 NW c0 c1 c2 c3 c4 c5 c6 c7 c8 c9 c10
    go_wp2
    go_loopw [40] (fun x wr => ∃ (i : Nat) (d' : Int → Dt) (tp tb : Int), x = .int .i64 i ∧ i ≤ nn ∧ AdOk wr base G T n v es bl d' ⟨pk, by_, sh, mtu⟩ tp tb ∧ base ≤ wr.heap.size ∧ Below base w1 wr) (fun x _ => nn - (intOf x).toNat)
    case atStart => exact ⟨0, ds, 0, 0, rfl, Nat.zero_le _, OK1.out, L2.out, Below.refl _ _⟩
    case round =>
      obtain ⟨i, d', tp, tb, rfl, hi, ok, hbs, hb⟩ := hrel
      by_cases hlt : i < nn
      · obtain ⟨hzl, hzm, hzw, hzc⟩ := HA.out
        obtain ⟨b, off, rfl, hb0, hc⟩ := hzc (by omega)
        obtain ⟨e0, e1, e2⟩ := hc i hlt
        have hbw := HB1.out.trans (hb.mono L0.out)
        have f0 := (hbw.cell (p := ⟨b, off + i * 3, none⟩) hb0).trans e0
        have f1 := (hbw.cell (p := ⟨b, off + i * 3 + 1, none⟩) hb0).trans e1
        have f2 := (hbw.cell (p := ⟨b, off + i * 3 + 2, none⟩) hb0).trans e2
        have hxw : (as_.getD i Act17.nil).ok := hzw _ (by rw [List.getD_eq_getElem?_getD, List.getElem?_eq_getElem (by omega : i < as_.length)]; exact List.getElem_mem _)
        generalize as_.getD i Act17.nil = x at *
        obtain ⟨xk, xd, xn⟩ := x
        obtain ⟨-, -, s0, s1⟩ := hxw
        dsimp only at s0 s1 f0 f1 f2
        have AB := (Below.refl wr.heap.size wr).alloc (Nat.le_refl _) (.cells #[.int .u8 xk, .int .u32 xd, .int .u64 xn] 38)
        have IN := Lib.hid (ain_any (ok.below AB) (Nat.le_trans hbs AB.size) xd xn s0 s1)
        have ABH := Lib.hid (hb.trans (AB.mono hbs))
        have HS := Lib.hid (Nat.le_trans hbs AB.size)
        clear ok hbs hb AB hbw e0 e1 e2 hc hzc hzw hzl hzm
        go_wp2_with fail
        refine IN.out.mono ?_
        rintro e w2 ⟨rfl, b2, d2, tp2, tb2, ok2, -⟩
        have OK2 := Lib.hid ok2
        have B2 := Lib.hid (ABH.out.trans b2)
        have S2 := Lib.hid (Nat.le_trans HS.out b2.size)
        clear ok2 b2 IN f0 f1 f2
        go_wp2
        go_roundw
        case rel => exact ⟨i + 1, d2, tp2, tb2, by go_num, by omega, OK2.out, S2.out, B2.out⟩
        case measure => simp [intOf] <;> omega
      · have OK := Lib.hid ok; have HBS := Lib.hid hbs; have HB := Lib.hid hb
        have P3 := Lib.hid ((hb.block p PL.out).trans HP1.out)
        have Q3 := Lib.hid ((hb.block q QL.out).trans HQ1.out)
        have HBW := Lib.hid (HB1.out.trans (hb.mono L0.out))
        obtain ⟨u0_, u1_, u2_⟩ := act_at P3.out
        obtain ⟨v0_, v1_, v2_⟩ := act_at Q3.out
        clear ok hbs hb
        obtain ⟨K, hMC⟩ : ∃ K, mayC ⟨pk, by_, sh, mtu⟩ (isF (es.map FeP.id) x4) tp tb (d' x4) x5 = K := ⟨_, rfl⟩
        have OK0 := OK; have P0 := P3; have Q0 := Q3; have HB0 := HBW; have HS0 := HBS
        clear OK P3 Q3 HBW HBS
        go_wp2_with fail
        refine (atotal OK0.out.at_.gk).mono ?_
        rintro e wt1 ⟨rfl, q1, hw_⟩
        have bw_ := (show Below wr.heap.size wr wt1 by rw [hw_]; exact below_drewN _ (Below.refl _ _))
        have OK1 := Lib.hid (OK0.out.below bw_)
        have P1 := Lib.hid ((bw_.block p (Array.getElem?_eq_some_iff.1 P0.out).1).trans P0.out)
        have Q1 := Lib.hid ((bw_.block q (Array.getElem?_eq_some_iff.1 Q0.out).1).trans Q0.out)
        have HB1 := Lib.hid (below_onto HB0.out bw_ HB0.out.size)
        have HS1 := Lib.hid (Nat.le_trans HS0.out bw_.size)
        clear bw_
        clear u0_ u1_ u2_ v0_ v1_ v2_
        obtain ⟨u0_, u1_, u2_⟩ := act_at P1.out
        obtain ⟨v0_, v1_, v2_⟩ := act_at Q1.out
        clear hw_
        have MY := Lib.hid (amay OK1.out.at_ x4 x5 y2 y3)
        rw [hMC] at MY
        have HMC := Lib.hid hMC
        clear hMC
        go_wp2_with fail
        refine MY.out.mono ?_
        rintro e wm2 ⟨rfl, bm_⟩
        have bw_ := bm_
        have OK2 := Lib.hid (OK1.out.below bw_)
        have P2 := Lib.hid ((bw_.block p (Array.getElem?_eq_some_iff.1 P1.out).1).trans P1.out)
        have Q2 := Lib.hid ((bw_.block q (Array.getElem?_eq_some_iff.1 Q1.out).1).trans Q1.out)
        have HB2 := Lib.hid (below_onto HB1.out bw_ HB1.out.size)
        have HS2 := Lib.hid (Nat.le_trans HS1.out bw_.size)
        clear bw_
        clear u0_ u1_ u2_ v0_ v1_ v2_
        obtain ⟨u0_, u1_, u2_⟩ := act_at P2.out
        obtain ⟨v0_, v1_, v2_⟩ := act_at Q2.out
        clear bm_ MY
        have KP := HMC
        have hMC := KP.out
        by_cases hm : mayC ⟨pk, by_, sh, mtu⟩ (isF (es.map FeP.id) x1) tp tb (d' x1) x2 = 0
        · have IN := Lib.hid (ain_ok OK2.out.at_ HS2.out x1 x2 y0 y1 hm)
          have pk0 : 0 ≤ (d' x1).pk := by
            obtain ⟨e0, he0, hi0, -⟩ := entry_of (roomC_found (mayC_room hm)).1
            have := OK2.out.at_.nn e0 he0
            rwa [hi0] at this
          have by0 : 0 ≤ (d' x1).by_ := (OK2.out.at_.find (roomC_found (mayC_room hm)).1).2.2.2.1.1
          have HF := Lib.hid (roomC_found (mayC_room hm)).1
          clear hm hMC
          go_wp2_with fail
          refine IN.out.mono ?_
          rintro e wi ⟨rfl, gi, bi⟩
          have PI := Lib.hid ((bi.block p PL.out).trans P2.out)
          have QI := Lib.hid ((bi.block q QL.out).trans Q2.out)
          have HSI := Lib.hid (Nat.le_trans HS2.out bi.size)
          have OUT := Lib.hid (aout_ok gi HSI.out x1 x2 y0 y1 HF.out (by rw [updD_at]; show (d' x1).pk + 1 ≠ 0; omega) (by rw [updD_at]; show x2 ≤ (d' x1).by_ + x2; omega))
          have HBI := Lib.hid (HB2.out.trans (bi.mono L0.out))
          clear gi bi IN u0_ u1_ u2_ v0_ v1_ v2_
          obtain ⟨u0_, u1_, u2_⟩ := act_at PI.out
          obtain ⟨v0_, v1_, v2_⟩ := act_at QI.out
          go_wp2_with fail
          refine OUT.out.mono ?_
          rintro e wo ⟨rfl, go_, bo⟩
          rw [back_same, show tp + 1 - 1 = tp by omega, show tb + x2 - x2 = tb by omega] at go_
          have OK3 := Lib.hid (AdOk.mk go_ OK2.out.own OK2.out.pk OK2.out.by_)
          have P3 := Lib.hid ((bo.block p PL.out).trans PI.out)
          have Q3 := Lib.hid ((bo.block q QL.out).trans QI.out)
          have HS3 := Lib.hid (Nat.le_trans HSI.out bo.size)
          have HB3 := Lib.hid (HBI.out.trans (bo.mono L0.out))
          clear go_ bo OUT u0_ u1_ u2_ v0_ v1_ v2_
          obtain ⟨u0_, u1_, u2_⟩ := act_at P3.out
          obtain ⟨v0_, v1_, v2_⟩ := act_at Q3.out
          have hMC := KP.out
          go_wp2_with fail
          refine (atotal OK3.out.at_.gk).mono ?_
          rintro e wt4 ⟨rfl, q4, hw_⟩
          have bw_ := (show Below wo.heap.size wo wt4 by rw [hw_]; exact below_drewN _ (Below.refl _ _))
          have OK4 := Lib.hid (OK3.out.below bw_)
          have P4 := Lib.hid ((bw_.block p (Array.getElem?_eq_some_iff.1 P3.out).1).trans P3.out)
          have Q4 := Lib.hid ((bw_.block q (Array.getElem?_eq_some_iff.1 Q3.out).1).trans Q3.out)
          have HB4 := Lib.hid (below_onto HB3.out bw_ HB3.out.size)
          have HS4 := Lib.hid (Nat.le_trans HS3.out bw_.size)
          clear bw_
          clear u0_ u1_ u2_ v0_ v1_ v2_
          obtain ⟨u0_, u1_, u2_⟩ := act_at P4.out
          obtain ⟨v0_, v1_, v2_⟩ := act_at Q4.out
          clear hw_
          have MY := Lib.hid (amay OK4.out.at_ x4 x5 y2 y3)
          rw [hMC] at MY
          clear hMC
          go_wp2_with fail
          refine MY.out.mono ?_
          rintro e wm5 ⟨rfl, bm_⟩
          have bw_ := bm_
          have OK5 := Lib.hid (OK4.out.below bw_)
          have P5 := Lib.hid ((bw_.block p (Array.getElem?_eq_some_iff.1 P4.out).1).trans P4.out)
          have Q5 := Lib.hid ((bw_.block q (Array.getElem?_eq_some_iff.1 Q4.out).1).trans Q4.out)
          have HB5 := Lib.hid (below_onto HB4.out bw_ HB4.out.size)
          have HS5 := Lib.hid (Nat.le_trans HS4.out bw_.size)
          clear bw_
          clear u0_ u1_ u2_ v0_ v1_ v2_
          obtain ⟨u0_, u1_, u2_⟩ := act_at P5.out
          obtain ⟨v0_, v1_, v2_⟩ := act_at Q5.out
          clear bm_ MY
          go_wp2_with fail
          refine (lives17 _).mono ?_
          rintro e w9 ⟨rfl, b9⟩
          have HB9 := Lib.hid (below_onto HB5.out b9 HB5.out.size)
          clear b9
          go_wp2
          go_ret
          exact ⟨rfl, HB9.out⟩
        · have IN := Lib.hid (ain_no OK2.out.at_ x1 x2 y0 y1 hm)
          generalize mayC ⟨pk, by_, sh, mtu⟩ (isF (es.map FeP.id) x1) tp tb (d' x1) x2 = ki at *
          have gi1 : (ki == 0) = false := by simp [hm]
          clear hm hMC
          go_wp2_with fail
          refine IN.out.mono ?_
          rintro e wo ⟨rfl, bi⟩
          have bw_ := bi
          have OK3 := Lib.hid (OK2.out.below bw_)
          have P3 := Lib.hid ((bw_.block p (Array.getElem?_eq_some_iff.1 P2.out).1).trans P2.out)
          have Q3 := Lib.hid ((bw_.block q (Array.getElem?_eq_some_iff.1 Q2.out).1).trans Q2.out)
          have HB3 := Lib.hid (below_onto HB2.out bw_ HB2.out.size)
          have HS3 := Lib.hid (Nat.le_trans HS2.out bw_.size)
          clear bw_
          clear u0_ u1_ u2_ v0_ v1_ v2_
          obtain ⟨u0_, u1_, u2_⟩ := act_at P3.out
          obtain ⟨v0_, v1_, v2_⟩ := act_at Q3.out
          clear bi IN
          have hMC := KP.out
          go_wp2_with fail
          refine (atotal OK3.out.at_.gk).mono ?_
          rintro e wt4 ⟨rfl, q4, hw_⟩
          have bw_ := (show Below wo.heap.size wo wt4 by rw [hw_]; exact below_drewN _ (Below.refl _ _))
          have OK4 := Lib.hid (OK3.out.below bw_)
          have P4 := Lib.hid ((bw_.block p (Array.getElem?_eq_some_iff.1 P3.out).1).trans P3.out)
          have Q4 := Lib.hid ((bw_.block q (Array.getElem?_eq_some_iff.1 Q3.out).1).trans Q3.out)
          have HB4 := Lib.hid (below_onto HB3.out bw_ HB3.out.size)
          have HS4 := Lib.hid (Nat.le_trans HS3.out bw_.size)
          clear bw_
          clear u0_ u1_ u2_ v0_ v1_ v2_
          obtain ⟨u0_, u1_, u2_⟩ := act_at P4.out
          obtain ⟨v0_, v1_, v2_⟩ := act_at Q4.out
          clear hw_
          have MY := Lib.hid (amay OK4.out.at_ x4 x5 y2 y3)
          rw [hMC] at MY
          clear hMC
          go_wp2_with fail
          refine MY.out.mono ?_
          rintro e wm5 ⟨rfl, bm_⟩
          have bw_ := bm_
          have OK5 := Lib.hid (OK4.out.below bw_)
          have P5 := Lib.hid ((bw_.block p (Array.getElem?_eq_some_iff.1 P4.out).1).trans P4.out)
          have Q5 := Lib.hid ((bw_.block q (Array.getElem?_eq_some_iff.1 Q4.out).1).trans Q4.out)
          have HB5 := Lib.hid (below_onto HB4.out bw_ HB4.out.size)
          have HS5 := Lib.hid (Nat.le_trans HS4.out bw_.size)
          clear bw_
          clear u0_ u1_ u2_ v0_ v1_ v2_
          obtain ⟨u0_, u1_, u2_⟩ := act_at P5.out
          obtain ⟨v0_, v1_, v2_⟩ := act_at Q5.out
          clear bm_ MY
          go_wp2_with fail
          refine (lives17 _).mono ?_
          rintro e w9 ⟨rfl, b9⟩
          have HB9 := Lib.hid (below_onto HB5.out b9 HB5.out.size)
          clear b9
          go_wp2
          go_ret
          exact ⟨rfl, HB9.out⟩
set_option maxRecDepth 100000 in
set_option maxHeartbeats 4000000 in
theorem back17_long (r bk lv qu pk by_ sh mtu rate burst : Int) (a : Option Addr) (n cc : Nat) (fs : List Fl) (b0 : 0 ≤ by_) (b1 : by_ ≤ 18446744073709551615) (m0 : 0 ≤ mtu) (aa : Option Addr) (nn ca : Nat) (as_ : List Act17) (x0 x1 x2 x3 x4 x5 : Int) (y0 : 0 ≤ x2) (y1 : x2 ≤ 18446744073709551615) (y2 : 0 ≤ x5) (y3 : x5 ≤ 18446744073709551615) (w : World) (hr : RowFl w a n fs) (ha : RowA17 w aa nn as_) (hnn : 200 < nn) (hml : nn ≤ maxLen) :
    Calls Try.prog 5 #[.agg #[.int .i64 r, .int .i64 bk, .int .i64 lv, .int .i64 qu, .int .i64 pk, .int .u64 by_, .int .i64 sh, .int .u64 mtu, .int .u64 rate, .int .u64 burst, .slice a n cc], .slice aa nn ca, .agg #[.int .u8 x0, .int .u32 x1, .int .u64 x2, .int .u8 x3, .int .u32 x4, .int .u64 x5]] w fun e w' => e = .returned (.bool true) ∧ Below w.heap.size w w' := by
  have HR := Lib.hid hr
  have HA := Lib.hid ha
  clear hr ha
  unfold maxLen at hml
  have h200 : (200 : Int) < nn := by omega
  go_enter Try.func5, Try.ntmps5
  go_upto_region 1 with (fail)
  go_cut [7, 8] (fun x y wx => ∃ p q, x = .pointer (some ⟨p, 0, none⟩) ∧ y = .pointer (some ⟨q, 0, none⟩) ∧ wx.heap[p]? = some (.cells #[.int .u8 x0, .int .u32 x1, .int .u64 x2] 38 (0, 0)) ∧ wx.heap[q]? = some (.cells #[.int .u8 x3, .int .u32 x4, .int .u64 x5] 38 (0, 0)) ∧ wx.heap[w.heap.size]? = some (.cells #[.int .i64 r, .int .i64 bk, .int .i64 lv, .int .i64 qu, .int .i64 pk, .int .u64 by_, .int .i64 sh, .int .u64 mtu, .int .u64 rate, .int .u64 burst, .slice a n cc] 25 (0, 0)) ∧ Below w.heap.size w wx)
  case first =>
    go_region
    all_goals go_wp2
    all_goals go_meet
    · obtain ⟨z0, z1, z2, zb⟩ := four_at w (.cells #[.int .i64 r, .int .i64 bk, .int .i64 lv, .int .i64 qu, .int .i64 pk, .int .u64 by_, .int .i64 sh, .int .u64 mtu, .int .u64 rate, .int .u64 burst, .slice a n cc] 25) (.cells #[.int .u8 x0, .int .u32 x1, .int .u64 x2, .int .u8 x3, .int .u32 x4, .int .u64 x5] 48) (.cells #[.int .u8 x0, .int .u32 x1, .int .u64 x2] 38) (.cells #[.int .u8 x3, .int .u32 x4, .int .u64 x5] 38)
      exact ⟨_, _, rfl, rfl, z1, z2, z0, zb.drew⟩
    · obtain ⟨z0, z1, z2, zb⟩ := four_at w (.cells #[.int .i64 r, .int .i64 bk, .int .i64 lv, .int .i64 qu, .int .i64 pk, .int .u64 by_, .int .i64 sh, .int .u64 mtu, .int .u64 rate, .int .u64 burst, .slice a n cc] 25) (.cells #[.int .u8 x0, .int .u32 x1, .int .u64 x2, .int .u8 x3, .int .u32 x4, .int .u64 x5] 48) (.cells #[.int .u8 x3, .int .u32 x4, .int .u64 x5] 38) (.cells #[.int .u8 x0, .int .u32 x1, .int .u64 x2] 38)
      exact ⟨_, _, rfl, rfl, z2, z1, z0, zb.drew⟩
  obtain ⟨p, q, rfl, rfl, hp, hq, hc, bb⟩ := hcut
  generalize wc = wy at *
  have HP := Lib.hid hp; have HQ := Lib.hid hq; have HC := Lib.hid hc; have BB := Lib.hid bb
  clear hp hq hc bb
  go_wp2_with fail
  refine (lives17 _).mono ?_
  rintro e w9 ⟨rfl, b9⟩
  have HB9 := Lib.hid (below_onto BB.out b9 BB.out.size)
  clear b9
  go_wp2
  go_ret
  exact ⟨rfl, HB9.out⟩
theorem walk_admitBack (r : Int) (r_lo : -9223372036854775808 ≤ r) (r_hi : r ≤ 9223372036854775807) (bk : Int) (bk_lo : -9223372036854775808 ≤ bk) (bk_hi : bk ≤ 9223372036854775807) (lv : Int) (lv_lo : -9223372036854775808 ≤ lv) (lv_hi : lv ≤ 9223372036854775807) (qu : Int) (qu_lo : -9223372036854775808 ≤ qu) (qu_hi : qu ≤ 9223372036854775807) (pk : Int) (pk_lo : -9223372036854775808 ≤ pk) (pk_hi : pk ≤ 9223372036854775807) (by_ : Int) (by__lo : 0 ≤ by_) (by__hi : by_ ≤ 18446744073709551615) (sh : Int) (sh_lo : -9223372036854775808 ≤ sh) (sh_hi : sh ≤ 9223372036854775807) (mtu : Int) (mtu_lo : 0 ≤ mtu) (mtu_hi : mtu ≤ 18446744073709551615) (rate : Int) (rate_lo : 0 ≤ rate) (rate_hi : rate ≤ 18446744073709551615) (burst : Int) (burst_lo : 0 ≤ burst) (burst_hi : burst ≤ 18446744073709551615) (a : Option Addr) (n cc : Nat) (fs : List Fl) {w : World} (hr : RowFl w a n fs) (hc : n ≤ cc) (aa : Option Addr) (nn ca : Nat) (as_ : List Act17) (ha : RowA17 w aa nn as_) (hca : nn ≤ ca) (x0 : Int) (x0_lo : 0 ≤ x0) (x0_hi : x0 ≤ 255) (x1 : Int) (x1_lo : 0 ≤ x1) (x1_hi : x1 ≤ 4294967295) (x2 : Int) (x2_lo : 0 ≤ x2) (x2_hi : x2 ≤ 18446744073709551615) (x3 : Int) (x3_lo : 0 ≤ x3) (x3_hi : x3 ≤ 255) (x4 : Int) (x4_lo : 0 ≤ x4) (x4_hi : x4 ≤ 4294967295) (x5 : Int) (x5_lo : 0 ≤ x5) (x5_hi : x5 ≤ 18446744073709551615) :
    Calls Try.prog 5 #[.agg #[.int .i64 r, .int .i64 bk, .int .i64 lv, .int .i64 qu, .int .i64 pk, .int .u64 by_, .int .i64 sh, .int .u64 mtu, .int .u64 rate, .int .u64 burst, .slice a n cc], .slice aa nn ca, .agg #[.int .u8 x0, .int .u32 x1, .int .u64 x2, .int .u8 x3, .int .u32 x4, .int .u64 x5]] w fun e w' => e = .returned (.bool true) ∧ Below w.heap.size w w' := by
  by_cases hn : nn ≤ 200
  · exact back17_at r bk lv qu pk by_ sh mtu rate burst a n cc fs by__lo by__hi mtu_lo aa nn ca as_ x0 x1 x2 x3 x4 x5 x2_lo x2_hi x5_lo x5_hi w hr ha hn
  · exact back17_long r bk lv qu pk by_ sh mtu rate burst a n cc fs by__lo by__hi mtu_lo aa nn ca as_ x0 x1 x2 x3 x4 x5 x2_lo x2_hi x5_lo x5_hi w hr ha (by omega) ha.2.1
end Go.Proofs.Ytdokllignldbeaa
