/-
  The law of layer 17 on what may wait: true for any configuration and acts. No condition.
-/
import Derived.Test.YtcieggckmpabnaaAdm6
import Derived.Test.YtcieggckmpabnaaAdm13a
import Derived.Test.YtcieggckmpabnaaOpen17
import Derived.Deep.CutBlock
import Derived.Deep.DeepCutAuto
namespace Go.Proofs.Ytcieggckmpabnaa
set_option linter.unusedVariables false
set_option linter.unusedSimpArgs false
open Go.ChangeShapes Go.WideShapes Go.ChangeAt Go.RowKit
attribute [local go_sem] alloc_drewN setCell_drewN

set_option maxRecDepth 100000 in
set_option maxHeartbeats 4000000 in
theorem never17_long (r bk lv qu pk by_ sh mtu rate burst : Int) (a : Option Addr) (n cc : Nat) (fs : List Fl) (b0 : 0 ≤ by_) (b1 : by_ ≤ 18446744073709551615) (m0 : 0 ≤ mtu) (aa : Option Addr) (nn ca : Nat) (as_ : List Act17) (w : World) (hr : RowFl w a n fs) (ha : RowA17 w aa nn as_) (hnn : 200 < nn) (hml : nn ≤ maxLen) :
    Calls Try.prog 4 #[.agg #[.int .i64 r, .int .i64 bk, .int .i64 lv, .int .i64 qu, .int .i64 pk, .int .u64 by_, .int .i64 sh, .int .u64 mtu, .int .u64 rate, .int .u64 burst, .slice a n cc], .slice aa nn ca] w fun e w' => e = .returned (.bool true) ∧ Below w.heap.size w w' := by
  obtain ⟨W0, hW0⟩ : ∃ W0, w.alloc (.cells #[.int .i64 r, .int .i64 bk, .int .i64 lv, .int .i64 qu, .int .i64 pk, .int .u64 by_, .int .i64 sh, .int .u64 mtu, .int .u64 rate, .int .u64 burst, .slice a n cc] 44) = W0 := ⟨_, rfl⟩
  have hc : W0.heap[w.heap.size]? = some (.cells #[.int .i64 r, .int .i64 bk, .int .i64 lv, .int .i64 qu, .int .i64 pk, .int .u64 by_, .int .i64 sh, .int .u64 mtu, .int .u64 rate, .int .u64 burst, .slice a n cc] 44 (0, 0)) := by rw [← hW0]; exact heap_alloc_new w _
  have bb : Below w.heap.size w W0 := by rw [← hW0]; exact (Below.refl _ w).alloc (Nat.le_refl _) _
  have HC := Lib.hid hc; have BB := Lib.hid bb
  have HR := Lib.hid hr
  have HA := Lib.hid ha
  have NW := Lib.hid (anew r bk lv qu pk by_ sh mtu rate burst a n cc fs b0 b1 m0 W0 (rowfl_below hr bb))
  have W0S := Lib.hid (show w.heap.size < W0.heap.size from (Array.getElem?_eq_some_iff.1 hc).1)
  obtain ⟨c0, c1, c2, c3, c4, c5, c6, c7, c8, c9, c10⟩ := cells11 hc
  clear hc bb hr ha
  unfold maxLen at hml
  have h200 : (200 : Int) < nn := by omega
  go_enter Try.func4, Try.ntmps4
  go_wp2_with fail
  refine (lives17 _).mono ?_
  rintro e w9 ⟨rfl, b9⟩
  have HB9 := Lib.hid (below_onto BB.out b9 BB.out.size)
  clear b9
  go_wp2
  go_ret
  exact ⟨rfl, HB9.out⟩
set_option maxRecDepth 100000 in
set_option maxHeartbeats 4000000 in
theorem never17_at (r bk lv qu pk by_ sh mtu rate burst : Int) (a : Option Addr) (n cc : Nat) (fs : List Fl) (b0 : 0 ≤ by_) (b1 : by_ ≤ 18446744073709551615) (m0 : 0 ≤ mtu) (aa : Option Addr) (nn ca : Nat) (as_ : List Act17) (w : World) (hr : RowFl w a n fs) (ha : RowA17 w aa nn as_) (hnn : nn ≤ 200) :
    Calls Try.prog 4 #[.agg #[.int .i64 r, .int .i64 bk, .int .i64 lv, .int .i64 qu, .int .i64 pk, .int .u64 by_, .int .i64 sh, .int .u64 mtu, .int .u64 rate, .int .u64 burst, .slice a n cc], .slice aa nn ca] w fun e w' => e = .returned (.bool true) ∧ Below w.heap.size w w' := by
  obtain ⟨W0, hW0⟩ : ∃ W0, w.alloc (.cells #[.int .i64 r, .int .i64 bk, .int .i64 lv, .int .i64 qu, .int .i64 pk, .int .u64 by_, .int .i64 sh, .int .u64 mtu, .int .u64 rate, .int .u64 burst, .slice a n cc] 44) = W0 := ⟨_, rfl⟩
  have hc : W0.heap[w.heap.size]? = some (.cells #[.int .i64 r, .int .i64 bk, .int .i64 lv, .int .i64 qu, .int .i64 pk, .int .u64 by_, .int .i64 sh, .int .u64 mtu, .int .u64 rate, .int .u64 burst, .slice a n cc] 44 (0, 0)) := by rw [← hW0]; exact heap_alloc_new w _
  have bb : Below w.heap.size w W0 := by rw [← hW0]; exact (Below.refl _ w).alloc (Nat.le_refl _) _
  have HC := Lib.hid hc; have BB := Lib.hid bb
  have HR := Lib.hid hr
  have HA := Lib.hid ha
  have NW := Lib.hid (anew r bk lv qu pk by_ sh mtu rate burst a n cc fs b0 b1 m0 W0 (rowfl_below hr bb))
  have W0S := Lib.hid (show w.heap.size < W0.heap.size from (Array.getElem?_eq_some_iff.1 hc).1)
  obtain ⟨c0, c1, c2, c3, c4, c5, c6, c7, c8, c9, c10⟩ := cells11 hc
  clear hc bb hr ha
  have h200 : (nn : Int) ≤ 200 := by omega
  go_enter Try.func4, Try.ntmps4
  go_wp2_with fail
  refine NW.out.mono ?_
  rintro e w1 ⟨bn, (⟨hk, rfl⟩ | ⟨hk, base, G, T, v, es, bl, ds, rfl, l1, l2, g1, hall, hdat⟩)⟩
  · generalize chkC pk by_ sh mtu n fs = k at *
    have gk1 : (k == 0) = false := by simp [hk]
    have gk2 : (k != 0) = true := by simp [hk]
    have HBE := Lib.hid (below_onto BB.out bn BB.out.size)
    clear hk bn NW c0 c1 c2 c3 c4 c5 c6 c7 c8 c9 c10
    go_wp2_with fail
    refine (lives17 _).mono ?_
    rintro e w9 ⟨rfl, b9⟩
    have HB9 := Lib.hid (below_onto HBE.out b9 HBE.out.size)
    clear b9
    go_wp2
    go_ret
    exact ⟨rfl, HB9.out⟩
  · have OK1 := Lib.hid (AdOk.mk g1 (fun e he => by rw [(hdat e he).2.1]; exact (g1.dat e he).2.2.2.2.2.1) (by have := g1.cok.1.1; omega) (by have := g1.cok.2.1.1; omega))
    have X1 := Lib.hid ((bn.block _ W0S.out).trans HC.out)
    have CL := Lib.hid (show w.heap.size < base from Nat.lt_of_lt_of_le W0S.out l1)
    have HB1 := Lib.hid (below_onto BB.out bn BB.out.size)
    have L2 := Lib.hid l2
    have L0 := Lib.hid (show w.heap.size ≤ base from Nat.le_of_lt (Nat.lt_of_lt_of_le W0S.out l1))
    have ALL := Lib.hid hall; have DAT := Lib.hid hdat
    have TABC : tabC fs n = 0 := by
      unfold chkC at hk
      split at hk
      · cases hk
      · split at hk
        · cases hk
        · split at hk
          · cases hk
          · exact hk
    have ONE := Lib.hid (show ∀ j, j < n → ∀ k, k < j → (fs.getD j Fl.nil).id ≠ (fs.getD k Fl.nil).id by
      intro j hj k hkj e
      have hd := dupB_iff.2 ⟨j, hj, k, hkj, e⟩
      have ht := TABC
      unfold tabC at ht
      split at ht
      · cases ht
      · split at ht
        · cases ht
        · first | (exact absurd ht (by decide)) | (rw [hd, if_pos rfl] at ht; exact absurd ht (by decide)) | (simp_all))
    have N64 := Lib.hid (show n ≤ 64 by
      have ht := TABC
      unfold tabC at ht
      split at ht
      · cases ht
      · split at ht
        · cases ht
        · omega)
    clear hk bn g1 hall hdat l1 l2 NW TABC
    go_wp2
    clear c0 c1 c2 c3 c4 c5 c6 c7 c8 c9 c10 HC BB W0S h200
    go_loopw [33] (fun x wr => ∃ (i : Nat) (d' : Int → Dt) (tp tb : Int), x = .int .i64 i ∧ i ≤ nn ∧ AdOk wr base G T n v es bl d' ⟨pk, by_, sh, mtu⟩ tp tb ∧ base ≤ wr.heap.size ∧ Below base w1 wr ∧ ∀ e ∈ es, (d' e.id).most = (ds e.id).most) (fun x _ => nn - (intOf x).toNat)
    case atStart => exact ⟨0, ds, 0, 0, rfl, Nat.zero_le _, OK1.out, L2.out, Below.refl _ _, fun e he => rfl⟩
    case round =>
      clear OK1 L2
      obtain ⟨i, d', tp, tb, rfl, hi, ok, hbs, hb, hmo⟩ := hrel
      by_cases hlt : i < nn
      · obtain ⟨hzl, hzm, hzw, hzc⟩ := HA.out
        obtain ⟨b, off, haa, hb0, hc⟩ := hzc (by omega)
        subst haa
        obtain ⟨e0, e1, e2⟩ := hc i hlt
        have hbw := HB1.out.trans (hb.mono L0.out)
        have f0 := (hbw.cell (p := ⟨b, off + i * 3, none⟩) hb0).trans e0
        have f1 := (hbw.cell (p := ⟨b, off + i * 3 + 1, none⟩) hb0).trans e1
        have f2 := (hbw.cell (p := ⟨b, off + i * 3 + 2, none⟩) hb0).trans e2
        have hxw : (as_.getD i Act17.nil).ok := hzw _ (by rw [List.getD_eq_getElem?_getD, List.getElem?_eq_getElem (by omega : i < as_.length)]; exact List.getElem_mem _)
        generalize as_.getD i Act17.nil = x at *
        obtain ⟨xk, xd, xn⟩ := x
        obtain ⟨⟨k0, k1⟩, -, s0, s1⟩ := hxw
        dsimp only at s0 s1 f0 f1 f2 k0 k1
        have AB := (Below.refl wr.heap.size wr).alloc (Nat.le_refl _) (.cells #[.int .u8 xk, .int .u32 xd, .int .u64 xn] 50)
        have IN := Lib.hid (fun hm => ain_anyF (ok.below AB) (Nat.le_trans hbs AB.size) xd xn s0 s1 hm)
        have INO := Lib.hid (fun hm => ain_no (ok.below AB).at_ xd xn s0 s1 hm)
        have OU := Lib.hid (aout_any (ok.below AB) (Nat.le_trans hbs AB.size) xd xn s0 s1)
        have OKR := Lib.hid (ok.below AB)
        have ABH := Lib.hid (hb.trans (AB.mono hbs))
        have HS := Lib.hid (Nat.le_trans hbs AB.size)
        have MO := Lib.hid hmo
        have AC := Lib.hid (heap_alloc_new wr (.cells #[.int .u8 xk, .int .u32 xd, .int .u64 xn] 50))
        have NG := Lib.hid (show wr.heap.size ≠ G from fun e => by have := ok.at_.gk.lt; omega)
        have WB := Lib.hid (show wr.heap.size < (wr.alloc (.cells #[.int .u8 xk, .int .u32 xd, .int .u64 xn] 50)).heap.size by simp)
        have OK0 := Lib.hid ok
        clear ok hbs hb AB hbw e0 e1 e2 hc hzc hzw hzl hzm hmo
        have et : xk.tmod 4 = xk % 4 := Int.tmod_eq_emod_of_nonneg k0
        have q0_ : (i : Int) < nn := by omega
        have q1_ : (0 : Int) ≤ i := by omega
        obtain ⟨z, hz⟩ : ∃ z, xk % 4 = z := ⟨_, rfl⟩
        rw [hz] at et
        have zz : 0 ≤ z ∧ z ≤ 3 := by omega
        obtain ⟨zz0, zz1⟩ := zz
        clear hz
        by_cases h2 : z = 2
        · have gz : (z == 2) = true := by simp [h2]
          clear h2
          go_wp2_with fail
          refine OU.out.mono ?_
          rintro e w2 ⟨kk, rfl, b2, d2, tp2, tb2, ok2, hm2⟩
          have OK2 := Lib.hid ok2
          have M2 := Lib.hid (fun e he => (hm2 e he).trans (MO.out e he))
          have B2 := Lib.hid (ABH.out.trans b2)
          have S2 := Lib.hid (Nat.le_trans HS.out b2.size)
          clear ok2 b2 IN INO OU f0 f1 f2 hm2 OKR ABH HS MO AC NG WB OK0
          obtain ⟨W9, rfl⟩ : ∃ x, x = wr := ⟨_, rfl⟩
          have TT := OK2.out.tells
          have X2 := Lib.hid ((B2.out.block w.heap.size CL.out).trans X1.out)
          have t0_ : decide (tp2 < 0) = false := decide_eq_false (by have := TT.1; omega)
          have t1_ : decide (pk < tp2) = false := decide_eq_false (by have : tp2 ≤ pk := TT.2.1; omega)
          have t2_ : decide (by_ < tb2) = false := decide_eq_false (by have : tb2 ≤ by_ := TT.2.2.1; omega)
          have TL := Lib.hid TT.2.2.2
          clear TT
          go_wp2_with fail
          refine (atotal OK2.out.at_.gk).mono ?_
          rintro e w3 ⟨rfl, q3, hw3⟩
          have b3_ : Below w2.heap.size w2 w3 := by rw [hw3]; exact below_drewN _ (Below.refl _ _)
          have OK3 := Lib.hid (OK2.out.below b3_)
          have S3 := Lib.hid (Nat.le_trans S2.out b3_.size)
          have B3 := Lib.hid (B2.out.trans (b3_.mono S2.out))
          have X3 := Lib.hid ((B3.out.block w.heap.size CL.out).trans X1.out)
          clear hw3 b3_
          obtain ⟨c0, c1, c2, c3, c4, c5, c6, c7, c8, c9, c10⟩ := cells11 X3.out
          go_wp2
          clear c0 c1 c2 c3 c4 c5 c6 c7 c8 c9 c10 t0_ t1_ t2_
          go_loopw [96] (fun x wr => ∃ t : Nat, x = .int .i64 t ∧ t ≤ n ∧ Below w3.heap.size w3 wr) (fun x _ => n - (intOf x).toNat)
          case atStart => exact ⟨0, rfl, Nat.zero_le _, Below.refl _ _⟩
          case round =>
            obtain ⟨t, rfl, ht, hbt⟩ := hrel
            by_cases hlt2 : t < n
            · obtain ⟨gl, gm, gw, gc⟩ := HR.out
              obtain ⟨fb, fo, hfa, hfb, gcell⟩ := gc (by omega)
              subst hfa
              obtain ⟨g0, g1, g2, g3, g4⟩ := gcell t hlt2
              have hbw := HB1.out.trans ((B3.out.trans (hbt.mono S3.out)).mono L0.out)
              have f0 := (hbw.cell (p := ⟨fb, fo + t * 5, none⟩) hfb).trans g0
              have f1 := (hbw.cell (p := ⟨fb, fo + t * 5 + 1, none⟩) hfb).trans g1
              have f2 := (hbw.cell (p := ⟨fb, fo + t * 5 + 2, none⟩) hfb).trans g2
              have f3 := (hbw.cell (p := ⟨fb, fo + t * 5 + 3, none⟩) hfb).trans g3
              have f4 := (hbw.cell (p := ⟨fb, fo + t * 5 + 4, none⟩) hfb).trans g4
              obtain ⟨e, he, hid⟩ := ALL.out t hlt2
              obtain ⟨z1, z2, z3, z4⟩ := TL.out e he
              have cap_ : (d2 e.id).most = (fs.getD t Fl.nil).cp := by
                obtain ⟨-, -, j, hj, hji, hjm⟩ := DAT.out e he
                rw [M2.out e he, hjm]
                have : j = t := by
                  rcases Nat.lt_trichotomy j t with h | h | h
                  · exact absurd (hid.symm.trans hji.symm) (ONE.out t hlt2 j h)
                  · exact h
                  · exact absurd (hji.trans hid) (ONE.out j hj t h)
                rw [this]
              rw [hid] at z1 z2 z3 z4 cap_
              rw [cap_] at z1
              have AB := (Below.refl wr.heap.size wr).alloc (Nat.le_refl _) (.cells #[.int .u32 (fs.getD t Fl.nil).id, .int .u64 (fs.getD t Fl.nil).co, .int .u64 (fs.getD t Fl.nil).bu, .int .u64 (fs.getD t Fl.nil).sz, .int .u64 (fs.getD t Fl.nil).cp] 56)
              have OW := Lib.hid (aown_at (OK3.out.at_.below (below_onto hbt AB hbt.size)) (fs.getD t Fl.nil).id (by rw [← hid]; exact (mem_isFP OK3.out.at_.tab.so he).1))
              have BT := Lib.hid (below_onto hbt AB hbt.size)
              clear hbt AB hbw g0 g1 g2 g3 g4 gcell gc gw gl gm he hid cap_
              generalize fs.getD t Fl.nil = F at *
              obtain ⟨fid, fco, fbu, fsz, fcp⟩ := F
              dsimp only at z1 z2 z3 z4 OW BT f0 f1 f2 f3 f4
              generalize d2 fid = dd at *
              obtain ⟨dp, db, dm⟩ := dd
              dsimp only at z1 z2 z3 z4 OW
              have m0_ : decide (fcp < db) = false := decide_eq_false (by omega)
              have m1_ : decide (dp < 0) = false := decide_eq_false (by omega)
              have m2_ : decide (tp2 < dp) = false := decide_eq_false (by omega)
              have m3_ : decide (tb2 < db) = false := decide_eq_false (by omega)
              have q0_ : (t : Int) < n := by omega
              have q1_ : (0 : Int) ≤ t := by omega
              go_wp2_with fail
              refine OW.out.mono ?_
              rintro e wo ⟨rfl, bo⟩
              have fl4 : wo.cell? ⟨wr.heap.size, 4, none⟩ = some (.int .u64 fcp) := (bo.cell (p := ⟨wr.heap.size, 4, none⟩) (by simp)).trans (by simp [go_sem])
              have BO := Lib.hid (below_onto BT.out bo BT.out.size)
              have n64_ := N64.out
              clear bo OW f0 f1 f2 f3 f4
              go_wp2
              go_roundw
              case rel => exact ⟨t + 1, by go_num, by omega, BO.out⟩
              case measure => simp [intOf] <;> omega
            · obtain rfl : t = n := by omega
              have B4 := Lib.hid (B3.out.trans (hbt.mono S3.out))
              have OK4 := Lib.hid (OK3.out.below hbt)
              have S4 := Lib.hid (Nat.le_trans S3.out hbt.size)
              clear hbt
              go_wp2
              go_roundw
              case rel => exact ⟨i + 1, d2, tp2, tb2, by go_num, by omega, OK4.out, S4.out, B4.out, M2.out⟩
              case measure => simp [intOf] <;> omega
        · have gz : (z == 2) = false := by simp [h2]
          clear h2
          by_cases hm : mayC ⟨pk, by_, sh, mtu⟩ (isF (es.map FeP.id) xd) tp tb (d' xd) xn = 0
          · have rf := roomC_found (mayC_room hm)
            obtain ⟨ef, hef, hei, -⟩ := entry_of rf.1
            obtain ⟨-, -, jf, hjf, hjid, -⟩ := DAT.out ef hef
            obtain ⟨kf, hkf, hkid, hkall⟩ := first_of jf hjf (hjid.trans hei)
            have FD := Lib.hid (fun (u : World) (hu : Below w.heap.size w u) => find16_at (rowfl_below HR.out hu) cc (by have := N64.out; omega) xd kf hkf hkid hkall)
            have gn : (xn == 0) = false := by simp; omega
            have rm : xn ≤ mtu := rf.2.2.1
            have gm : decide (mtu < xn) = false := decide_eq_false (by omega)
            have gf : decide ((kf : Int) < 0) = false := decide_eq_false (by omega)
            have NB := Lib.hid (show wr.heap.size ≠ bl xd from fun e => by have := (OK0.out.at_.find rf.1).2.1.lt; omega)
            have IN := Lib.hid (IN.out hm)
            clear hm rf hef hei hjf hjid hkall hkid rm INO OU
            go_wp2_with fail
            refine IN.out.mono ?_
            rintro e w2 ⟨rfl, b2, fr2, d2, tp2, tb2, ok2, hm2⟩
            have OK2 := Lib.hid ok2
            have M2 := Lib.hid (fun e he => (hm2 e he).trans (MO.out e he))
            have B2 := Lib.hid (ABH.out.trans b2)
            have S2 := Lib.hid (Nat.le_trans HS.out b2.size)
            have X0 := Lib.hid ((B2.out.block w.heap.size CL.out).trans X1.out)
            have BW := Lib.hid (HB1.out.trans (B2.out.mono L0.out))
            have YC := Lib.hid ((fr2 _ WB.out NG.out NB.out).trans AC.out)
            clear ok2 b2 IN f0 f1 f2 hm2 OKR ABH HS MO AC NG WB OK0 NB fr2
            obtain ⟨W9, rfl⟩ : ∃ x, x = wr := ⟨_, rfl⟩
            have y1 := cell_of_row w2 _ 1 _ _ (0, 0) YC.out
            have y2 := cell_of_row w2 _ 2 _ _ (0, 0) YC.out
            obtain ⟨c0, c1, c2, c3, c4, c5, c6, c7, c8, c9, c10⟩ := cells11 X0.out
            go_wp2_with fail
            refine (FD.out _ BW.out).mono ?_
            rintro e w2 ⟨rfl, rfl⟩
            clear y1 y2 X0 BW YC FD c0 c1 c2 c3 c4 c5 c6 c7 c8 c9 c10
            have TT := OK2.out.tells
            have X2 := Lib.hid ((B2.out.block w.heap.size CL.out).trans X1.out)
            have t0_ : decide (tp2 < 0) = false := decide_eq_false (by have := TT.1; omega)
            have t1_ : decide (pk < tp2) = false := decide_eq_false (by have : tp2 ≤ pk := TT.2.1; omega)
            have t2_ : decide (by_ < tb2) = false := decide_eq_false (by have : tb2 ≤ by_ := TT.2.2.1; omega)
            have TL := Lib.hid TT.2.2.2
            clear TT
            go_wp2_with fail
            refine (atotal OK2.out.at_.gk).mono ?_
            rintro e w3 ⟨rfl, q3, hw3⟩
            have b3_ : Below w2.heap.size w2 w3 := by rw [hw3]; exact below_drewN _ (Below.refl _ _)
            have OK3 := Lib.hid (OK2.out.below b3_)
            have S3 := Lib.hid (Nat.le_trans S2.out b3_.size)
            have B3 := Lib.hid (B2.out.trans (b3_.mono S2.out))
            have X3 := Lib.hid ((B3.out.block w.heap.size CL.out).trans X1.out)
            clear hw3 b3_
            obtain ⟨c0, c1, c2, c3, c4, c5, c6, c7, c8, c9, c10⟩ := cells11 X3.out
            go_wp2
            clear c0 c1 c2 c3 c4 c5 c6 c7 c8 c9 c10 t0_ t1_ t2_
            go_loopw [96] (fun x wr => ∃ t : Nat, x = .int .i64 t ∧ t ≤ n ∧ Below w3.heap.size w3 wr) (fun x _ => n - (intOf x).toNat)
            case atStart => exact ⟨0, rfl, Nat.zero_le _, Below.refl _ _⟩
            case round =>
              obtain ⟨t, rfl, ht, hbt⟩ := hrel
              by_cases hlt2 : t < n
              · obtain ⟨gl, gm, gw, gc⟩ := HR.out
                obtain ⟨fb, fo, hfa, hfb, gcell⟩ := gc (by omega)
                subst hfa
                obtain ⟨g0, g1, g2, g3, g4⟩ := gcell t hlt2
                have hbw := HB1.out.trans ((B3.out.trans (hbt.mono S3.out)).mono L0.out)
                have f0 := (hbw.cell (p := ⟨fb, fo + t * 5, none⟩) hfb).trans g0
                have f1 := (hbw.cell (p := ⟨fb, fo + t * 5 + 1, none⟩) hfb).trans g1
                have f2 := (hbw.cell (p := ⟨fb, fo + t * 5 + 2, none⟩) hfb).trans g2
                have f3 := (hbw.cell (p := ⟨fb, fo + t * 5 + 3, none⟩) hfb).trans g3
                have f4 := (hbw.cell (p := ⟨fb, fo + t * 5 + 4, none⟩) hfb).trans g4
                obtain ⟨e, he, hid⟩ := ALL.out t hlt2
                obtain ⟨z1, z2, z3, z4⟩ := TL.out e he
                have cap_ : (d2 e.id).most = (fs.getD t Fl.nil).cp := by
                  obtain ⟨-, -, j, hj, hji, hjm⟩ := DAT.out e he
                  rw [M2.out e he, hjm]
                  have : j = t := by
                    rcases Nat.lt_trichotomy j t with h | h | h
                    · exact absurd (hid.symm.trans hji.symm) (ONE.out t hlt2 j h)
                    · exact h
                    · exact absurd (hji.trans hid) (ONE.out j hj t h)
                  rw [this]
                rw [hid] at z1 z2 z3 z4 cap_
                rw [cap_] at z1
                have AB := (Below.refl wr.heap.size wr).alloc (Nat.le_refl _) (.cells #[.int .u32 (fs.getD t Fl.nil).id, .int .u64 (fs.getD t Fl.nil).co, .int .u64 (fs.getD t Fl.nil).bu, .int .u64 (fs.getD t Fl.nil).sz, .int .u64 (fs.getD t Fl.nil).cp] 56)
                have OW := Lib.hid (aown_at (OK3.out.at_.below (below_onto hbt AB hbt.size)) (fs.getD t Fl.nil).id (by rw [← hid]; exact (mem_isFP OK3.out.at_.tab.so he).1))
                have BT := Lib.hid (below_onto hbt AB hbt.size)
                clear hbt AB hbw g0 g1 g2 g3 g4 gcell gc gw gl gm he hid cap_
                generalize fs.getD t Fl.nil = F at *
                obtain ⟨fid, fco, fbu, fsz, fcp⟩ := F
                dsimp only at z1 z2 z3 z4 OW BT f0 f1 f2 f3 f4
                generalize d2 fid = dd at *
                obtain ⟨dp, db, dm⟩ := dd
                dsimp only at z1 z2 z3 z4 OW
                have m0_ : decide (fcp < db) = false := decide_eq_false (by omega)
                have m1_ : decide (dp < 0) = false := decide_eq_false (by omega)
                have m2_ : decide (tp2 < dp) = false := decide_eq_false (by omega)
                have m3_ : decide (tb2 < db) = false := decide_eq_false (by omega)
                have q0_ : (t : Int) < n := by omega
                have q1_ : (0 : Int) ≤ t := by omega
                go_wp2_with fail
                refine OW.out.mono ?_
                rintro e wo ⟨rfl, bo⟩
                have fl4 : wo.cell? ⟨wr.heap.size, 4, none⟩ = some (.int .u64 fcp) := (bo.cell (p := ⟨wr.heap.size, 4, none⟩) (by simp)).trans (by simp [go_sem])
                have BO := Lib.hid (below_onto BT.out bo BT.out.size)
                have n64_ := N64.out
                clear bo OW f0 f1 f2 f3 f4
                go_wp2
                go_roundw
                case rel => exact ⟨t + 1, by go_num, by omega, BO.out⟩
                case measure => simp [intOf] <;> omega
              · obtain rfl : t = n := by omega
                have B4 := Lib.hid (B3.out.trans (hbt.mono S3.out))
                have OK4 := Lib.hid (OK3.out.below hbt)
                have S4 := Lib.hid (Nat.le_trans S3.out hbt.size)
                clear hbt
                go_wp2
                go_roundw
                case rel => exact ⟨i + 1, d2, tp2, tb2, by go_num, by omega, OK4.out, S4.out, B4.out, M2.out⟩
                case measure => simp [intOf] <;> omega
          · have gi1 : (mayC ⟨pk, by_, sh, mtu⟩ (isF (es.map FeP.id) xd) tp tb (d' xd) xn == 0) = false := by simp [hm]
            have INO := Lib.hid (INO.out hm)
            clear hm
            generalize mayC ⟨pk, by_, sh, mtu⟩ (isF (es.map FeP.id) xd) tp tb (d' xd) xn = ki at *
            clear IN OU
            go_wp2_with fail
            refine INO.out.mono ?_
            rintro e w2 ⟨rfl, b2⟩
            have OK2 := Lib.hid (OKR.out.below b2)
            have M2 := Lib.hid MO.out
            have B2 := Lib.hid (ABH.out.trans (b2.mono HS.out))
            have S2 := Lib.hid (Nat.le_trans HS.out b2.size)
            clear b2 INO f0 f1 f2 OKR ABH HS MO AC NG WB OK0
            obtain ⟨W9, rfl⟩ : ∃ x, x = wr := ⟨_, rfl⟩
            obtain ⟨d2, hd2⟩ : ∃ x, x = d' := ⟨_, rfl⟩
            obtain ⟨tp2, htp2⟩ : ∃ x, x = tp := ⟨_, rfl⟩
            obtain ⟨tb2, htb2⟩ : ∃ x, x = tb := ⟨_, rfl⟩
            subst hd2 htp2 htb2
            have TT := OK2.out.tells
            have X2 := Lib.hid ((B2.out.block w.heap.size CL.out).trans X1.out)
            have t0_ : decide (tp2 < 0) = false := decide_eq_false (by have := TT.1; omega)
            have t1_ : decide (pk < tp2) = false := decide_eq_false (by have : tp2 ≤ pk := TT.2.1; omega)
            have t2_ : decide (by_ < tb2) = false := decide_eq_false (by have : tb2 ≤ by_ := TT.2.2.1; omega)
            have TL := Lib.hid TT.2.2.2
            clear TT
            go_wp2_with fail
            refine (atotal OK2.out.at_.gk).mono ?_
            rintro e w3 ⟨rfl, q3, hw3⟩
            have b3_ : Below w2.heap.size w2 w3 := by rw [hw3]; exact below_drewN _ (Below.refl _ _)
            have OK3 := Lib.hid (OK2.out.below b3_)
            have S3 := Lib.hid (Nat.le_trans S2.out b3_.size)
            have B3 := Lib.hid (B2.out.trans (b3_.mono S2.out))
            have X3 := Lib.hid ((B3.out.block w.heap.size CL.out).trans X1.out)
            clear hw3 b3_
            obtain ⟨c0, c1, c2, c3, c4, c5, c6, c7, c8, c9, c10⟩ := cells11 X3.out
            go_wp2
            clear c0 c1 c2 c3 c4 c5 c6 c7 c8 c9 c10 t0_ t1_ t2_
            go_loopw [96] (fun x wr => ∃ t : Nat, x = .int .i64 t ∧ t ≤ n ∧ Below w3.heap.size w3 wr) (fun x _ => n - (intOf x).toNat)
            case atStart => exact ⟨0, rfl, Nat.zero_le _, Below.refl _ _⟩
            case round =>
              obtain ⟨t, rfl, ht, hbt⟩ := hrel
              by_cases hlt2 : t < n
              · obtain ⟨gl, gm, gw, gc⟩ := HR.out
                obtain ⟨fb, fo, hfa, hfb, gcell⟩ := gc (by omega)
                subst hfa
                obtain ⟨g0, g1, g2, g3, g4⟩ := gcell t hlt2
                have hbw := HB1.out.trans ((B3.out.trans (hbt.mono S3.out)).mono L0.out)
                have f0 := (hbw.cell (p := ⟨fb, fo + t * 5, none⟩) hfb).trans g0
                have f1 := (hbw.cell (p := ⟨fb, fo + t * 5 + 1, none⟩) hfb).trans g1
                have f2 := (hbw.cell (p := ⟨fb, fo + t * 5 + 2, none⟩) hfb).trans g2
                have f3 := (hbw.cell (p := ⟨fb, fo + t * 5 + 3, none⟩) hfb).trans g3
                have f4 := (hbw.cell (p := ⟨fb, fo + t * 5 + 4, none⟩) hfb).trans g4
                obtain ⟨e, he, hid⟩ := ALL.out t hlt2
                obtain ⟨z1, z2, z3, z4⟩ := TL.out e he
                have cap_ : (d2 e.id).most = (fs.getD t Fl.nil).cp := by
                  obtain ⟨-, -, j, hj, hji, hjm⟩ := DAT.out e he
                  rw [M2.out e he, hjm]
                  have : j = t := by
                    rcases Nat.lt_trichotomy j t with h | h | h
                    · exact absurd (hid.symm.trans hji.symm) (ONE.out t hlt2 j h)
                    · exact h
                    · exact absurd (hji.trans hid) (ONE.out j hj t h)
                  rw [this]
                rw [hid] at z1 z2 z3 z4 cap_
                rw [cap_] at z1
                have AB := (Below.refl wr.heap.size wr).alloc (Nat.le_refl _) (.cells #[.int .u32 (fs.getD t Fl.nil).id, .int .u64 (fs.getD t Fl.nil).co, .int .u64 (fs.getD t Fl.nil).bu, .int .u64 (fs.getD t Fl.nil).sz, .int .u64 (fs.getD t Fl.nil).cp] 56)
                have OW := Lib.hid (aown_at (OK3.out.at_.below (below_onto hbt AB hbt.size)) (fs.getD t Fl.nil).id (by rw [← hid]; exact (mem_isFP OK3.out.at_.tab.so he).1))
                have BT := Lib.hid (below_onto hbt AB hbt.size)
                clear hbt AB hbw g0 g1 g2 g3 g4 gcell gc gw gl gm he hid cap_
                generalize fs.getD t Fl.nil = F at *
                obtain ⟨fid, fco, fbu, fsz, fcp⟩ := F
                dsimp only at z1 z2 z3 z4 OW BT f0 f1 f2 f3 f4
                generalize d2 fid = dd at *
                obtain ⟨dp, db, dm⟩ := dd
                dsimp only at z1 z2 z3 z4 OW
                have m0_ : decide (fcp < db) = false := decide_eq_false (by omega)
                have m1_ : decide (dp < 0) = false := decide_eq_false (by omega)
                have m2_ : decide (tp2 < dp) = false := decide_eq_false (by omega)
                have m3_ : decide (tb2 < db) = false := decide_eq_false (by omega)
                have q0_ : (t : Int) < n := by omega
                have q1_ : (0 : Int) ≤ t := by omega
                go_wp2_with fail
                refine OW.out.mono ?_
                rintro e wo ⟨rfl, bo⟩
                have fl4 : wo.cell? ⟨wr.heap.size, 4, none⟩ = some (.int .u64 fcp) := (bo.cell (p := ⟨wr.heap.size, 4, none⟩) (by simp)).trans (by simp [go_sem])
                have BO := Lib.hid (below_onto BT.out bo BT.out.size)
                have n64_ := N64.out
                clear bo OW f0 f1 f2 f3 f4
                go_wp2
                go_roundw
                case rel => exact ⟨t + 1, by go_num, by omega, BO.out⟩
                case measure => simp [intOf] <;> omega
              · obtain rfl : t = n := by omega
                have B4 := Lib.hid (B3.out.trans (hbt.mono S3.out))
                have OK4 := Lib.hid (OK3.out.below hbt)
                have S4 := Lib.hid (Nat.le_trans S3.out hbt.size)
                clear hbt
                go_wp2
                go_roundw
                case rel => exact ⟨i + 1, d2, tp2, tb2, by go_num, by omega, OK4.out, S4.out, B4.out, M2.out⟩
                case measure => simp [intOf] <;> omega
      · have HBW := Lib.hid (HB1.out.trans (hb.mono L0.out))
        clear ok hbs hb hmo
        have q0_ : ¬ (i : Int) < nn := by omega
        go_wp2_with fail
        refine (lives17 _).mono ?_
        rintro e w9 ⟨rfl, b9⟩
        have HB9 := Lib.hid (below_onto HBW.out b9 HBW.out.size)
        clear b9
        go_wp2
        go_ret
        exact ⟨rfl, HB9.out⟩
theorem walk_admitNever (r : Int) (r_lo : -9223372036854775808 ≤ r) (r_hi : r ≤ 9223372036854775807) (bk : Int) (bk_lo : -9223372036854775808 ≤ bk) (bk_hi : bk ≤ 9223372036854775807) (lv : Int) (lv_lo : -9223372036854775808 ≤ lv) (lv_hi : lv ≤ 9223372036854775807) (qu : Int) (qu_lo : -9223372036854775808 ≤ qu) (qu_hi : qu ≤ 9223372036854775807) (pk : Int) (pk_lo : -9223372036854775808 ≤ pk) (pk_hi : pk ≤ 9223372036854775807) (by_ : Int) (by__lo : 0 ≤ by_) (by__hi : by_ ≤ 18446744073709551615) (sh : Int) (sh_lo : -9223372036854775808 ≤ sh) (sh_hi : sh ≤ 9223372036854775807) (mtu : Int) (mtu_lo : 0 ≤ mtu) (mtu_hi : mtu ≤ 18446744073709551615) (rate : Int) (rate_lo : 0 ≤ rate) (rate_hi : rate ≤ 18446744073709551615) (burst : Int) (burst_lo : 0 ≤ burst) (burst_hi : burst ≤ 18446744073709551615) (a : Option Addr) (n cc : Nat) (fs : List Fl) {w : World} (hr : RowFl w a n fs) (hcap : n ≤ cc) (aa : Option Addr) (nn ca : Nat) (as_ : List Act17) (ha : RowA17 w aa nn as_) (hca : nn ≤ ca) :
    Calls Try.prog 4 #[.agg #[.int .i64 r, .int .i64 bk, .int .i64 lv, .int .i64 qu, .int .i64 pk, .int .u64 by_, .int .i64 sh, .int .u64 mtu, .int .u64 rate, .int .u64 burst, .slice a n cc], .slice aa nn ca] w fun e w' => e = .returned (.bool true) ∧ Below w.heap.size w w' := by
  by_cases h : nn ≤ 200
  · exact never17_at r bk lv qu pk by_ sh mtu rate burst a n cc fs by__lo by__hi mtu_lo aa nn ca as_ w hr ha h
  · exact never17_long r bk lv qu pk by_ sh mtu rate burst a n cc fs by__lo by__hi mtu_lo aa nn ca as_ w hr ha (by omega) ha.2.1
end Go.Proofs.Ytcieggckmpabnaa
