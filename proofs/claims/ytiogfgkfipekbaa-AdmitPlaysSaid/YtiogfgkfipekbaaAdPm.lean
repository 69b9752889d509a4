/-
  The law of layer 17 beside the document's answer where the configuration may be: true for any acts. No condition.
-/
import Derived.Test.YtiogfgkfipekbaaAdPl
namespace Go.Proofs.Ytiogfgkfipekbaa
set_option linter.unusedVariables false
set_option linter.unusedSimpArgs false
open Go.ChangeShapes Go.WideShapes Go.ChangeAt Go.RowKit
attribute [local go_sem] alloc_drewN setCell_drewN

set_option maxRecDepth 100000 in
set_option maxHeartbeats 4000000 in
theorem plays17_at (r bk lv qu pk by_ sh mtu rate burst : Int) (a : Option Addr) (n cc : Nat) (fs : List Fl) (b0 : 0 ≤ by_) (b1 : by_ ≤ 18446744073709551615) (m0 : 0 ≤ mtu) (aa : Option Addr) (nn ca : Nat) (as_ : List Act17) (w : World) (hr : RowFl w a n fs) (ha : RowA17 w aa nn as_) (h100 : n ≤ 100) (h200 : nn ≤ 200) (hk : chkC pk by_ sh mtu n fs = 0) :
    Calls Try.prog 3 #[.agg #[.int .i64 r, .int .i64 bk, .int .i64 lv, .int .i64 qu, .int .i64 pk, .int .u64 by_, .int .i64 sh, .int .u64 mtu, .int .u64 rate, .int .u64 burst, .slice a n cc], .slice aa nn ca] w fun e w' => e = .returned (.bool true) ∧ Below w.heap.size w w' := by
  obtain ⟨W0, hW0⟩ : ∃ W0, w.alloc (.cells #[.int .i64 r, .int .i64 bk, .int .i64 lv, .int .i64 qu, .int .i64 pk, .int .u64 by_, .int .i64 sh, .int .u64 mtu, .int .u64 rate, .int .u64 burst, .slice a n cc] 25) = W0 := ⟨_, rfl⟩
  have hc : W0.heap[w.heap.size]? = some (.cells #[.int .i64 r, .int .i64 bk, .int .i64 lv, .int .i64 qu, .int .i64 pk, .int .u64 by_, .int .i64 sh, .int .u64 mtu, .int .u64 rate, .int .u64 burst, .slice a n cc] 25 (0, 0)) := by rw [← hW0]; exact heap_alloc_new w _
  have bb : Below w.heap.size w W0 := by rw [← hW0]; exact (Below.refl _ w).alloc (Nat.le_refl _) _
  have HC := Lib.hid hc; have BB := Lib.hid bb
  have HR := Lib.hid hr
  have HA := Lib.hid ha
  have W0S := Lib.hid (show w.heap.size < W0.heap.size from (Array.getElem?_eq_some_iff.1 hc).1)
  have NW := Lib.hid (anew r bk lv qu pk by_ sh mtu rate burst a n cc fs b0 b1 m0 W0 (rowfl_below hr bb))
  have CK := Lib.hid (fun (v : World) (hv : Below w.heap.size w v) => check17 r bk lv qu pk by_ sh mtu rate burst a n cc fs b0 b1 m0 v (rowfl_below hr hv))
  have AK := Lib.hid (fun (v : World) (hv : Below w.heap.size w v) => acheck r bk lv qu pk by_ sh mtu rate burst a n cc fs b0 b1 m0 v (rowfl_below hr hv))
  have N17 := Lib.hid (fun (v : World) => new17 r bk lv qu pk by_ sh mtu rate burst a n cc h100 v)
  have FLH := Lib.hid hr
  have HK := Lib.hid hk
  obtain ⟨c0, c1, c2, c3, c4, c5, c6, c7, c8, c9, c10⟩ := cells11 hc
  clear hc bb hr ha
  have q1 : ¬ (100 : Int) < n := by omega
  have q2 : ¬ (200 : Int) < nn := by omega
  rw [hk] at NW CK AK
  clear hk
  go_enter Try.func3, Try.ntmps3
  go_wp2_with fail
  refine NW.out.mono ?_
  rintro e w1 ⟨bn, (⟨hk0, -⟩ | ⟨-, base, G, T, v, es, bl, ds, rfl, l1, l2, g1, hall, hdat⟩)⟩
  · exact absurd rfl hk0
  · have B1 := Lib.hid (below_onto BB.out bn BB.out.size)
    have C1 := Lib.hid ((bn.block _ W0S.out).trans HC.out)
    have G1 := Lib.hid g1; have HALL := Lib.hid hall; have HDAT := Lib.hid hdat
    have LB := Lib.hid (show w.heap.size ≤ base from Nat.le_trans BB.out.size l1)
    have L2 := Lib.hid l2
    clear bn NW c0 c1 c2 c3 c4 c5 c6 c7 c8 c9 c10 g1 hall hdat l1 l2
    obtain ⟨c0, c1, c2, c3, c4, c5, c6, c7, c8, c9, c10⟩ := cells11 C1.out
    have L1 := Lib.hid (show w.heap.size < w1.heap.size from (Array.getElem?_eq_some_iff.1 C1.out).1)
    go_wp2_with fail
    refine (CK.out _ B1.out).mono ?_
    rintro e w2 ⟨rfl, b2⟩
    have B12 := Lib.hid b2
    have B2 := Lib.hid (below_onto B1.out b2 B1.out.size)
    have C2 := Lib.hid ((b2.block _ L1.out).trans C1.out)
    clear b2 c0 c1 c2 c3 c4 c5 c6 c7 c8 c9 c10
    obtain ⟨c0, c1, c2, c3, c4, c5, c6, c7, c8, c9, c10⟩ := cells11 C2.out
    go_wp2_with fail
    refine (AK.out _ B2.out).mono ?_
    rintro e w3 ⟨rfl, b3⟩
    have B13 := Lib.hid (B12.out.trans (b3.mono B12.out.size))
    have B3 := Lib.hid (below_onto B2.out b3 B2.out.size)
    have C3 := Lib.hid ((b3.block _ (Nat.lt_of_lt_of_le L1.out B12.out.size)).trans C2.out)
    clear b3 c0 c1 c2 c3 c4 c5 c6 c7 c8 c9 c10
    obtain ⟨c0, c1, c2, c3, c4, c5, c6, c7, c8, c9, c10⟩ := cells11 C3.out
    go_wp2_with fail
    refine (N17.out _).mono ?_
    rintro e w4 ⟨M, vp, vb, rfl, r4, b4⟩
    have P0 := Lib.hid (start17 (k := ⟨r, bk, lv, qu, pk, by_, sh, mtu, rate, burst, a, n, cc⟩) G1.out HALL.out HDAT.out L2.out (B13.out.trans (b4.mono B13.out.size)) r4 (Nat.le_trans L2.out B13.out.size) HK.out FLH.out.1)
    have FL := Lib.hid (fun (v : World) (hv : Below base w1 v) => (rowfl_below FLH.out (B1.out.trans (hv.mono LB.out)) : RowFl v a n fs))
    clear r4 b4 c0 c1 c2 c3 c4 c5 c6 c7 c8 c9 c10 C1 C2 C3 HC B12 B13 B2 B3 G1 HALL HDAT CK AK N17
    generalize hK : (⟨r, bk, lv, qu, pk, by_, sh, mtu, rate, burst, a, n, cc⟩ : Cf) = K at P0
    have FLK := Lib.hid (show ∀ v, Below base w1 v → RowFl v K.a K.n fs from fun v hv => by rw [← hK]; exact FL.out v hv)
    clear FL hK
    go_wp2
    go_loopw [61] (fun x wr => ∃ (q : Nat), x = .int .i64 q ∧ q ≤ nn ∧ Hid (Pair17 base w1 wr G M K fs)) (fun x _ => nn - (intOf x).toNat)
    case atStart => exact ⟨0, rfl, Nat.zero_le _, P0⟩
    case round =>
      clear P0
      obtain ⟨q, rfl, hq, HP⟩ := hrel
      have HBW := Lib.hid (show Below base w1 wr from by obtain ⟨_, _, _, _, _, _, _, _, _, _, _, _, _, h3, _⟩ := HP.out; exact h3)
      by_cases hlt : q < nn
      · obtain ⟨hzl, hzm, hzw, hzc⟩ := HA.out
        obtain ⟨b, off, rfl, hb0, hcs⟩ := hzc (by omega)
        obtain ⟨cx0, cx1, cx2⟩ := hcs q hlt
        have xb := B1.out.trans (HBW.out.mono LB.out)
        have ac0_ := (xb.cell (p := ⟨b, off + q * 3, none⟩) hb0).trans cx0
        have ac1_ := (xb.cell (p := ⟨b, off + q * 3 + 1, none⟩) hb0).trans cx1
        have ac2_ := (xb.cell (p := ⟨b, off + q * 3 + 2, none⟩) hb0).trans cx2
        obtain ⟨⟨k0, k1⟩, -, s0, s1⟩ := hzw (as_.getD q Act17.nil) (by rw [List.getD_eq_getElem?_getD, List.getElem?_eq_getElem (by rw [hzl]; exact hlt)]; exact List.getElem_mem _)
        clear hzl hzm hzw hzc hcs cx0 cx1 cx2 xb
        generalize as_.getD q Act17.nil = x at *
        obtain ⟨κ, D, N⟩ := x
        dsimp only at k0 k1 s0 s1 ac0_ ac1_ ac2_
        have g1 : (q : Int) < nn := by omega
        have g0 : (0 : Int) ≤ q := by omega
        have HLT := Lib.hid hlt
        have hbl : Below wr.heap.size wr (wr.alloc (.cells #[.int .u8 κ, .int .u32 D, .int .u64 N] 38)) := (Below.refl _ _).alloc (Nat.le_refl _) _
        have P3 := Lib.hid (HP.out.on hbl)
        have A3 := Lib.hid (heap_alloc_new wr (.cells #[.int .u8 κ, .int .u32 D, .int .u64 N] 38))
        clear hbl HP hlt hq HBW
        have SA := Lib.hid (show wr.heap.size < (wr.alloc (.cells #[.int .u8 κ, .int .u32 D, .int .u64 N] 38)).heap.size from by simp)
        have hkm : κ % 8 = 0 ∨ κ % 8 = 1 ∨ κ % 8 = 2 ∨ κ % 8 = 3 ∨ κ % 8 = 4 ∨ κ % 8 = 5 ∨ κ % 8 = 6 ∨ κ % 8 = 7 := by omega
        have hkt : κ.tmod 8 = κ % 8 := Int.tmod_eq_emod_of_nonneg k0
        rcases hkm with hk | hk | hk | hk | hk | hk | hk | hk
        · rw [hk] at hkt
          go_upto_region 19 with (fail)
          obtain ⟨e0_, e1_, e2_⟩ := act_at17 A3.out
          have SB := Lib.hid (show base ≤ (wr.alloc (.cells #[.int .u8 κ, .int .u32 D, .int .u64 N] 38)).heap.size from by obtain ⟨_, _, _, _, _, _, _, _, _, _, _, _, _, h3, h4, _⟩ := P3.out; exact Nat.le_trans h4 h3.size)
          clear hkt hk k0 k1 ac0_ ac1_ ac2_
          generalize wr.alloc (.cells #[.int .u8 κ, .int .u32 D, .int .u64 N] 38) = wa at *
          generalize wr.heap.size = A at *
          have IN := Lib.hid (in_pair17 (P3.out.on (Below.refl _ wa).drew) FLK.out D N s0 s1)
          clear P3
          go_region_held3 (fun v => v.cell? ⟨A, 1, none⟩ = some (.int .u32 D) ∧ v.cell? ⟨A, 2, none⟩ = some (.int .u64 N)) ((first | exact ⟨j1_, j2_⟩ | exact ⟨h1_, h2_⟩ | exact ⟨e1_, e2_⟩)) (first
            | (go_at_call 14; refine IN.out.mono ?_; rintro e w4 ⟨a4, rfl, fr4, th4⟩; have A4 := Lib.hid (fr4.a _ _ A3.out); obtain ⟨-, h1_, h2_⟩ := act_at17 A4.out; clear fr4 IN)
            | (go_at_call 15; refine (th4.out _ (Below.refl _ _)).mono ?_; rintro e w5 ⟨rfl, p5, fr5⟩; have A5 := Lib.hid (fr5.a _ _ A4.out); have P5 := Lib.hid p5; obtain ⟨-, j1_, j2_⟩ := act_at17 A5.out; clear p5 fr5 th4)
            | fail)
          obtain ⟨tp, tb, o1, o2, LK⟩ := look17 P5.out FLK.out D
          have LKH := Lib.hid LK
          have lA := Lib.hid (show A < w5.heap.size from (Array.getElem?_eq_some_iff.1 A5.out).1)
          have J1 := Lib.hid j1_
          clear LK e0_ e1_ e2_ h1_ h2_ j1_ j2_ A3 A4 SA SB
          go_wp2_with fail
          refine (LKH.out _ (Below.refl _ _)).1.mono ?_
          rintro e w6 ⟨rfl, b6⟩
          have B6 := Lib.hid b6
          clear b6
          go_wp2_with fail
          refine (LKH.out _ B6.out).2.1.mono ?_
          rintro e w7 ⟨rfl, b7⟩
          have B7 := Lib.hid (B6.out.trans (b7.mono B6.out.size))
          clear b7
          have j1_ := (B7.out.cell (p := ⟨A, 1, none⟩) lA.out).trans J1.out
          go_wp2_with fail
          refine (LKH.out _ B7.out).2.2.1.mono ?_
          rintro e w8 ⟨rfl, b8⟩
          have B8 := Lib.hid (B7.out.trans (b8.mono B7.out.size))
          clear b8 j1_
          have j1_ := (B8.out.cell (p := ⟨A, 1, none⟩) lA.out).trans J1.out
          go_wp2_with fail
          refine (LKH.out _ B8.out).2.2.2.mono ?_
          rintro e w9 ⟨rfl, b9⟩
          have P9 := Lib.hid (P5.out.on (B8.out.trans (b9.mono B8.out.size)))
          clear b9 j1_ LKH
          go_wp2
          go_roundw
          case rel => exact ⟨q + 1, by go_num, HLT.out, P9⟩
          case measure => have := HLT.out; simp [intOf] <;> omega
        · rw [hk] at hkt
          go_upto_region 19 with (fail)
          obtain ⟨e0_, e1_, e2_⟩ := act_at17 A3.out
          have SB := Lib.hid (show base ≤ (wr.alloc (.cells #[.int .u8 κ, .int .u32 D, .int .u64 N] 38)).heap.size from by obtain ⟨_, _, _, _, _, _, _, _, _, _, _, _, _, h3, h4, _⟩ := P3.out; exact Nat.le_trans h4 h3.size)
          clear hkt hk k0 k1 ac0_ ac1_ ac2_
          generalize wr.alloc (.cells #[.int .u8 κ, .int .u32 D, .int .u64 N] 38) = wa at *
          generalize wr.heap.size = A at *
          have IN := Lib.hid (in_pair17 (P3.out.on (Below.refl _ wa).drew) FLK.out D N s0 s1)
          clear P3
          go_region_held3 (fun v => v.cell? ⟨A, 1, none⟩ = some (.int .u32 D) ∧ v.cell? ⟨A, 2, none⟩ = some (.int .u64 N)) ((first | exact ⟨j1_, j2_⟩ | exact ⟨h1_, h2_⟩ | exact ⟨e1_, e2_⟩)) (first
            | (go_at_call 14; refine IN.out.mono ?_; rintro e w4 ⟨a4, rfl, fr4, th4⟩; have A4 := Lib.hid (fr4.a _ _ A3.out); obtain ⟨-, h1_, h2_⟩ := act_at17 A4.out; clear fr4 IN)
            | (go_at_call 15; refine (th4.out _ (Below.refl _ _)).mono ?_; rintro e w5 ⟨rfl, p5, fr5⟩; have A5 := Lib.hid (fr5.a _ _ A4.out); have P5 := Lib.hid p5; obtain ⟨-, j1_, j2_⟩ := act_at17 A5.out; clear p5 fr5 th4)
            | fail)
          obtain ⟨tp, tb, o1, o2, LK⟩ := look17 P5.out FLK.out D
          have LKH := Lib.hid LK
          have lA := Lib.hid (show A < w5.heap.size from (Array.getElem?_eq_some_iff.1 A5.out).1)
          have J1 := Lib.hid j1_
          clear LK e0_ e1_ e2_ h1_ h2_ j1_ j2_ A3 A4 SA SB
          go_wp2_with fail
          refine (LKH.out _ (Below.refl _ _)).1.mono ?_
          rintro e w6 ⟨rfl, b6⟩
          have B6 := Lib.hid b6
          clear b6
          go_wp2_with fail
          refine (LKH.out _ B6.out).2.1.mono ?_
          rintro e w7 ⟨rfl, b7⟩
          have B7 := Lib.hid (B6.out.trans (b7.mono B6.out.size))
          clear b7
          have j1_ := (B7.out.cell (p := ⟨A, 1, none⟩) lA.out).trans J1.out
          go_wp2_with fail
          refine (LKH.out _ B7.out).2.2.1.mono ?_
          rintro e w8 ⟨rfl, b8⟩
          have B8 := Lib.hid (B7.out.trans (b8.mono B7.out.size))
          clear b8 j1_
          have j1_ := (B8.out.cell (p := ⟨A, 1, none⟩) lA.out).trans J1.out
          go_wp2_with fail
          refine (LKH.out _ B8.out).2.2.2.mono ?_
          rintro e w9 ⟨rfl, b9⟩
          have P9 := Lib.hid (P5.out.on (B8.out.trans (b9.mono B8.out.size)))
          clear b9 j1_ LKH
          go_wp2
          go_roundw
          case rel => exact ⟨q + 1, by go_num, HLT.out, P9⟩
          case measure => have := HLT.out; simp [intOf] <;> omega
        · rw [hk] at hkt
          go_upto_region 22 with (fail)
          obtain ⟨e0_, e1_, e2_⟩ := act_at17 A3.out
          have SB := Lib.hid (show base ≤ (wr.alloc (.cells #[.int .u8 κ, .int .u32 D, .int .u64 N] 38)).heap.size from by obtain ⟨_, _, _, _, _, _, _, _, _, _, _, _, _, h3, h4, _⟩ := P3.out; exact Nat.le_trans h4 h3.size)
          clear hkt hk k0 k1 ac0_ ac1_ ac2_
          generalize wr.alloc (.cells #[.int .u8 κ, .int .u32 D, .int .u64 N] 38) = wa at *
          generalize wr.heap.size = A at *
          have IN := Lib.hid (out_pair17 (P3.out.on (Below.refl _ wa).drew) FLK.out D N s0 s1)
          clear P3
          go_region_held3 (fun v => v.cell? ⟨A, 1, none⟩ = some (.int .u32 D) ∧ v.cell? ⟨A, 2, none⟩ = some (.int .u64 N)) ((first | exact ⟨j1_, j2_⟩ | exact ⟨h1_, h2_⟩ | exact ⟨e1_, e2_⟩)) (first
            | (go_at_call 16; refine IN.out.mono ?_; rintro e w4 ⟨a4, rfl, fr4, th4⟩; have A4 := Lib.hid (fr4.a _ _ A3.out); obtain ⟨-, h1_, h2_⟩ := act_at17 A4.out; clear fr4 IN)
            | (go_at_call 17; refine (th4.out _ (Below.refl _ _)).mono ?_; rintro e w5 ⟨rfl, p5, fr5⟩; have A5 := Lib.hid (fr5.a _ _ A4.out); have P5 := Lib.hid p5; obtain ⟨-, j1_, j2_⟩ := act_at17 A5.out; clear p5 fr5 th4)
            | fail)
          obtain ⟨tp, tb, o1, o2, LK⟩ := look17 P5.out FLK.out D
          have LKH := Lib.hid LK
          have lA := Lib.hid (show A < w5.heap.size from (Array.getElem?_eq_some_iff.1 A5.out).1)
          have J1 := Lib.hid j1_
          clear LK e0_ e1_ e2_ h1_ h2_ j1_ j2_ A3 A4 SA SB
          go_wp2_with fail
          refine (LKH.out _ (Below.refl _ _)).1.mono ?_
          rintro e w6 ⟨rfl, b6⟩
          have B6 := Lib.hid b6
          clear b6
          go_wp2_with fail
          refine (LKH.out _ B6.out).2.1.mono ?_
          rintro e w7 ⟨rfl, b7⟩
          have B7 := Lib.hid (B6.out.trans (b7.mono B6.out.size))
          clear b7
          have j1_ := (B7.out.cell (p := ⟨A, 1, none⟩) lA.out).trans J1.out
          go_wp2_with fail
          refine (LKH.out _ B7.out).2.2.1.mono ?_
          rintro e w8 ⟨rfl, b8⟩
          have B8 := Lib.hid (B7.out.trans (b8.mono B7.out.size))
          clear b8 j1_
          have j1_ := (B8.out.cell (p := ⟨A, 1, none⟩) lA.out).trans J1.out
          go_wp2_with fail
          refine (LKH.out _ B8.out).2.2.2.mono ?_
          rintro e w9 ⟨rfl, b9⟩
          have P9 := Lib.hid (P5.out.on (B8.out.trans (b9.mono B8.out.size)))
          clear b9 j1_ LKH
          go_wp2
          go_roundw
          case rel => exact ⟨q + 1, by go_num, HLT.out, P9⟩
          case measure => have := HLT.out; simp [intOf] <;> omega
        · rw [hk] at hkt
          go_upto_region 15 with (fail)
          obtain ⟨e0_, e1_, e2_⟩ := act_at17 A3.out
          have SB := Lib.hid (show base ≤ (wr.alloc (.cells #[.int .u8 κ, .int .u32 D, .int .u64 N] 38)).heap.size from by obtain ⟨_, _, _, _, _, _, _, _, _, _, _, _, _, h3, h4, _⟩ := P3.out; exact Nat.le_trans h4 h3.size)
          clear hkt hk k0 k1 ac0_ ac1_ ac2_
          generalize wr.alloc (.cells #[.int .u8 κ, .int .u32 D, .int .u64 N] 38) = wa at *
          generalize wr.heap.size = A at *
          have IN := Lib.hid (may_pair17 (P3.out.on (Below.refl _ wa).drew) FLK.out D N s0 s1)
          clear P3
          go_region_held3 (fun v => v.cell? ⟨A, 1, none⟩ = some (.int .u32 D) ∧ v.cell? ⟨A, 2, none⟩ = some (.int .u64 N)) ((first | exact ⟨j1_, j2_⟩ | exact ⟨h1_, h2_⟩ | exact ⟨e1_, e2_⟩)) (first
            | (go_at_call 20; refine IN.out.mono ?_; rintro e w4 ⟨a4, rfl, fr4, th4⟩; have A4 := Lib.hid (fr4.a _ _ A3.out); obtain ⟨-, h1_, h2_⟩ := act_at17 A4.out; clear fr4 IN)
            | (go_at_call 21; refine (th4.out _ (Below.refl _ _)).mono ?_; rintro e w5 ⟨rfl, p5, fr5⟩; have A5 := Lib.hid (fr5.a _ _ A4.out); have P5 := Lib.hid p5; obtain ⟨-, j1_, j2_⟩ := act_at17 A5.out; clear p5 fr5 th4)
            | fail)
          obtain ⟨tp, tb, o1, o2, LK⟩ := look17 P5.out FLK.out D
          have LKH := Lib.hid LK
          have lA := Lib.hid (show A < w5.heap.size from (Array.getElem?_eq_some_iff.1 A5.out).1)
          have J1 := Lib.hid j1_
          clear LK e0_ e1_ e2_ h1_ h2_ j1_ j2_ A3 A4 SA SB
          go_wp2_with fail
          refine (LKH.out _ (Below.refl _ _)).1.mono ?_
          rintro e w6 ⟨rfl, b6⟩
          have B6 := Lib.hid b6
          clear b6
          go_wp2_with fail
          refine (LKH.out _ B6.out).2.1.mono ?_
          rintro e w7 ⟨rfl, b7⟩
          have B7 := Lib.hid (B6.out.trans (b7.mono B6.out.size))
          clear b7
          have j1_ := (B7.out.cell (p := ⟨A, 1, none⟩) lA.out).trans J1.out
          go_wp2_with fail
          refine (LKH.out _ B7.out).2.2.1.mono ?_
          rintro e w8 ⟨rfl, b8⟩
          have B8 := Lib.hid (B7.out.trans (b8.mono B7.out.size))
          clear b8 j1_
          have j1_ := (B8.out.cell (p := ⟨A, 1, none⟩) lA.out).trans J1.out
          go_wp2_with fail
          refine (LKH.out _ B8.out).2.2.2.mono ?_
          rintro e w9 ⟨rfl, b9⟩
          have P9 := Lib.hid (P5.out.on (B8.out.trans (b9.mono B8.out.size)))
          clear b9 j1_ LKH
          go_wp2
          go_roundw
          case rel => exact ⟨q + 1, by go_num, HLT.out, P9⟩
          case measure => have := HLT.out; simp [intOf] <;> omega
        · rw [hk] at hkt
          go_upto_region 19 with (fail)
          obtain ⟨e0_, e1_, e2_⟩ := act_at17 A3.out
          have SB := Lib.hid (show base ≤ (wr.alloc (.cells #[.int .u8 κ, .int .u32 D, .int .u64 N] 38)).heap.size from by obtain ⟨_, _, _, _, _, _, _, _, _, _, _, _, _, h3, h4, _⟩ := P3.out; exact Nat.le_trans h4 h3.size)
          clear hkt hk k0 k1 ac0_ ac1_ ac2_
          generalize wr.alloc (.cells #[.int .u8 κ, .int .u32 D, .int .u64 N] 38) = wa at *
          generalize wr.heap.size = A at *
          have IN := Lib.hid (in_pair17 (P3.out.on (Below.refl _ wa).drew) FLK.out D N s0 s1)
          clear P3
          go_region_held3 (fun v => v.cell? ⟨A, 1, none⟩ = some (.int .u32 D) ∧ v.cell? ⟨A, 2, none⟩ = some (.int .u64 N)) ((first | exact ⟨j1_, j2_⟩ | exact ⟨h1_, h2_⟩ | exact ⟨e1_, e2_⟩)) (first
            | (go_at_call 14; refine IN.out.mono ?_; rintro e w4 ⟨a4, rfl, fr4, th4⟩; have A4 := Lib.hid (fr4.a _ _ A3.out); obtain ⟨-, h1_, h2_⟩ := act_at17 A4.out; clear fr4 IN)
            | (go_at_call 15; refine (th4.out _ (Below.refl _ _)).mono ?_; rintro e w5 ⟨rfl, p5, fr5⟩; have A5 := Lib.hid (fr5.a _ _ A4.out); have P5 := Lib.hid p5; obtain ⟨-, j1_, j2_⟩ := act_at17 A5.out; clear p5 fr5 th4)
            | fail)
          obtain ⟨tp, tb, o1, o2, LK⟩ := look17 P5.out FLK.out D
          have LKH := Lib.hid LK
          have lA := Lib.hid (show A < w5.heap.size from (Array.getElem?_eq_some_iff.1 A5.out).1)
          have J1 := Lib.hid j1_
          clear LK e0_ e1_ e2_ h1_ h2_ j1_ j2_ A3 A4 SA SB
          go_wp2_with fail
          refine (LKH.out _ (Below.refl _ _)).1.mono ?_
          rintro e w6 ⟨rfl, b6⟩
          have B6 := Lib.hid b6
          clear b6
          go_wp2_with fail
          refine (LKH.out _ B6.out).2.1.mono ?_
          rintro e w7 ⟨rfl, b7⟩
          have B7 := Lib.hid (B6.out.trans (b7.mono B6.out.size))
          clear b7
          have j1_ := (B7.out.cell (p := ⟨A, 1, none⟩) lA.out).trans J1.out
          go_wp2_with fail
          refine (LKH.out _ B7.out).2.2.1.mono ?_
          rintro e w8 ⟨rfl, b8⟩
          have B8 := Lib.hid (B7.out.trans (b8.mono B7.out.size))
          clear b8 j1_
          have j1_ := (B8.out.cell (p := ⟨A, 1, none⟩) lA.out).trans J1.out
          go_wp2_with fail
          refine (LKH.out _ B8.out).2.2.2.mono ?_
          rintro e w9 ⟨rfl, b9⟩
          have P9 := Lib.hid (P5.out.on (B8.out.trans (b9.mono B8.out.size)))
          clear b9 j1_ LKH
          go_wp2
          go_roundw
          case rel => exact ⟨q + 1, by go_num, HLT.out, P9⟩
          case measure => have := HLT.out; simp [intOf] <;> omega
        · rw [hk] at hkt
          go_upto_region 24 with (fail)
          obtain ⟨e0_, e1_, e2_⟩ := act_at17 A3.out
          have SB := Lib.hid (show base ≤ (wr.alloc (.cells #[.int .u8 κ, .int .u32 D, .int .u64 N] 38)).heap.size from by obtain ⟨_, _, _, _, _, _, _, _, _, _, _, _, _, h3, h4, _⟩ := P3.out; exact Nat.le_trans h4 h3.size)
          clear hkt hk k0 k1 ac0_ ac1_ ac2_
          generalize wr.alloc (.cells #[.int .u8 κ, .int .u32 D, .int .u64 N] 38) = wa at *
          generalize wr.heap.size = A at *
          have IN := Lib.hid (lay_pair17 (P3.out.on (Below.refl _ wa).drew) FLK.out D N s0 s1)
          clear P3
          go_region_held3 (fun v => v.cell? ⟨A, 1, none⟩ = some (.int .u32 D) ∧ v.cell? ⟨A, 2, none⟩ = some (.int .u64 N)) ((first | exact ⟨j1_, j2_⟩ | exact ⟨h1_, h2_⟩ | exact ⟨e1_, e2_⟩)) (first
            | (go_at_call 18; refine IN.out.mono ?_; rintro e w4 ⟨a4, rfl, fr4, th4⟩; have A4 := Lib.hid (fr4.a _ _ A3.out); obtain ⟨-, h1_, h2_⟩ := act_at17 A4.out; clear fr4 IN)
            | (go_at_call 19; refine (th4.out _ (Below.refl _ _)).mono ?_; rintro e w5 ⟨rfl, p5, fr5⟩; have A5 := Lib.hid (fr5.a _ _ A4.out); have P5 := Lib.hid p5; obtain ⟨-, j1_, j2_⟩ := act_at17 A5.out; clear p5 fr5 th4)
            | fail)
          obtain ⟨tp, tb, o1, o2, LK⟩ := look17 P5.out FLK.out D
          have LKH := Lib.hid LK
          have lA := Lib.hid (show A < w5.heap.size from (Array.getElem?_eq_some_iff.1 A5.out).1)
          have J1 := Lib.hid j1_
          clear LK e0_ e1_ e2_ h1_ h2_ j1_ j2_ A3 A4 SA SB
          go_wp2_with fail
          refine (LKH.out _ (Below.refl _ _)).1.mono ?_
          rintro e w6 ⟨rfl, b6⟩
          have B6 := Lib.hid b6
          clear b6
          go_wp2_with fail
          refine (LKH.out _ B6.out).2.1.mono ?_
          rintro e w7 ⟨rfl, b7⟩
          have B7 := Lib.hid (B6.out.trans (b7.mono B6.out.size))
          clear b7
          have j1_ := (B7.out.cell (p := ⟨A, 1, none⟩) lA.out).trans J1.out
          go_wp2_with fail
          refine (LKH.out _ B7.out).2.2.1.mono ?_
          rintro e w8 ⟨rfl, b8⟩
          have B8 := Lib.hid (B7.out.trans (b8.mono B7.out.size))
          clear b8 j1_
          have j1_ := (B8.out.cell (p := ⟨A, 1, none⟩) lA.out).trans J1.out
          go_wp2_with fail
          refine (LKH.out _ B8.out).2.2.2.mono ?_
          rintro e w9 ⟨rfl, b9⟩
          have P9 := Lib.hid (P5.out.on (B8.out.trans (b9.mono B8.out.size)))
          clear b9 j1_ LKH
          go_wp2
          go_roundw
          case rel => exact ⟨q + 1, by go_num, HLT.out, P9⟩
          case measure => have := HLT.out; simp [intOf] <;> omega
        · rw [hk] at hkt
          go_upto_region 22 with (fail)
          obtain ⟨e0_, e1_, e2_⟩ := act_at17 A3.out
          have SB := Lib.hid (show base ≤ (wr.alloc (.cells #[.int .u8 κ, .int .u32 D, .int .u64 N] 38)).heap.size from by obtain ⟨_, _, _, _, _, _, _, _, _, _, _, _, _, h3, h4, _⟩ := P3.out; exact Nat.le_trans h4 h3.size)
          clear hkt hk k0 k1 ac0_ ac1_ ac2_
          generalize wr.alloc (.cells #[.int .u8 κ, .int .u32 D, .int .u64 N] 38) = wa at *
          generalize wr.heap.size = A at *
          have IN := Lib.hid (out_pair17 (P3.out.on (Below.refl _ wa).drew) FLK.out D N s0 s1)
          clear P3
          go_region_held3 (fun v => v.cell? ⟨A, 1, none⟩ = some (.int .u32 D) ∧ v.cell? ⟨A, 2, none⟩ = some (.int .u64 N)) ((first | exact ⟨j1_, j2_⟩ | exact ⟨h1_, h2_⟩ | exact ⟨e1_, e2_⟩)) (first
            | (go_at_call 16; refine IN.out.mono ?_; rintro e w4 ⟨a4, rfl, fr4, th4⟩; have A4 := Lib.hid (fr4.a _ _ A3.out); obtain ⟨-, h1_, h2_⟩ := act_at17 A4.out; clear fr4 IN)
            | (go_at_call 17; refine (th4.out _ (Below.refl _ _)).mono ?_; rintro e w5 ⟨rfl, p5, fr5⟩; have A5 := Lib.hid (fr5.a _ _ A4.out); have P5 := Lib.hid p5; obtain ⟨-, j1_, j2_⟩ := act_at17 A5.out; clear p5 fr5 th4)
            | fail)
          obtain ⟨tp, tb, o1, o2, LK⟩ := look17 P5.out FLK.out D
          have LKH := Lib.hid LK
          have lA := Lib.hid (show A < w5.heap.size from (Array.getElem?_eq_some_iff.1 A5.out).1)
          have J1 := Lib.hid j1_
          clear LK e0_ e1_ e2_ h1_ h2_ j1_ j2_ A3 A4 SA SB
          go_wp2_with fail
          refine (LKH.out _ (Below.refl _ _)).1.mono ?_
          rintro e w6 ⟨rfl, b6⟩
          have B6 := Lib.hid b6
          clear b6
          go_wp2_with fail
          refine (LKH.out _ B6.out).2.1.mono ?_
          rintro e w7 ⟨rfl, b7⟩
          have B7 := Lib.hid (B6.out.trans (b7.mono B6.out.size))
          clear b7
          have j1_ := (B7.out.cell (p := ⟨A, 1, none⟩) lA.out).trans J1.out
          go_wp2_with fail
          refine (LKH.out _ B7.out).2.2.1.mono ?_
          rintro e w8 ⟨rfl, b8⟩
          have B8 := Lib.hid (B7.out.trans (b8.mono B7.out.size))
          clear b8 j1_
          have j1_ := (B8.out.cell (p := ⟨A, 1, none⟩) lA.out).trans J1.out
          go_wp2_with fail
          refine (LKH.out _ B8.out).2.2.2.mono ?_
          rintro e w9 ⟨rfl, b9⟩
          have P9 := Lib.hid (P5.out.on (B8.out.trans (b9.mono B8.out.size)))
          clear b9 j1_ LKH
          go_wp2
          go_roundw
          case rel => exact ⟨q + 1, by go_num, HLT.out, P9⟩
          case measure => have := HLT.out; simp [intOf] <;> omega
        · rw [hk] at hkt
          go_upto_region 15 with (fail)
          obtain ⟨e0_, e1_, e2_⟩ := act_at17 A3.out
          have SB := Lib.hid (show base ≤ (wr.alloc (.cells #[.int .u8 κ, .int .u32 D, .int .u64 N] 38)).heap.size from by obtain ⟨_, _, _, _, _, _, _, _, _, _, _, _, _, h3, h4, _⟩ := P3.out; exact Nat.le_trans h4 h3.size)
          clear hkt hk k0 k1 ac0_ ac1_ ac2_
          generalize wr.alloc (.cells #[.int .u8 κ, .int .u32 D, .int .u64 N] 38) = wa at *
          generalize wr.heap.size = A at *
          have IN := Lib.hid (may_pair17 (P3.out.on (Below.refl _ wa).drew) FLK.out D N s0 s1)
          clear P3
          go_region_held3 (fun v => v.cell? ⟨A, 1, none⟩ = some (.int .u32 D) ∧ v.cell? ⟨A, 2, none⟩ = some (.int .u64 N)) ((first | exact ⟨j1_, j2_⟩ | exact ⟨h1_, h2_⟩ | exact ⟨e1_, e2_⟩)) (first
            | (go_at_call 20; refine IN.out.mono ?_; rintro e w4 ⟨a4, rfl, fr4, th4⟩; have A4 := Lib.hid (fr4.a _ _ A3.out); obtain ⟨-, h1_, h2_⟩ := act_at17 A4.out; clear fr4 IN)
            | (go_at_call 21; refine (th4.out _ (Below.refl _ _)).mono ?_; rintro e w5 ⟨rfl, p5, fr5⟩; have A5 := Lib.hid (fr5.a _ _ A4.out); have P5 := Lib.hid p5; obtain ⟨-, j1_, j2_⟩ := act_at17 A5.out; clear p5 fr5 th4)
            | fail)
          obtain ⟨tp, tb, o1, o2, LK⟩ := look17 P5.out FLK.out D
          have LKH := Lib.hid LK
          have lA := Lib.hid (show A < w5.heap.size from (Array.getElem?_eq_some_iff.1 A5.out).1)
          have J1 := Lib.hid j1_
          clear LK e0_ e1_ e2_ h1_ h2_ j1_ j2_ A3 A4 SA SB
          go_wp2_with fail
          refine (LKH.out _ (Below.refl _ _)).1.mono ?_
          rintro e w6 ⟨rfl, b6⟩
          have B6 := Lib.hid b6
          clear b6
          go_wp2_with fail
          refine (LKH.out _ B6.out).2.1.mono ?_
          rintro e w7 ⟨rfl, b7⟩
          have B7 := Lib.hid (B6.out.trans (b7.mono B6.out.size))
          clear b7
          have j1_ := (B7.out.cell (p := ⟨A, 1, none⟩) lA.out).trans J1.out
          go_wp2_with fail
          refine (LKH.out _ B7.out).2.2.1.mono ?_
          rintro e w8 ⟨rfl, b8⟩
          have B8 := Lib.hid (B7.out.trans (b8.mono B7.out.size))
          clear b8 j1_
          have j1_ := (B8.out.cell (p := ⟨A, 1, none⟩) lA.out).trans J1.out
          go_wp2_with fail
          refine (LKH.out _ B8.out).2.2.2.mono ?_
          rintro e w9 ⟨rfl, b9⟩
          have P9 := Lib.hid (P5.out.on (B8.out.trans (b9.mono B8.out.size)))
          clear b9 j1_ LKH
          go_wp2
          go_roundw
          case rel => exact ⟨q + 1, by go_num, HLT.out, P9⟩
          case measure => have := HLT.out; simp [intOf] <;> omega
      · obtain rfl : q = nn := by omega
        have HB9 := Lib.hid (B1.out.trans (HBW.out.mono LB.out))
        clear HP
        go_wp2_with fail
        refine (lives17 _).mono ?_
        rintro e w9 ⟨rfl, b9⟩
        have HBE := Lib.hid (below_onto HB9.out b9 HB9.out.size)
        clear b9
        go_wp2
        go_ret
        exact ⟨rfl, HBE.out⟩
end Go.Proofs.Ytiogfgkfipekbaa
