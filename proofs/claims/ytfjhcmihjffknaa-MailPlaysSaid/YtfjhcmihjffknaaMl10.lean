/-
  The law of layer 35 beside the document's answer: true for any room and acts. No condition.
-/
import Derived.Test.YtfjhcmihjffknaaPr35
import Derived.Test.YtfjhcmihjffknaaMl5
import Derived.Test.YtfjhcmihjffknaaOpen3
import Derived.Deep.RegionWith
import Derived.Deep.RegionHeld3
import Derived.Deep.CutBlock
import Derived.Deep.DeepCutAuto
namespace Go.Proofs.Ytfjhcmihjffknaa
set_option linter.unusedVariables false
set_option linter.unusedSimpArgs false
open Go.ChangeShapes Go.WideShapes Go.ChangeAt Go.RowKit
attribute [local go_sem] alloc_drewN setCell_drewN

theorem act_at35 {w : World} {b : Nat} {v0 v1 : Value} {t : TypeId} (h : w.heap[b]? = some (.cells #[v0, v1] t (0, 0))) : w.cell? ⟨b, 0, none⟩ = some v0 ∧ w.cell? ⟨b, 1, none⟩ = some v1 :=
  ⟨cell_of_row w b 0 _ _ (0, 0) h, cell_of_row w b 1 _ _ (0, 0) h⟩
theorem start35 {w w1 : World} {B r : Nat} {In : Nat → Prop} (h1 : BxGI w1 w.heap.size B r false [] In) (b1 : Below w.heap.size w w1) : Pair35 w.heap.size w (w1.alloc (.cells #[.int .i64 r, .bool false, .slice none 0 0] 32)) B w1.heap.size r false [] := by
  refine ⟨In, .slice none 0 0, h1.below ((Below.refl _ w1).alloc (Nat.le_refl _) _), ⟨heap_alloc_new w1 _, b1.size, Ints.nil _ _, Nat.zero_le _, h1.le.2.2⟩, fun j hj hi => ?_, b1.alloc b1.size _⟩
  have := (h1.inlt hi).2
  rcases hj with rfl | hj
  · omega
  · cases hj
set_option maxRecDepth 100000 in
set_option maxHeartbeats 4000000 in
theorem plays35_no (r : Int) (hr : ¬ (1 ≤ r ∧ r ≤ 4096)) (aa : Option Addr) (nn ca : Nat) (w : World) : Calls Try.prog 3 #[.int .i64 r, .slice aa nn ca] w fun e w' => e = .returned (.bool true) ∧ Below w.heap.size w w' := by
  have NW := Lib.hid (mnew_noI w r hr)
  have MY := rmay35 w r
  rw [decide_eq_false hr] at MY
  have MY := Lib.hid MY
  have LV := Lib.hid (lives35 w)
  clear hr
  go_enter Try.func3, Try.ntmps3
  go_wp2_with fail
  refine NW.out.mono ?_
  rintro e w1 ⟨rfl, rfl⟩
  go_wp2_with fail
  refine MY.out.mono ?_
  rintro e w1 ⟨rfl, rfl⟩
  go_wp2_with fail
  refine LV.out.mono ?_
  rintro e w2 ⟨rfl, b2⟩
  go_wp2
  go_ret
  exact ⟨rfl, b2⟩
set_option maxRecDepth 100000 in
set_option maxHeartbeats 4000000 in
theorem plays35_long (r : Nat) (h0 : 1 ≤ r) (h1 : r ≤ 4096) (aa : Option Addr) (nn ca : Nat) (hnn : 200 < nn) (w : World) : Calls Try.prog 3 #[.int .i64 r, .slice aa nn ca] w fun e w' => e = .returned (.bool true) ∧ Below w.heap.size w w' := by
  have NW := Lib.hid (gnewI w r h0 h1)
  have MY := Lib.hid (fun (v : World) => (show Calls Try.prog 12 #[.int .i64 r] v fun e w' => e = .returned (.bool true) ∧ v = w' from by
    have h := rmay35 v r
    rw [decide_eq_true ⟨by omega, by omega⟩] at h
    exact h))
  have z1 : (200 : Int) < nn := by omega
  go_enter Try.func3, Try.ntmps3
  go_wp2_with fail
  refine NW.out.mono ?_
  rintro e w1 ⟨B, rfl, -, b1⟩
  have B1 := Lib.hid b1
  clear b1
  go_wp2_with fail
  refine (MY.out _).mono ?_
  rintro e w2 ⟨rfl, rfl⟩
  go_wp2_with fail
  refine (lives35 _).mono ?_
  rintro e w3 ⟨rfl, b3⟩
  have FIN := Lib.hid (B1.out.trans (b3.mono B1.out.size))
  clear b3
  go_wp2
  go_ret
  exact ⟨rfl, FIN.out⟩
set_option maxRecDepth 100000 in
set_option maxHeartbeats 4000000 in
theorem plays35_at (r : Nat) (h0 : 1 ≤ r) (h1 : r ≤ 4096) (aa : Option Addr) (nn ca : Nat) (as_ : List Act6) (w : World) (ha : RowA6 w aa nn as_) (h200 : nn ≤ 200) : Calls Try.prog 3 #[.int .i64 r, .slice aa nn ca] w fun e w' => e = .returned (.bool true) ∧ Below w.heap.size w w' := by
  have NW := Lib.hid (gnewI w r h0 h1)
  have MY := Lib.hid (fun (v : World) => (show Calls Try.prog 12 #[.int .i64 r] v fun e w' => e = .returned (.bool true) ∧ v = w' from by
    have h := rmay35 v r
    rw [decide_eq_true ⟨by omega, by omega⟩] at h
    exact h))
  have HA := Lib.hid ha
  have z1 : ¬ (200 : Int) < nn := by omega
  clear ha h0 h1
  go_enter Try.func3, Try.ntmps3
  go_wp2_with fail
  refine NW.out.mono ?_
  rintro e w1 ⟨B, rfl, ⟨In, g1⟩, b1⟩
  have P0 := Lib.hid (start35 g1 b1)
  clear g1 b1 NW
  go_wp2_with fail
  refine (MY.out _).mono ?_
  rintro e w2 ⟨rfl, rfl⟩
  go_wp2
  generalize w1.heap.size = M at *
  go_loopw [53] (fun x wr => ∃ (q : Nat) (sh : Bool) (l : List Int), x = .int .i64 q ∧ q ≤ nn ∧ Hid (Pair35 w.heap.size w wr B M r sh l)) (fun x _ => nn - (intOf x).toNat)
  case atStart => exact ⟨0, false, [], rfl, Nat.zero_le _, P0⟩
  case round =>
    clear P0 MY
    obtain ⟨q, sh, l, rfl, hq, HP⟩ := hrel
    have HBW := Lib.hid (HP.out.low.2)
    by_cases hlt : q < nn
    · obtain ⟨hzl, hzm, hzw, hzc⟩ := HA.out
      obtain ⟨b, off, rfl, hb0, hcs⟩ := hzc (by omega)
      obtain ⟨cx0, cx1⟩ := hcs q hlt
      have ac0_ := (HBW.out.cell (p := ⟨b, off + q * 2, none⟩) hb0).trans cx0
      have ac1_ := (HBW.out.cell (p := ⟨b, off + q * 2 + 1, none⟩) hb0).trans cx1
      obtain ⟨⟨k0, k1⟩, s0, s1⟩ := hzw (as_.getD q Act6.nil) (by rw [List.getD_eq_getElem?_getD, List.getElem?_eq_getElem (by rw [hzl]; exact hlt)]; exact List.getElem_mem _)
      clear hzl hzm hzw hzc hcs cx0 cx1
      generalize as_.getD q Act6.nil = x at *
      obtain ⟨κ, N⟩ := x
      dsimp only at k0 k1 s0 s1 ac0_ ac1_
      have g1 : (q : Int) < nn := by omega
      have g0 : (0 : Int) ≤ q := by omega
      have HLT := Lib.hid hlt
      have hbl : Below wr.heap.size wr (wr.alloc (.cells #[.int .u8 κ, .int .i64 N] 34)) := (Below.refl _ _).alloc (Nat.le_refl _) _
      have P3 := Lib.hid (HP.out.on hbl)
      have A3 := Lib.hid (heap_alloc_new wr (.cells #[.int .u8 κ, .int .i64 N] 34))
      clear hbl HP hlt hq HBW
      have hkm : κ % 8 = 0 ∨ κ % 8 = 1 ∨ κ % 8 = 2 ∨ κ % 8 = 3 ∨ κ % 8 = 4 ∨ κ % 8 = 5 ∨ κ % 8 = 6 ∨ κ % 8 = 7 := by omega
      have hkt : κ.tmod 8 = κ % 8 := Int.tmod_eq_emod_of_nonneg k0
      have hsb : ((!sh) == sh) = false := by cases sh <;> rfl
      have HQ := Lib.hid h200
      rcases hkm with hk | hk | hk | hk | hk | hk | hk | hk
      · rw [hk] at hkt
        go_upto_region 12 with (fail)
        obtain ⟨e0_, e1_⟩ := act_at35 A3.out
        clear hkt hk k0 k1 ac0_ ac1_
        generalize wr.alloc (.cells #[.int .u8 κ, .int .i64 N] 34) = wa at *
        generalize wr.heap.size = A at *
        have IN := Lib.hid (send_pair (P3.out.on (Below.refl _ wa).drew) N)
        clear P3
        go_region_held3 (fun v => v.cell? ⟨A, 1, none⟩ = some (.int .i64 N)) ((first | exact j1_ | exact h1_ | exact e1_)) (first
          | (go_at_call 20; refine IN.out.mono ?_; rintro e w4 ⟨a4, rfl, fr4, th4⟩; have A4 := Lib.hid (fr4 _ _ A3.out); obtain ⟨-, h1_⟩ := act_at35 A4.out; clear fr4 IN)
          | (go_at_call 21; refine (th4 _ (Below.refl _ _)).mono ?_; rintro e w5 ⟨rfl, ⟨l5, p5⟩, fr5⟩; have A5 := Lib.hid (fr5 _ _ A4.out); have P5 := Lib.hid p5; obtain ⟨-, j1_⟩ := act_at35 A5.out; clear p5 fr5 th4)
          | fail)
        clear e0_ e1_ h1_ j1_ A3 A4 A5
        obtain ⟨av, nl, cv, m1, m2, hn4, LN, OP⟩ := look_pair P5.out
        have LN := Lib.hid LN
        have OP := Lib.hid OP
        go_wp2
        go_quiet ((first | (go_at_call 22; exact Calls.quiet_of_same (LN.out _)) | (go_at_call 23; exact Calls.quiet_of_same (OP.out _))))
        have P9 := Lib.hid (P5.out.on (below_drewN nq (Below.refl _ _)))
        clear LN OP m1 m2
        go_wp2
        go_roundw
        case rel => exact ⟨q + 1, _, _, by go_num, HLT.out, P9⟩
        case measure => have := HLT.out; simp [intOf] <;> omega
      · rw [hk] at hkt
        go_upto_region 12 with (fail)
        obtain ⟨e0_, e1_⟩ := act_at35 A3.out
        clear hkt hk k0 k1 ac0_ ac1_
        generalize wr.alloc (.cells #[.int .u8 κ, .int .i64 N] 34) = wa at *
        generalize wr.heap.size = A at *
        have IN := Lib.hid (send_pair (P3.out.on (Below.refl _ wa).drew) N)
        clear P3
        go_region_held3 (fun v => v.cell? ⟨A, 1, none⟩ = some (.int .i64 N)) ((first | exact j1_ | exact h1_ | exact e1_)) (first
          | (go_at_call 20; refine IN.out.mono ?_; rintro e w4 ⟨a4, rfl, fr4, th4⟩; have A4 := Lib.hid (fr4 _ _ A3.out); obtain ⟨-, h1_⟩ := act_at35 A4.out; clear fr4 IN)
          | (go_at_call 21; refine (th4 _ (Below.refl _ _)).mono ?_; rintro e w5 ⟨rfl, ⟨l5, p5⟩, fr5⟩; have A5 := Lib.hid (fr5 _ _ A4.out); have P5 := Lib.hid p5; obtain ⟨-, j1_⟩ := act_at35 A5.out; clear p5 fr5 th4)
          | fail)
        clear e0_ e1_ h1_ j1_ A3 A4 A5
        obtain ⟨av, nl, cv, m1, m2, hn4, LN, OP⟩ := look_pair P5.out
        have LN := Lib.hid LN
        have OP := Lib.hid OP
        go_wp2
        go_quiet ((first | (go_at_call 22; exact Calls.quiet_of_same (LN.out _)) | (go_at_call 23; exact Calls.quiet_of_same (OP.out _))))
        have P9 := Lib.hid (P5.out.on (below_drewN nq (Below.refl _ _)))
        clear LN OP m1 m2
        go_wp2
        go_roundw
        case rel => exact ⟨q + 1, _, _, by go_num, HLT.out, P9⟩
        case measure => have := HLT.out; simp [intOf] <;> omega
      · rw [hk] at hkt
        go_upto_region 12 with (fail)
        obtain ⟨e0_, e1_⟩ := act_at35 A3.out
        clear hkt hk k0 k1 ac0_ ac1_
        generalize wr.alloc (.cells #[.int .u8 κ, .int .i64 N] 34) = wa at *
        generalize wr.heap.size = A at *
        have IN := Lib.hid (send_pair (P3.out.on (Below.refl _ wa).drew) N)
        clear P3
        go_region_held3 (fun v => v.cell? ⟨A, 1, none⟩ = some (.int .i64 N)) ((first | exact j1_ | exact h1_ | exact e1_)) (first
          | (go_at_call 20; refine IN.out.mono ?_; rintro e w4 ⟨a4, rfl, fr4, th4⟩; have A4 := Lib.hid (fr4 _ _ A3.out); obtain ⟨-, h1_⟩ := act_at35 A4.out; clear fr4 IN)
          | (go_at_call 21; refine (th4 _ (Below.refl _ _)).mono ?_; rintro e w5 ⟨rfl, ⟨l5, p5⟩, fr5⟩; have A5 := Lib.hid (fr5 _ _ A4.out); have P5 := Lib.hid p5; obtain ⟨-, j1_⟩ := act_at35 A5.out; clear p5 fr5 th4)
          | fail)
        clear e0_ e1_ h1_ j1_ A3 A4 A5
        obtain ⟨av, nl, cv, m1, m2, hn4, LN, OP⟩ := look_pair P5.out
        have LN := Lib.hid LN
        have OP := Lib.hid OP
        go_wp2
        go_quiet ((first | (go_at_call 22; exact Calls.quiet_of_same (LN.out _)) | (go_at_call 23; exact Calls.quiet_of_same (OP.out _))))
        have P9 := Lib.hid (P5.out.on (below_drewN nq (Below.refl _ _)))
        clear LN OP m1 m2
        go_wp2
        go_roundw
        case rel => exact ⟨q + 1, _, _, by go_num, HLT.out, P9⟩
        case measure => have := HLT.out; simp [intOf] <;> omega
      · rw [hk] at hkt
        go_upto_region 12 with (fail)
        obtain ⟨e0_, e1_⟩ := act_at35 A3.out
        clear hkt hk k0 k1 ac0_ ac1_
        generalize wr.alloc (.cells #[.int .u8 κ, .int .i64 N] 34) = wa at *
        generalize wr.heap.size = A at *
        have IN := Lib.hid (send_pair (P3.out.on (Below.refl _ wa).drew) N)
        clear P3
        go_region_held3 (fun v => v.cell? ⟨A, 1, none⟩ = some (.int .i64 N)) ((first | exact j1_ | exact h1_ | exact e1_)) (first
          | (go_at_call 20; refine IN.out.mono ?_; rintro e w4 ⟨a4, rfl, fr4, th4⟩; have A4 := Lib.hid (fr4 _ _ A3.out); obtain ⟨-, h1_⟩ := act_at35 A4.out; clear fr4 IN)
          | (go_at_call 21; refine (th4 _ (Below.refl _ _)).mono ?_; rintro e w5 ⟨rfl, ⟨l5, p5⟩, fr5⟩; have A5 := Lib.hid (fr5 _ _ A4.out); have P5 := Lib.hid p5; obtain ⟨-, j1_⟩ := act_at35 A5.out; clear p5 fr5 th4)
          | fail)
        clear e0_ e1_ h1_ j1_ A3 A4 A5
        obtain ⟨av, nl, cv, m1, m2, hn4, LN, OP⟩ := look_pair P5.out
        have LN := Lib.hid LN
        have OP := Lib.hid OP
        go_wp2
        go_quiet ((first | (go_at_call 22; exact Calls.quiet_of_same (LN.out _)) | (go_at_call 23; exact Calls.quiet_of_same (OP.out _))))
        have P9 := Lib.hid (P5.out.on (below_drewN nq (Below.refl _ _)))
        clear LN OP m1 m2
        go_wp2
        go_roundw
        case rel => exact ⟨q + 1, _, _, by go_num, HLT.out, P9⟩
        case measure => have := HLT.out; simp [intOf] <;> omega
      · rw [hk] at hkt
        go_wp2_with fail
        clear hkt hk k0 k1 ac0_ ac1_
        refine (take_pair P3.out).mono ?_
        rintro e w4 ⟨a4, b4, rfl, fr4, th4⟩
        have TH := Lib.hid th4
        clear fr4 th4 P3 A3
        go_wp2_with fail
        refine (TH.out _ (Below.refl _ _)).mono ?_
        rintro e w5 ⟨rfl, ⟨l5, p5⟩, -⟩
        have P5 := Lib.hid p5
        clear p5 TH
        obtain ⟨av, nl, cv, m1, m2, hn4, LN, OP⟩ := look_pair P5.out
        have LN := Lib.hid LN
        have OP := Lib.hid OP
        go_wp2
        go_quiet ((first | (go_at_call 22; exact Calls.quiet_of_same (LN.out _)) | (go_at_call 23; exact Calls.quiet_of_same (OP.out _))))
        have P9 := Lib.hid (P5.out.on (below_drewN nq (Below.refl _ _)))
        clear LN OP m1 m2
        go_wp2
        go_roundw
        case rel => exact ⟨q + 1, _, _, by go_num, HLT.out, P9⟩
        case measure => have := HLT.out; simp [intOf] <;> omega
      · rw [hk] at hkt
        go_wp2_with fail
        clear hkt hk k0 k1 ac0_ ac1_
        refine (take_pair P3.out).mono ?_
        rintro e w4 ⟨a4, b4, rfl, fr4, th4⟩
        have TH := Lib.hid th4
        clear fr4 th4 P3 A3
        go_wp2_with fail
        refine (TH.out _ (Below.refl _ _)).mono ?_
        rintro e w5 ⟨rfl, ⟨l5, p5⟩, -⟩
        have P5 := Lib.hid p5
        clear p5 TH
        obtain ⟨av, nl, cv, m1, m2, hn4, LN, OP⟩ := look_pair P5.out
        have LN := Lib.hid LN
        have OP := Lib.hid OP
        go_wp2
        go_quiet ((first | (go_at_call 22; exact Calls.quiet_of_same (LN.out _)) | (go_at_call 23; exact Calls.quiet_of_same (OP.out _))))
        have P9 := Lib.hid (P5.out.on (below_drewN nq (Below.refl _ _)))
        clear LN OP m1 m2
        go_wp2
        go_roundw
        case rel => exact ⟨q + 1, _, _, by go_num, HLT.out, P9⟩
        case measure => have := HLT.out; simp [intOf] <;> omega
      · rw [hk] at hkt
        go_upto_region 21 with (fail)
        obtain ⟨e0_, e1_⟩ := act_at35 A3.out
        clear hkt hk k0 k1 ac0_ ac1_
        generalize wr.alloc (.cells #[.int .u8 κ, .int .i64 N] 34) = wa at *
        generalize wr.heap.size = A at *
        have IN := Lib.hid (some_pair (P3.out.on (Below.refl _ wa).drew) N)
        clear P3
        go_region_held3 (fun v => v.cell? ⟨A, 1, none⟩ = some (.int .i64 N)) ((first | exact k1_ | exact j1_ | exact h1_ | exact e1_)) (first
          | (go_at_call 17; refine IN.out.mono ?_; rintro e w4 ⟨v4, rfl, fr4, th4⟩; have A4 := Lib.hid (fr4 _ _ A3.out); obtain ⟨-, h1_⟩ := act_at35 A4.out; clear fr4 IN)
          | (go_at_call 18; refine (th4 _ (Below.refl _ _)).mono ?_; rintro e w5 ⟨v5, rfl, ⟨l5, p5⟩, fr5, sm5⟩; have A5 := Lib.hid (fr5 _ _ A4.out); have P5a := Lib.hid p5; obtain ⟨-, j1_⟩ := act_at35 A5.out; clear p5 fr5 th4)
          | (go_at_call 16; refine (sm5 _ (Below.refl _ _)).mono ?_; rintro e w6 ⟨rfl, b6⟩; have P5 := Lib.hid (P5a.out.on b6); have A6 := Lib.hid ((b6.block A (Array.getElem?_eq_some_iff.1 A5.out).1).trans A5.out); obtain ⟨-, k1_⟩ := act_at35 A6.out; clear b6 sm5)
          | fail)
        clear e0_ e1_ h1_ j1_ k1_ A3 A4 A5 A6 P5a
        obtain ⟨av, nl, cv, m1, m2, hn4, LN, OP⟩ := look_pair P5.out
        have LN := Lib.hid LN
        have OP := Lib.hid OP
        go_wp2
        go_quiet ((first | (go_at_call 22; exact Calls.quiet_of_same (LN.out _)) | (go_at_call 23; exact Calls.quiet_of_same (OP.out _))))
        have P9 := Lib.hid (P5.out.on (below_drewN nq (Below.refl _ _)))
        clear LN OP m1 m2
        go_wp2
        go_roundw
        case rel => exact ⟨q + 1, _, _, by go_num, HLT.out, P9⟩
        case measure => have := HLT.out; simp [intOf] <;> omega
      · rw [hk] at hkt
        go_upto_region 24 with (fail)
        obtain ⟨e0_, e1_⟩ := act_at35 A3.out
        clear hkt hk k0 k1 ac0_ ac1_
        generalize wr.alloc (.cells #[.int .u8 κ, .int .i64 N] 34) = wa at *
        generalize wr.heap.size = A at *
        by_cases hN : 0 ≤ N
        · go_wp2
          go_roundw
          case rel => exact ⟨q + 1, _, _, by go_num, HLT.out, P3⟩
          case measure => have := HLT.out; simp [intOf] <;> omega
        · obtain ⟨av, nl, cv, e2_, -, -, -, -⟩ := look_pair P3.out
          have IN := Lib.hid (shut_pair (P3.out.on (Below.refl _ wa).drew))
          clear P3
          go_upto_region 25 with (fail)
          go_region_held3 (fun v => v.cell? ⟨M, 1, none⟩ = some (.bool sh)) ((first | exact h2_ | exact e2_)) (first
            | (go_at_call 19; refine IN.out.mono ?_; rintro e w4 ⟨rfl, -, th4⟩; obtain ⟨h2_, h3_, p5, -⟩ := th4 _ (Below.refl _ _); have P5 := Lib.hid p5; clear th4 IN p5)
            | fail)
          clear e0_ e1_ e2_ A3
          go_wp2
          obtain ⟨av, nl, cv, m1, m2, hn4, LN, OP⟩ := look_pair P5.out
          have LN := Lib.hid LN
          have OP := Lib.hid OP
          go_quiet ((first | (go_at_call 22; exact Calls.quiet_of_same (LN.out _)) | (go_at_call 23; exact Calls.quiet_of_same (OP.out _))))
          have P9 := Lib.hid (P5.out.on (below_drewN nq (Below.refl _ _)))
          clear LN OP m1 m2
          go_wp2
          go_roundw
          case rel => exact ⟨q + 1, _, _, by go_num, HLT.out, P9⟩
          case measure => have := HLT.out; simp [intOf] <;> omega
    · obtain rfl : q = nn := by omega
      clear HP
      go_wp2_with fail
      refine (lives35 _).mono ?_
      rintro e w9 ⟨rfl, b9⟩
      have HBE := Lib.hid (HBW.out.trans (b9.mono HBW.out.size))
      clear b9
      go_wp2
      go_ret
      exact ⟨rfl, HBE.out⟩
theorem walk_mailPlays (r : Int) (r0 : -9223372036854775808 ≤ r) (r1 : r ≤ 9223372036854775807) (a : Option Addr) (n c : Nat) (zs : List Act6) {w : World} (hr : RowA6 w a n zs) (hcap : n ≤ c) :
    Calls Try.prog 3 #[.int .i64 r, .slice a n c] w fun e w' => e = .returned (.bool true) ∧ Below w.heap.size w w' := by
  by_cases h : 1 ≤ r ∧ r ≤ 4096
  · obtain ⟨m, rfl⟩ : ∃ m : Nat, r = m := ⟨r.toNat, by omega⟩
    by_cases h2 : n ≤ 200
    · exact plays35_at m (by omega) (by omega) a n c zs w hr h2
    · exact plays35_long m (by omega) (by omega) a n c (by omega) w
  · exact plays35_no r h a n c w
end Go.Proofs.Ytfjhcmihjffknaa
