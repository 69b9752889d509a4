/-
  The law of a pool beside the document's answer where it may be made, walked: true for any acts. No condition.
-/
import Derived.Test.YtmkgadndfiiacaaP7f
namespace Go.Proofs.Ytmkgadndfiiacaa
set_option linter.unusedVariables false
set_option linter.unusedSimpArgs false
open Go.ChangeShapes Go.WideShapes Go.ChangeAt Go.RowKit
attribute [local go_sem] alloc_drewN setCell_drewN

set_option maxRecDepth 100000 in
set_option maxHeartbeats 4000000 in
theorem plays7_at (most : Int) (m0 : 1 ≤ most) (m1 : most ≤ 4096) (m : Nat) (hm : m ≤ 1000) (a : Option Addr) (n cc : Nat) (zs : List Act7) {w : World} (hr : RowA7 w a n zs) (hn : n ≤ 150) :
    Calls Try.prog 8 #[.int .i64 most, .int .i64 (m : Int), .slice a n cc] w fun e w' => e = .returned (.bool true) ∧ Below w.heap.size w w' := by
  have LV := Lib.hid (fun W => lives7 W)
  have NW := Lib.hid (show Calls Try.prog 56 #[.int .i64 most, .int .i64 (m : Int)] w _ from new_okPI most m m0 m1 (by omega) w)
  have MY := Lib.hid (fun W => rmay7_yes most (m : Int) m0 m1 (by omega) (by omega) W)
  have HR := Lib.hid hr
  have h1 : ¬ (1000 : Int) < m := by omega
  have h3 : ¬ (150 : Int) < n := by omega
  clear hr m0 m1 hm
  go_enter Try.func8, Try.ntmps8
  go_wp2_with fail
  refine NW.out.mono ?_
  rintro e w1 ⟨B, rfl, ht, hb⟩
  have P0 := Lib.hid (start7 ht hb)
  have B0 := Lib.hid (hb.trans (((Below.refl _ w1).alloc (Nat.le_refl _) (.cells #[.int .i64 most, .int .i64 (m : Int), .slice none 0 0, .slice none 0 0, .slice none 0 0, .int .i64 0] 104)).mono hb.size))
  clear ht hb NW
  go_wp2_with fail
  refine (MY.out _).mono ?_
  rintro e w2 ⟨rfl, rfl⟩
  clear MY
  generalize hB : w.heap.size = b0 at P0 B0 ⊢
  go_wp2_with fail
  generalize w2.alloc (.cells #[.int .i64 most, .int .i64 (m : Int), .slice none 0 0, .slice none 0 0, .slice none 0 0, .int .i64 0] 104) = W0 at *
  generalize w2.heap.size = M at *
  go_loopw [67] (fun x wr => ∃ (q : Nat), x = .int .i64 q ∧ q ≤ n ∧ Hid (Pair7 b0 wr B M most m) ∧ Hid (Below b0 w wr)) (fun x _ => n - (intOf x).toNat)
  case atStart => exact ⟨0, rfl, Nat.zero_le _, P0, B0⟩
  case round =>
    clear P0 B0
    obtain ⟨q, rfl, hq, HP, HB⟩ := hrel
    by_cases hlt : q < n
    · obtain ⟨hzl, hzm, hzw, hzc⟩ := HR.out
      obtain ⟨b, off, rfl, hb0, hcs⟩ := hzc (by omega)
      obtain ⟨cx0, cx1, cx2⟩ := hcs q hlt
      have xb := HB.out
      have ac0_ := (xb.cell (p := ⟨b, off + q * 3, none⟩) (by rw [← hB]; exact hb0)).trans cx0
      have ac1_ := (xb.cell (p := ⟨b, off + q * 3 + 1, none⟩) (by rw [← hB]; exact hb0)).trans cx1
      have ac2_ := (xb.cell (p := ⟨b, off + q * 3 + 2, none⟩) (by rw [← hB]; exact hb0)).trans cx2
      obtain ⟨⟨k0, k1⟩, ⟨p0, p1⟩, ⟨n0, n1⟩⟩ := hzw (zs.getD q Act7.nil) (by rw [List.getD_eq_getElem?_getD, List.getElem?_eq_getElem (by rw [hzl]; exact hlt)]; exact List.getElem_mem _)
      clear hzl hzm hzw hzc hcs cx0 cx1 cx2 xb
      generalize (zs.getD q Act7.nil).k = κ at *
      generalize (zs.getD q Act7.nil).q = Q at *
      generalize (zs.getD q Act7.nil).n = N at *
      have g1 : (q : Int) < n := by omega
      have g0 : (0 : Int) ≤ q := by omega
      have HLT := Lib.hid hlt
      have hbl : Below wr.heap.size wr (wr.alloc (.cells #[.int .u8 κ, .int .i64 Q, .int .i64 N] 106)) := (Below.refl _ _).alloc (Nat.le_refl _) _
      have P3 := Lib.hid (HP.out.on hbl)
      have F3 := Lib.hid (Fr7.below (base := b0) hbl)
      have A3 := Lib.hid (heap_alloc_new wr (.cells #[.int .u8 κ, .int .i64 Q, .int .i64 N] 106))
      have ST := Lib.hid (fun d => step7 (P3.out.on (below_drewN d (Below.refl _ _))) κ k0 k1 Q N)
      have SZ : Hid (b0 ≤ wr.heap.size) := Lib.hid (by obtain ⟨_, _, _, _, _, _, _, _, _, _, _, _, _, _, _, _, _, h4⟩ := HP.out; exact h4)
      clear hbl HP hlt hq
      go_upto_block 13 with (fail)
      have B3 := Lib.hid (HB.out.trans ((((Below.refl _ wr).alloc (Nat.le_refl _) (.cells #[.int .u8 κ, .int .i64 Q, .int .i64 N] 106))).mono (Nat.le_trans SZ.out (Nat.le_refl _))))
      obtain ⟨cA0, cA1, cA2, -, -, -⟩ := at3 A3.out
      have SA := Lib.hid (show b0 ≤ (wr.alloc (.cells #[.int .u8 κ, .int .i64 Q, .int .i64 N] 106)).heap.size from Nat.le_trans SZ.out F3.out.s)
      clear HB F3 SZ ac0_ ac1_ ac2_
      generalize wr.alloc (.cells #[.int .u8 κ, .int .i64 Q, .int .i64 N] 106) = wa at *
      generalize wr.heap.size = A at *
      have ST := Lib.hid (step7 (P3.out.on (Below.refl _ wa).drew) κ k0 k1 Q N)
      clear P3
      go_region_with (first
        | (go_at_call 59; refine LN.out.mono ?_; rintro e w5 ⟨rfl, nd, rfl⟩)
        | (go_at_call 58; refine ST.out.mono ?_; rintro e w4 ⟨rfl, hp4, fr4⟩; have A4 := Lib.hid (fr4.a _ _ A3.out); have B4 := Lib.hid (B3.out.trans ((Below.refl _ _).drew.trans (fr4.b SA.out))); obtain ⟨ve, vf, vq, es, fr, qs, Ls, vi, vn, vb, its, ins, back, nev, h1, h2, h3, h4⟩ := hp4; obtain ⟨-, -, c2, -, -, -, -, -, -, -, -, -⟩ := at6 h1.r.blk; obtain ⟨ai, ci, hvi, -, -⟩ := row2 h1.r.it; rw [hvi] at c2; have LN := lenPI h1.g.mem; rw [its_len h2] at LN; have LN := Lib.hid LN; have H1 := Lib.hid h1; have H2 := Lib.hid h2; clear h1 h2 fr4 ST)
        | fail)
      all_goals
        have lA : A < w4.heap.size := lt_blk A4.out
        obtain ⟨cA0, cA1, cA2, -, -, -⟩ := at3 A4.out
        have R4 := Lib.hid h4
        clear ST SA A3 B3 LN h4
        have HD := hd7 H1.out H2.out Q
        have QP := qp7 H1.out H2.out Q
        obtain ⟨L, hL⟩ : ∃ L, (qf7 ins Q).length = L := ⟨_, rfl⟩
        have QU := rq7 H1.out H2.out Q hL
        have QL := Lib.hid (qlen7 H1.out H2.out Q)
        have HL := Lib.hid hL
        clear hL
        have LK := look7 H1.out H2.out N
        rcases LK with ⟨GT, FD⟩ | ⟨k, y, hk, hy, GT, FD⟩
        · go_wp2_with fail
          refine (GT.out _ (below_drewN nd (Below.refl _ _))).mono ?_
          rintro e w5 ⟨rfl, rfl⟩
          go_wp2_with fail
          refine (FD.out _ (below_drewN nd (Below.refl _ _))).mono ?_
          rintro e w6 ⟨rfl, rfl⟩
          go_wp2_with fail
          refine (QU.out _ (below_drewN nd (Below.refl _ _))).mono ?_
          rintro e w7 ⟨a7, c7, rfl, o7, b7⟩
          have B7 := Lib.hid ((below_drewN nd (Below.refl _ w4)).trans b7)
          have O7 := Lib.hid o7
          clear o7 b7 GT FD QU
          have dA1 := (B7.out.cell (p := ⟨A, 1, none⟩) lA).trans cA1
          have dA2 := (B7.out.cell (p := ⟨A, 2, none⟩) lA).trans cA2
          obtain ⟨-, -, d2, -, -, -, -, -, -, -, -, -⟩ := at6 (H1.out.on B7.out).r.blk
          rw [hvi] at d2
          clear cA0 cA1 cA2 c2
          go_wp2_with fail
          refine (HD.out _ B7.out).mono ?_
          rintro e w8 ⟨x8, d8, rfl, h8, n8, rfl⟩
          have B8 := Lib.hid (B7.out.trans ((below_drewN n8 (Below.refl _ w7)).mono B7.out.size))
          have O8 := Lib.hid (own_on O7.out (fun j hj => ((below_drewN n8 (Below.refl w7.heap.size w7)).block j (World.ownsRow.lt O7.out j hj).2)))
          clear HD
          rcases h8 with ⟨rfl, rfl, hq8⟩ | ⟨rfl, rest, hq8⟩
          · have hL0 : L = 0 := by rw [← HL.out, hq8]; rfl
            subst hL0
            have hL2 := HL
            go_wp2_with fail
            refine (QP.out _ B8.out).mono ?_
            rintro e w9 ⟨u9, rfl, o9, b9⟩
            have B9 := Lib.hid (B8.out.trans (b9.mono B8.out.size))
            have S9 := Lib.hid (same6 _ _ _ _ _ QL.out w9 o9 (own_on O8.out (fun j hj => b9.block j (World.ownsRow.lt O8.out j hj).2)))
            clear o9 b9 QP
            go_wp2_with fail
            refine S9.out.mono ?_
            rintro e w10 ⟨rfl, b10⟩
            have B10 := Lib.hid (B9.out.trans (b10.mono B9.out.size))
            clear b10 S9
            go_wp2
            go_roundw
            case rel => exact ⟨q + 1, by go_num, by have := HLT.out; omega, Lib.hid ⟨_, _, _, _, _, _, _, _, _, _, _, _, _, _, H1.out.on B10.out, H2.out, by assumption, Nat.le_trans R4.out B10.out.size⟩, Lib.hid (B4.out.trans (B10.out.mono R4.out))⟩
            case measure => have := HLT.out; simp [intOf] <;> omega
          · have hL1 : (0 : Int) < L := by rw [← HL.out, hq8]; simp
            obtain ⟨a9, c9, hv9, -, hc9⟩ := O7.out.form
            obtain ⟨g9, e9, hg9, hx9⟩ := hc9 0 (by rw [hq8]; simp)
            rw [hq8] at hx9
            have hx9 : w7.cell? ⟨g9, 0, none⟩ = some (.int .i64 x8) := hx9
            injection hv9 with e91 e92 e93
            rw [e9] at e91
            subst e91
            clear hc9 e92 e93 e9
            have hL2 := HL
            go_wp2_with fail
            refine (QP.out _ B8.out).mono ?_
            rintro e w9 ⟨u9, rfl, o9, b9⟩
            have B9 := Lib.hid (B8.out.trans (b9.mono B8.out.size))
            have S9 := Lib.hid (same6 _ _ _ _ _ QL.out w9 o9 (own_on O8.out (fun j hj => b9.block j (World.ownsRow.lt O8.out j hj).2)))
            clear o9 b9 QP
            go_wp2_with fail
            refine S9.out.mono ?_
            rintro e w10 ⟨rfl, b10⟩
            have B10 := Lib.hid (B9.out.trans (b10.mono B9.out.size))
            clear b10 S9
            go_wp2
            go_roundw
            case rel => exact ⟨q + 1, by go_num, by have := HLT.out; omega, Lib.hid ⟨_, _, _, _, _, _, _, _, _, _, _, _, _, _, H1.out.on B10.out, H2.out, by assumption, Nat.le_trans R4.out B10.out.size⟩, Lib.hid (B4.out.trans (B10.out.mono R4.out))⟩
            case measure => have := HLT.out; simp [intOf] <;> omega
        · obtain ⟨g6, c6, hv6, hg6, hc6⟩ := item7 H1.out.r hk
          rw [hy] at hc6
          rw [hvi] at hv6
          injection hv6 with e61 e62 e63
          subst e61
          subst e63
          have k0' : (0 : Int) ≤ k := by omega
          have k1' : (k : Int) < its.length := by omega
          clear e62
          go_wp2_with fail
          refine (GT.out _ (below_drewN nd (Below.refl _ _))).mono ?_
          rintro e w5 ⟨rfl, rfl⟩
          go_wp2_with fail
          refine (FD.out _ (below_drewN nd (Below.refl _ _))).mono ?_
          rintro e w6 ⟨rfl, rfl⟩
          go_wp2_with fail
          refine (QU.out _ (below_drewN nd (Below.refl _ _))).mono ?_
          rintro e w7 ⟨a7, c7, rfl, o7, b7⟩
          have B7 := Lib.hid ((below_drewN nd (Below.refl _ w4)).trans b7)
          have O7 := Lib.hid o7
          clear o7 b7 GT FD QU
          have dA1 := (B7.out.cell (p := ⟨A, 1, none⟩) lA).trans cA1
          have dA2 := (B7.out.cell (p := ⟨A, 2, none⟩) lA).trans cA2
          obtain ⟨-, -, d2, -, -, -, -, -, -, -, -, -⟩ := at6 (H1.out.on B7.out).r.blk
          rw [hvi] at d2
          have d6 := (B7.out.cell (p := ⟨g6, k * 2 + 1, none⟩) hg6).trans hc6
          clear cA0 cA1 cA2 c2
          go_wp2_with fail
          refine (HD.out _ B7.out).mono ?_
          rintro e w8 ⟨x8, d8, rfl, h8, n8, rfl⟩
          have B8 := Lib.hid (B7.out.trans ((below_drewN n8 (Below.refl _ w7)).mono B7.out.size))
          have O8 := Lib.hid (own_on O7.out (fun j hj => ((below_drewN n8 (Below.refl w7.heap.size w7)).block j (World.ownsRow.lt O7.out j hj).2)))
          clear HD
          rcases h8 with ⟨rfl, rfl, hq8⟩ | ⟨rfl, rest, hq8⟩
          · have hL0 : L = 0 := by rw [← HL.out, hq8]; rfl
            subst hL0
            have hL2 := HL
            go_wp2_with fail
            refine (QP.out _ B8.out).mono ?_
            rintro e w9 ⟨u9, rfl, o9, b9⟩
            have B9 := Lib.hid (B8.out.trans (b9.mono B8.out.size))
            have S9 := Lib.hid (same6 _ _ _ _ _ QL.out w9 o9 (own_on O8.out (fun j hj => b9.block j (World.ownsRow.lt O8.out j hj).2)))
            clear o9 b9 QP
            go_wp2_with fail
            refine S9.out.mono ?_
            rintro e w10 ⟨rfl, b10⟩
            have B10 := Lib.hid (B9.out.trans (b10.mono B9.out.size))
            clear b10 S9
            go_wp2
            go_roundw
            case rel => exact ⟨q + 1, by go_num, by have := HLT.out; omega, Lib.hid ⟨_, _, _, _, _, _, _, _, _, _, _, _, _, _, H1.out.on B10.out, H2.out, by assumption, Nat.le_trans R4.out B10.out.size⟩, Lib.hid (B4.out.trans (B10.out.mono R4.out))⟩
            case measure => have := HLT.out; simp [intOf] <;> omega
          · have hL1 : (0 : Int) < L := by rw [← HL.out, hq8]; simp
            obtain ⟨a9, c9, hv9, -, hc9⟩ := O7.out.form
            obtain ⟨g9, e9, hg9, hx9⟩ := hc9 0 (by rw [hq8]; simp)
            rw [hq8] at hx9
            have hx9 : w7.cell? ⟨g9, 0, none⟩ = some (.int .i64 x8) := hx9
            injection hv9 with e91 e92 e93
            rw [e9] at e91
            subst e91
            clear hc9 e92 e93 e9
            have hL2 := HL
            go_wp2_with fail
            refine (QP.out _ B8.out).mono ?_
            rintro e w9 ⟨u9, rfl, o9, b9⟩
            have B9 := Lib.hid (B8.out.trans (b9.mono B8.out.size))
            have S9 := Lib.hid (same6 _ _ _ _ _ QL.out w9 o9 (own_on O8.out (fun j hj => b9.block j (World.ownsRow.lt O8.out j hj).2)))
            clear o9 b9 QP
            go_wp2_with fail
            refine S9.out.mono ?_
            rintro e w10 ⟨rfl, b10⟩
            have B10 := Lib.hid (B9.out.trans (b10.mono B9.out.size))
            clear b10 S9
            go_wp2
            go_roundw
            case rel => exact ⟨q + 1, by go_num, by have := HLT.out; omega, Lib.hid ⟨_, _, _, _, _, _, _, _, _, _, _, _, _, _, H1.out.on B10.out, H2.out, by assumption, Nat.le_trans R4.out B10.out.size⟩, Lib.hid (B4.out.trans (B10.out.mono R4.out))⟩
            case measure => have := HLT.out; simp [intOf] <;> omega
    · have hge : n ≤ q := by omega
      have he : q = n := by omega
      subst he
      clear hge
      go_wp2_with fail
      refine (LV.out _).mono ?_
      rintro e w9 ⟨rfl, b9⟩
      have BB := Lib.hid (HB.out.trans (b9.mono (by obtain ⟨_, _, _, _, _, _, _, _, _, _, _, _, _, _, _, _, _, h4⟩ := HP.out; exact h4)))
      clear b9
      go_wp2
      go_ret
      exact ⟨rfl, by rw [hB]; exact BB.out⟩
end Go.Proofs.Ytmkgadndfiiacaa
