/-
  Package drr: whose turn it is, and that it comes to an end. No condition but that New made the turns.
-/
import Derived.Test.YtiogfgkfipekbaaDr3
namespace Go.Proofs.Ytiogfgkfipekbaa
set_option linter.unusedVariables false
set_option linter.unusedSimpArgs false
open Go.ChangeShapes Go.WideShapes Go.ChangeAt Go.RowKit
attribute [local go_sem] alloc_drewN setCell_drewN

theorem not_isEmpty {α : Type} {l : List α} (h : l ≠ []) : (!l.isEmpty) = true := by
  cases l with
  | nil => exact absurd rfl h
  | cons _ _ => rfl
/-- The first one of the row. -/
theorem dhead {w : World} {base Rb : Nat} {room : Int} {vr : Value} {rp : List Int} {rf rk : Nat} (h : RingAtI w base Rb room vr rp rf rk) :
    Calls Try.prog 104 #[.pointer (some ⟨Rb, 0, none⟩)] w fun e w' => e = .returned (.tuple #[.int .i64 ((cont 0 rp rf rk).getD 0 0), .bool (!(cont 0 rp rf rk).isEmpty)]) ∧ Below w.heap.size w w' := by
  by_cases hk : 0 < rk
  · refine (head_inI h hk).mono ?_
    rintro e w' ⟨rfl, n, rfl⟩
    refine ⟨?_, below_drewN _ (Below.refl _ _)⟩
    rw [not_isEmpty (fun e => by have := cont_length 0 rp rf rk; rw [e] at this; simp at this; omega)]
  · obtain rfl : rk = 0 := by omega
    refine (head_outI h).mono ?_
    rintro e w' ⟨rfl, rfl⟩
    exact ⟨by rw [cont_zero]; rfl, Below.refl _ _⟩
theorem view_setC {cs : List Dc} {qu cr : Nat → Int} {q : Nat → List (Int × Int)} (h3 : ∀ j (h : j < cs.length), (cs[j]).qu = qu j ∧ (cs[j]).cr = cr j ∧ (cs[j]).q = q j) (i : Nat) (hi : i < cs.length) (x : Int) : ∀ j (h : j < (cs.set i ⟨(cs[i]).qu, x, (cs[i]).B, (cs[i]).v, (cs[i]).ps, (cs[i]).f, (cs[i]).k⟩).length), ((cs.set i ⟨(cs[i]).qu, x, (cs[i]).B, (cs[i]).v, (cs[i]).ps, (cs[i]).f, (cs[i]).k⟩)[j]).qu = qu j ∧ ((cs.set i ⟨(cs[i]).qu, x, (cs[i]).B, (cs[i]).v, (cs[i]).ps, (cs[i]).f, (cs[i]).k⟩)[j]).cr = upd cr i x j ∧ ((cs.set i ⟨(cs[i]).qu, x, (cs[i]).B, (cs[i]).v, (cs[i]).ps, (cs[i]).f, (cs[i]).k⟩)[j]).q = q j := by
  intro j h
  rw [List.getElem_set]
  by_cases e : i = j
  · subst e
    rw [if_pos rfl, upd_at]
    exact ⟨(h3 i hi).1, rfl, (h3 i hi).2.2⟩
  · rw [if_neg e, upd_ne _ _ (fun x => e x.symm)]
    exact h3 j (by simpa using h)
theorem view_setQ {cs : List Dc} {qu cr : Nat → Int} {q : Nat → List (Int × Int)} (h3 : ∀ j (h : j < cs.length), (cs[j]).qu = qu j ∧ (cs[j]).cr = cr j ∧ (cs[j]).q = q j) (i : Nat) (hi : i < cs.length) (v' : Value) (ps' : List (Int × Int)) (f' k' : Nat) : ∀ j (h : j < (cs.set i ⟨(cs[i]).qu, (cs[i]).cr, (cs[i]).B, v', ps', f', k'⟩).length), ((cs.set i ⟨(cs[i]).qu, (cs[i]).cr, (cs[i]).B, v', ps', f', k'⟩)[j]).qu = qu j ∧ ((cs.set i ⟨(cs[i]).qu, (cs[i]).cr, (cs[i]).B, v', ps', f', k'⟩)[j]).cr = cr j ∧ ((cs.set i ⟨(cs[i]).qu, (cs[i]).cr, (cs[i]).B, v', ps', f', k'⟩)[j]).q = upd q i (cont izI ps' f' k') j := by
  intro j h
  rw [List.getElem_set]
  by_cases e : i = j
  · subst e
    rw [if_pos rfl, upd_at]
    exact ⟨(h3 i hi).1, (h3 i hi).2.1, rfl⟩
  · rw [if_neg e, upd_ne _ _ (fun x => e x.symm)]
    exact h3 j (by simpa using h)
/-- One look, in memory: the first one begins. -/
theorem adv_begin {w : World} {base T : Nat} {S : Ts} {g c : Nat} {cs : List Dc} {Rb : Nat} {vr : Value} {rp : List Int} {rf rk : Nat} (h1 : DrAt w base T (.slice (some ⟨g, 0, none⟩) cs.length c) cs Rb vr rp rf rk S.b) (h2 : cs.length = S.n) (h3 : ∀ j (h : j < cs.length), (cs[j]).qu = S.qu j ∧ (cs[j]).cr = S.cr j ∧ (cs[j]).q = S.q j) (h4 : cont 0 rp rf rk = S.R) (inv : TInv S) (hR : S.R ≠ []) (hb : S.b = false) (i : Nat) (hi : i < cs.length) (hd : S.hd = i) :
    ∃ In', DrG ((w.setCell ⟨T, 2, none⟩ (.bool true)).setCell ⟨g, i * 3 + 1, none⟩ (.int .u64 (S.cr i + S.qu i))) base T S.adv In' ∧ MvS w ((w.setCell ⟨T, 2, none⟩ (.bool true)).setCell ⟨g, i * 3 + 1, none⟩ (.int .u64 (S.cr i + S.qu i))) (inDr T (.slice (some ⟨g, 0, none⟩) cs.length c) cs Rb vr) In' := by
  obtain ⟨d1, m1⟩ := h1.setB true
  obtain ⟨d2, m2⟩ := d1.setC i hi (S.cr i + S.qu i)
  have e : S.adv = { S with cr := upd S.cr i (S.cr i + S.qu i), b := true } := by unfold Ts.adv; rw [if_pos hb, hd]
  have ns : ¬ S.stop := fun hs => by
    rcases hs with hs | ⟨hs, -⟩
    · exact hR hs
    · rw [hb] at hs; cases hs
  refine ⟨_, ⟨_, _, Rb, vr, rp, rf, rk, ?_, ?_, ?_, ?_, adv_inv inv ns, fun j => Iff.rfl⟩, m1.trans m2⟩
  · rw [e]; exact d2
  · rw [e, List.length_set]; exact h2
  · rw [e]; exact view_setC h3 i hi _
  · rw [e]; exact h4
/-- One look, in memory: the first one's turn is over. -/
theorem adv_over {w : World} {base T : Nat} {S : Ts} {vc : Value} {cs : List Dc} {Rb : Nat} {vr' : Value} {rp' : List Int} {rf' rk' : Nat} (h1 : DrAt w base T vc cs Rb vr' rp' rf' rk' false) (h2 : cs.length = S.n) (h3 : ∀ j (h : j < cs.length), (cs[j]).qu = S.qu j ∧ (cs[j]).cr = S.cr j ∧ (cs[j]).q = S.q j) (h4 : cont 0 rp' rf' rk' = S.R.drop 1 ++ [S.R.getD 0 0]) (inv : TInv S) (ns : ¬ S.stop) (hb : S.b = true) :
    DrG w base T S.adv (inDr T vc cs Rb vr') := by
  have e : S.adv = { S with R := S.R.drop 1 ++ [S.R.getD 0 0], b := false } := by unfold Ts.adv; rw [if_neg (by rw [hb]; decide)]
  refine ⟨_, _, Rb, vr', rp', rf', rk', ?_, ?_, ?_, ?_, adv_inv inv ns, fun j => Iff.rfl⟩
  · rw [e]; exact h1
  · rw [e]; exact h2
  · rw [e]; exact h3
  · rw [e]; exact h4
set_option maxRecDepth 100000 in
set_option maxHeartbeats 4000000 in
theorem dturn {w : World} {base T : Nat} {S : Ts} {In : Nat → Prop} (h : DrG w base T S In) (hbase : base ≤ w.heap.size) : Calls Try.prog 79 #[.pointer (some ⟨T, 0, none⟩)] w fun e w' => e = .returned (.tuple #[.int .i64 (S.fin.R.getD 0 0), .bool (!S.fin.R.isEmpty)]) ∧ ∃ In', DrG w' base T S.fin In' ∧ MvS w w' In In' := by
  have HH := Lib.hid h
  have HB := Lib.hid hbase
  obtain ⟨vc, cs, Rb, vr, rp, rf, rk, h1, h2, h3, h4, h5, h6⟩ := h
  have HD := Lib.hid (dhead h1.row)
  rw [h4] at HD
  obtain ⟨c0, c1, c2, f2⟩ := h1.cell
  clear h1 h2 h3 h4 h5 h6 hbase
  go_enter Try.func79, Try.ntmps79
  go_wp2
  go_step3
  go_wp2_with fail
  refine HD.out.mono ?_
  rintro e w1 ⟨rfl, b1⟩
  have H1 := Lib.hid (HH.out.below b1)
  have M1 := Lib.hid (MvS.of_below In b1)
  have S1 := Lib.hid (Nat.le_trans HB.out b1.size)
  clear b1 c0 c1 c2 f2 HD
  go_wp2
  go_step3
  go_wp2
  go_loopg [4, 5] S.mu (fun g zi zok wr => ∃ (S1 : Ts) (In1 : Nat → Prop), g = S1.mu ∧ zi = .int .i64 (S1.R.getD 0 0) ∧ zok = .bool (!S1.R.isEmpty) ∧ Hid (DrG wr base T S1 In1) ∧ Hid (MvS w wr In In1) ∧ Hid (S1.fin = S.fin) ∧ Hid (base ≤ wr.heap.size))
  case atStart => exact ⟨S, In, rfl, rfl, rfl, H1, M1, Lib.hid rfl, S1⟩
  case round =>
    obtain ⟨S1, In1, hg, rfl, rfl, HG, HM, HF, HS⟩ := hrel
    have HG0 := Lib.hid hg
    clear hg
    by_cases hR : S1.R = []
    · have hz : (!S1.R.isEmpty) = false := by rw [hR]; rfl
      have he : S1 = S.fin := by rw [← HF.out]; exact (fin_stop (Or.inl hR)).symm
      have HE := Lib.hid he
      rw [hz]
      clear he
      go_wp2
      try rw [Exit.noGoto_ret]
      go_ret2
      rw [← HE.out, hz]
      exact ⟨rfl, _, HG.out, HM.out⟩
    · have hz := not_isEmpty hR
      obtain ⟨r, hr, hi, hq, hg0⟩ := HG.out.inv.head hR
      have INV := Lib.hid HG.out.inv
      have HR := Lib.hid hR; have HQ := Lib.hid hq
      rw [hz, hg0]
      obtain ⟨i, hii⟩ : ∃ i, S1.hd = i := ⟨_, rfl⟩
      have HI := Lib.hid hii
      rw [hii] at hi hq
      rw [hii]
      obtain ⟨vc, cs, Rb, vr, rp, rf, rk, h1, h2, h3, h4, -, h6⟩ := HG.out
      have hic : i < cs.length := by omega
      have h3i := h3 i hic
      have hk : 0 < (cs[i]'hic).k := by
        have := cont_length izI (cs[i]'hic).ps (cs[i]'hic).f (cs[i]'hic).k
        rw [show cont izI (cs[i]'hic).ps (cs[i]'hic).f (cs[i]'hic).k = S1.q i from h3i.2.2] at this
        have : S1.q i ≠ [] := hq
        have := List.length_pos_iff.2 this
        omega
      have HDI := qhead_inI (h1.each i hic) hk
      rw [show cont izI (cs[i]'hic).ps (cs[i]'hic).f (cs[i]'hic).k = S1.q i from h3i.2.2] at HDI
      obtain ⟨x, hx⟩ : ∃ x, (S1.q i).getD 0 izI = x := ⟨_, rfl⟩
      have HX := Lib.hid (show fsz (S1.q i) = x.1 from by unfold fsz; rw [hx])
      rw [hx] at HDI
      obtain ⟨x1, x2⟩ := x
      unfold iaggI at HDI
      dsimp only at HDI
      have HDIH := Lib.hid HDI
      have D1 := Lib.hid h1; have D2 := Lib.hid h2; have D3 := Lib.hid h3; have D4 := Lib.hid h4; have D6 := Lib.hid h6; have D3I := Lib.hid h3i
      obtain ⟨g, c, rfl, hgb, hgl, hcs⟩ := h1.form
      obtain ⟨e0, e1, e2, f2⟩ := h1.cell
      obtain ⟨q0, q1, q2, q3⟩ := hcs i hic
      rw [h2] at e0
      have z0 : (0 : Int) ≤ i := by omega
      have z1 : (i : Int) < S1.n := by omega
      have TL := Lib.hid (show T < wr.heap.size from (Array.getElem?_eq_some_iff.1 h1.blk).1)
      have GL := Lib.hid hgl; have GT := Lib.hid (show g ≠ T from fun e => h1.apart.1 (by rw [e]; rfl))
      clear h1 h2 h3 h4 h6 hcs hR hz hr hg0 hii hq h3i hk HDI hx hgl hgb
      go_wp2_with fail
      refine HDIH.out.mono ?_
      rintro e w2 ⟨rfl, b2⟩
      have B3 := Lib.hid (show Below wr.heap.size wr (w2.alloc (.cells #[.int .u64 x1, .int .i64 x2] 155)) from b2.alloc b2.size _)
      have A3 := Lib.hid (heap_alloc_new w2 (.cells #[.int .u64 x1, .int .i64 x2] 155))
      have L3 := Lib.hid b2.size
      clear b2 e0 e1 e2 f2 q0 q1 q2 q3 HDIH
      go_upto_region 10 with (fail)
      generalize w2.alloc (.cells #[.int .u64 x1, .int .i64 x2] 155) = w3 at *
      generalize w2.heap.size = A at *
      have DW := Lib.hid (D1.out.below B3.out)
      have HM3 := Lib.hid (HM.out.trans ((MvS.of_below In1 B3.out)))
      have LW := Lib.hid B3.out.size
      obtain ⟨e0, e1, e2, f2⟩ := DW.out.cell
      obtain ⟨g', c', hgc, -, hgl3, hcs⟩ := DW.out.form
      obtain ⟨rfl, rfl⟩ : g = g' ∧ c = c' := by injection hgc with u1 u2 u3; injection u1 with u1; injection u1 with u1; exact ⟨u1, u3⟩
      obtain ⟨q0, q1, q2, q3⟩ := hcs i hic
      rw [D3I.out.1] at q0
      rw [D3I.out.2.1] at q1
      rw [D2.out] at e0
      obtain ⟨a0, a1, -⟩ := (⟨cell_of_row w3 A 0 _ _ (0, 0) A3.out, cell_of_row w3 A 1 _ _ (0, 0) A3.out, trivial⟩ : w3.cell? ⟨A, 0, none⟩ = some (.int .u64 x1) ∧ w3.cell? ⟨A, 1, none⟩ = some (.int .i64 x2) ∧ True)
      have AT := Lib.hid (show A ≠ T by have := TL.out; have := L3.out; omega)
      have AG := Lib.hid (show A ≠ g by have := GL.out; have := L3.out; omega)
      have cq0 := INV.out.c0 i hi; have cq1 := INV.out.qu i hi; have cq2 := INV.out.c2 i hi
      clear hgc hcs B3 L3
      cases hb : S1.b with
      | false =>
        have NB := Lib.hid (adv_begin DW.out D2.out D3.out D4.out INV.out HR.out hb i hic HI.out)
        have NS := Lib.hid (show ¬ S1.stop from fun hs => by
          rcases hs with hs | ⟨hs, -⟩
          · exact HR.out hs
          · rw [hb] at hs; cases hs)
        have RA := Lib.hid (show S1.adv.R = S1.R from by unfold Ts.adv; rw [if_pos hb])
        rw [hb] at e2
        have hw : IntKind.u64.wrap (S1.cr i + S1.qu i) = S1.cr i + S1.qu i := by rw [IntKind.wrap_u64]; omega
        have HBB := Lib.hid hb
        clear hb a0 a1 A3
        have GT1 : ¬ g = T := GT.out
        have GT2 : ¬ T = g := fun e => GT.out e.symm
        go_upto_region 12 with (fail)
        go_region
        go_wp2
        go_roundg S1.adv.mu
        case measure => rw [HG0.out]; exact adv_mu INV.out NS.out
        case rel =>
          obtain ⟨In2, n1, n2⟩ := NB.out
          have n3 := n2.left D6.out
          have hm := HM3.out.trans n3
          have hs := Nat.le_trans HB.out hm.size
          have ha := fin_adv INV.out NS.out
          obtain ⟨r2, e1_, -, -, e2_⟩ := INV.out.head HR.out
          refine ⟨S1.adv, In2, rfl, ?_, ?_, Lib.hid ?_, Lib.hid ?_, Lib.hid (ha.trans HF.out), Lib.hid ?_⟩
          · rw [RA.out, e2_, HI.out]
          · rw [RA.out, not_isEmpty HR.out]
          · first | exact n1 | exact n1.below (Below.refl _ _).drew
          · first | exact hm | exact hm.drewN 1
          · first | exact hs | simpa [World.setCell] using hs
      | true =>
        rw [hb] at e2 DW
        have HBB := Lib.hid hb
        by_cases hx1 : x1 ≤ S1.cr i
        · have gx : decide (x1 ≤ S1.cr i) = true := decide_eq_true hx1
          have ST := Lib.hid (show S1 = S.fin from by
            rw [← HF.out]
            refine (fin_stop (Or.inr ⟨hb, ?_⟩)).symm
            rw [HI.out, HX.out]; exact hx1)
          have HEM := Lib.hid (not_isEmpty HR.out)
          have HG3 := Lib.hid (show DrG w3 base T S1 In1 from ⟨_, _, _, _, _, _, _, by rw [hb]; exact DW.out, D2.out, D3.out, D4.out, INV.out, D6.out⟩)
          have HZ := Lib.hid (show S1.R.getD 0 0 = (i : Int) from by
            obtain ⟨r2, e1_, -, -, e2_⟩ := INV.out.head HR.out
            rw [e2_, HI.out])
          clear hb hx1
          go_upto_region 13 with (fail)
          go_quiet (fail)
          go_wp2
          try rw [Exit.noGoto_ret]
          go_ret2
          rw [← ST.out]
          exact ⟨by rw [HZ.out, HEM.out]; rfl, _, HG3.out.below (below_drewN _ (Below.refl _ _)), HM3.out.drewN _⟩
        · have gx : decide (x1 ≤ S1.cr i) = false := decide_eq_false hx1
          have NS := Lib.hid (show ¬ S1.stop from fun hs => by
            rcases hs with hs | ⟨-, hs⟩
            · exact HR.out hs
            · rw [HI.out, HX.out] at hs; exact hx1 hs)
          have HZ := Lib.hid (show S1.R.getD 0 0 = (i : Int) from by
            obtain ⟨r2, e1_, -, -, e2_⟩ := INV.out.head HR.out
            rw [e2_, HI.out])
          clear hb hx1
          obtain ⟨k, rfl⟩ : ∃ k, rk = k + 1 := ⟨rk - 1, by
            have h5 := cont_length 0 rp rf rk
            rw [D4.out] at h5
            have := List.length_pos_iff.2 HR.out
            omega⟩
          have EN := Lib.hid (fun (d : Nat) => dend (DW.out.below (below_drewN d (Below.refl _ _))))
          have KL := Lib.hid (show (k : Int) < cs.length from by
            have h5 := DW.out.row.le
            have h6 := DW.out.row.lr
            omega)
          have RA := Lib.hid (show S1.adv.R = S1.R.drop 1 ++ [S1.R.getD 0 0] from by unfold Ts.adv; rw [if_neg (by rw [HBB.out]; decide)])
          have SB := Lib.hid (Nat.le_trans HB.out HM3.out.size)
          go_upto_region 13 with (fail)
          go_quiet (fail)
          go_wp2_with fail
          refine (EN.out _).mono ?_
          rintro e w4 ⟨rfl, rp1, rf1, d4, hc4, m4⟩
          have D5 := Lib.hid d4; have HC4 := Lib.hid hc4
          have M4 := Lib.hid (HM3.out.trans (((MvS.of_below In1 (below_drewN nq (Below.refl w3.heap.size w3))).trans (m4.left D6.out))))
          have S4 := Lib.hid (Nat.le_trans HB.out M4.out.size)
          have PT := Lib.hid (put_anyI d4.row KL.out (i : Int) S4.out)
          clear e0 e1 e2 f2 q0 q1 q2 q3 a0 a1 d4 hc4 m4 EN
          obtain ⟨e0, e1, e2, f2⟩ := D5.out.cell
          go_wp2_with fail
          refine PT.out.mono ?_
          rintro e w5 ⟨rfl, vr5, rp5, rf5, r5, hc5, m5⟩
          obtain ⟨d5, m6⟩ := D5.out.setR m5 r5
          have D7 := Lib.hid d5
          have HC5 := Lib.hid (show cont 0 rp5 rf5 (k + 1) = S1.R.drop 1 ++ [S1.R.getD 0 0] from by rw [hc5, HC4.out, D4.out, HZ.out])
          have M5 := Lib.hid (M4.out.trans m6)
          have HD5 := Lib.hid (dhead d5.row)
          clear e0 e1 e2 f2 r5 hc5 m5 m6 d5 PT
          rw [HC5.out] at HD5
          obtain ⟨e0, e1, e2, f2⟩ := D7.out.cell
          have OV := Lib.hid (adv_over (w := w5) D7.out D2.out D3.out HC5.out INV.out NS.out HBB.out)
          go_wp2_with fail
          refine HD5.out.mono ?_
          rintro e w6 ⟨rfl, b6⟩
          have FIN := Lib.hid (And.intro (OV.out.below b6) (M5.out.trans (MvS.of_below _ b6)))
          clear b6 e0 e1 e2 f2 HD5 OV
          rw [← RA.out]
          go_wp2
          go_roundg S1.adv.mu
          case measure => rw [HG0.out]; exact adv_mu INV.out NS.out
          case rel =>
            have hs := Nat.le_trans HB.out FIN.out.2.size
            have ha := fin_adv INV.out NS.out
            exact ⟨S1.adv, _, rfl, by first | rfl | simp, by first | rfl | simp, Lib.hid FIN.out.1, Lib.hid FIN.out.2, Lib.hid (ha.trans HF.out), Lib.hid hs⟩
end Go.Proofs.Ytiogfgkfipekbaa
