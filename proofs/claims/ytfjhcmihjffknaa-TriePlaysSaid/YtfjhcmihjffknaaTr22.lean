/-
  The law of layer 32 against the answer, walked: true for any acts. No condition.
-/
import Derived.Test.YtfjhcmihjffknaaTr21
import Derived.Test.YtfjhcmihjffknaaTr13
import Derived.Test.YtfjhcmihjffknaaOpen32
import Derived.Maps.Range
namespace Go.Proofs.Ytfjhcmihjffknaa
set_option linter.unusedVariables false
set_option linter.unusedSimpArgs false
open Go.ChangeShapes Go.WideShapes Go.ChangeAt Go.RowKit
attribute [local go_sem] alloc_drewN setCell_drewN

theorem at_get {t : Tr} {a n r : Int} (hw : Wf t) (h : fd32 (tlist t) a n r) : (r = -1 ∧ tget a n t = none) ∨ (∃ k : Nat, ∃ h : k < (tlist t).length, r = k ∧ tget a n t = some (tlist t)[k].2.2) := by
  rcases h with ⟨k, hk, hr, h1, h2⟩ | ⟨hr, hno⟩
  · refine Or.inr ⟨k, hk, hr, (tget_mem hw).2 ?_⟩
    have := List.getElem_mem hk
    generalize (tlist t)[k] = e at *
    obtain ⟨e1, e2, e3⟩ := e
    dsimp only at h1 h2
    subst h1 h2
    exact this
  · exact Or.inl ⟨hr, (tget_no hw).2 hno⟩
theorem row_cells {w : World} {B : Nat} {ar : Option Addr} {N cr : Nat} {xs : List (Int × Int × Int)} (h : Its32 w B (.slice ar N cr) xs) {k : Nat} (hk : k < xs.length) : ∃ g, ar = some ⟨g, 0, none⟩ ∧ w.cell? ⟨g, k * 3, none⟩ = some (.int .u32 (xs[k]).1) ∧ w.cell? ⟨g, k * 3 + 1, none⟩ = some (.int .i64 (xs[k]).2.1) ∧ w.cell? ⟨g, k * 3 + 2, none⟩ = some (.int .i64 (xs[k]).2.2) := by
  obtain ⟨a1, c1, e1, -, h1⟩ := h.form
  injection e1 with e1 _ _
  subst e1
  obtain ⟨g, g1, -, g2⟩ := h1 k hk
  exact ⟨g, g1, g2⟩
theorem itp32_at (xs : List (Int × Int × Int)) (h i : Nat) (hh : h < xs.length) (hi : i < 2) : (xs.flatMap itp32)[h * 2 + i]? = (itp32 xs[h])[i]? := by
  induction xs generalizing h with
  | nil => exact absurd hh (Nat.not_lt_zero _)
  | cons x xs ih =>
    rw [List.flatMap_cons]
    cases h with
    | zero => rw [Nat.zero_mul, Nat.zero_add, List.getElem?_append_left (by simpa [itp32] using hi)]; rfl
    | succ h =>
      rw [List.getElem?_append_right (by simp [itp32]; omega)]
      have e4 : (h + 1) * 2 + i - (itp32 x).length = h * 2 + i := by simp [itp32]; omega
      rw [e4, ih h (by simpa using hh)]; rfl
theorem pf_form {w : World} {base : Nat} {v : Value} {xs : List (Int × Int × Int)} (h : Pf32 w base v xs) : ∃ a c, v = .slice a xs.length c ∧ ∀ i (hi : i < xs.length), ∃ g, a = some ⟨g, 0, none⟩ ∧ w.cell? ⟨g, i * 2, none⟩ = some (.int .u32 (xs[i]).1) ∧ w.cell? ⟨g, i * 2 + 1, none⟩ = some (.int .i64 (xs[i]).2.1) := by
  have h' := h
  unfold Pf32 at h'
  rcases h'.2 with ⟨rfl, h0⟩ | ⟨g, cap, cur, rfl, hb, hg, h1, _⟩
  · exact ⟨none, 0, by rw [h0], fun i hi => by omega⟩
  · refine ⟨some ⟨g, 0, none⟩, cap, rfl, fun i hi => ⟨g, rfl, ?_, ?_⟩⟩
    · exact (h'.cellAt (i * 2 + 0) (by omega)).trans (itp32_at xs i 0 hi (by omega))
    · exact (h'.cellAt (i * 2 + 1) (by omega)).trans (itp32_at xs i 1 hi (by omega))
set_option maxRecDepth 100000 in
set_option maxHeartbeats 40000000 in
theorem plays32_at (a : Option Addr) (n c : Nat) (fs : List Act32) (hn : n ≤ 150) (w : World) (hr : RowA32 w a n fs) :
    Calls Try.prog 10 #[.slice a n c] w fun e w' => e = .returned (.bool true) ∧ Below w.heap.size w w' := by
  have HR := Lib.hid hr
  have HN := Lib.hid hn
  have y1 : ¬ (150 : Int) < n := by omega
  have NW := Lib.hid (tnew w)
  clear hr hn
  go_enter Try.func10, Try.ntmps10
  go_wp2_with fail
  refine NW.out.mono ?_
  rintro e w1 ⟨rfl, h1, b1⟩
  have W1 := Lib.hid (show P32 w w1 (w.heap.size + 1) (.nd 0 0 false 0 .nil .nil) (.slice none 0 0) from ⟨_, ⟨h1, ⟨by decide, by decide, trivial, trivial, trivial, trivial⟩, _, _, _, _, rfl⟩, b1, ⟨_, Nat.le_refl _, Its32.nil _ _⟩, fun g hg => by cases hg⟩)
  clear h1 b1 NW
  generalize w.heap.size + 1 = T at *
  go_wp2
  go_loopw [4, 32] (fun m z wr => ∃ (i : Nat) (t : Tr), z = .int .i64 i ∧ i ≤ n ∧ Hid (P32 w wr T t m) ∧ tsz t ≤ i) (fun _ z _ => n - (intOf z).toNat)
  case atStart => exact ⟨0, _, rfl, Nat.zero_le _, W1, by decide⟩
  case round =>
    clear W1
    rename_i m0 z0 wr
    obtain ⟨i, t, rfl, hi, HW, hsz⟩ := hrel
    by_cases hlt : i < n
    · obtain ⟨hzl, hzm, hzw, hzc⟩ := HR.out
      obtain ⟨b, off, rfl, hb0, hcs⟩ := hzc (by omega)
      obtain ⟨cx0, cx1, cx2, cx3, cx4⟩ := hcs i hlt
      have xb := HW.out.bel
      have ac0_ := (xb.cell (p := ⟨b, off + i * 5, none⟩) hb0).trans cx0
      have ac1_ := (xb.cell (p := ⟨b, off + i * 5 + 1, none⟩) hb0).trans cx1
      have ac2_ := (xb.cell (p := ⟨b, off + i * 5 + 2, none⟩) hb0).trans cx2
      have ac3_ := (xb.cell (p := ⟨b, off + i * 5 + 3, none⟩) hb0).trans cx3
      have ac4_ := (xb.cell (p := ⟨b, off + i * 5 + 4, none⟩) hb0).trans cx4
      have hok := hzw (fs.getD i Act32.nil) (by rw [List.getD_eq_getElem?_getD, List.getElem?_eq_getElem (by rw [hzl]; exact hlt)]; exact List.getElem_mem _)
      obtain ⟨oa, on, ox, oq⟩ := hok
      clear hzl hzm hzw hzc hcs cx0 cx1 cx2 cx3 cx4 xb
      generalize fs.getD i Act32.nil = f at *
      obtain ⟨xd, xa, xn, xx, xq⟩ := f
      dsimp only at ac0_ ac1_ ac2_ ac3_ ac4_ oa on ox oq
      have z0 : (0 : Int) ≤ i := by omega
      have z1 : (i : Int) < n := by omega
      have HLT := Lib.hid hlt
      have HSZ := Lib.hid (show tsz t < 4096 ∧ tsz t + 1 ≤ (i + 1 : Nat) by have := HN.out; omega)
      have AW := Lib.hid ((Below.refl wr.heap.size wr).alloc (Nat.le_refl _) (.cells #[.bool xd, .int .u32 xa, .int .i64 xn, .int .i64 xx, .int .u32 xq] 82))
      have HA := Lib.hid (heap_alloc_new wr (.cells #[.bool xd, .int .u32 xa, .int .i64 xn, .int .i64 xx, .int .u32 xq] 82))
      obtain ⟨e0_, e1_, e2_, e3_, e4_⟩ := row5 HA.out
      have SA := Lib.hid (show wr.heap.size < (wr.alloc (.cells #[.bool xd, .int .u32 xa, .int .i64 xn, .int .i64 xx, .int .u32 xq] 82)).heap.size by simp)
      have hw1 : IntKind.i64.wrap ((i : Int) + 1) = (i : Int) + 1 := by rw [IntKind.wrap_i64]; have := HN.out; omega
      clear hlt hi hsz
      cases xd
      · go_wp2_with fail
        refine (HW.out.put AW.out oa on HSZ.out.1 xx).mono ?_
        rintro e w3 ⟨v4, c3, rfl, nx, b3⟩
        have NX := Lib.hid (nx w3 (Below.refl _ _))
        have A3 := Lib.hid ((b3.block _ SA.out).trans HA.out)
        have S3 := Lib.hid (Nat.lt_of_lt_of_le SA.out b3.size)
        clear e0_ e1_ e2_ e3_ e4_ nx b3 HW AW HA SA
        obtain ⟨e0_, e1_, e2_, e3_, e4_⟩ := row5 A3.out
        go_wp2_with fail
        refine NX.out.mono ?_
        rintro e w4 ⟨rfl, ⟨t4, h4, s4⟩, st⟩
        have H4 := Lib.hid h4
        have A4 := Lib.hid ((st _ (Nat.le_refl _) S3.out).trans A3.out)
        have Z4 := Lib.hid (show tsz t4 ≤ (i + 1 : Nat) by have := HSZ.out; omega)
        clear e0_ e1_ e2_ e3_ e4_ h4 s4 st NX A3 S3 HSZ
        obtain ⟨e0_, e1_, e2_, e3_, e4_⟩ := row5 A4.out
        have hrow := H4.out.row
        obtain ⟨Br, hBr, hrow⟩ := hrow
        obtain ⟨ar, cr, rfl, -, -⟩ := hrow.form
        have ROW := Lib.hid hrow
        have LL := Lib.hid H4.out.len
        have WF := Lib.hid H4.out.wf
        obtain ⟨fb, fm, fx, fi, hF⟩ : ∃ fb fm fx fi, fnd (tfind xq t4) = (fb, fm, fx, fi) := ⟨_, _, _, _, rfl⟩
        have HF := Lib.hid hF
        clear hF hrow
        go_wp2_with fail
        refine (H4.out.find oq HF.out).mono ?_
        rintro e w5 ⟨rfl, b5⟩
        have B5 := Lib.hid (b5.trans (((Below.refl w5.heap.size w5).alloc (Nat.le_refl _) (.cells #[.int .u32 fb, .int .i64 fm] 70)).mono b5.size))
        have D5 := Lib.hid (heap_alloc_new w5 (.cells #[.int .u32 fb, .int .i64 fm] 70))
        have L5 := Lib.hid (show w5.heap.size < (w5.alloc (.cells #[.int .u32 fb, .int .i64 fm] 70)).heap.size by simp)
        have A5 := Lib.hid ((B5.out.block _ (Array.getElem?_eq_some_iff.1 A4.out).1).trans A4.out)
        have R5 := Lib.hid (ROW.out.below B5.out)
        have H5 := Lib.hid (H4.out.on B5.out)
        have FD := Lib.hid (find32 R5.out (by have := LL.out; omega) (fun m hm => by have h := wf_mem WF.out m hm; exact ⟨h.2, h.1.1⟩) xq oq.1 oq.2)
        clear e0_ e1_ e2_ e3_ e4_ b5 H4 A4 ROW
        obtain ⟨e0_, e1_, e2_, e3_, e4_⟩ := row5 A5.out
        go_wp2_with fail
        generalize w5.alloc (.cells #[.int .u32 fb, .int .i64 fm] 70) = V5 at *
        refine FD.out.mono ?_
        rintro e w6 ⟨r, rfl, hb6, b6⟩
        have R6 := Lib.hid (R5.out.below b6)
        have H6 := Lib.hid (H5.out.on b6)
        have A6 := Lib.hid ((b6.block _ (Array.getElem?_eq_some_iff.1 A5.out).1).trans A5.out)
        obtain ⟨k0_, k1_⟩ := box2 ((b6.block _ L5.out).trans D5.out)
        have FB := Lib.hid (fnd_bst WF.out oq.1 hb6 HF.out)
        clear e0_ e1_ e2_ e3_ e4_ b6 hb6 FD H5 A5 R5 D5 HF
        generalize w5.heap.size = S2 at *
        rcases FB.out with ⟨f0, f1, f2, f3, f4⟩ | ⟨f0, k, hk, f1, f2⟩
        · subst f0 f1 f2 f3 f4
          have NQ := fun W => prefix_ne 0 0 W
          go_wp2_with fail
          go_quiet (fail)
          have bd := below_drewN nq (Below.refl w6.heap.size w6)
          have H7 := Lib.hid (H6.out.on bd)
          have R7 := Lib.hid (R6.out.below bd)
          have A7 := Lib.hid ((bd.block _ (Array.getElem?_eq_some_iff.1 A6.out).1).trans A6.out)
          clear bd H6 R6 A6 FB k0_ k1_ NQ
          generalize w6.drewN nq = w7 at *
          obtain ⟨e0_, e1_, e2_, e3_, e4_⟩ := row5 A7.out
          have GT := H7.out.tab
          obtain ⟨bs7, GT⟩ := GT
          have GT := Lib.hid (tget_in GT.1 oa on)
          go_wp2_with fail
          refine GT.out.mono ?_
          rintro e w8 ⟨rfl, b8⟩
          have H8 := Lib.hid (H7.out.on b8)
          have R8 := Lib.hid (R7.out.below b8)
          have A8 := (b8.block _ (Array.getElem?_eq_some_iff.1 A7.out).1).trans A7.out
          have AT := Lib.hid (at32 R8.out (by have := LL.out; omega) xa xn)
          clear e0_ e1_ e2_ e3_ e4_ b8 GT H7 R7 A7
          obtain ⟨e0_, e1_, e2_, e3_, e4_⟩ := row5 A8
          clear A8
          go_wp2_with fail
          refine AT.out.mono ?_
          rintro e w9 ⟨r2, rfl, hf9, b9⟩
          have H9 := Lib.hid (H8.out.on b9)
          have R9 := Lib.hid (R8.out.below b9)
          have TN := H9.out.tab
          obtain ⟨bs9, TN⟩ := TN
          have TN := tlen TN.1
          rw [← tlist_len] at TN
          have TN := Lib.hid TN
          have AG := at_get WF.out hf9
          clear e0_ e1_ e2_ e3_ e4_ b9 hf9 AT H8 R8
          rcases AG with ⟨g1, g2⟩ | ⟨k2, hk2, g1, g2⟩
          · rw [g2]
            subst g1
            clear g2
            go_wp2_with fail
            refine TN.out.mono ?_
            rintro e w10 ⟨rfl, rfl⟩
            go_wp2
            go_roundw
            case rel => exact ⟨i + 1, t4, by go_num, HLT.out, H9, Z4.out⟩
            case measure => have := HLT.out; simp [intOf] <;> omega
          · rw [g2]
            subst g1
            obtain ⟨g', G1, d3, d4, d5⟩ := row_cells R9.out hk2
            subst G1
            have kk2 : (0 : Int) ≤ k2 := by omega
            have kk3 : (k2 : Int) < (tlist t4).length := by omega
            clear g2
            generalize (tlist t4)[k2].2.2 = xv at *
            go_wp2_with fail
            refine TN.out.mono ?_
            rintro e w10 ⟨rfl, rfl⟩
            go_wp2
            go_roundw
            case rel => exact ⟨i + 1, t4, by go_num, HLT.out, H9, Z4.out⟩
            case measure => have := HLT.out; simp [intOf] <;> omega
        · subst f0 f1
          obtain ⟨g, rfl, d0, d1, d2⟩ := row_cells R6.out hk
          rw [f2] at d0 d1 d2
          dsimp only at d0 d1 d2
          have kk0 : (0 : Int) ≤ k := by omega
          have kk1 : (k : Int) < (tlist t4).length := by omega
          clear f2
          have NQ := fun W => prefix_ne fb fm W
          go_wp2_with fail
          go_quiet (fail)
          have bd := below_drewN nq (Below.refl w6.heap.size w6)
          have H7 := Lib.hid (H6.out.on bd)
          have R7 := Lib.hid (R6.out.below bd)
          have A7 := Lib.hid ((bd.block _ (Array.getElem?_eq_some_iff.1 A6.out).1).trans A6.out)
          clear d0 d1 d2 kk0 kk1
          clear bd H6 R6 A6 FB k0_ k1_ NQ
          generalize w6.drewN nq = w7 at *
          obtain ⟨e0_, e1_, e2_, e3_, e4_⟩ := row5 A7.out
          have GT := H7.out.tab
          obtain ⟨bs7, GT⟩ := GT
          have GT := Lib.hid (tget_in GT.1 oa on)
          go_wp2_with fail
          refine GT.out.mono ?_
          rintro e w8 ⟨rfl, b8⟩
          have H8 := Lib.hid (H7.out.on b8)
          have R8 := Lib.hid (R7.out.below b8)
          have A8 := (b8.block _ (Array.getElem?_eq_some_iff.1 A7.out).1).trans A7.out
          have AT := Lib.hid (at32 R8.out (by have := LL.out; omega) xa xn)
          clear e0_ e1_ e2_ e3_ e4_ b8 GT H7 R7 A7
          obtain ⟨e0_, e1_, e2_, e3_, e4_⟩ := row5 A8
          clear A8
          go_wp2_with fail
          refine AT.out.mono ?_
          rintro e w9 ⟨r2, rfl, hf9, b9⟩
          have H9 := Lib.hid (H8.out.on b9)
          have R9 := Lib.hid (R8.out.below b9)
          have TN := H9.out.tab
          obtain ⟨bs9, TN⟩ := TN
          have TN := tlen TN.1
          rw [← tlist_len] at TN
          have TN := Lib.hid TN
          have AG := at_get WF.out hf9
          clear e0_ e1_ e2_ e3_ e4_ b9 hf9 AT H8 R8
          rcases AG with ⟨g1, g2⟩ | ⟨k2, hk2, g1, g2⟩
          · rw [g2]
            subst g1
            clear g2
            go_wp2_with fail
            refine TN.out.mono ?_
            rintro e w10 ⟨rfl, rfl⟩
            go_wp2
            go_roundw
            case rel => exact ⟨i + 1, t4, by go_num, HLT.out, H9, Z4.out⟩
            case measure => have := HLT.out; simp [intOf] <;> omega
          · rw [g2]
            subst g1
            obtain ⟨g', G1, d3, d4, d5⟩ := row_cells R9.out hk2
            injection G1 with G1
            injection G1 with G1
            subst G1
            have kk2 : (0 : Int) ≤ k2 := by omega
            have kk3 : (k2 : Int) < (tlist t4).length := by omega
            clear g2
            generalize (tlist t4)[k2].2.2 = xv at *
            go_wp2_with fail
            refine TN.out.mono ?_
            rintro e w10 ⟨rfl, rfl⟩
            go_wp2
            go_roundw
            case rel => exact ⟨i + 1, t4, by go_num, HLT.out, H9, Z4.out⟩
            case measure => have := HLT.out; simp [intOf] <;> omega
      · go_wp2_with fail
        refine (HW.out.drop AW.out oa on).mono ?_
        rintro e w3 ⟨y, b0, rfl, nx, -, st⟩
        have NX := Lib.hid (nx w3 (Below.refl _ _))
        have A3 := Lib.hid ((st _ (Nat.le_refl _) SA.out).trans HA.out)
        clear e0_ e1_ e2_ e3_ e4_ nx st HW AW HA SA
        obtain ⟨e0_, e1_, e2_, e3_, e4_⟩ := row5 A3.out
        go_wp2_with fail
        refine NX.out.mono ?_
        rintro e w4 ⟨v4, rfl, ⟨t4, h4, s4⟩, b4⟩
        have H4 := Lib.hid h4
        have A4 := Lib.hid ((b4.block _ (Array.getElem?_eq_some_iff.1 A3.out).1).trans A3.out)
        have Z4 := Lib.hid (show tsz t4 ≤ (i + 1 : Nat) by have := HSZ.out; omega)
        clear e0_ e1_ e2_ e3_ e4_ h4 s4 b4 NX A3 HSZ
        obtain ⟨e0_, e1_, e2_, e3_, e4_⟩ := row5 A4.out
        have hrow := H4.out.row
        obtain ⟨Br, hBr, hrow⟩ := hrow
        obtain ⟨ar, cr, rfl, -, -⟩ := hrow.form
        have ROW := Lib.hid hrow
        have LL := Lib.hid H4.out.len
        have WF := Lib.hid H4.out.wf
        obtain ⟨fb, fm, fx, fi, hF⟩ : ∃ fb fm fx fi, fnd (tfind xq t4) = (fb, fm, fx, fi) := ⟨_, _, _, _, rfl⟩
        have HF := Lib.hid hF
        clear hF hrow
        go_wp2_with fail
        refine (H4.out.find oq HF.out).mono ?_
        rintro e w5 ⟨rfl, b5⟩
        have B5 := Lib.hid (b5.trans (((Below.refl w5.heap.size w5).alloc (Nat.le_refl _) (.cells #[.int .u32 fb, .int .i64 fm] 70)).mono b5.size))
        have D5 := Lib.hid (heap_alloc_new w5 (.cells #[.int .u32 fb, .int .i64 fm] 70))
        have L5 := Lib.hid (show w5.heap.size < (w5.alloc (.cells #[.int .u32 fb, .int .i64 fm] 70)).heap.size by simp)
        have A5 := Lib.hid ((B5.out.block _ (Array.getElem?_eq_some_iff.1 A4.out).1).trans A4.out)
        have R5 := Lib.hid (ROW.out.below B5.out)
        have H5 := Lib.hid (H4.out.on B5.out)
        have FD := Lib.hid (find32 R5.out (by have := LL.out; omega) (fun m hm => by have h := wf_mem WF.out m hm; exact ⟨h.2, h.1.1⟩) xq oq.1 oq.2)
        clear e0_ e1_ e2_ e3_ e4_ b5 H4 A4 ROW
        obtain ⟨e0_, e1_, e2_, e3_, e4_⟩ := row5 A5.out
        go_wp2_with fail
        generalize w5.alloc (.cells #[.int .u32 fb, .int .i64 fm] 70) = V5 at *
        refine FD.out.mono ?_
        rintro e w6 ⟨r, rfl, hb6, b6⟩
        have R6 := Lib.hid (R5.out.below b6)
        have H6 := Lib.hid (H5.out.on b6)
        have A6 := Lib.hid ((b6.block _ (Array.getElem?_eq_some_iff.1 A5.out).1).trans A5.out)
        obtain ⟨k0_, k1_⟩ := box2 ((b6.block _ L5.out).trans D5.out)
        have FB := Lib.hid (fnd_bst WF.out oq.1 hb6 HF.out)
        clear e0_ e1_ e2_ e3_ e4_ b6 hb6 FD H5 A5 R5 D5 HF
        generalize w5.heap.size = S2 at *
        rcases FB.out with ⟨f0, f1, f2, f3, f4⟩ | ⟨f0, k, hk, f1, f2⟩
        · subst f0 f1 f2 f3 f4
          have NQ := fun W => prefix_ne 0 0 W
          go_wp2_with fail
          go_quiet (fail)
          have bd := below_drewN nq (Below.refl w6.heap.size w6)
          have H7 := Lib.hid (H6.out.on bd)
          have R7 := Lib.hid (R6.out.below bd)
          have A7 := Lib.hid ((bd.block _ (Array.getElem?_eq_some_iff.1 A6.out).1).trans A6.out)
          clear bd H6 R6 A6 FB k0_ k1_ NQ
          generalize w6.drewN nq = w7 at *
          obtain ⟨e0_, e1_, e2_, e3_, e4_⟩ := row5 A7.out
          have GT := H7.out.tab
          obtain ⟨bs7, GT⟩ := GT
          have GT := Lib.hid (tget_in GT.1 oa on)
          go_wp2_with fail
          refine GT.out.mono ?_
          rintro e w8 ⟨rfl, b8⟩
          have H8 := Lib.hid (H7.out.on b8)
          have R8 := Lib.hid (R7.out.below b8)
          have A8 := (b8.block _ (Array.getElem?_eq_some_iff.1 A7.out).1).trans A7.out
          have AT := Lib.hid (at32 R8.out (by have := LL.out; omega) xa xn)
          clear e0_ e1_ e2_ e3_ e4_ b8 GT H7 R7 A7
          obtain ⟨e0_, e1_, e2_, e3_, e4_⟩ := row5 A8
          clear A8
          go_wp2_with fail
          refine AT.out.mono ?_
          rintro e w9 ⟨r2, rfl, hf9, b9⟩
          have H9 := Lib.hid (H8.out.on b9)
          have R9 := Lib.hid (R8.out.below b9)
          have TN := H9.out.tab
          obtain ⟨bs9, TN⟩ := TN
          have TN := tlen TN.1
          rw [← tlist_len] at TN
          have TN := Lib.hid TN
          have AG := at_get WF.out hf9
          clear e0_ e1_ e2_ e3_ e4_ b9 hf9 AT H8 R8
          rcases AG with ⟨g1, g2⟩ | ⟨k2, hk2, g1, g2⟩
          · rw [g2]
            subst g1
            clear g2
            go_wp2_with fail
            refine TN.out.mono ?_
            rintro e w10 ⟨rfl, rfl⟩
            go_wp2
            go_roundw
            case rel => exact ⟨i + 1, t4, by go_num, HLT.out, H9, Z4.out⟩
            case measure => have := HLT.out; simp [intOf] <;> omega
          · rw [g2]
            subst g1
            obtain ⟨g', G1, d3, d4, d5⟩ := row_cells R9.out hk2
            subst G1
            have kk2 : (0 : Int) ≤ k2 := by omega
            have kk3 : (k2 : Int) < (tlist t4).length := by omega
            clear g2
            generalize (tlist t4)[k2].2.2 = xv at *
            go_wp2_with fail
            refine TN.out.mono ?_
            rintro e w10 ⟨rfl, rfl⟩
            go_wp2
            go_roundw
            case rel => exact ⟨i + 1, t4, by go_num, HLT.out, H9, Z4.out⟩
            case measure => have := HLT.out; simp [intOf] <;> omega
        · subst f0 f1
          obtain ⟨g, rfl, d0, d1, d2⟩ := row_cells R6.out hk
          rw [f2] at d0 d1 d2
          dsimp only at d0 d1 d2
          have kk0 : (0 : Int) ≤ k := by omega
          have kk1 : (k : Int) < (tlist t4).length := by omega
          clear f2
          have NQ := fun W => prefix_ne fb fm W
          go_wp2_with fail
          go_quiet (fail)
          have bd := below_drewN nq (Below.refl w6.heap.size w6)
          have H7 := Lib.hid (H6.out.on bd)
          have R7 := Lib.hid (R6.out.below bd)
          have A7 := Lib.hid ((bd.block _ (Array.getElem?_eq_some_iff.1 A6.out).1).trans A6.out)
          clear d0 d1 d2 kk0 kk1
          clear bd H6 R6 A6 FB k0_ k1_ NQ
          generalize w6.drewN nq = w7 at *
          obtain ⟨e0_, e1_, e2_, e3_, e4_⟩ := row5 A7.out
          have GT := H7.out.tab
          obtain ⟨bs7, GT⟩ := GT
          have GT := Lib.hid (tget_in GT.1 oa on)
          go_wp2_with fail
          refine GT.out.mono ?_
          rintro e w8 ⟨rfl, b8⟩
          have H8 := Lib.hid (H7.out.on b8)
          have R8 := Lib.hid (R7.out.below b8)
          have A8 := (b8.block _ (Array.getElem?_eq_some_iff.1 A7.out).1).trans A7.out
          have AT := Lib.hid (at32 R8.out (by have := LL.out; omega) xa xn)
          clear e0_ e1_ e2_ e3_ e4_ b8 GT H7 R7 A7
          obtain ⟨e0_, e1_, e2_, e3_, e4_⟩ := row5 A8
          clear A8
          go_wp2_with fail
          refine AT.out.mono ?_
          rintro e w9 ⟨r2, rfl, hf9, b9⟩
          have H9 := Lib.hid (H8.out.on b9)
          have R9 := Lib.hid (R8.out.below b9)
          have TN := H9.out.tab
          obtain ⟨bs9, TN⟩ := TN
          have TN := tlen TN.1
          rw [← tlist_len] at TN
          have TN := Lib.hid TN
          have AG := at_get WF.out hf9
          clear e0_ e1_ e2_ e3_ e4_ b9 hf9 AT H8 R8
          rcases AG with ⟨g1, g2⟩ | ⟨k2, hk2, g1, g2⟩
          · rw [g2]
            subst g1
            clear g2
            go_wp2_with fail
            refine TN.out.mono ?_
            rintro e w10 ⟨rfl, rfl⟩
            go_wp2
            go_roundw
            case rel => exact ⟨i + 1, t4, by go_num, HLT.out, H9, Z4.out⟩
            case measure => have := HLT.out; simp [intOf] <;> omega
          · rw [g2]
            subst g1
            obtain ⟨g', G1, d3, d4, d5⟩ := row_cells R9.out hk2
            injection G1 with G1
            injection G1 with G1
            subst G1
            have kk2 : (0 : Int) ≤ k2 := by omega
            have kk3 : (k2 : Int) < (tlist t4).length := by omega
            clear g2
            generalize (tlist t4)[k2].2.2 = xv at *
            go_wp2_with fail
            refine TN.out.mono ?_
            rintro e w10 ⟨rfl, rfl⟩
            go_wp2
            go_roundw
            case rel => exact ⟨i + 1, t4, by go_num, HLT.out, H9, Z4.out⟩
            case measure => have := HLT.out; simp [intOf] <;> omega
    · have z1 : ¬ (i : Int) < n := by omega
      clear hlt hi HR hsz
      have hrow := HW.out.row
      obtain ⟨Br, hBr, hrow⟩ := hrow
      obtain ⟨ar, cr, rfl, -, -⟩ := hrow.form
      have ROW := Lib.hid hrow
      have LL := Lib.hid HW.out.len
      have BW := Lib.hid HW.out.bel
      have TB := HW.out.tab
      obtain ⟨bs, TB⟩ := TB
      have AL := Lib.hid (all_any TB.1 (by have := LL.out; omega))
      clear hrow TB HW
      go_wp2_with fail
      refine AL.out.mono ?_
      rintro e w5 ⟨v5, rfl, ⟨B5, hB5, h5⟩, b5⟩
      obtain ⟨a5, c5, rfl, hcells⟩ := pf_form h5
      have HC := Lib.hid hcells
      have R5 := Lib.hid (ROW.out.below b5)
      have B5 := Lib.hid (BW.out.trans (b5.mono BW.out.size))
      have LV := Lib.hid (fun (W : World) => lives32 W)
      clear h5 hcells b5 hB5 ROW AL BW
      generalize hL : tlist t = L at *
      clear hL
      go_wp2
      go_loopw [182] (fun z wr2 => ∃ j : Nat, z = .int .i64 j ∧ j ≤ L.length ∧ ∃ k, wr2 = w5.drewN k) (fun z _ => L.length - (intOf z).toNat)
      case atStart => exact ⟨0, rfl, Nat.zero_le _, 0, rfl⟩
      case round =>
        obtain ⟨j, rfl, hj, kq, rfl⟩ := hrel
        by_cases hlt : j < L.length
        · obtain ⟨g, rfl, d0, d1, d2⟩ := row_cells R5.out hlt
          obtain ⟨ga, rfl, q0, q1⟩ := HC.out j hlt
          have z0 : (0 : Int) ≤ j := by omega
          have z2 : (j : Int) < L.length := by omega
          have hw1 : IntKind.i64.wrap ((j : Int) + 1) = (j : Int) + 1 := by rw [IntKind.wrap_i64]; have := LL.out; omega
          have HLT := Lib.hid hlt
          obtain ⟨y1, y2, p0, p1, p2, p3⟩ : ∃ y1 y2, w5.cell? ⟨g, j * 3, none⟩ = some (.int .u32 y1) ∧ w5.cell? ⟨g, j * 3 + 1, none⟩ = some (.int .i64 y2) ∧ w5.cell? ⟨ga, j * 2, none⟩ = some (.int .u32 y1) ∧ w5.cell? ⟨ga, j * 2 + 1, none⟩ = some (.int .i64 y2) := ⟨_, _, d0, d1, q0, q1⟩
          clear d0 d1 d2 q0 q1
          clear hj hlt
          have NQ := fun W => prefix_ne y1 y2 W
          go_wp2_with fail
          go_quiet (fail)
          go_wp2
          go_roundw
          case rel => exact ⟨j + 1, by go_num, HLT.out, _, rfl⟩
          case measure => have := HLT.out; simp [intOf] <;> omega
        · have z2 : ¬ (j : Int) < L.length := by omega
          clear hlt hj
          go_wp2_with fail
          refine (LV.out _).mono ?_
          rintro e w9 ⟨rfl, b9⟩
          have B9 := Lib.hid ((below_drewN kq B5.out).trans (b9.mono (below_drewN kq B5.out).size))
          clear b9
          go_wp2
          go_ret
          exact ⟨rfl, B9.out⟩
set_option maxRecDepth 100000 in
theorem walk_triePlays (a : Option Addr) (n c : Nat) (fs : List Act32) {w : World} (hr : RowA32 w a n fs) (hcap : n ≤ c) :
    Calls Try.prog 10 #[.slice a n c] w fun e w' => e = .returned (.bool true) ∧ Below w.heap.size w w' := by
  by_cases h : n ≤ 150
  · exact plays32_at a n c fs h w hr
  · have hm := hr.2.1
    unfold maxLen at hm
    have LV := Lib.hid (lives32 w)
    have z1 : (150 : Int) < n := by omega
    clear hr h
    go_enter Try.func10, Try.ntmps10
    go_wp2_with fail
    refine LV.out.mono ?_
    rintro e w9 ⟨rfl, b9⟩
    go_wp2
    go_ret
    exact ⟨rfl, b9⟩
end Go.Proofs.Ytfjhcmihjffknaa
