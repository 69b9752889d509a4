/-
  The law of layer 18 on all states and rows: true for any configuration, state and numbers. No condition.
-/
import Derived.Test.YtdokllignldbeaaRed5
namespace Go.Proofs.Ytdokllignldbeaa
set_option linter.unusedVariables false
set_option linter.unusedSimpArgs false
open Go.ChangeShapes Go.WideShapes Go.ChangeAt Go.RowKit
attribute [local go_sem] alloc_drewN setCell_drewN

theorem alloc_two (w : World) (X Y : Obj) : ((w.alloc X).alloc Y).heap[w.heap.size + 1]? = some Y := by
  have := heap_alloc_new (w.alloc X) Y
  simpa using this

theorem At4.keep {w w' : World} {b : Nat} {lo hi mo sw : Int} (h : At4 w b lo hi mo sw) (hs : w.heap.size ≤ w'.heap.size) (e : w'.heap[b]? = w.heap[b]?) : At4 w' b lo hi mo sw := by
  obtain ⟨h0, h1, h2, h3, h4⟩ := h
  have k : ∀ o, w'.cell? ⟨b, o, none⟩ = w.cell? ⟨b, o, none⟩ := fun o => by simp only [World.cell?, e]
  exact ⟨Nat.lt_of_lt_of_le h0 hs, (k 0).trans h1, (k 1).trans h2, (k 2).trans h3, (k 3).trans h4⟩
theorem row1_below {w w' : World} {k : IntKind} {a : Option Addr} {n : Nat} {zs : List Int} {B : Nat} (h : Row1 k w a n zs) (hb : Below B w w') (hB : B = w.heap.size := by rfl) : Row1 k w' a n zs := by
  obtain ⟨h1, h2, h3, h4⟩ := h
  refine ⟨h1, h2, h3, fun hn => ?_⟩
  obtain ⟨b, off, e, hlt, hc⟩ := h4 hn
  exact ⟨b, off, e, Nat.lt_of_lt_of_le hlt hb.size, fun i hi => (hb.cell (p := ⟨b, off + i, none⟩) (by show b < B; omega)).trans (hc i hi)⟩

set_option maxRecDepth 100000 in
set_option maxHeartbeats 4000000 in
theorem plays18_true (lo hi mo sw : Int) (l0 : 0 ≤ lo) (g0 : 0 ≤ hi) (m0 : 0 ≤ mo) (s0 : -9223372036854775808 ≤ sw) (s1 : sw ≤ 9223372036854775807) (mean count : Int) (n0 : 0 ≤ mean) (n1 : mean ≤ 18446744073709551615) (c0 : 0 ≤ count) (c1 : count ≤ 18446744073709551615) (a : Option Addr) (n c : Nat) (zs : List Int) (w : World) (hr : Row1 .u64 w a n zs) (hn : n ≤ 300) (hok : rok lo hi mo sw = true) :
    Calls Try.prog 7 #[.agg #[.int .u64 lo, .int .u64 hi, .int .u64 mo, .int .i64 sw], .agg #[.int .u64 mean, .int .u64 count], .slice a n c] w fun e w' => e = .returned (.bool true) ∧ Below w.heap.size w w' := by
  have HR := Lib.hid hr
  have CK := Lib.hid (fun W => red_check lo hi mo sw l0 g0 m0 W)
  have CM := Lib.hid (fun W => red_may lo hi mo sw l0 g0 m0 W)
  rw [hok] at CK CM
  rw [if_pos rfl] at CK
  have HOK := Lib.hid hok
  clear hr hok
  go_enter Try.func7, Try.ntmps7
  go_wp2_with fail
  refine (CM.out _).mono ?_
  rintro e w' ⟨rfl, rfl⟩
  go_wp2_with fail
  refine (CK.out _).mono ?_
  rintro e w' ⟨rfl, rfl⟩
  go_wp2_with fail
  go_quiet (fail)
  go_wp2
  generalize hB2 : w.heap.size + 1 = B1
  generalize hB3 : B1 + 1 = B2
  have b1a : w.heap.size < B1 := by omega
  have b2a : w.heap.size < B2 := by omega
  have b1b : w.heap.size ≤ B1 := by omega
  have b12 : B1 < B2 := by omega
  go_loopw [51, 9, 10] (fun x y z wr => ∃ (i : Nat) (m k : Int), x = .int .i64 i ∧ y = .int .u64 m ∧ z = .int .u64 k ∧ i ≤ n ∧ (0 ≤ m ∧ m ≤ 18446744073709551615) ∧ (0 ≤ k ∧ k ≤ 18446744073709551615) ∧
    At4 wr w.heap.size lo hi mo sw ∧ At4 wr B2 lo hi mo sw ∧ StAt wr B1 m k ∧ Below w.heap.size w wr) (fun x _ _ _ => n - (intOf x).toNat)
  case atStart =>
    refine ⟨0, mean, count, rfl, rfl, rfl, Nat.zero_le _, ⟨n0, n1⟩, ⟨c0, c1⟩, ?_, ?_, ?_, ?_⟩
    · refine ⟨by simp; omega, ?_, ?_, ?_, ?_⟩ <;> simp [go_sem]
    · subst hB3; subst hB2
      refine ⟨by simp, ?_, ?_, ?_, ?_⟩ <;> simp [go_sem]
    · subst hB3; subst hB2
      show (World.heap _)[_]? = _
      repeat' (first | exact alloc_two _ _ _ | refine (heap_alloc_old _ _ (by simp; try omega)).trans ?_)
    · refine below_drewN _ ?_
      repeat' (first | exact Below.refl _ _ | refine Below.alloc ?_ (by simp; try omega) _)
  case round =>
    obtain ⟨i, m, k, rfl, rfl, rfl, hi1, hm, hk, hA, hD, hS, hb⟩ := hrel
    by_cases hlt : i < n
    · obtain ⟨hzl, hzm, hzw, hzc⟩ := HR.out
      obtain ⟨b, off, rfl, hb0, hc⟩ := hzc (by omega)
      have cx := (hb.cell (p := ⟨b, off + i, none⟩) hb0).trans (hc i hlt)
      have hxw := bounds_u64 (hzw (zs.getD i 0) (by rw [List.getD_eq_getElem?_getD, List.getElem?_eq_getElem (by omega : i < zs.length)]; exact List.getElem_mem _))
      generalize zs.getD i 0 = x at *
      have WD := rst_wd lo hi mo sw m k x hm.1 hm.2 hk.1 hk.2 hxw.1
      have STEP := Lib.hid (fun W => red_step lo hi mo sw m k x l0 g0 m0 s0 s1 hm.1 hm.2 hk.1 hk.2 hxw.1 hxw.2 W)
      have RSTEP := Lib.hid (fun W => red_rstep lo hi mo sw m k x l0 g0 m0 s0 s1 hm.1 hm.2 hk.1 hk.2 hxw.1 hxw.2 W)
      generalize rst lo hi mo sw m k x = r at *
      obtain ⟨r0, r1, r2⟩ := r
      dsimp only at STEP RSTEP WD
      have HWD := Lib.hid WD
      have HA := Lib.hid hA; have HD := Lib.hid hD; have HSS := Lib.hid hS; have HB := Lib.hid hb
      obtain ⟨z, a0, a1, a2, a3⟩ := hA
      obtain ⟨z1, d0, d1, d2, d3⟩ := hD
      obtain ⟨z2, e0, e1, f0, f1⟩ := hS.at
      clear hS hb hzc hc hzw hzl hzm WD hm hk
      go_wp2_with fail
      refine (STEP.out _).mono ?_
      rintro e w5 ⟨rfl, b5⟩
      have HB5 := Lib.hid (below_onto HB.out b5 HB.out.size)
      have HA5 := Lib.hid (HA.out.below b5 z)
      have HD5 := Lib.hid (HD.out.below b5 z1)
      have HS5 := Lib.hid (show StAt w5 B1 m k from (b5.block B1 z2).trans HSS.out)
      obtain ⟨z5, a50, a51, a52, a53⟩ := HA5.out
      clear b5 cx STEP a0 a1 a2 a3 d0 d1 d2 d3 e0 e1 f0 f1 z z1 z2
      go_wp2_with fail
      refine (RSTEP.out _).mono ?_
      rintro e w7 ⟨rfl, b7⟩
      have b75 : Below w5.heap.size w5 w7 := (below_cells w5 _).trans (b7.mono (by simp))
      have y0 : w7.cell? ⟨w5.heap.size, 0, none⟩ = some (.int .u64 r0) := (b7.cell (p := ⟨w5.heap.size, 0, none⟩) (by simp)).trans (by simp [go_sem])
      have y1 : w7.cell? ⟨w5.heap.size, 1, none⟩ = some (.int .u64 r1) := (b7.cell (p := ⟨w5.heap.size, 1, none⟩) (by simp)).trans (by simp [go_sem])
      have HA7 := Lib.hid (HA5.out.below b75 z5)
      have HD7 := Lib.hid (HD5.out.below b75 HD5.out.1)
      have HS7 := Lib.hid (show StAt w7 B1 m k from (b75.block B1 HS5.out.at.1).trans HS5.out)
      have HB7 := Lib.hid (below_onto HB5.out b75 HB5.out.size)
      obtain ⟨-, e70, e71, f70, f71⟩ := HS7.out.at
      clear b7 b75 RSTEP a50 a51 a52 a53 z5
      go_wp2
      go_roundw
      case rel =>
        have FX : Below B1 w7 ((w7.setCell ⟨B1, 0, none⟩ (.int .u64 r0)).setCell ⟨B1, 1, none⟩ (.int .u64 r1)) := by
          refine Below.setCell (Below.setCell (Below.refl _ _) ?_ _) ?_ _ <;> simp
        refine ⟨i + 1, r0, r1, by go_num, rfl, rfl, by omega, HWD.out.1, HWD.out.2, HA7.out.below FX b1a, HD7.out.keep FX.size ?_, ?_, HB7.out.trans (FX.mono b1b)⟩
        · exact (heap_setCell_other _ ⟨B1, 1, none⟩ _ _ (by simp; omega)).trans (heap_setCell_other _ ⟨B1, 0, none⟩ _ _ (by simp; omega))
        · have q1 := heap_setCell_same w7 B1 0 _ _ (.int .u64 r0) HS7.out
          show (World.heap _)[_]? = _
          simpa using heap_setCell_same _ B1 1 _ _ (.int .u64 r1) q1
      case measure => simp [intOf] <;> omega
    · obtain rfl : i = n := by omega
      have HA := Lib.hid hA; have HD := Lib.hid hD; have HB := Lib.hid hb
      have HRR := Lib.hid (row1_below HR.out hb)
      obtain ⟨z, a0, a1, a2, a3⟩ := hA
      obtain ⟨z1, d0, d1, d2, d3⟩ := hD
      clear hS hb hm hk
      have PL := Lib.hid (red_play lo hi mo sw l0 g0 m0 s0 s1 HOK.out a i c zs wr HRR.out hn)
      clear HRR
      go_wp2_with fail
      refine PL.out.mono ?_
      rintro e w8 ⟨g, p, rfl, hg, hBL, hp, b8⟩
      have HA8 := Lib.hid (HA.out.below b8 z)
      have HL8 := Lib.hid hBL
      have HP8 := Lib.hid hp
      have HB8 := Lib.hid (below_onto HB.out b8 HB.out.size)
      have HG8 := Lib.hid (hBL.lt)
      clear a0 a1 a2 a3 d0 d1 d2 d3 hg hBL hp b8 PL z z1
      go_wp2
      go_loopw [108, 9, 10] (fun x y z wt => ∃ (t : Nat) (m k : Int), x = .int .i64 t ∧ y = .int .u64 m ∧ z = .int .u64 k ∧ t ≤ i ∧ rsq lo hi mo sw (zs.take t) = (m, k) ∧ At4 wt w.heap.size lo hi mo sw ∧ BlAt wt g i p ∧ Below w.heap.size w wt) (fun x _ _ _ => i - (intOf x).toNat)
      case atStart => exact ⟨0, 0, 0, rfl, rfl, rfl, Nat.zero_le _, rfl, HA8.out, HL8.out, HB8.out⟩
      case round =>
        obtain ⟨t, m, k, rfl, rfl, rfl, ht, hq, hA, hBL, hb⟩ := hrel
        by_cases hlt2 : t < i
        · obtain ⟨hzl, hzm, hzw, hzc⟩ := HR.out
          obtain ⟨b, off, rfl, hb0, hc⟩ := hzc (by omega)
          have cx := (hb.cell (p := ⟨b, off + t, none⟩) hb0).trans (hc t hlt2)
          have hxw := bounds_u64 (hzw (zs.getD t 0) (by rw [List.getD_eq_getElem?_getD, List.getElem?_eq_getElem (by omega : t < zs.length)]; exact List.getElem_mem _))
          have HS := Lib.hid (take_snoc zs t (by omega))
          obtain ⟨x, hx⟩ : ∃ x, zs.getD t 0 = x := ⟨_, rfl⟩
          have wd := rsq_wd lo hi mo sw (zs.take t) (fun y hy => (bounds_u64 (hzw y (List.mem_of_mem_take hy))).1) 0 0 ⟨by decide, by decide⟩ ⟨by decide, by decide⟩
          change (fun s : Int × Int => (0 ≤ s.1 ∧ s.1 ≤ 18446744073709551615) ∧ 0 ≤ s.2 ∧ s.2 ≤ 18446744073709551615) (rsq lo hi mo sw (zs.take t)) at wd
          rw [hq] at wd
          obtain ⟨⟨w0, w1⟩, w2, w3⟩ := wd
          have hbi : rsb lo hi mo sw zs t = (rst lo hi mo sw m k x).2.2 := by unfold rsb; rw [hq, hx]
          have hqi : rsq lo hi mo sw (zs.take (t + 1)) = ((rst lo hi mo sw m k x).1, (rst lo hi mo sw m k x).2.1) := by rw [HS.out, rsq_snoc, hq, hx]
          rw [hx] at cx hxw
          have RSTEP := Lib.hid (fun W => red_rstep lo hi mo sw m k x l0 g0 m0 s0 s1 w0 w1 w2 w3 hxw.1 hxw.2 W)
          generalize rst lo hi mo sw m k x = r at *
          obtain ⟨r0, r1, r2⟩ := r
          dsimp only at RSTEP hbi hqi
          have HQI := Lib.hid hqi
          have HPT := Lib.hid ((HP8.out t hlt2).trans hbi)
          have HA := Lib.hid hA; have HLL := Lib.hid hBL; have HB := Lib.hid hb
          obtain ⟨z, a0, a1, a2, a3⟩ := hA
          clear hBL hb hzc hc hzw hzl hzm hq hbi hqi hx
          go_wp2_with fail
          refine (RSTEP.out _).mono ?_
          rintro e w9 ⟨rfl, b9⟩
          have HA9 := Lib.hid (HA.out.below b9 z)
          have HL9 := Lib.hid (HLL.out.keep (b9.block g HLL.out.lt))
          have HB9 := Lib.hid (below_onto HB.out b9 HB.out.size)
          have y0 := (HL9.out.at t hlt2).1
          rw [HPT.out] at y0
          clear b9 RSTEP a0 a1 a2 a3 cx z
          go_wp2
          go_roundw
          case rel => exact ⟨t + 1, r0, r1, by go_num, rfl, rfl, by omega, HQI.out, HA9.out, HL9.out, HB9.out⟩
          case measure => simp [intOf] <;> omega
        · obtain rfl : t = i := by omega
          have HB := Lib.hid hb
          clear hb hA hBL hq
          go_wp2_with fail
          refine (lives18 _).mono ?_
          rintro e w9 ⟨rfl, b9⟩
          have HB9 := Lib.hid (below_onto HB.out b9 HB.out.size)
          clear b9
          go_wp2
          go_ret
          exact ⟨rfl, HB9.out⟩
set_option maxRecDepth 100000 in
set_option maxHeartbeats 4000000 in
theorem plays18_false (lo hi mo sw : Int) (l0 : 0 ≤ lo) (g0 : 0 ≤ hi) (m0 : 0 ≤ mo) (s0 : -9223372036854775808 ≤ sw) (s1 : sw ≤ 9223372036854775807) (mean count : Int) (n0 : 0 ≤ mean) (n1 : mean ≤ 18446744073709551615) (c0 : 0 ≤ count) (c1 : count ≤ 18446744073709551615) (a : Option Addr) (n c : Nat) (zs : List Int) (w : World) (hr : Row1 .u64 w a n zs) (hn : n ≤ 300) (hok : rok lo hi mo sw = false) :
    Calls Try.prog 7 #[.agg #[.int .u64 lo, .int .u64 hi, .int .u64 mo, .int .i64 sw], .agg #[.int .u64 mean, .int .u64 count], .slice a n c] w fun e w' => e = .returned (.bool true) ∧ Below w.heap.size w w' := by
  have HR := Lib.hid hr
  have CK := Lib.hid (fun W => red_check lo hi mo sw l0 g0 m0 W)
  have CM := Lib.hid (fun W => red_may lo hi mo sw l0 g0 m0 W)
  rw [hok] at CK CM
  rw [if_neg (by decide)] at CK
  have HOK := Lib.hid hok
  clear hr hok
  go_enter Try.func7, Try.ntmps7
  go_wp2_with fail
  refine (CM.out _).mono ?_
  rintro e w' ⟨rfl, rfl⟩
  go_wp2_with fail
  refine (CK.out _).mono ?_
  rintro e w' ⟨rfl, rfl⟩
  go_wp2_with fail
  refine (CK.out _).mono ?_
  rintro e w' ⟨rfl, rfl⟩
  go_wp2_with fail
  go_quiet (fail)
  go_wp2
  generalize hB2 : w.heap.size + 1 = B1
  generalize hB3 : B1 + 1 = B2
  have b1a : w.heap.size < B1 := by omega
  have b2a : w.heap.size < B2 := by omega
  have b1b : w.heap.size ≤ B1 := by omega
  have b12 : B1 < B2 := by omega
  go_loopw [51, 9, 10] (fun x y z wr => ∃ (i : Nat) (m k : Int), x = .int .i64 i ∧ y = .int .u64 m ∧ z = .int .u64 k ∧ i ≤ n ∧ (0 ≤ m ∧ m ≤ 18446744073709551615) ∧ (0 ≤ k ∧ k ≤ 18446744073709551615) ∧
    At4 wr w.heap.size lo hi mo sw ∧ At4 wr B2 lo hi mo sw ∧ StAt wr B1 m k ∧ Below w.heap.size w wr) (fun x _ _ _ => n - (intOf x).toNat)
  case atStart =>
    refine ⟨0, mean, count, rfl, rfl, rfl, Nat.zero_le _, ⟨n0, n1⟩, ⟨c0, c1⟩, ?_, ?_, ?_, ?_⟩
    · refine ⟨by simp; omega, ?_, ?_, ?_, ?_⟩ <;> simp [go_sem]
    · subst hB3; subst hB2
      refine ⟨by simp, ?_, ?_, ?_, ?_⟩ <;> simp [go_sem]
    · subst hB3; subst hB2
      show (World.heap _)[_]? = _
      repeat' (first | exact alloc_two _ _ _ | refine (heap_alloc_old _ _ (by simp; try omega)).trans ?_)
    · refine below_drewN _ ?_
      repeat' (first | exact Below.refl _ _ | refine Below.alloc ?_ (by simp; try omega) _)
  case round =>
    obtain ⟨i, m, k, rfl, rfl, rfl, hi1, hm, hk, hA, hD, hS, hb⟩ := hrel
    by_cases hlt : i < n
    · obtain ⟨hzl, hzm, hzw, hzc⟩ := HR.out
      obtain ⟨b, off, rfl, hb0, hc⟩ := hzc (by omega)
      have cx := (hb.cell (p := ⟨b, off + i, none⟩) hb0).trans (hc i hlt)
      have hxw := bounds_u64 (hzw (zs.getD i 0) (by rw [List.getD_eq_getElem?_getD, List.getElem?_eq_getElem (by omega : i < zs.length)]; exact List.getElem_mem _))
      generalize zs.getD i 0 = x at *
      have WD := rst_wd lo hi mo sw m k x hm.1 hm.2 hk.1 hk.2 hxw.1
      have STEP := Lib.hid (fun W => red_step lo hi mo sw m k x l0 g0 m0 s0 s1 hm.1 hm.2 hk.1 hk.2 hxw.1 hxw.2 W)
      have RSTEP := Lib.hid (fun W => red_rstep lo hi mo sw m k x l0 g0 m0 s0 s1 hm.1 hm.2 hk.1 hk.2 hxw.1 hxw.2 W)
      generalize rst lo hi mo sw m k x = r at *
      obtain ⟨r0, r1, r2⟩ := r
      dsimp only at STEP RSTEP WD
      have HWD := Lib.hid WD
      have HA := Lib.hid hA; have HD := Lib.hid hD; have HSS := Lib.hid hS; have HB := Lib.hid hb
      obtain ⟨z, a0, a1, a2, a3⟩ := hA
      obtain ⟨z1, d0, d1, d2, d3⟩ := hD
      obtain ⟨z2, e0, e1, f0, f1⟩ := hS.at
      clear hS hb hzc hc hzw hzl hzm WD hm hk
      go_wp2_with fail
      refine (STEP.out _).mono ?_
      rintro e w5 ⟨rfl, b5⟩
      have HB5 := Lib.hid (below_onto HB.out b5 HB.out.size)
      have HA5 := Lib.hid (HA.out.below b5 z)
      have HD5 := Lib.hid (HD.out.below b5 z1)
      have HS5 := Lib.hid (show StAt w5 B1 m k from (b5.block B1 z2).trans HSS.out)
      obtain ⟨z5, a50, a51, a52, a53⟩ := HA5.out
      clear b5 cx STEP a0 a1 a2 a3 d0 d1 d2 d3 e0 e1 f0 f1 z z1 z2
      go_wp2_with fail
      refine (RSTEP.out _).mono ?_
      rintro e w7 ⟨rfl, b7⟩
      have b75 : Below w5.heap.size w5 w7 := (below_cells w5 _).trans (b7.mono (by simp))
      have y0 : w7.cell? ⟨w5.heap.size, 0, none⟩ = some (.int .u64 r0) := (b7.cell (p := ⟨w5.heap.size, 0, none⟩) (by simp)).trans (by simp [go_sem])
      have y1 : w7.cell? ⟨w5.heap.size, 1, none⟩ = some (.int .u64 r1) := (b7.cell (p := ⟨w5.heap.size, 1, none⟩) (by simp)).trans (by simp [go_sem])
      have HA7 := Lib.hid (HA5.out.below b75 z5)
      have HD7 := Lib.hid (HD5.out.below b75 HD5.out.1)
      have HS7 := Lib.hid (show StAt w7 B1 m k from (b75.block B1 HS5.out.at.1).trans HS5.out)
      have HB7 := Lib.hid (below_onto HB5.out b75 HB5.out.size)
      obtain ⟨-, e70, e71, f70, f71⟩ := HS7.out.at
      clear b7 b75 RSTEP a50 a51 a52 a53 z5
      go_wp2
      go_roundw
      case rel =>
        have FX : Below B1 w7 ((w7.setCell ⟨B1, 0, none⟩ (.int .u64 r0)).setCell ⟨B1, 1, none⟩ (.int .u64 r1)) := by
          refine Below.setCell (Below.setCell (Below.refl _ _) ?_ _) ?_ _ <;> simp
        refine ⟨i + 1, r0, r1, by go_num, rfl, rfl, by omega, HWD.out.1, HWD.out.2, HA7.out.below FX b1a, HD7.out.keep FX.size ?_, ?_, HB7.out.trans (FX.mono b1b)⟩
        · exact (heap_setCell_other _ ⟨B1, 1, none⟩ _ _ (by simp; omega)).trans (heap_setCell_other _ ⟨B1, 0, none⟩ _ _ (by simp; omega))
        · have q1 := heap_setCell_same w7 B1 0 _ _ (.int .u64 r0) HS7.out
          show (World.heap _)[_]? = _
          simpa using heap_setCell_same _ B1 1 _ _ (.int .u64 r1) q1
      case measure => simp [intOf] <;> omega
    · obtain rfl : i = n := by omega
      have HA := Lib.hid hA; have HD := Lib.hid hD; have HB := Lib.hid hb
      have HRR := Lib.hid (row1_below HR.out hb)
      obtain ⟨z, a0, a1, a2, a3⟩ := hA
      obtain ⟨z1, d0, d1, d2, d3⟩ := hD
      clear hS hb hm hk
      have PL := Lib.hid (red_play_no lo hi mo sw l0 g0 m0 HOK.out a i c wr)
      clear HRR
      go_wp2_with fail
      refine PL.out.mono ?_
      rintro e w8 ⟨rfl, b8⟩
      have HB8 := Lib.hid (below_onto HB.out b8 HB.out.size)
      clear a0 a1 a2 a3 d0 d1 d2 d3 b8 PL z z1
      go_wp2_with fail
      refine (lives18 _).mono ?_
      rintro e w9 ⟨rfl, b9⟩
      have HB9 := Lib.hid (below_onto HB8.out b9 HB8.out.size)
      clear b9
      go_wp2
      go_ret
      exact ⟨rfl, HB9.out⟩
theorem plays18_long (lo hi mo sw mean count : Int) (a : Option Addr) (n c : Nat) (w : World) (hm : n ≤ maxLen) (hn : 300 < n) :
    Calls Try.prog 7 #[.agg #[.int .u64 lo, .int .u64 hi, .int .u64 mo, .int .i64 sw], .agg #[.int .u64 mean, .int .u64 count], .slice a n c] w fun e w' => e = .returned (.bool true) ∧ Below w.heap.size w w' := by
  unfold maxLen at hm
  have h1 : (300 : Int) < n := by omega
  have LV := Lib.hid (fun W => lives18 W)
  go_enter Try.func7, Try.ntmps7
  go_wp2_with fail
  refine (LV.out _).mono ?_
  rintro e w9 ⟨rfl, b9⟩
  have HB := Lib.hid (show Below w.heap.size w ((w.alloc (.cells #[.int .u64 lo, .int .u64 hi, .int .u64 mo, .int .i64 sw] 52)).alloc (.cells #[.int .u64 mean, .int .u64 count] 54)) from ((Below.refl _ w).alloc (Nat.le_refl _) _).alloc (by simp) _)
  have HB9 := Lib.hid (below_onto HB.out b9 HB.out.size)
  clear b9
  go_wp2
  go_ret
  exact ⟨rfl, HB9.out⟩
theorem walk_redPlays (lo : Int) (lo0 : 0 ≤ lo) (lo1 : lo ≤ 18446744073709551615) (hi : Int) (hi0 : 0 ≤ hi) (hi1 : hi ≤ 18446744073709551615) (mo : Int) (mo0 : 0 ≤ mo) (mo1 : mo ≤ 18446744073709551615) (sw : Int) (s0 : -9223372036854775808 ≤ sw) (s1 : sw ≤ 9223372036854775807) (mean : Int) (n0 : 0 ≤ mean) (n1 : mean ≤ 18446744073709551615) (count : Int) (c0 : 0 ≤ count) (c1 : count ≤ 18446744073709551615) (a : Option Addr) (n c : Nat) (zs : List Int) {w : World} (hr : Row1 .u64 w a n zs) (hc : n ≤ c) :
    Calls Try.prog 7 #[.agg #[.int .u64 lo, .int .u64 hi, .int .u64 mo, .int .i64 sw], .agg #[.int .u64 mean, .int .u64 count], .slice a n c] w fun e w' => e = .returned (.bool true) ∧ Below w.heap.size w w' := by
  by_cases hn : n ≤ 300
  · by_cases hok : rok lo hi mo sw = true
    · exact plays18_true lo hi mo sw lo0 hi0 mo0 s0 s1 mean count n0 n1 c0 c1 a n c zs w hr hn hok
    · exact plays18_false lo hi mo sw lo0 hi0 mo0 s0 s1 mean count n0 n1 c0 c1 a n c zs w hr hn (by simpa using hok)
  · exact plays18_long lo hi mo sw mean count a n c w hr.2.1 (by omega)
end Go.Proofs.Ytdokllignldbeaa
