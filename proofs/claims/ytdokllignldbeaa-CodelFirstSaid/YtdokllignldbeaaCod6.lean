/-
  The law of layer 19 on who is let go first: true for any configuration, beginning and steps. No condition.
-/
import Derived.Test.YtdokllignldbeaaCod5
namespace Go.Proofs.Ytdokllignldbeaa
set_option linter.unusedVariables false
set_option linter.unusedSimpArgs false
open Go.ChangeShapes Go.WideShapes Go.ChangeAt Go.RowKit
attribute [local go_sem] alloc_drewN setCell_drewN

theorem clate_all (tg mt : Int) : clate tg mt tg (mt + 1) = true := by
  unfold clate
  rw [decide_eq_true (Int.le_refl tg), decide_eq_true (by omega)]; rfl
/-- Where all are late: at first, and then. -/
theorem cst_first {tg iv mt now : Int} (hv : cok iv = true) (n0 : 0 ≤ now) (n1 : now ≤ 4294967295) : cst tg iv mt ⟨0, 0, 0, 0, false⟩ now tg (mt + 1) = (⟨now + iv, 0, 0, 0, false⟩, false) := by
  obtain ⟨a, b⟩ := cok_iff.1 hv
  unfold cst ctime fol1
  rw [if_pos hv, clate_all, cap_of (by omega)]
  rfl
theorem cst_next {tg iv mt now F : Int} (hv : cok iv = true) (F1 : 1 ≤ F) : (now < F → cst tg iv mt ⟨F, 0, 0, 0, false⟩ now tg (mt + 1) = (⟨F, 0, 0, 0, false⟩, false)) ∧ (F ≤ now → (cst tg iv mt ⟨F, 0, 0, 0, false⟩ now tg (mt + 1)).2 = true) := by
  have hz : (F == 0) = false := by simp; omega
  have hf : ¬ F = 0 := by omega
  refine ⟨fun h => ?_, fun h => ?_⟩
  · unfold cst ctime fol1
    rw [if_pos hv, clate_all]
    dsimp only
    rw [hz, decide_eq_false (by omega), if_neg (by decide), if_pos rfl, if_neg hf]
  · unfold cst ctime
    rw [if_pos hv, clate_all]
    dsimp only
    rw [hz, decide_eq_true h, if_pos (by decide), if_neg (by decide)]

set_option maxRecDepth 100000 in
set_option maxHeartbeats 2000000 in
theorem first_long (tg iv mt : Int) (t0 : 0 ≤ tg) (t1 : tg ≤ 18446744073709551615) (v0 : 0 ≤ iv) (v1 : iv ≤ 18446744073709551615) (m0 : 0 ≤ mt) (m1 : mt ≤ 18446744073709551615) (fr : Int) (f0 : 0 ≤ fr) (f1 : fr ≤ 4294967295) (a : Option Addr) (n c : Nat) (w : World) (hm : n ≤ maxLen) (hn : 300 < n) :
    Calls Try.prog 12 #[.agg #[.int .u64 tg, .int .u64 iv, .int .u64 mt], .int .u32 fr, .slice a n c] w fun e w' => e = .returned (.bool true) ∧ Below w.heap.size w w' := by
  unfold maxLen at hm
  have h1 : (300 : Int) < n := by omega
  have LV := Lib.hid (fun W => lives19 W)
  go_enter Try.func12, Try.ntmps12
  go_wp2_with (go_at_call 41; refine (LV.out _).mono ?_; rintro e w9 ⟨rfl, b9⟩)
  have HB9 := Lib.hid (below_onto (show Below w.heap.size w _ from by repeat' (first | exact Below.refl _ _ | refine Below.alloc ?_ (by simp; try omega) _)) b9 (by simp; try omega))
  clear b9
  go_wp2
  go_ret
  exact ⟨rfl, HB9.out⟩
set_option maxRecDepth 100000 in
set_option maxHeartbeats 2000000 in
theorem first_no (tg iv mt : Int) (t0 : 0 ≤ tg) (t1 : tg ≤ 18446744073709551615) (v0 : 0 ≤ iv) (v1 : iv ≤ 18446744073709551615) (m0 : 0 ≤ mt) (m1 : mt ≤ 18446744073709551615) (fr : Int) (f0 : 0 ≤ fr) (f1 : fr ≤ 4294967295) (a : Option Addr) (n c : Nat) (w : World) (hm : n ≤ maxLen) (hn : n ≤ 300) (hok : cok iv = false) :
    Calls Try.prog 12 #[.agg #[.int .u64 tg, .int .u64 iv, .int .u64 mt], .int .u32 fr, .slice a n c] w fun e w' => e = .returned (.bool true) ∧ Below w.heap.size w w' := by
  unfold maxLen at hm
  have CM := Lib.hid (fun W => cod_may tg iv mt v0 W)
  rw [hok] at CM
  have LV := Lib.hid (fun W => lives19 W)
  go_enter Try.func12, Try.ntmps12
  go_wp2_with fail
  refine (CM.out _).mono ?_
  rintro e w' ⟨rfl, rfl⟩
  go_wp2_with (go_at_call 41; refine (LV.out _).mono ?_; rintro e w9 ⟨rfl, b9⟩)
  have HB9 := Lib.hid (below_onto (show Below w.heap.size w _ from by repeat' (first | exact Below.refl _ _ | refine Below.alloc ?_ (by simp; try omega) _)) b9 (by simp; try omega))
  clear b9
  go_wp2
  go_ret
  exact ⟨rfl, HB9.out⟩
set_option maxRecDepth 100000 in
set_option maxHeartbeats 2000000 in
theorem first_max (tg iv mt : Int) (t0 : 0 ≤ tg) (t1 : tg ≤ 18446744073709551615) (v0 : 0 ≤ iv) (v1 : iv ≤ 18446744073709551615) (m0 : 0 ≤ mt) (m1 : mt ≤ 18446744073709551615) (fr : Int) (f0 : 0 ≤ fr) (f1 : fr ≤ 4294967295) (a : Option Addr) (n c : Nat) (w : World) (hm : n ≤ maxLen) (hn : n ≤ 300) (hok : cok iv = true) (hx : mt = 18446744073709551615) :
    Calls Try.prog 12 #[.agg #[.int .u64 tg, .int .u64 iv, .int .u64 mt], .int .u32 fr, .slice a n c] w fun e w' => e = .returned (.bool true) ∧ Below w.heap.size w w' := by
  unfold maxLen at hm
  have CM := Lib.hid (fun W => cod_may tg iv mt v0 W)
  rw [hok] at CM
  have xz : (mt == 18446744073709551615) = true := by simp [hx]
  subst hx
  have LV := Lib.hid (fun W => lives19 W)
  go_enter Try.func12, Try.ntmps12
  go_wp2_with fail
  refine (CM.out _).mono ?_
  rintro e w' ⟨rfl, rfl⟩
  go_wp2_with (go_at_call 41; refine (LV.out _).mono ?_; rintro e w9 ⟨rfl, b9⟩)
  have HB9 := Lib.hid (below_onto (show Below w.heap.size w _ from by repeat' (first | exact Below.refl _ _ | refine Below.alloc ?_ (by simp; try omega) _)) b9 (by simp; try omega))
  clear b9
  go_wp2
  go_ret
  exact ⟨rfl, HB9.out⟩
set_option maxRecDepth 100000 in
set_option maxHeartbeats 2000000 in
theorem first_at (tg iv mt : Int) (t0 : 0 ≤ tg) (t1 : tg ≤ 18446744073709551615) (v0 : 0 ≤ iv) (v1 : iv ≤ 18446744073709551615) (m0 : 0 ≤ mt) (m1 : mt ≤ 18446744073709551615) (fr : Int) (f0 : 0 ≤ fr) (f1 : fr ≤ 4294967295) (a : Option Addr) (n c : Nat) (zs : List Int) (w : World) (hr : Row1 .u16 w a n zs) (hn : n ≤ 300) (hok : cok iv = true) (hx : ¬ mt = 18446744073709551615) :
    Calls Try.prog 12 #[.agg #[.int .u64 tg, .int .u64 iv, .int .u64 mt], .int .u32 fr, .slice a n c] w fun e w' => e = .returned (.bool true) ∧ Below w.heap.size w w' := by
  have CM := Lib.hid (fun W => cod_may tg iv mt v0 W)
  rw [hok] at CM
  obtain ⟨j0, j1⟩ := cok_iff.1 hok
  have xz : (mt == 18446744073709551615) = false := by simp [hx]
  have HR := Lib.hid hr
  have m2 : mt + 1 ≤ 18446744073709551615 := by omega
  have S1 := Lib.hid (fun W => cod_step tg iv mt t0 v0 v1 m0 ⟨0, 0, 0, 0, false⟩ (words_ok (by decide)) fr tg (mt + 1) f0 (by omega) t0 (by omega) W)
  rw [cst_first hok f0 f1] at S1
  unfold CS.val at S1
  dsimp only at S1
  have CN := Lib.hid (fun now => cst_next (tg := tg) (iv := iv) (mt := mt) (now := now) (F := fr + iv) hok (by omega))
  have SN := Lib.hid (fun now (h0 : 0 ≤ now) (h1 : now ≤ 18446744073709551615) W => cod_step tg iv mt t0 v0 v1 m0 ⟨fr + iv, 0, 0, 0, false⟩ (words_ok ⟨⟨by omega, by omega⟩, by decide, by decide, by decide⟩) now tg (mt + 1) h0 h1 t0 (by omega) W)
  obtain ⟨F, hF⟩ : ∃ F, fr + iv = F := ⟨_, rfl⟩
  have F0 : 1 ≤ F := by omega
  have F1 : F ≤ 6442450943 := by omega
  rw [hF] at S1 CN SN
  have HK := Lib.hid hok
  clear hr hok hx
  go_enter Try.func12, Try.ntmps12
  go_wp2_with fail
  refine (CM.out _).mono ?_
  rintro e w' ⟨rfl, rfl⟩
  go_wp2_with fail
  refine (S1.out _).mono ?_
  rintro e w2 ⟨rfl, b⟩
  have hx1 : w2.heap[w.heap.size]? = some (.cells #[.int .u64 tg, .int .u64 iv, .int .u64 mt] 71 (0, 0)) := (b.block _ (by simp; omega)).trans ((heap_alloc_old _ _ (by simp)).trans (heap_alloc_new w _))
  have HB2 := Lib.hid (below_onto (show Below w.heap.size w _ from by repeat' (first | exact Below.refl _ _ | refine Below.alloc ?_ (by simp; try omega) _)) b (by simp; try omega))
  have X1 := Lib.hid hx1
  have z1 : w.heap.size < w2.heap.size := (Array.getElem?_eq_some_iff.1 hx1).1
  clear b hx1 S1
  go_wp2
  obtain ⟨B1, hB1⟩ : ∃ B1, B1 = w2.heap.size := ⟨_, rfl⟩
  rw [← hB1]
  have n01 : ¬ w.heap.size = B1 := by omega
  have n10 : ¬ B1 = w.heap.size := by omega
  have s1_ : w.heap.size ≤ B1 := by omega
  go_loopw [43, 7] (fun x y wr => ∃ (i : Nat) (now : Int), x = .int .i64 i ∧ i ≤ n ∧ y = .int .u64 now ∧ 0 ≤ now ∧ now ≤ 4294967295 + i * 65535 ∧ wr.heap[w.heap.size]? = some (.cells #[.int .u64 tg, .int .u64 iv, .int .u64 mt] 71 (0, 0)) ∧ wr.heap[B1]? = some (.cells #[.int .u64 F, .int .u64 0, .int .u64 0, .int .u64 0, .bool false] 78 (0, 0)) ∧ Below w.heap.size w wr) (fun x _ _ => n - (intOf x).toNat)
  case atStart =>
    subst hB1
    exact ⟨0, fr, rfl, Nat.zero_le _, rfl, f0, by omega, (heap_alloc_old _ _ z1).trans X1.out, heap_alloc_new _ _, HB2.out.alloc (by omega) _⟩
  case round =>
    clear hB1 X1 HB2 z1
    obtain ⟨i, now, rfl, hi, rfl, h0, h1, x1, x2, hb⟩ := hrel
    by_cases hlt : i < n
    · obtain ⟨hzl, hzm, hzw, hzc⟩ := HR.out
      obtain ⟨b, off, rfl, hb0, hc⟩ := hzc (by omega)
      have cx := (hb.cell (p := ⟨b, off + i, none⟩) hb0).trans (hc i hlt)
      have hxw := bounds_u16 (hzw (zs.getD i 0) (by rw [List.getD_eq_getElem?_getD, List.getElem?_eq_getElem (by omega : i < zs.length)]; exact List.getElem_mem _))
      generalize zs.getD i 0 = x at *
      clear hzc hc hzw hzl hzm
      obtain ⟨nw, hnw⟩ : ∃ nw, now + x = nw := ⟨_, rfl⟩
      have k0 : 0 ≤ nw := by omega
      have k1 : nw ≤ 4294967295 + (i + 1) * 65535 := by omega
      have ST := Lib.hid (SN.out nw k0 (by omega))
      obtain ⟨q1, q2⟩ := CN.out nw
      obtain ⟨a0_, a1_, a2_⟩ := cf_at x1
      obtain ⟨e0_, e1_, e2_, e3_, e4_, k0_, k1_, k2_, k3_, k4_⟩ := cs_at x2
      have HB := Lib.hid hb
      have X1 := Lib.hid x1; have X2 := Lib.hid x2
      clear hb x1 x2
      by_cases hd : nw < F
      · rw [q1 hd] at ST
        unfold CS.val at ST
        dsimp only at ST
        have gd : decide (F ≤ nw) = false := decide_eq_false (by omega)
        clear q1 q2
        go_wp2_with fail
        refine (ST.out _).mono ?_
        rintro e w5 ⟨rfl, b⟩
        have HB5 := Lib.hid (below_onto HB.out b HB.out.size)
        have Y1 := Lib.hid ((b.block _ (Array.getElem?_eq_some_iff.1 X1.out).1).trans X1.out)
        have Y2 := Lib.hid ((b.block _ (Array.getElem?_eq_some_iff.1 X2.out).1).trans X2.out)
        have z5 : B1 < w5.heap.size := (Array.getElem?_eq_some_iff.1 Y2.out).1
        clear b a0_ a1_ a2_ e0_ e1_ e2_ e3_ e4_ k0_ k1_ k2_ k3_ k4_ cx ST
        obtain ⟨a0_, a1_, a2_⟩ := cf_at Y1.out
        obtain ⟨e0_, e1_, e2_, e3_, e4_, k0_, k1_, k2_, k3_, k4_⟩ := cs_at Y2.out
        go_wp2
        go_roundw
        case rel =>
          refine ⟨i + 1, nw, by go_num, by omega, rfl, k0, by omega, (five_else w5 B1 _ n01 (.int .u64 F) (.int .u64 0) (.int .u64 0) (.int .u64 0) (.bool false)).trans Y1.out, five_put Y2.out (.int .u64 F) (.int .u64 0) (.int .u64 0) (.int .u64 0) (.bool false), ?_⟩
          repeat' (first | (with_reducible exact HB5.out) | refine Below.setCell ?_ s1_ _)
        case measure => simp [intOf] <;> omega
      · have q3 := q2 (by omega)
        clear q1 q2
        generalize cst tg iv mt ⟨F, 0, 0, 0, false⟩ nw tg (mt + 1) = r at *
        obtain ⟨⟨rf, rn, rc, rl, rd⟩, rb⟩ := r
        dsimp only at q3
        subst q3
        unfold CS.val at ST
        dsimp only at ST
        have gd : decide (F ≤ nw) = true := decide_eq_true (by omega)
        go_wp2_with fail
        refine (ST.out _).mono ?_
        rintro e w5 ⟨rfl, b⟩
        have HB5 := Lib.hid (below_onto HB.out b HB.out.size)
        have Y1 := Lib.hid ((b.block _ (Array.getElem?_eq_some_iff.1 X1.out).1).trans X1.out)
        have Y2 := Lib.hid ((b.block _ (Array.getElem?_eq_some_iff.1 X2.out).1).trans X2.out)
        have z5 : B1 < w5.heap.size := (Array.getElem?_eq_some_iff.1 Y2.out).1
        clear b a0_ a1_ a2_ e0_ e1_ e2_ e3_ e4_ k0_ k1_ k2_ k3_ k4_ cx ST
        obtain ⟨a0_, a1_, a2_⟩ := cf_at Y1.out
        obtain ⟨e0_, e1_, e2_, e3_, e4_, k0_, k1_, k2_, k3_, k4_⟩ := cs_at Y2.out
        go_wp2_with (go_at_call 41; refine (lives19 _).mono ?_; rintro e w9 ⟨rfl, b9⟩)
        have HB9 := Lib.hid (below_onto (show Below w.heap.size w _ from by repeat' (first | (with_reducible exact HB5.out) | refine Below.setCell ?_ s1_ _)) b9 (by have := HB5.out.size; simpa using this))
        clear b9
        go_wp2
        go_ret
        exact ⟨rfl, HB9.out⟩
    · obtain rfl : i = n := by omega
      have HB := Lib.hid hb
      clear hb x1 x2
      go_wp2_with fail
      refine (lives19 _).mono ?_
      rintro e w9 ⟨rfl, b9⟩
      have HB9 := Lib.hid (below_onto HB.out b9 HB.out.size)
      clear b9
      go_wp2
      go_ret
      exact ⟨rfl, HB9.out⟩
theorem walk_codelFirst (tg : Int) (t0 : 0 ≤ tg) (t1 : tg ≤ 18446744073709551615) (iv : Int) (v0 : 0 ≤ iv) (v1 : iv ≤ 18446744073709551615) (mt : Int) (m0 : 0 ≤ mt) (m1 : mt ≤ 18446744073709551615) (fr : Int) (f0 : 0 ≤ fr) (f1 : fr ≤ 4294967295) (a : Option Addr) (n c : Nat) (zs : List Int) {w : World} (hr : Row1 .u16 w a n zs) (hc : n ≤ c) :
    Calls Try.prog 12 #[.agg #[.int .u64 tg, .int .u64 iv, .int .u64 mt], .int .u32 fr, .slice a n c] w fun e w' => e = .returned (.bool true) ∧ Below w.heap.size w w' := by
  by_cases hn : n ≤ 300
  · by_cases hok : cok iv = true
    · by_cases hx : mt = 18446744073709551615
      · exact first_max tg iv mt t0 t1 v0 v1 m0 m1 fr f0 f1 a n c w hr.2.1 hn hok hx
      · exact first_at tg iv mt t0 t1 v0 v1 m0 m1 fr f0 f1 a n c zs w hr hn hok hx
    · exact first_no tg iv mt t0 t1 v0 v1 m0 m1 fr f0 f1 a n c w hr.2.1 hn (by simpa using hok)
  · exact first_long tg iv mt t0 t1 v0 v1 m0 m1 fr f0 f1 a n c w hr.2.1 (by omega)
end Go.Proofs.Ytdokllignldbeaa
