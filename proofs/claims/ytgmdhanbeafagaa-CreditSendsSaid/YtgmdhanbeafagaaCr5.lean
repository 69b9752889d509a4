/-
  The law on what a class sends over stretches of time: true for any packets. No condition.
-/
import Derived.Test.YtgmdhanbeafagaaCr4
import Derived.Test.YtgmdhanbeafagaaRows2
import Derived.Deep.DrawnRows
namespace Go.Proofs.Ytgmdhanbeafagaa
set_option linter.unusedVariables false
set_option linter.unusedSimpArgs false
open Go.ChangeShapes Go.WideShapes Go.ChangeAt Go.RowKit
attribute [local go_sem] alloc_drewN setCell_drewN

attribute [local go_sem ↓] Go.wp_at_zero Go.wp_at_succ
theorem infoI64c : (Try.prog.info? 2).map (fun i => (i.zero, i.size, i.bytes)) = some (some (.int .i64 0), 1, 8) := by kernel_rfl
theorem tick_up {i s h v x L : Int} (b : Bool) (hk : CD.ok ⟨i, s, h, v⟩) (hx : 0 ≤ x) (hL : -L ≤ v) (h0 : 0 ≤ L) :
    ∃ v1, CD.tick ⟨i, s, h, v⟩ x b = ⟨i, s, h, v1⟩ ∧ CD.ok ⟨i, s, h, v1⟩ ∧ -L ≤ v1 ∧ v1 ≤ v + i * x := by
  obtain ⟨⟨i0, i1⟩, ⟨s0, s1⟩, ⟨h0_, h1⟩, v0, v1⟩ := id hk
  dsimp only at i0 i1 s0 s1 h0_ h1 v0 v1
  have p : 0 ≤ i * x := Int.mul_nonneg (by omega) hx
  refine ⟨_, if_pos hk, ⟨⟨i0, i1⟩, ⟨s0, s1⟩, ⟨h0_, h1⟩, ?_, ?_⟩, ?_, ?_⟩ <;> dsimp only <;> generalize i * x = P at * <;> cases b <;> simp only [if_true, Bool.false_eq_true, if_false] <;> (try split) <;> omega
theorem sent_cost {i s h v k m : Int} (hk : CD.ok ⟨i, s, h, v⟩) (k0 : 0 ≤ k) (km : k ≤ m) (m1 : m ≤ 65535) (hL : -(s * m) ≤ v) :
    (∃ v3, CD.sent ⟨i, s, h, v⟩ k = (⟨i, s, h, v3⟩, true) ∧ CD.ok ⟨i, s, h, v3⟩ ∧ -(s * m) ≤ v3 ∧ s * k + v3 = v) ∨ CD.sent ⟨i, s, h, v⟩ k = (⟨i, s, h, v⟩, false) := by
  obtain ⟨⟨i0, i1⟩, ⟨s0, s1⟩, ⟨h0, h1⟩, v0, v1⟩ := id hk
  dsimp only at i0 i1 s0 s1 h0 h1 v0 v1
  have p0 : 0 ≤ s * k := Int.mul_nonneg (by omega) k0
  have p1 : s * k ≤ s * m := Int.mul_le_mul_of_nonneg_left km (by omega)
  have p2 : s * m ≤ 1048576 * 65535 := Int.mul_le_mul s1 m1 (by omega) (by omega)
  unfold CD.sent
  rw [if_pos hk]
  dsimp only
  by_cases hv : 0 ≤ v ∧ k ≤ 65535
  · rw [if_pos hv]
    exact Or.inl ⟨_, rfl, ⟨⟨i0, i1⟩, ⟨s0, s1⟩, ⟨h0, h1⟩, by show _ ≤ v - s * k; omega, by show v - s * k ≤ h; omega⟩, by omega, by omega⟩
  · rw [if_neg hv]
    exact Or.inr rfl
/-- What the first loop keeps, of the numbers. -/
structure KN (X Y Z m : Int) (j : Nat) (v : Int) (g d : List Int) : Prop where
  lg : g.length = j
  ld : d.length = j
  ok : CD.ok ⟨X, Y, Z, v⟩
  low : -(Y * m) ≤ v
  cf : CF 1 Z (Y * m) g d v
  bg : ∀ x ∈ g, 0 ≤ x ∧ x ≤ 4294901760
  bd : ∀ x ∈ d, 0 ≤ x ∧ x ≤ 70368744177664
theorem KN.snoc {X Y Z m v v3 x y : Int} {j : Nat} {g d : List Int} (h : KN X Y Z m j v g d) (ok : CD.ok ⟨X, Y, Z, v3⟩) (low : -(Y * m) ≤ v3) (h1 : x + v3 ≤ v + y) (h2 : x + v3 ≤ Z) (x0 : 0 ≤ x) (x1 : x ≤ 4294901760) (y0 : 0 ≤ y) (y1 : y ≤ 70368744177664) :
    KN X Y Z m (j + 1) v3 (g ++ [x]) (d ++ [y]) where
  lg := by rw [List.length_append, h.lg]; rfl
  ld := by rw [List.length_append, h.ld]; rfl
  ok := ok
  low := low
  cf := h.cf.snoc (by omega) h2 low
  bg := fun z hz => by
    rcases List.mem_append.1 hz with hz | hz
    · exact h.bg z hz
    · rw [List.mem_singleton.1 hz]; exact ⟨x0, x1⟩
  bd := fun z hz => by
    rcases List.mem_append.1 hz with hz | hz
    · exact h.bd z hz
    · rw [List.mem_singleton.1 hz]; exact ⟨y0, y1⟩
set_option maxRecDepth 100000 in
set_option maxHeartbeats 4000000 in
theorem walk_creditSends (x : Int) (x0 : 0 ≤ x) (x1 : x ≤ 65535) (y : Int) (y0 : 0 ≤ y) (y1 : y ≤ 65535) (z : Int) (z0 : 0 ≤ z) (z1 : z ≤ 65535) (m : Int) (m0 : 0 ≤ m) (m1 : m ≤ 65535) (a : Option Addr) (n cc : Nat) (fs : List Act23) {w : World} (hr : RowA23 w a n fs) (hc : n ≤ cc) :
    Calls Try.prog 16 #[.agg #[.int .u16 x, .int .u16 y, .int .u16 z], .int .u16 m, .slice a n cc] w fun e w' => e = .returned (.bool true) ∧ Below w.heap.size w w' := by
  have LV := Lib.hid (fun W => lives23 W)
  obtain ⟨X, hX⟩ : ∃ X, x + 1 = X := ⟨_, rfl⟩
  obtain ⟨Y, hY⟩ : ∃ Y, y + 1 = Y := ⟨_, rfl⟩
  obtain ⟨Z, hZ⟩ : ∃ Z, z + 1 = Z := ⟨_, rfl⟩
  have OK0 : CD.ok ⟨X, Y, Z, 0⟩ := ⟨⟨by show 1 ≤ X; omega, by show X ≤ _; omega⟩, ⟨by show 1 ≤ Y; omega, by show Y ≤ _; omega⟩, ⟨by show 1 ≤ Z; omega, by show Z ≤ _; omega⟩, by show (_ : Int) ≤ 0; omega, by show 0 ≤ Z; omega⟩
  have NW := Lib.hid (fun W => cr_new X Y Z W)
  rw [show cre X Y Z 0 = 0 from if_pos OK0, if_pos rfl] at NW
  have X9 : 1 ≤ X ∧ X ≤ 65536 := by omega
  have Y9 : 1 ≤ Y ∧ Y ≤ 65536 := by omega
  have Z9 : 1 ≤ Z ∧ Z ≤ 65536 := by omega
  have HR := Lib.hid hr
  have hnm := hr.2.1
  unfold maxLen at hnm
  have LM0 : 0 ≤ Y * m := Int.mul_nonneg (by omega) m0
  have H0 := Lib.hid (⟨rfl, rfl, OK0, by omega, CF.nil _ _ _ _, by simp, by simp⟩ : KN X Y Z m 0 0 [] [])
  clear OK0 hr LM0
  by_cases hlong : 80 < n
  · have g80 : decide ((80 : Int) < n) = true := decide_eq_true (by omega)
    go_enter Try.func16, Try.ntmps16
    go_wp2
    refine wp_genc ?_
    intro v0 hv0
    have XB : Below w.heap.size w v0 := by
      rw [hv0]
      (repeat' (first | (with_reducible exact Below.refl _ _) | (with_reducible assumption) | (with_reducible refine below_drewN _ ?_) | (with_reducible refine Below.drew ?_) | (with_reducible refine Below.setCell ?_ (by simp) _) | (with_reducible refine Below.alloc ?_ (by simp; try omega) _)))
    have Xq : v0.heap[w.heap.size]? = some (.cells #[.int .u16 x, .int .u16 y, .int .u16 z] 132 (0, 0)) := by
      rw [hv0]
      (repeat' (first | (with_reducible exact heap_alloc_new _ _) | (with_reducible exact blk_new (by first | (simp; done) | omega)) | (with_reducible refine blk_drew ?_) | (with_reducible apply put3_0) | (with_reducible apply put3_1) | (with_reducible apply put3_2) | (with_reducible refine blk_else (by omega) ?_) | (with_reducible refine blk_old ?_)))
    obtain ⟨Bq, hBq⟩ : ∃ x, x = w.heap.size := ⟨_, rfl⟩
    rw [← hBq] at Xq
    try rw [← hBq]
    have leq : w.heap.size ≤ Bq := by omega
    clear hBq
    clear hv0
    have Hq1 := Lib.hid Xq
    have HB1 := Lib.hid XB
    clear Xq XB
    obtain ⟨q0_, q1_, q2_, qf0_, qf1_, qf2_⟩ := at3 Hq1.out
    have qn_ := ne_blk Hq1.out
    have qm_ := Ne.symm (a := Bq) qn_
    have ql_ := lt_blk Hq1.out
    go_quiet (fail)
    go_wp2_with fail
    refine cl_gen ?_
    intro v1 hv1
    have XB : Below w.heap.size w v1 := by
      rw [hv1]
      (repeat' (first | (with_reducible exact HB1.out) | (with_reducible exact Below.refl _ _) | (with_reducible refine below_drewN _ ?_) | (with_reducible refine Below.drew ?_) | (with_reducible refine Below.setCell ?_ (by first | (simp; done) | omega) _) | (with_reducible refine Below.alloc ?_ (by have := HB1.out.size; simp; omega) _)))
    clear q0_ q1_ q2_ qf0_ qf1_ qf2_ qn_ qm_ ql_
    clear hv1 Hq1 HB1
    refine (NW.out _).mono ?_
    rintro e w2 ⟨rfl, bb⟩
    have HB2 := Lib.hid (bel_onto XB bb XB.size)
    clear XB bb
    go_wp2_with fail
    refine cl_gen ?_
    intro v2 hv2
    have XB : Below w.heap.size w v2 := by
      rw [hv2]
      (repeat' (first | (with_reducible exact HB2.out) | (with_reducible exact Below.refl _ _) | (with_reducible refine below_drewN _ ?_) | (with_reducible refine Below.drew ?_) | (with_reducible refine Below.setCell ?_ (by first | (simp; done) | omega) _) | (with_reducible refine Below.alloc ?_ (by have := HB2.out.size; simp; omega) _)))
    clear hv2 HB2
    refine (LV.out _).mono ?_
    rintro e w3 ⟨rfl, bb⟩
    have HB3 := Lib.hid (bel_onto XB bb XB.size)
    clear XB bb
    go_wp2
    go_ret
    exact ⟨rfl, HB3.out⟩
  · have g80 : decide ((80 : Int) < n) = false := decide_eq_false (by omega)
    have hn80 : n ≤ 80 := by omega
    clear hlong
    go_enter Try.func16, Try.ntmps16
    go_wp2
    refine wp_genc ?_
    intro v0 hv0
    have XB : Below w.heap.size w v0 := by
      rw [hv0]
      (repeat' (first | (with_reducible exact Below.refl _ _) | (with_reducible assumption) | (with_reducible refine below_drewN _ ?_) | (with_reducible refine Below.drew ?_) | (with_reducible refine Below.setCell ?_ (by simp) _) | (with_reducible refine Below.alloc ?_ (by simp; try omega) _)))
    have Xq : v0.heap[w.heap.size]? = some (.cells #[.int .u16 x, .int .u16 y, .int .u16 z] 132 (0, 0)) := by
      rw [hv0]
      (repeat' (first | (with_reducible exact heap_alloc_new _ _) | (with_reducible exact blk_new (by first | (simp; done) | omega)) | (with_reducible refine blk_drew ?_) | (with_reducible apply put3_0) | (with_reducible apply put3_1) | (with_reducible apply put3_2) | (with_reducible refine blk_else (by omega) ?_) | (with_reducible refine blk_old ?_)))
    obtain ⟨Bq, hBq⟩ : ∃ x, x = w.heap.size := ⟨_, rfl⟩
    rw [← hBq] at Xq
    try rw [← hBq]
    have leq : w.heap.size ≤ Bq := by omega
    clear hBq
    clear hv0
    have Hq1 := Lib.hid Xq
    have HB1 := Lib.hid XB
    clear Xq XB
    obtain ⟨q0_, q1_, q2_, qf0_, qf1_, qf2_⟩ := at3 Hq1.out
    have qn_ := ne_blk Hq1.out
    have qm_ := Ne.symm (a := Bq) qn_
    have ql_ := lt_blk Hq1.out
    go_quiet (fail)
    go_wp2_with fail
    refine cl_gen ?_
    intro v1 hv1
    have XB : Below w.heap.size w v1 := by
      rw [hv1]
      (repeat' (first | (with_reducible exact HB1.out) | (with_reducible exact Below.refl _ _) | (with_reducible refine below_drewN _ ?_) | (with_reducible refine Below.drew ?_) | (with_reducible refine Below.setCell ?_ (by first | (simp; done) | omega) _) | (with_reducible refine Below.alloc ?_ (by have := HB1.out.size; simp; omega) _)))
    clear q0_ q1_ q2_ qf0_ qf1_ qf2_ qn_ qm_ ql_
    clear hv1 Hq1 HB1
    refine (NW.out _).mono ?_
    rintro e w2 ⟨rfl, bb⟩
    have HB2 := Lib.hid (bel_onto XB bb XB.size)
    clear XB bb
    go_wp2
    refine wp_genc ?_
    intro v2 hv2
    have XB : Below w.heap.size w v2 := by
      rw [hv2]
      (repeat' (first | (with_reducible exact HB2.out) | (with_reducible exact Below.refl _ _) | (with_reducible refine below_drewN _ ?_) | (with_reducible refine Below.drew ?_) | (with_reducible refine Below.setCell ?_ (by first | (simp; done) | omega) _) | (with_reducible refine Below.alloc ?_ (by have := HB2.out.size; simp; omega) _)))
    have Xc : v2.heap[w2.heap.size]? = some (.cells #[.int .i64 X, .int .i64 Y, .int .i64 Z, .int .i64 0] 114 (0, 0)) := by
      rw [hv2]
      (repeat' (first | (with_reducible exact heap_alloc_new _ _) | (with_reducible exact blk_new (by first | (simp; done) | omega)) | (with_reducible refine blk_drew ?_) | (with_reducible apply put4_0) | (with_reducible apply put4_1) | (with_reducible apply put4_2) | (with_reducible apply put4_3) | (with_reducible refine blk_else (by omega) ?_) | (with_reducible refine blk_old ?_)))
    obtain ⟨Bc, hBc⟩ : ∃ x, x = w2.heap.size := ⟨_, rfl⟩
    rw [← hBc] at Xc
    try rw [← hBc]
    have lec : w.heap.size ≤ Bc := by have := HB2.out.size; omega
    clear hBc
    clear hv2 HB2
    have Hc3 := Lib.hid Xc
    have HB3 := Lib.hid XB
    clear Xc XB
    obtain ⟨c0_, c1_, c2_, c3_, cf0_, cf1_, cf2_, cf3_⟩ := at4 Hc3.out
    have cn_ := ne_blk Hc3.out
    have cm_ := Ne.symm (a := Bc) cn_
    have cl_ := lt_blk Hc3.out
    obtain ⟨i0, hi, hz0, hz1, hz2⟩ := info_parts infoI64c
    go_loopw [12, 13, 58] (fun e12 e13 e58 wr => ∃ (j : Nat) (v : Int) (g d : List Int), e58 = .int .i64 j ∧ j ≤ n ∧ KN X Y Z m j v g d ∧ NR .i64 2 wr w.heap.size e12 g ∧ NR .i64 2 wr w.heap.size e13 d ∧ (∀ b, e12.ownBlock = some b → e13.ownBlock ≠ some b) ∧ wr.heap[Bc]? = some (.cells #[.int .i64 X, .int .i64 Y, .int .i64 Z, .int .i64 v] 114 (0, 0)) ∧ Below w.heap.size w wr) (fun _ _ e _ => n - (intOf e).toNat)
    case atStart => exact ⟨0, 0, [], [], rfl, Nat.zero_le _, H0.out, NR.nil _ _ _ _, NR.nil _ _ _ _, (fun _ h => nomatch h), Hc3.out, HB3.out⟩
    case round =>
      clear c0_ c1_ c2_ c3_ cf0_ cf1_ cf2_ cf3_ cn_ cm_ cl_ Hc3 HB3 g80
      obtain ⟨j, v, g, d, rfl, hj, KN0, NG, ND, AP0, xc, xb⟩ := hrel
      obtain ⟨a1, c1, rfl, hc1, cell1⟩ := NG.form
      obtain ⟨a2, c2, rfl, hc2, cell2⟩ := ND.form
      have hlg := KN0.lg
      have hld := KN0.ld
      rw [hlg] at NG hc1 cell1 ⊢
      rw [hld] at ND hc2 cell2 ⊢
      rw [hlg] at AP0
      rw [hld] at AP0
      have Hc9 := Lib.hid xc; have HB9 := Lib.hid xb
      by_cases hlt : j < n
      · obtain ⟨hzl, hzm, hzw, hzc⟩ := HR.out
        obtain ⟨b, off, rfl, hb0, hcs⟩ := hzc (by omega)
        obtain ⟨cx0, cx1, cx2⟩ := hcs j hlt
        have d0_ := (xb.cell (p := ⟨b, off + j * 3, none⟩) hb0).trans cx0
        have d1_ := (xb.cell (p := ⟨b, off + j * 3 + 1, none⟩) hb0).trans cx1
        have d2_ := (xb.cell (p := ⟨b, off + j * 3 + 2, none⟩) hb0).trans cx2
        have hxw : (fs.getD j Act23.nil).ok := hzw _ (by rw [List.getD_eq_getElem?_getD, List.getElem?_eq_getElem (by omega : j < fs.length)]; exact List.getElem_mem _)
        generalize fs.getD j Act23.nil = act at *
        obtain ⟨ad, an, ab⟩ := act
        obtain ⟨⟨p0, p1⟩, p2, p3⟩ := hxw
        dsimp only at p0 p1 p2 p3 d0_ d1_ d2_
        have LM : 0 ≤ Y * m := Int.mul_nonneg (by omega) m0
        obtain ⟨tt, htt⟩ : ∃ t, ad % 1073741824 = t := ⟨_, rfl⟩
        have t0 : 0 ≤ tt := by omega
        have t1 : tt < 1073741824 := by omega
        have T1 := Lib.hid (fun W => cr_tick ⟨X, Y, Z, v⟩ tt t0 (by omega) ab W)
        obtain ⟨v1, hv1, hk1, hl1, hu1⟩ := tick_up ab KN0.ok t0 KN0.low LM
        rw [hv1] at T1
        obtain ⟨M9, hM9⟩ : ∃ M9, m + 1 = M9 := ⟨_, rfl⟩
        obtain ⟨kk, hkk⟩ : ∃ kk, an % M9 = kk := ⟨_, rfl⟩
        have r0 : 0 ≤ kk := by rw [← hkk]; exact Int.emod_nonneg an (by omega)
        have r1 : kk ≤ m := by have := Int.emod_lt_of_pos an (show 0 < M9 by omega); omega
        have em3 : 1 ≤ M9 := by omega
        have S1 := Lib.hid (fun W => cr_sent ⟨X, Y, Z, v1⟩ kk r0 (by omega) W)
        obtain ⟨P, hP⟩ : ∃ P, X * tt = P := ⟨_, rfl⟩
        have P0 : 0 ≤ P := by rw [← hP]; exact Int.mul_nonneg (by omega) t0
        have P1 : P ≤ 65536 * 1073741824 := by rw [← hP]; exact Int.mul_le_mul X9.2 (by omega) t0 (by omega)
        obtain ⟨Q, hQ⟩ : ∃ Q, Y * kk = Q := ⟨_, rfl⟩
        have Q0 : 0 ≤ Q := by rw [← hQ]; exact Int.mul_nonneg (by omega) r0
        have Q1 : Q ≤ 65536 * 65535 := by rw [← hQ]; exact Int.mul_le_mul Y9.2 (by omega) r0 (by omega)
        have w1_ : IntKind.i64.wrap tt = tt := by rw [IntKind.wrap_i64]; omega
        have w2_ : IntKind.i64.wrap P = P := by rw [IntKind.wrap_i64]; omega
        have w3_ : IntKind.i64.wrap kk = kk := by rw [IntKind.wrap_i64]; omega
        have w4_ : IntKind.i64.wrap Q = Q := by rw [IntKind.wrap_i64]; omega
        rw [hP] at hu1
        have sc := sent_cost hk1 r0 r1 m1 hl1
        rw [hQ] at sc
        have z1_ := hk1.2.2.2.2
        dsimp only at z1_
        have AP := Lib.hid AP0
        have AQ := Lib.hid (fun g_ (h : (Value.slice a2 j c2).ownBlock = some g_) (e : (Value.slice a1 j c1).ownBlock = some g_) => AP0 g_ e h)
        have GE0 := Lib.hid (fun g_ h => (NG.lt g_ h).1)
        have GE1 := Lib.hid (fun g_ h => (ND.lt g_ h).1)
        have n0c := NG.ne xc (by decide)
        have n1c := ND.ne xc (by decide)
        have HG9 := Lib.hid NG
        have HD9 := Lib.hid ND
        have HKN := Lib.hid KN0
        have HL0 := Lib.hid hlg
        have HL1 := Lib.hid hld
        simp only [cd_val] at T1
        have HK1 := Lib.hid hk1
        have hl1_ := hl1
        clear hzl hzm hzw hzc hcs cx0 cx1 cx2 hv1 xb xc KN0 NG ND AP0 hlg hld cell1 cell2 hc1 hc2 hl1 LM
        rcases sc with ⟨v3, hv3, hk3, hl3, hs3⟩ | hv3
        · rw [hv3] at S1
          simp only [cd_val] at S1
          have HK3 := Lib.hid hk3
          clear hk3 hv3
          have HR0_9 := HG9
          have HR1_9 := HD9
          clear HG9 HD9
          obtain ⟨c0_, c1_, c2_, c3_, cf0_, cf1_, cf2_, cf3_⟩ := at4 Hc9.out
          have cn_ := ne_blk Hc9.out
          have cm_ := Ne.symm (a := Bc) cn_
          have cl_ := lt_blk Hc9.out
          go_wp2_with fail
          refine cl_gen ?_
          intro v9 hv9
          have Xc : v9.heap[Bc]? = some (.cells #[.int .i64 X, .int .i64 Y, .int .i64 Z, .int .i64 v] 114 (0, 0)) := by
            rw [hv9]
            (repeat' (first | (with_reducible exact Hc9.out) | (with_reducible exact heap_alloc_new _ _) | (with_reducible exact blk_new (by first | (simp; done) | omega)) | (with_reducible refine blk_drew ?_) | (with_reducible apply put4_0) | (with_reducible apply put4_1) | (with_reducible apply put4_2) | (with_reducible apply put4_3) | (with_reducible refine blk_else (by omega) ?_) | (with_reducible refine blk_old ?_)))
          have XR0 : NR .i64 2 v9 w.heap.size (.slice a1 j c1) g := by
            rw [hv9]
            (repeat' (first | (with_reducible exact HR0_9.out) | (with_reducible refine NR.drew ?_) | (with_reducible refine NR.drewN ?_) | (with_reducible refine NR.put ?_ (by assumption) _) | (with_reducible refine NR.alloc ?_ _)))
          have XR1 : NR .i64 2 v9 w.heap.size (.slice a2 j c2) d := by
            rw [hv9]
            (repeat' (first | (with_reducible exact HR1_9.out) | (with_reducible refine NR.drew ?_) | (with_reducible refine NR.drewN ?_) | (with_reducible refine NR.put ?_ (by assumption) _) | (with_reducible refine NR.alloc ?_ _)))
          have XB : Below w.heap.size w v9 := by
            rw [hv9]
            (repeat' (first | (with_reducible exact HB9.out) | (with_reducible exact Below.refl _ _) | (with_reducible refine below_drewN _ ?_) | (with_reducible refine Below.drew ?_) | (with_reducible refine Below.setCell ?_ (by first | (simp; done) | omega) _) | (with_reducible refine Below.alloc ?_ (by have := HB9.out.size; simp; omega) _)))
          have Xe : v9.heap[wr.heap.size]? = some (.cells #[.int .u64 ad, .int .u64 an, .bool ab] 120 (0, 0)) := by
            rw [hv9]
            (repeat' (first | (with_reducible exact heap_alloc_new _ _) | (with_reducible exact blk_new (by first | (simp; done) | omega)) | (with_reducible refine blk_drew ?_) | (with_reducible apply put3_0) | (with_reducible apply put3_1) | (with_reducible apply put3_2) | (with_reducible refine blk_else (by omega) ?_) | (with_reducible refine blk_old ?_)))
          obtain ⟨Be, hBe⟩ : ∃ x, x = wr.heap.size := ⟨_, rfl⟩
          rw [← hBe] at Xe
          try rw [← hBe]
          have nec : ¬ Be = Bc := by have := lt_blk Hc9.out; omega
          have nce : ¬ Bc = Be := fun h => nec h.symm
          have lee : w.heap.size ≤ Be := by have := HB9.out.size; omega
          clear hBe
          clear c0_ c1_ c2_ c3_ cf0_ cf1_ cf2_ cf3_ cn_ cm_ cl_ d0_ d1_ d2_
          clear hv9 Hc9 HB9
          clear HR0_9 HR1_9
          refine (T1.out _).mono ?_
          rintro e w10 ⟨rfl, bb⟩
          have HR0_10 := Lib.hid (NR.below XR0 bb)
          have HR1_10 := Lib.hid (NR.below XR1 bb)
          clear XR0 XR1
          have Hc10 := Lib.hid (blk_call bb Xc)
          have He10 := Lib.hid (blk_call bb Xe)
          have HB10 := Lib.hid (bel_onto XB bb XB.size)
          clear Xc Xe XB bb
          obtain ⟨c0_, c1_, c2_, c3_, cf0_, cf1_, cf2_, cf3_⟩ := at4 Hc10.out
          have cn_ := ne_blk Hc10.out
          have cm_ := Ne.symm (a := Bc) cn_
          have cl_ := lt_blk Hc10.out
          obtain ⟨e0_, e1_, e2_, ef0_, ef1_, ef2_⟩ := at3 He10.out
          have en_ := ne_blk He10.out
          have em_ := Ne.symm (a := Be) en_
          have el_ := lt_blk He10.out
          go_wp2_with fail
          refine cl_gen ?_
          intro v10 hv10
          have Xc : v10.heap[Bc]? = some (.cells #[.int .i64 X, .int .i64 Y, .int .i64 Z, .int .i64 v1] 114 (0, 0)) := by
            rw [hv10]
            (repeat' (first | (with_reducible exact Hc10.out) | (with_reducible exact heap_alloc_new _ _) | (with_reducible exact blk_new (by first | (simp; done) | omega)) | (with_reducible refine blk_drew ?_) | (with_reducible apply put4_0) | (with_reducible apply put4_1) | (with_reducible apply put4_2) | (with_reducible apply put4_3) | (with_reducible refine blk_else (by omega) ?_) | (with_reducible refine blk_old ?_)))
          have Xe : v10.heap[Be]? = some (.cells #[.int .u64 ad, .int .u64 an, .bool ab] 120 (0, 0)) := by
            rw [hv10]
            (repeat' (first | (with_reducible exact He10.out) | (with_reducible exact heap_alloc_new _ _) | (with_reducible exact blk_new (by first | (simp; done) | omega)) | (with_reducible refine blk_drew ?_) | (with_reducible apply put3_0) | (with_reducible apply put3_1) | (with_reducible apply put3_2) | (with_reducible refine blk_else (by omega) ?_) | (with_reducible refine blk_old ?_)))
          have XR0 : NR .i64 2 v10 w.heap.size (.slice a1 j c1) g := by
            rw [hv10]
            (repeat' (first | (with_reducible exact HR0_10.out) | (with_reducible refine NR.drew ?_) | (with_reducible refine NR.drewN ?_) | (with_reducible refine NR.put ?_ (by assumption) _) | (with_reducible refine NR.alloc ?_ _)))
          have XR1 : NR .i64 2 v10 w.heap.size (.slice a2 j c2) d := by
            rw [hv10]
            (repeat' (first | (with_reducible exact HR1_10.out) | (with_reducible refine NR.drew ?_) | (with_reducible refine NR.drewN ?_) | (with_reducible refine NR.put ?_ (by assumption) _) | (with_reducible refine NR.alloc ?_ _)))
          have XB : Below w.heap.size w v10 := by
            rw [hv10]
            (repeat' (first | (with_reducible exact HB10.out) | (with_reducible exact Below.refl _ _) | (with_reducible refine below_drewN _ ?_) | (with_reducible refine Below.drew ?_) | (with_reducible refine Below.setCell ?_ (by first | (simp; done) | omega) _) | (with_reducible refine Below.alloc ?_ (by have := HB10.out.size; simp; omega) _)))
          clear c0_ c1_ c2_ c3_ cf0_ cf1_ cf2_ cf3_ cn_ cm_ cl_ e0_ e1_ e2_ ef0_ ef1_ ef2_ en_ em_ el_
          clear hv10 Hc10 He10 HB10
          clear HR0_10 HR1_10
          refine (S1.out _).mono ?_
          rintro e w11 ⟨rfl, bb⟩
          have HR0_11 := Lib.hid (NR.below XR0 bb)
          have HR1_11 := Lib.hid (NR.below XR1 bb)
          clear XR0 XR1
          have Hc11 := Lib.hid (blk_call bb Xc)
          have He11 := Lib.hid (blk_call bb Xe)
          have HB11 := Lib.hid (bel_onto XB bb XB.size)
          clear Xc Xe XB bb
          obtain ⟨c0_, c1_, c2_, c3_, cf0_, cf1_, cf2_, cf3_⟩ := at4 Hc11.out
          have cn_ := ne_blk Hc11.out
          have cm_ := Ne.symm (a := Bc) cn_
          have cl_ := lt_blk Hc11.out
          obtain ⟨e0_, e1_, e2_, ef0_, ef1_, ef2_⟩ := at3 He11.out
          have en_ := ne_blk He11.out
          have em_ := Ne.symm (a := Be) en_
          have el_ := lt_blk He11.out
          go_upto_region 17 with (fail)
          refine wp_genc ?_
          intro v11 hv11
          have Xc : v11.heap[Bc]? = some (.cells #[.int .i64 X, .int .i64 Y, .int .i64 Z, .int .i64 v3] 114 (0, 0)) := by
            rw [hv11]
            (repeat' (first | (with_reducible exact Hc11.out) | (with_reducible exact heap_alloc_new _ _) | (with_reducible exact blk_new (by first | (simp; done) | omega)) | (with_reducible refine blk_drew ?_) | (with_reducible apply put4_0) | (with_reducible apply put4_1) | (with_reducible apply put4_2) | (with_reducible apply put4_3) | (with_reducible refine blk_else (by omega) ?_) | (with_reducible refine blk_old ?_)))
          have Xe : v11.heap[Be]? = some (.cells #[.int .u64 ad, .int .u64 an, .bool ab] 120 (0, 0)) := by
            rw [hv11]
            (repeat' (first | (with_reducible exact He11.out) | (with_reducible exact heap_alloc_new _ _) | (with_reducible exact blk_new (by first | (simp; done) | omega)) | (with_reducible refine blk_drew ?_) | (with_reducible apply put3_0) | (with_reducible apply put3_1) | (with_reducible apply put3_2) | (with_reducible refine blk_else (by omega) ?_) | (with_reducible refine blk_old ?_)))
          have XR0 : NR .i64 2 v11 w.heap.size (.slice a1 j c1) g := by
            rw [hv11]
            (repeat' (first | (with_reducible exact HR0_11.out) | (with_reducible refine NR.drew ?_) | (with_reducible refine NR.drewN ?_) | (with_reducible refine NR.put ?_ (by assumption) _) | (with_reducible refine NR.alloc ?_ _)))
          have XR1 : NR .i64 2 v11 w.heap.size (.slice a2 j c2) d := by
            rw [hv11]
            (repeat' (first | (with_reducible exact HR1_11.out) | (with_reducible refine NR.drew ?_) | (with_reducible refine NR.drewN ?_) | (with_reducible refine NR.put ?_ (by assumption) _) | (with_reducible refine NR.alloc ?_ _)))
          have XB : Below w.heap.size w v11 := by
            rw [hv11]
            (repeat' (first | (with_reducible exact HB11.out) | (with_reducible exact Below.refl _ _) | (with_reducible refine below_drewN _ ?_) | (with_reducible refine Below.drew ?_) | (with_reducible refine Below.setCell ?_ (by first | (simp; done) | omega) _) | (with_reducible refine Below.alloc ?_ (by have := HB11.out.size; simp; omega) _)))
          clear c0_ c1_ c2_ c3_ cf0_ cf1_ cf2_ cf3_ cn_ cm_ cl_ e0_ e1_ e2_ ef0_ ef1_ ef2_ en_ em_ el_
          clear hv11 Hc11 He11 HB11
          clear HR0_11 HR1_11
          have HR0_12 := Lib.hid XR0
          have HR1_12 := Lib.hid XR1
          clear XR0 XR1
          have Hc12 := Lib.hid Xc
          have He12 := Lib.hid Xe
          have HB12 := Lib.hid XB
          clear Xc Xe XB
          obtain ⟨c0_, c1_, c2_, c3_, cf0_, cf1_, cf2_, cf3_⟩ := at4 Hc12.out
          have cn_ := ne_blk Hc12.out
          have cm_ := Ne.symm (a := Bc) cn_
          have cl_ := lt_blk Hc12.out
          obtain ⟨e0_, e1_, e2_, ef0_, ef1_, ef2_⟩ := at3 He12.out
          have en_ := ne_blk He12.out
          have em_ := Ne.symm (a := Be) en_
          have el_ := lt_blk He12.out
          have R0 := HR0_12
          have R1 := HR1_12
          have L0 := Lib.hid (fun g_ h => (R0.out.lt g_ h).2)
          have L1 := Lib.hid (fun g_ h => (R1.out.lt g_ h).2)
          have NE0c := Lib.hid n0c
          have NE1c := Lib.hid n1c
          have OC0 := Lib.hid (show ∀ u ∈ ([.int .i64 Q] : List Value), u.oneCell' = true from fun u hu => by rw [List.mem_singleton.1 hu]; rfl)
          have OC1 := Lib.hid (show ∀ u ∈ ([.int .i64 P] : List Value), u.oneCell' = true from fun u hu => by rw [List.mem_singleton.1 hu]; rfl)
          have m63 : j + 1 ≤ maxLen := by unfold maxLen; omega
          have mby : (j + 1) * 8 ≤ 140737488355328 := by omega
          have KN2 := Lib.hid (HKN.out.snoc HK3.out (by omega) (by omega) (by omega) (by omega) (by omega) (by omega) (by omega) : KN X Y Z m (j + 1) v3 (g ++ [Q]) (d ++ [P]))
          clear HKN
          clear c0_ c1_ c2_ c3_ cf0_ cf1_ cf2_ cf3_ cn_ cm_ cl_ e0_ e1_ e2_ ef0_ ef1_ ef2_ en_ em_ el_
          have O0 := Lib.hid (show v11.ownsRow w.heap.size 2 1 (.slice a1 j c1) j (g.map (Value.int .i64)) from by have h := R0.out; unfold NR at h; rw [HL0.out] at h; exact h)
          have O1 := Lib.hid (show v11.ownsRow w.heap.size 2 1 (.slice a2 j c2) j (d.map (Value.int .i64)) from by have h := R1.out; unfold NR at h; rw [HL1.out] at h; exact h)
          have tok0 : True := trivial
          have tok1 : True := trivial
          go_region_held3 (fun v => v.cell? ⟨Bc, 0, none⟩ = some (.int .i64 X))
            (exact cell_blk (by (repeat' (first | (with_reducible exact Hc12.out) | (with_reducible exact heap_alloc_new _ _) | (with_reducible exact blk_new (by first | (simp; done) | omega)) | (with_reducible refine blk_drew ?_) | (with_reducible refine blk_drewNr ?_) | (with_reducible refine blk_old ?_) | (refine blk_grown hgrow0 (NE0c.out) ?_) | (refine blk_grown hgrow1 (NE1c.out) ?_)))) 0 rfl)
            (first
              | (have _t := tok0; refine step_append_lies _ (by rfl) _ _ 134 (by rfl) w.heap.size 2 i0 (.int .i64 0) 1 8 Try.underlying134 hi hz0 hz1 hz2 (by rfl) (by decide) (.slice a1 j c1) j (g.map (Value.int .i64)) (by rfl) (by (repeat' (first | (with_reducible exact O0.out) | (with_reducible refine World.ownsRow.alloc ?_ _) | (with_reducible refine World.ownsRow.drew ?_) | (refine own_grown hgrow1 AP.out ?_)))) _ 1 1 [.int .i64 Q] (by rfl) (by rfl) (by exact World.news_of_block (cs := #[.int .i64 Q]) (by (repeat' (first | (with_reducible exact heap_alloc_new _ _) | (with_reducible exact blk_new (by first | (simp; done) | omega)) | (with_reducible refine blk_drew ?_) | (with_reducible refine blk_drewNr ?_) | (with_reducible refine blk_old ?_) | (refine blk_grown hgrow1 (row_new L1.out (by first | omega | (simp; omega))) ?_))))) OC0.out (by decide) m63 mby (by first | (have := HB12.out.size; simp; omega) | (have := HB12.out.size; have h9 := hgrow0.size; simp at h9 ⊢; omega) | (have := HB12.out.size; have h9 := hgrow1.size; simp at h9 ⊢; omega)) _ rfl ?_; intro g0 cap0 W0 hown0 hgrow0 hat0 hlt0; clear tok0)
              | (have _t := tok1; refine step_append_lies _ (by rfl) _ _ 134 (by rfl) w.heap.size 2 i0 (.int .i64 0) 1 8 Try.underlying134 hi hz0 hz1 hz2 (by rfl) (by decide) (.slice a2 j c2) j (d.map (Value.int .i64)) (by rfl) (by (repeat' (first | (with_reducible exact O1.out) | (with_reducible refine World.ownsRow.alloc ?_ _) | (with_reducible refine World.ownsRow.drew ?_) | (refine own_grown hgrow0 AQ.out ?_)))) _ 1 1 [.int .i64 P] (by rfl) (by rfl) (by exact World.news_of_block (cs := #[.int .i64 P]) (by (repeat' (first | (with_reducible exact heap_alloc_new _ _) | (with_reducible exact blk_new (by first | (simp; done) | omega)) | (with_reducible refine blk_drew ?_) | (with_reducible refine blk_drewNr ?_) | (with_reducible refine blk_old ?_) | (refine blk_grown hgrow0 (row_new L0.out (by first | omega | (simp; omega))) ?_))))) OC1.out (by decide) m63 mby (by first | (have := HB12.out.size; simp; omega) | (have := HB12.out.size; have h9 := hgrow0.size; simp at h9 ⊢; omega) | (have := HB12.out.size; have h9 := hgrow1.size; simp at h9 ⊢; omega)) _ rfl ?_; intro g1 cap1 W1 hown1 hgrow1 hat1 hlt1; clear tok1))
          all_goals
            go_wp2
            go_roundw
            case rel =>
              refine ⟨j + 1, v3, _, _, by go_num, by omega, KN2.out, ?_, ?_, ?_, ?_, ?_⟩
              · (refine NR.snoc (n := _) HL0.out ?_; repeat' (first | (with_reducible exact hown0) | (with_reducible refine World.ownsRow.alloc ?_ _) | (with_reducible refine World.ownsRow.drew ?_) | (refine own_new hgrow1 AP.out L1.out hat0 (by first | (simp; done) | (simp; omega) | omega) ?_)))
              · (refine NR.snoc (n := _) HL1.out ?_; repeat' (first | (with_reducible exact hown1) | (with_reducible refine World.ownsRow.alloc ?_ _) | (with_reducible refine World.ownsRow.drew ?_) | (refine own_new hgrow0 AQ.out L0.out hat1 (by first | (simp; done) | (simp; omega) | omega) ?_)))
              · (refine apt ?_; first | exact apart2 AP.out L0.out L1.out hat0 (by first | (simp; done) | (simp; omega) | omega) hlt0 hat1 (by first | (simp; done) | (simp; omega) | omega) | exact (apart2 AQ.out L1.out L0.out hat1 (by first | (simp; done) | (simp; omega) | omega) hlt1 hat0 (by first | (simp; done) | (simp; omega) | omega)).symm)
              · (repeat' (first | (with_reducible exact Hc12.out) | (with_reducible exact heap_alloc_new _ _) | (with_reducible exact blk_new (by first | (simp; done) | omega)) | (with_reducible refine blk_drew ?_) | (with_reducible refine blk_drewNr ?_) | (with_reducible refine blk_old ?_) | (refine blk_grown hgrow0 (NE0c.out) ?_) | (refine blk_grown hgrow1 (NE1c.out) ?_)))
              · (repeat' (first | (with_reducible exact HB12.out) | (with_reducible refine below_drewN _ ?_) | (with_reducible refine Below.drew ?_) | (with_reducible refine Below.alloc ?_ (by first | (have := HB12.out.size; simp; omega) | (have := HB12.out.size; have h9 := hgrow0.size; simp at h9 ⊢; omega) | (have := HB12.out.size; have h9 := hgrow1.size; simp at h9 ⊢; omega)) _) | (refine Below.grown ?_ hgrow0 (by first | (have := HB12.out.size; simp; omega) | (have := HB12.out.size; have h9 := hgrow1.size; simp at h9 ⊢; omega)) GE0.out) | (refine Below.grown ?_ hgrow1 (by first | (have := HB12.out.size; simp; omega) | (have := HB12.out.size; have h9 := hgrow0.size; simp at h9 ⊢; omega)) GE1.out)))
            case measure => simp [intOf] <;> omega
        · rw [hv3] at S1
          simp only [cd_val] at S1
          clear hv3
          have HR0_9 := HG9
          have HR1_9 := HD9
          clear HG9 HD9
          obtain ⟨c0_, c1_, c2_, c3_, cf0_, cf1_, cf2_, cf3_⟩ := at4 Hc9.out
          have cn_ := ne_blk Hc9.out
          have cm_ := Ne.symm (a := Bc) cn_
          have cl_ := lt_blk Hc9.out
          go_wp2_with fail
          refine cl_gen ?_
          intro v9 hv9
          have Xc : v9.heap[Bc]? = some (.cells #[.int .i64 X, .int .i64 Y, .int .i64 Z, .int .i64 v] 114 (0, 0)) := by
            rw [hv9]
            (repeat' (first | (with_reducible exact Hc9.out) | (with_reducible exact heap_alloc_new _ _) | (with_reducible exact blk_new (by first | (simp; done) | omega)) | (with_reducible refine blk_drew ?_) | (with_reducible apply put4_0) | (with_reducible apply put4_1) | (with_reducible apply put4_2) | (with_reducible apply put4_3) | (with_reducible refine blk_else (by omega) ?_) | (with_reducible refine blk_old ?_)))
          have XR0 : NR .i64 2 v9 w.heap.size (.slice a1 j c1) g := by
            rw [hv9]
            (repeat' (first | (with_reducible exact HR0_9.out) | (with_reducible refine NR.drew ?_) | (with_reducible refine NR.drewN ?_) | (with_reducible refine NR.put ?_ (by assumption) _) | (with_reducible refine NR.alloc ?_ _)))
          have XR1 : NR .i64 2 v9 w.heap.size (.slice a2 j c2) d := by
            rw [hv9]
            (repeat' (first | (with_reducible exact HR1_9.out) | (with_reducible refine NR.drew ?_) | (with_reducible refine NR.drewN ?_) | (with_reducible refine NR.put ?_ (by assumption) _) | (with_reducible refine NR.alloc ?_ _)))
          have XB : Below w.heap.size w v9 := by
            rw [hv9]
            (repeat' (first | (with_reducible exact HB9.out) | (with_reducible exact Below.refl _ _) | (with_reducible refine below_drewN _ ?_) | (with_reducible refine Below.drew ?_) | (with_reducible refine Below.setCell ?_ (by first | (simp; done) | omega) _) | (with_reducible refine Below.alloc ?_ (by have := HB9.out.size; simp; omega) _)))
          have Xe : v9.heap[wr.heap.size]? = some (.cells #[.int .u64 ad, .int .u64 an, .bool ab] 120 (0, 0)) := by
            rw [hv9]
            (repeat' (first | (with_reducible exact heap_alloc_new _ _) | (with_reducible exact blk_new (by first | (simp; done) | omega)) | (with_reducible refine blk_drew ?_) | (with_reducible apply put3_0) | (with_reducible apply put3_1) | (with_reducible apply put3_2) | (with_reducible refine blk_else (by omega) ?_) | (with_reducible refine blk_old ?_)))
          obtain ⟨Be, hBe⟩ : ∃ x, x = wr.heap.size := ⟨_, rfl⟩
          rw [← hBe] at Xe
          try rw [← hBe]
          have nec : ¬ Be = Bc := by have := lt_blk Hc9.out; omega
          have nce : ¬ Bc = Be := fun h => nec h.symm
          have lee : w.heap.size ≤ Be := by have := HB9.out.size; omega
          clear hBe
          clear c0_ c1_ c2_ c3_ cf0_ cf1_ cf2_ cf3_ cn_ cm_ cl_ d0_ d1_ d2_
          clear hv9 Hc9 HB9
          clear HR0_9 HR1_9
          refine (T1.out _).mono ?_
          rintro e w10 ⟨rfl, bb⟩
          have HR0_10 := Lib.hid (NR.below XR0 bb)
          have HR1_10 := Lib.hid (NR.below XR1 bb)
          clear XR0 XR1
          have Hc10 := Lib.hid (blk_call bb Xc)
          have He10 := Lib.hid (blk_call bb Xe)
          have HB10 := Lib.hid (bel_onto XB bb XB.size)
          clear Xc Xe XB bb
          obtain ⟨c0_, c1_, c2_, c3_, cf0_, cf1_, cf2_, cf3_⟩ := at4 Hc10.out
          have cn_ := ne_blk Hc10.out
          have cm_ := Ne.symm (a := Bc) cn_
          have cl_ := lt_blk Hc10.out
          obtain ⟨e0_, e1_, e2_, ef0_, ef1_, ef2_⟩ := at3 He10.out
          have en_ := ne_blk He10.out
          have em_ := Ne.symm (a := Be) en_
          have el_ := lt_blk He10.out
          go_wp2_with fail
          refine cl_gen ?_
          intro v10 hv10
          have Xc : v10.heap[Bc]? = some (.cells #[.int .i64 X, .int .i64 Y, .int .i64 Z, .int .i64 v1] 114 (0, 0)) := by
            rw [hv10]
            (repeat' (first | (with_reducible exact Hc10.out) | (with_reducible exact heap_alloc_new _ _) | (with_reducible exact blk_new (by first | (simp; done) | omega)) | (with_reducible refine blk_drew ?_) | (with_reducible apply put4_0) | (with_reducible apply put4_1) | (with_reducible apply put4_2) | (with_reducible apply put4_3) | (with_reducible refine blk_else (by omega) ?_) | (with_reducible refine blk_old ?_)))
          have Xe : v10.heap[Be]? = some (.cells #[.int .u64 ad, .int .u64 an, .bool ab] 120 (0, 0)) := by
            rw [hv10]
            (repeat' (first | (with_reducible exact He10.out) | (with_reducible exact heap_alloc_new _ _) | (with_reducible exact blk_new (by first | (simp; done) | omega)) | (with_reducible refine blk_drew ?_) | (with_reducible apply put3_0) | (with_reducible apply put3_1) | (with_reducible apply put3_2) | (with_reducible refine blk_else (by omega) ?_) | (with_reducible refine blk_old ?_)))
          have XR0 : NR .i64 2 v10 w.heap.size (.slice a1 j c1) g := by
            rw [hv10]
            (repeat' (first | (with_reducible exact HR0_10.out) | (with_reducible refine NR.drew ?_) | (with_reducible refine NR.drewN ?_) | (with_reducible refine NR.put ?_ (by assumption) _) | (with_reducible refine NR.alloc ?_ _)))
          have XR1 : NR .i64 2 v10 w.heap.size (.slice a2 j c2) d := by
            rw [hv10]
            (repeat' (first | (with_reducible exact HR1_10.out) | (with_reducible refine NR.drew ?_) | (with_reducible refine NR.drewN ?_) | (with_reducible refine NR.put ?_ (by assumption) _) | (with_reducible refine NR.alloc ?_ _)))
          have XB : Below w.heap.size w v10 := by
            rw [hv10]
            (repeat' (first | (with_reducible exact HB10.out) | (with_reducible exact Below.refl _ _) | (with_reducible refine below_drewN _ ?_) | (with_reducible refine Below.drew ?_) | (with_reducible refine Below.setCell ?_ (by first | (simp; done) | omega) _) | (with_reducible refine Below.alloc ?_ (by have := HB10.out.size; simp; omega) _)))
          clear c0_ c1_ c2_ c3_ cf0_ cf1_ cf2_ cf3_ cn_ cm_ cl_ e0_ e1_ e2_ ef0_ ef1_ ef2_ en_ em_ el_
          clear hv10 Hc10 He10 HB10
          clear HR0_10 HR1_10
          refine (S1.out _).mono ?_
          rintro e w11 ⟨rfl, bb⟩
          have HR0_11 := Lib.hid (NR.below XR0 bb)
          have HR1_11 := Lib.hid (NR.below XR1 bb)
          clear XR0 XR1
          have Hc11 := Lib.hid (blk_call bb Xc)
          have He11 := Lib.hid (blk_call bb Xe)
          have HB11 := Lib.hid (bel_onto XB bb XB.size)
          clear Xc Xe XB bb
          obtain ⟨c0_, c1_, c2_, c3_, cf0_, cf1_, cf2_, cf3_⟩ := at4 Hc11.out
          have cn_ := ne_blk Hc11.out
          have cm_ := Ne.symm (a := Bc) cn_
          have cl_ := lt_blk Hc11.out
          obtain ⟨e0_, e1_, e2_, ef0_, ef1_, ef2_⟩ := at3 He11.out
          have en_ := ne_blk He11.out
          have em_ := Ne.symm (a := Be) en_
          have el_ := lt_blk He11.out
          go_upto_region 17 with (fail)
          refine wp_genc ?_
          intro v11 hv11
          have Xc : v11.heap[Bc]? = some (.cells #[.int .i64 X, .int .i64 Y, .int .i64 Z, .int .i64 v1] 114 (0, 0)) := by
            rw [hv11]
            (repeat' (first | (with_reducible exact Hc11.out) | (with_reducible exact heap_alloc_new _ _) | (with_reducible exact blk_new (by first | (simp; done) | omega)) | (with_reducible refine blk_drew ?_) | (with_reducible apply put4_0) | (with_reducible apply put4_1) | (with_reducible apply put4_2) | (with_reducible apply put4_3) | (with_reducible refine blk_else (by omega) ?_) | (with_reducible refine blk_old ?_)))
          have Xe : v11.heap[Be]? = some (.cells #[.int .u64 ad, .int .u64 an, .bool ab] 120 (0, 0)) := by
            rw [hv11]
            (repeat' (first | (with_reducible exact He11.out) | (with_reducible exact heap_alloc_new _ _) | (with_reducible exact blk_new (by first | (simp; done) | omega)) | (with_reducible refine blk_drew ?_) | (with_reducible apply put3_0) | (with_reducible apply put3_1) | (with_reducible apply put3_2) | (with_reducible refine blk_else (by omega) ?_) | (with_reducible refine blk_old ?_)))
          have XR0 : NR .i64 2 v11 w.heap.size (.slice a1 j c1) g := by
            rw [hv11]
            (repeat' (first | (with_reducible exact HR0_11.out) | (with_reducible refine NR.drew ?_) | (with_reducible refine NR.drewN ?_) | (with_reducible refine NR.put ?_ (by assumption) _) | (with_reducible refine NR.alloc ?_ _)))
          have XR1 : NR .i64 2 v11 w.heap.size (.slice a2 j c2) d := by
            rw [hv11]
            (repeat' (first | (with_reducible exact HR1_11.out) | (with_reducible refine NR.drew ?_) | (with_reducible refine NR.drewN ?_) | (with_reducible refine NR.put ?_ (by assumption) _) | (with_reducible refine NR.alloc ?_ _)))
          have XB : Below w.heap.size w v11 := by
            rw [hv11]
            (repeat' (first | (with_reducible exact HB11.out) | (with_reducible exact Below.refl _ _) | (with_reducible refine below_drewN _ ?_) | (with_reducible refine Below.drew ?_) | (with_reducible refine Below.setCell ?_ (by first | (simp; done) | omega) _) | (with_reducible refine Below.alloc ?_ (by have := HB11.out.size; simp; omega) _)))
          clear c0_ c1_ c2_ c3_ cf0_ cf1_ cf2_ cf3_ cn_ cm_ cl_ e0_ e1_ e2_ ef0_ ef1_ ef2_ en_ em_ el_
          clear hv11 Hc11 He11 HB11
          clear HR0_11 HR1_11
          have HR0_12 := Lib.hid XR0
          have HR1_12 := Lib.hid XR1
          clear XR0 XR1
          have Hc12 := Lib.hid Xc
          have He12 := Lib.hid Xe
          have HB12 := Lib.hid XB
          clear Xc Xe XB
          obtain ⟨c0_, c1_, c2_, c3_, cf0_, cf1_, cf2_, cf3_⟩ := at4 Hc12.out
          have cn_ := ne_blk Hc12.out
          have cm_ := Ne.symm (a := Bc) cn_
          have cl_ := lt_blk Hc12.out
          obtain ⟨e0_, e1_, e2_, ef0_, ef1_, ef2_⟩ := at3 He12.out
          have en_ := ne_blk He12.out
          have em_ := Ne.symm (a := Be) en_
          have el_ := lt_blk He12.out
          have R0 := HR0_12
          have R1 := HR1_12
          have L0 := Lib.hid (fun g_ h => (R0.out.lt g_ h).2)
          have L1 := Lib.hid (fun g_ h => (R1.out.lt g_ h).2)
          have NE0c := Lib.hid n0c
          have NE1c := Lib.hid n1c
          have OC0 := Lib.hid (show ∀ u ∈ ([.int .i64 0] : List Value), u.oneCell' = true from fun u hu => by rw [List.mem_singleton.1 hu]; rfl)
          have OC1 := Lib.hid (show ∀ u ∈ ([.int .i64 P] : List Value), u.oneCell' = true from fun u hu => by rw [List.mem_singleton.1 hu]; rfl)
          have m63 : j + 1 ≤ maxLen := by unfold maxLen; omega
          have mby : (j + 1) * 8 ≤ 140737488355328 := by omega
          have KN2 := Lib.hid (HKN.out.snoc HK1.out (by omega) (by omega) (by omega) (by omega) (by omega) (by omega) (by omega) : KN X Y Z m (j + 1) v1 (g ++ [0]) (d ++ [P]))
          clear HKN
          clear c0_ c1_ c2_ c3_ cf0_ cf1_ cf2_ cf3_ cn_ cm_ cl_ e0_ e1_ e2_ ef0_ ef1_ ef2_ en_ em_ el_
          have O0 := Lib.hid (show v11.ownsRow w.heap.size 2 1 (.slice a1 j c1) j (g.map (Value.int .i64)) from by have h := R0.out; unfold NR at h; rw [HL0.out] at h; exact h)
          have O1 := Lib.hid (show v11.ownsRow w.heap.size 2 1 (.slice a2 j c2) j (d.map (Value.int .i64)) from by have h := R1.out; unfold NR at h; rw [HL1.out] at h; exact h)
          have tok0 : True := trivial
          have tok1 : True := trivial
          go_region_held3 (fun v => v.cell? ⟨Bc, 0, none⟩ = some (.int .i64 X))
            (exact cell_blk (by (repeat' (first | (with_reducible exact Hc12.out) | (with_reducible exact heap_alloc_new _ _) | (with_reducible exact blk_new (by first | (simp; done) | omega)) | (with_reducible refine blk_drew ?_) | (with_reducible refine blk_drewNr ?_) | (with_reducible refine blk_old ?_) | (refine blk_grown hgrow0 (NE0c.out) ?_) | (refine blk_grown hgrow1 (NE1c.out) ?_)))) 0 rfl)
            (first
              | (have _t := tok0; refine step_append_lies _ (by rfl) _ _ 134 (by rfl) w.heap.size 2 i0 (.int .i64 0) 1 8 Try.underlying134 hi hz0 hz1 hz2 (by rfl) (by decide) (.slice a1 j c1) j (g.map (Value.int .i64)) (by rfl) (by (repeat' (first | (with_reducible exact O0.out) | (with_reducible refine World.ownsRow.alloc ?_ _) | (with_reducible refine World.ownsRow.drew ?_) | (refine own_grown hgrow1 AP.out ?_)))) _ 1 1 [.int .i64 0] (by rfl) (by rfl) (by exact World.news_of_block (cs := #[.int .i64 0]) (by (repeat' (first | (with_reducible exact heap_alloc_new _ _) | (with_reducible exact blk_new (by first | (simp; done) | omega)) | (with_reducible refine blk_drew ?_) | (with_reducible refine blk_drewNr ?_) | (with_reducible refine blk_old ?_) | (refine blk_grown hgrow1 (row_new L1.out (by first | omega | (simp; omega))) ?_))))) OC0.out (by decide) m63 mby (by first | (have := HB12.out.size; simp; omega) | (have := HB12.out.size; have h9 := hgrow0.size; simp at h9 ⊢; omega) | (have := HB12.out.size; have h9 := hgrow1.size; simp at h9 ⊢; omega)) _ rfl ?_; intro g0 cap0 W0 hown0 hgrow0 hat0 hlt0; clear tok0)
              | (have _t := tok1; refine step_append_lies _ (by rfl) _ _ 134 (by rfl) w.heap.size 2 i0 (.int .i64 0) 1 8 Try.underlying134 hi hz0 hz1 hz2 (by rfl) (by decide) (.slice a2 j c2) j (d.map (Value.int .i64)) (by rfl) (by (repeat' (first | (with_reducible exact O1.out) | (with_reducible refine World.ownsRow.alloc ?_ _) | (with_reducible refine World.ownsRow.drew ?_) | (refine own_grown hgrow0 AQ.out ?_)))) _ 1 1 [.int .i64 P] (by rfl) (by rfl) (by exact World.news_of_block (cs := #[.int .i64 P]) (by (repeat' (first | (with_reducible exact heap_alloc_new _ _) | (with_reducible exact blk_new (by first | (simp; done) | omega)) | (with_reducible refine blk_drew ?_) | (with_reducible refine blk_drewNr ?_) | (with_reducible refine blk_old ?_) | (refine blk_grown hgrow0 (row_new L0.out (by first | omega | (simp; omega))) ?_))))) OC1.out (by decide) m63 mby (by first | (have := HB12.out.size; simp; omega) | (have := HB12.out.size; have h9 := hgrow0.size; simp at h9 ⊢; omega) | (have := HB12.out.size; have h9 := hgrow1.size; simp at h9 ⊢; omega)) _ rfl ?_; intro g1 cap1 W1 hown1 hgrow1 hat1 hlt1; clear tok1))
          all_goals
            go_wp2
            go_roundw
            case rel =>
              refine ⟨j + 1, v1, _, _, by go_num, by omega, KN2.out, ?_, ?_, ?_, ?_, ?_⟩
              · (refine NR.snoc (n := _) HL0.out ?_; repeat' (first | (with_reducible exact hown0) | (with_reducible refine World.ownsRow.alloc ?_ _) | (with_reducible refine World.ownsRow.drew ?_) | (refine own_new hgrow1 AP.out L1.out hat0 (by first | (simp; done) | (simp; omega) | omega) ?_)))
              · (refine NR.snoc (n := _) HL1.out ?_; repeat' (first | (with_reducible exact hown1) | (with_reducible refine World.ownsRow.alloc ?_ _) | (with_reducible refine World.ownsRow.drew ?_) | (refine own_new hgrow0 AQ.out L0.out hat1 (by first | (simp; done) | (simp; omega) | omega) ?_)))
              · (refine apt ?_; first | exact apart2 AP.out L0.out L1.out hat0 (by first | (simp; done) | (simp; omega) | omega) hlt0 hat1 (by first | (simp; done) | (simp; omega) | omega) | exact (apart2 AQ.out L1.out L0.out hat1 (by first | (simp; done) | (simp; omega) | omega) hlt1 hat0 (by first | (simp; done) | (simp; omega) | omega)).symm)
              · (repeat' (first | (with_reducible exact Hc12.out) | (with_reducible exact heap_alloc_new _ _) | (with_reducible exact blk_new (by first | (simp; done) | omega)) | (with_reducible refine blk_drew ?_) | (with_reducible refine blk_drewNr ?_) | (with_reducible refine blk_old ?_) | (refine blk_grown hgrow0 (NE0c.out) ?_) | (refine blk_grown hgrow1 (NE1c.out) ?_)))
              · (repeat' (first | (with_reducible exact HB12.out) | (with_reducible refine below_drewN _ ?_) | (with_reducible refine Below.drew ?_) | (with_reducible refine Below.alloc ?_ (by first | (have := HB12.out.size; simp; omega) | (have := HB12.out.size; have h9 := hgrow0.size; simp at h9 ⊢; omega) | (have := HB12.out.size; have h9 := hgrow1.size; simp at h9 ⊢; omega)) _) | (refine Below.grown ?_ hgrow0 (by first | (have := HB12.out.size; simp; omega) | (have := HB12.out.size; have h9 := hgrow1.size; simp at h9 ⊢; omega)) GE0.out) | (refine Below.grown ?_ hgrow1 (by first | (have := HB12.out.size; simp; omega) | (have := HB12.out.size; have h9 := hgrow0.size; simp at h9 ⊢; omega)) GE1.out)))
            case measure => simp [intOf] <;> omega
      · have hjn : j = n := by omega
        subst hjn
        obtain ⟨W0, rfl⟩ : ∃ x, x = wr := ⟨_, rfl⟩
        have hj80 : j ≤ 80 := by omega
        have HCF := Lib.hid KN0.cf
        have HBG := Lib.hid KN0.bg
        have HBD := Lib.hid KN0.bd
        have C1 := Lib.hid cell1
        have C2 := Lib.hid cell2
        have HL0 := Lib.hid hlg
        have LM : 0 ≤ Y * m := Int.mul_nonneg (by omega) m0
        obtain ⟨YM, hYM⟩ : ∃ q, Y * m = q := ⟨_, rfl⟩
        have YM1 : YM ≤ 65536 * 65535 := by rw [← hYM]; exact Int.mul_le_mul Y9.2 m1 m0 (by omega)
        rw [hYM] at LM HCF
        obtain ⟨ZY, hZY⟩ : ∃ q, Z + YM = q := ⟨_, rfl⟩
        have wm_ : IntKind.i64.wrap m = m := by rw [IntKind.wrap_i64]; omega
        have wy_ : IntKind.i64.wrap YM = YM := by rw [IntKind.wrap_i64]; omega
        have wz_ : IntKind.i64.wrap ZY = ZY := by rw [IntKind.wrap_i64]; omega
        have hmj : (j : Int) ≤ 80 := by omega
        clear KN0 NG ND AP0 cell1 cell2 hc1 hc2 hlg hld hlt xb
        go_wp2
        go_loopw [104] (fun e wq => ∃ i : Nat, e = .int .i64 i ∧ i ≤ j ∧ Below W0.heap.size W0 wq) (fun e _ => j - (intOf e).toNat)
        case atStart => exact ⟨0, rfl, Nat.zero_le _, Below.refl _ _⟩
        case round =>
          obtain ⟨i, rfl, hij, hb⟩ := hrel
          obtain ⟨W1, rfl⟩ : ∃ x, x = wr := ⟨_, rfl⟩
          by_cases hlt2 : i < j
          · have X3 := blk_call hb xc
            obtain ⟨c0_, c1_, c2_, c3_, cf0_, cf1_, cf2_, cf3_⟩ := at4 X3
            have HB := Lib.hid hb
            clear hb X3
            go_wp2
            go_quiet (fail)
            go_wp2
            clear c0_ c1_ c2_ c3_ cf0_ cf1_ cf2_ cf3_
            go_loopw [22, 23, 24] (fun e22 e23 e24 wu => ∃ q : Nat, e22 = .int .i64 (seg g i q) ∧ e23 = .int .i64 (ZY + seg d (i + 1) (q - 1)) ∧ e24 = .int .i64 ((i : Int) + q) ∧ i + q ≤ j ∧ Below W0.heap.size W0 wu) (fun _ _ e _ => j - (intOf e).toNat)
            case atStart =>
              refine ⟨0, rfl, ?_, ?_, by omega, ?_⟩
              · rw [seg_zero, Int.add_zero]
              · simp
              · first | exact HB.out | exact below_drewN _ HB.out | exact HB.out.drew | (repeat' (first | (with_reducible exact HB.out) | (with_reducible refine below_drewN _ ?_) | (with_reducible refine Below.drew ?_) | (with_reducible refine bel_call (by with_reducible assumption) ?_ (by have := HB.out.size; omega)) | (with_reducible refine Below.alloc ?_ (by have := HB.out.size; simp; omega) _)))
            case round =>
              obtain ⟨q, rfl, rfl, rfl, hqj, hb2⟩ := hrel
              by_cases hlt3 : i + q < j
              · obtain ⟨gb, rfl, hgb, hgc⟩ := C1.out (i + q) hlt3
                have k1_ := (hb2.cell (p := ⟨gb, i + q, none⟩) hgb).trans hgc
                obtain ⟨db, rfl, hdb, hdc⟩ := C2.out (i + q) hlt3
                have k2_ := (hb2.cell (p := ⟨db, i + q, none⟩) hdb).trans hdc
                have part := HCF.out.part i q (by rw [HL0.out]; exact hlt3)
                obtain ⟨s0_, s1_⟩ := seg_bounds HBG.out (by decide) i q
                obtain ⟨s2_, s3_⟩ := seg_bounds HBD.out (by decide) (i + 1) (q - 1)
                obtain ⟨s4_, s5_⟩ := getD_all (P := fun x => 0 ≤ x ∧ x ≤ 4294901760) HBG.out (by decide) (i + q)
                obtain ⟨s6_, s7_⟩ := getD_all (P := fun x => 0 ≤ x ∧ x ≤ 70368744177664) HBD.out (by decide) (i + q)
                have E1 := Lib.hid (seg_succ g i q)
                have q80 : (q : Int) ≤ 80 := by omega
                have s1' : seg g i q ≤ 80 * 4294901760 := by omega
                have s3' : seg d (i + 1) (q - 1) ≤ 80 * 70368744177664 := by omega
                clear s1_ s3_ hgc hdc
                have HB2 := Lib.hid hb2
                clear hb2
                obtain ⟨gk, hgk⟩ : ∃ x, g.getD (i + q) 0 = x := ⟨_, rfl⟩
                obtain ⟨dk, hdk⟩ : ∃ x, d.getD (i + q) 0 = x := ⟨_, rfl⟩
                rw [hgk] at k1_ s4_ s5_ E1
                rw [hdk] at k2_ s6_ s7_
                rw [E1.out] at part
                have kc_ : ((i : Int) + q) = ((i + q : Nat) : Int) := by omega
                by_cases hq : q = 0
                · subst hq
                  rw [Nat.add_zero] at k1_ k2_ hlt3
                  have gq : decide ((i : Int) < (i : Int) + ((0 : Nat) : Int)) = false := decide_eq_false (by omega)
                  have part2 : seg g i 0 + gk ≤ ZY + seg d (i + 1) (0 - 1) := by
                    have : seg d (i + 1) 0 = 0 := rfl
                    rw [show (0 : Nat) - 1 = 0 from rfl]
                    omega
                  have E2 := Lib.hid (show seg d (i + 1) (0 + 1 - 1) = seg d (i + 1) (0 - 1) from rfl)
                  clear part
                  generalize seg g i 0 = sm at *
                  generalize hsd : seg d (i + 1) (0 - 1) = sd at *
                  have HSD := Lib.hid hsd
                  clear hsd
                  obtain ⟨s9, hs9⟩ : ∃ x, sm + gk = x := ⟨_, rfl⟩
                  obtain ⟨d9, hd9⟩ : ∃ x, ZY + sd = x := ⟨_, rfl⟩
                  have gle : decide (d9 < s9) = false := decide_eq_false (by omega)
                  have ws9 : IntKind.i64.wrap s9 = s9 := by rw [IntKind.wrap_i64]; omega
                  go_wp2
                  go_roundw
                  case rel => exact ⟨0 + 1, by rw [E1.out, hs9], by rw [show seg d (i + 1) (0 + 1 - 1) = sd from HSD.out, hd9], by first | rfl | go_num, by omega, HB2.out⟩
                  case measure => simp [intOf] <;> omega
                · obtain ⟨r, rfl⟩ : ∃ r, q = r + 1 := ⟨q - 1, by omega⟩
                  have gq : decide ((i : Int) < (i : Int) + ((r + 1 : Nat) : Int)) = true := decide_eq_true (by omega)
                  have E2 := Lib.hid (show seg d (i + 1) (r + 1 + 1 - 1) = seg d (i + 1) (r + 1 - 1) + dk by
                    rw [show r + 1 + 1 - 1 = r + 1 by omega, show r + 1 - 1 = r by omega, seg_succ, show i + 1 + r = i + (r + 1) by omega, hdk])
                  have part2 : seg g i (r + 1) + gk ≤ ZY + (seg d (i + 1) (r + 1 - 1) + dk) := by
                    have h := E2.out
                    rw [show r + 1 + 1 - 1 = r + 1 by omega] at h
                    rw [← h]
                    omega
                  clear part
                  generalize seg g i (r + 1) = sm at *
                  generalize seg d (i + 1) (r + 1 - 1) = sd at *
                  obtain ⟨s9, hs9⟩ : ∃ x, sm + gk = x := ⟨_, rfl⟩
                  obtain ⟨d8, hd8⟩ : ∃ x, ZY + sd = x := ⟨_, rfl⟩
                  obtain ⟨d9, hd9⟩ : ∃ x, d8 + dk = x := ⟨_, rfl⟩
                  have gle : decide (d9 < s9) = false := decide_eq_false (by omega)
                  have ws9 : IntKind.i64.wrap s9 = s9 := by rw [IntKind.wrap_i64]; omega
                  have wd9 : IntKind.i64.wrap d9 = d9 := by rw [IntKind.wrap_i64]; omega
                  go_wp2
                  go_roundw
                  case rel => exact ⟨r + 1 + 1, by rw [E1.out, hs9], by rw [E2.out, ← Int.add_assoc, hd8, hd9], by first | rfl | go_num, by omega, HB2.out⟩
                  case measure => simp [intOf] <;> omega
              · have hB3 := Lib.hid hb2
                clear hb2
                go_wp2
                go_roundw
                case rel => exact ⟨i + 1, by go_num, by omega, hB3.out⟩
                case measure => simp [intOf] <;> omega
          · obtain rfl : i = j := by omega
            have HB9 := Lib.hid (bel_onto HB9.out hb HB9.out.size)
            clear hb
            go_wp2_with fail
            refine cl_gen ?_
            intro v9 hv9
            have XB : Below w.heap.size w v9 := by
              rw [hv9]
              (repeat' (first | (with_reducible exact HB9.out) | (with_reducible exact Below.refl _ _) | (with_reducible refine below_drewN _ ?_) | (with_reducible refine Below.drew ?_) | (with_reducible refine Below.setCell ?_ (by first | (simp; done) | omega) _) | (with_reducible refine Below.alloc ?_ (by have := HB9.out.size; simp; omega) _)))
            clear hv9 HB9
            refine (LV.out _).mono ?_
            rintro e w10 ⟨rfl, bb⟩
            have HB10 := Lib.hid (bel_onto XB bb XB.size)
            clear XB bb
            go_wp2
            go_ret
            exact ⟨rfl, HB10.out⟩
end Go.Proofs.Ytgmdhanbeafagaa
