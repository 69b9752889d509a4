/-
  What the document's answer's Wait returns for any bucket. No condition but that the numbers are words.
-/
import Derived.Test.YtgmdhanbeafagaaBk5
namespace Go.Proofs.Ytgmdhanbeafagaa
set_option linter.unusedVariables false
set_option linter.unusedSimpArgs false
open Go.ChangeShapes Go.WideShapes Go.ChangeAt Go.RowKit
attribute [local go_sem] alloc_drewN setCell_drewN

theorem of_below (a : Int) (h0 : 0 ≤ a) (h1 : a ≤ 18446744073709551615) (w : World) :
    Calls Try.prog 27 #[.int .u64 a] w fun e w' => ∃ a0 a1, e = .returned (.agg #[.int .u64 (a0), .int .u64 (a1), .int .u64 (0), .int .u64 (0)]) ∧ Wide a0 a1 0 0 a ∧ Below w.heap.size w w' := by
  refine (of_any a h0 h1 w).mono ?_
  rintro e w' ⟨a0, a1, o, rfl, h, rfl⟩
  exact ⟨a0, a1, rfl, h, (Below.refl _ w).alloc (Nat.le_refl _) _⟩
theorem less_dec (a0 a1 a2 a3 b0 b1 b2 b3 m n : Int) (ha : Wide a0 a1 a2 a3 m) (hb : Wide b0 b1 b2 b3 n) (q : Bool) (hq : decide (m < n) = q) (w : World) :
    Calls Try.prog 30 #[(.agg #[.int .u64 (a0), .int .u64 (a1), .int .u64 (a2), .int .u64 (a3)]), (.agg #[.int .u64 (b0), .int .u64 (b1), .int .u64 (b2), .int .u64 (b3)])] w fun e w' => e = .returned (.bool q) ∧ Below w.heap.size w w' := by
  rw [← hq]; exact less_any _ _ _ _ _ _ _ _ _ _ ha hb w
set_option maxRecDepth 100000 in
set_option maxHeartbeats 4000000 in
theorem bk_rwait (s : BK) (hs : s.wd) (n : Int) (n0 : 0 ≤ n) (n1 : n ≤ 18446744073709551615) (w : World) :
    Calls Try.prog 20 #[s.val, .int .u64 n] w fun e w' => e = .returned (.tuple #[.int .u64 (s.wait n).1, .bool (s.wait n).2]) ∧ Below w.heap.size w w' := by
  obtain ⟨⟨r0, r1⟩, ⟨b0, b1⟩, t0, t1⟩ := hs
  obtain ⟨r, b, t⟩ := s
  unfold BK.val BK.wait
  dsimp only at r0 r1 b0 b1 t0 t1 ⊢
  have CK := Lib.hid (fun W => (bk_rcheck r b t W).mono fun e w' h => (⟨h.1, h.2 ▸ (Below.refl _ W).alloc (Nat.le_refl _) _⟩ : _ ∧ Below W.heap.size W w'))
  by_cases hok : BK.ok ⟨r, b, t⟩
  · rw [bck_ok.2 hok] at CK
    by_cases h : n ≤ b
    · rw [if_pos ⟨hok, h⟩]
      have hd : decide (b < n) = false := decide_eq_false (by omega)
      dsimp only
      by_cases ht : n ≤ t
      · rw [show up (sub0 n t) r = 0 from by rw [show sub0 n t = 0 from by unfold sub0; split <;> omega]; rfl]
        clear hok h
        go_enter Try.func20, Try.ntmps20
        go_wp2_with fail
        refine cl_gen ?_
        intro v0 hv0
        have XB : Below w.heap.size w v0 := by
          rw [hv0]
          (repeat' (first | exact Below.refl _ _ | (with_reducible assumption) | refine below_drewN _ ?_ | refine Below.drew ?_ | refine Below.setCell ?_ (by simp) _ | refine Below.alloc ?_ (by simp; try omega) _))
        have Xa : v0.heap[w.heap.size]? = some (.cells #[.int .u64 r, .int .u64 b, .int .u64 t] 24 (0, 0)) := by
          rw [hv0]
          (repeat' (first | (with_reducible exact heap_alloc_new _ _) | (with_reducible exact blk_new (by first | (simp; done) | omega)) | (with_reducible refine blk_drew ?_) | (with_reducible apply put1_0) | (with_reducible apply put2_0) | (with_reducible apply put2_1) | (with_reducible apply put3_0) | (with_reducible apply put3_1) | (with_reducible apply put3_2) | (with_reducible apply put4_0) | (with_reducible apply put4_1) | (with_reducible apply put4_2) | (with_reducible apply put4_3) | (with_reducible apply put5_0) | (with_reducible apply put5_1) | (with_reducible apply put5_2) | (with_reducible apply put5_3) | (with_reducible apply put5_4) | (with_reducible apply put6_0) | (with_reducible apply put6_1) | (with_reducible apply put6_2) | (with_reducible apply put6_3) | (with_reducible apply put6_4) | (with_reducible apply put6_5) | (with_reducible refine blk_else (by omega) ?_) | (with_reducible refine blk_old ?_)))
        obtain ⟨Ba, hBa⟩ : ∃ x, x = w.heap.size := ⟨_, rfl⟩
        rw [← hBa] at Xa
        try rw [← hBa]
        have lea : w.heap.size ≤ Ba := by omega
        clear hBa
        clear hv0
        refine (CK.out _).mono ?_
        rintro e w1 ⟨rfl, bb⟩
        have Ha1 := Lib.hid (blk_call bb Xa)
        have HB1 := Lib.hid (bel_onto XB bb XB.size)
        clear Xa XB bb
        obtain ⟨a0_, a1_, a2_, af0_, af1_, af2_⟩ := at3 Ha1.out
        have an_ := ne_blk Ha1.out
        have am_ := Ne.symm (a := Ba) an_
        have al_ := lt_blk Ha1.out
        go_wp2
        go_ret2
        exact ⟨rfl, HB1.out⟩
      · have hd2 : decide (n ≤ t) = false := decide_eq_false ht
        have hr : 0 < r := by have := hok.1; dsimp only at this; omega
        have ea : n - t = sub0 n t := by unfold sub0; rw [if_neg (by omega)]
        have eu : up (sub0 n t) r = (n - t - 1) / r + 1 := by unfold up; rw [← ea, if_neg (by omega), if_neg (by omega)]
        rw [eu]
        have q0 : 0 ≤ (n - t - 1) / r := Int.ediv_nonneg (by omega) (by omega)
        have q1 : (n - t - 1) / r ≤ 18446744073709551614 := by
          have := Int.ediv_le_self r (a := n - t - 1) (by omega)
          omega
        have key : ∀ m : Int, decide (t + r * m < n) = decide (m ≤ (n - t - 1) / r) := by
          intro m
          have h := Int.le_ediv_iff_mul_le (a := m) (b := n - t - 1) hr
          rw [decide_eq_decide, h, Int.mul_comm]
          omega
        generalize (n - t - 1) / r = q at *
        have KEY := Lib.hid key
        have OT := Lib.hid (fun W => of_below t t0 t1 W)
        have ON := Lib.hid (fun W => of_below n n0 n1 W)
        have HD := Lib.hid (show 0 < r by exact hr)
        clear hok key eu ea h ht hr
        go_enter Try.func20, Try.ntmps20
        go_wp2_with fail
        refine cl_gen ?_
        intro v0 hv0
        have XB : Below w.heap.size w v0 := by
          rw [hv0]
          (repeat' (first | exact Below.refl _ _ | (with_reducible assumption) | refine below_drewN _ ?_ | refine Below.drew ?_ | refine Below.setCell ?_ (by simp) _ | refine Below.alloc ?_ (by simp; try omega) _))
        have Xa : v0.heap[w.heap.size]? = some (.cells #[.int .u64 r, .int .u64 b, .int .u64 t] 24 (0, 0)) := by
          rw [hv0]
          (repeat' (first | (with_reducible exact heap_alloc_new _ _) | (with_reducible exact blk_new (by first | (simp; done) | omega)) | (with_reducible refine blk_drew ?_) | (with_reducible apply put1_0) | (with_reducible apply put2_0) | (with_reducible apply put2_1) | (with_reducible apply put3_0) | (with_reducible apply put3_1) | (with_reducible apply put3_2) | (with_reducible apply put4_0) | (with_reducible apply put4_1) | (with_reducible apply put4_2) | (with_reducible apply put4_3) | (with_reducible apply put5_0) | (with_reducible apply put5_1) | (with_reducible apply put5_2) | (with_reducible apply put5_3) | (with_reducible apply put5_4) | (with_reducible apply put6_0) | (with_reducible apply put6_1) | (with_reducible apply put6_2) | (with_reducible apply put6_3) | (with_reducible apply put6_4) | (with_reducible apply put6_5) | (with_reducible refine blk_else (by omega) ?_) | (with_reducible refine blk_old ?_)))
        obtain ⟨Ba, hBa⟩ : ∃ x, x = w.heap.size := ⟨_, rfl⟩
        rw [← hBa] at Xa
        try rw [← hBa]
        have lea : w.heap.size ≤ Ba := by omega
        clear hBa
        clear hv0
        refine (CK.out _).mono ?_
        rintro e w1 ⟨rfl, bb⟩
        have Ha1 := Lib.hid (blk_call bb Xa)
        have HB1 := Lib.hid (bel_onto XB bb XB.size)
        clear Xa XB bb
        obtain ⟨a0_, a1_, a2_, af0_, af1_, af2_⟩ := at3 Ha1.out
        have an_ := ne_blk Ha1.out
        have am_ := Ne.symm (a := Ba) an_
        have al_ := lt_blk Ha1.out
        go_wp2
        go_loopw [6, 7] (fun v i wr => ∃ k : Nat, k ≤ 64 ∧ i = .int .i64 ((k : Int) - 1) ∧ v = .int .u64 (hi q k) ∧ wr.heap[Ba]? = some (.cells #[.int .u64 r, .int .u64 b, .int .u64 t] 24 (0, 0)) ∧ Below w.heap.size w wr) (fun _ i _ => (1 + intOf i).toNat)
        case atStart => exact ⟨64, by omega, rfl, by rw [hi_top q 64 q0 (by omega)], Ha1.out, HB1.out⟩
        case round =>
          clear a0_ a1_ a2_ af0_ af1_ af2_ an_ am_ al_ Ha1 HB1
          obtain ⟨k, hk, rfl, rfl, xa, xb⟩ := hrel
          have Ha9 := Lib.hid xa; have HB9 := Lib.hid xb
          clear xa xb
          match k with
          | 0 =>
            rw [hi_zero]
            have hw : IntKind.u64.wrap (q + 1) = q + 1 := by rw [IntKind.wrap_u64]; omega
            go_wp2
            go_ret2
            exact ⟨rfl, HB9.out⟩
          | k + 1 =>
            obtain ⟨b0_, b1_, b2_, b3_, b4_, b5_⟩ := hi_bit q k (by omega) q0 (by omega)
            have e : ((k + 1 : Nat) : Int) - 1 = k := by omega
            rw [e]
            clear e
            have kk := KEY.out (hi q (k + 1) + 2 ^ k)
            have m9 := wd_mul r (hi q (k + 1) + 2 ^ k) r0 r1 (by omega) (by omega)
            have HS := Lib.hid (show t + r * (hi q (k + 1) + 2 ^ k) < 340282366920938463463374607431768211456 by omega)
            have TM := Lib.hid (fun W => times_any r (hi q (k + 1) + 2 ^ k) r0 r1 (by omega) (by omega) W)
            clear m9
            by_cases h : hi q (k + 1) + 2 ^ k ≤ q
            · have B4 := Lib.hid (b4_ h)
              have KK := Lib.hid (show decide (t + r * (hi q (k + 1) + 2 ^ k) < n) = true from by rw [kk]; exact decide_eq_true h)
              clear b4_ b5_ kk h
              obtain ⟨a0_, a1_, a2_, af0_, af1_, af2_⟩ := at3 Ha9.out
              have an_ := ne_blk Ha9.out
              have am_ := Ne.symm (a := Ba) an_
              have al_ := lt_blk Ha9.out
              go_wp2
              have S0 := Lib.hid (fun v (hv : Below wr.heap.size wr v) => (⟨cell_blk (blk_call hv Ha9.out) 0 rfl, cell_blk (blk_call hv Ha9.out) 1 rfl, cell_blk (blk_call hv Ha9.out) 2 rfl, bel_onto HB9.out hv HB9.out.size⟩ : v.cell? ⟨Ba, 0, none⟩ = some (.int .u64 r) ∧ v.cell? ⟨Ba, 1, none⟩ = some (.int .u64 b) ∧ v.cell? ⟨Ba, 2, none⟩ = some (.int .u64 t) ∧ Below w.heap.size w v))
              go_region_held3 (fun v => v.cell? ⟨Ba, 0, none⟩ = some (.int .u64 r) ∧ v.cell? ⟨Ba, 1, none⟩ = some (.int .u64 b) ∧ v.cell? ⟨Ba, 2, none⟩ = some (.int .u64 t) ∧ Below w.heap.size w v)
                (exact S0.out _ (by repeat' (first | (with_reducible exact Below.refl _ _) | (with_reducible exact (Below.refl _ _).drew) | (with_reducible refine bel_call (by with_reducible assumption) ?_ (Nat.le_refl _)))))
                (first
                  | (go_at_call 27; with_reducible refine (OT.out _).mono ?_; rintro e u0 ⟨x0, x1, rfl, hx, h0_⟩)
                  | (go_at_call 27; with_reducible refine (ON.out _).mono ?_; rintro e u1 ⟨y0, y1, rfl, hy, h1_⟩)
                  | (go_at_call 29; with_reducible refine (TM.out _).mono ?_; rintro e u2 ⟨z0, z1, z2, z3, rfl, hz, h2_⟩)
                  | (go_at_call 28; with_reducible refine (plus_any _ _ _ _ _ _ _ _ _ _ hx hz HS.out _).mono ?_; rintro e u3 ⟨p0, p1, p2, p3, rfl, hp, h3_⟩)
                  | (go_at_call 30; with_reducible refine (less_dec _ _ _ _ _ _ _ _ _ _ hp hy _ KK.out _).mono ?_; rintro e u4 ⟨rfl, h4_⟩)
                  | fail)
              go_wp2
              go_roundw
              case rel =>
                refine ⟨k, by omega, rfl, by rw [B4.out], ?_, ?_⟩
                · exact blk_call (w := wr) (by repeat' (first | (with_reducible exact Below.refl _ _) | (with_reducible exact (Below.refl _ _).drew) | (with_reducible refine bel_call (by with_reducible assumption) ?_ (Nat.le_refl _)))) Ha9.out
                · exact bel_onto HB9.out (by repeat' (first | (with_reducible exact Below.refl _ _) | (with_reducible exact (Below.refl _ _).drew) | (with_reducible refine bel_call (by with_reducible assumption) ?_ (Nat.le_refl _)))) HB9.out.size
              case measure => simp [intOf]; omega
            · have B4 := Lib.hid (b5_ h)
              have KK := Lib.hid (show decide (t + r * (hi q (k + 1) + 2 ^ k) < n) = false from by rw [kk]; exact decide_eq_false h)
              clear b4_ b5_ kk h
              obtain ⟨a0_, a1_, a2_, af0_, af1_, af2_⟩ := at3 Ha9.out
              have an_ := ne_blk Ha9.out
              have am_ := Ne.symm (a := Ba) an_
              have al_ := lt_blk Ha9.out
              go_wp2
              have S0 := Lib.hid (fun v (hv : Below wr.heap.size wr v) => (⟨cell_blk (blk_call hv Ha9.out) 0 rfl, cell_blk (blk_call hv Ha9.out) 1 rfl, cell_blk (blk_call hv Ha9.out) 2 rfl, bel_onto HB9.out hv HB9.out.size⟩ : v.cell? ⟨Ba, 0, none⟩ = some (.int .u64 r) ∧ v.cell? ⟨Ba, 1, none⟩ = some (.int .u64 b) ∧ v.cell? ⟨Ba, 2, none⟩ = some (.int .u64 t) ∧ Below w.heap.size w v))
              go_region_held3 (fun v => v.cell? ⟨Ba, 0, none⟩ = some (.int .u64 r) ∧ v.cell? ⟨Ba, 1, none⟩ = some (.int .u64 b) ∧ v.cell? ⟨Ba, 2, none⟩ = some (.int .u64 t) ∧ Below w.heap.size w v)
                (exact S0.out _ (by repeat' (first | (with_reducible exact Below.refl _ _) | (with_reducible exact (Below.refl _ _).drew) | (with_reducible refine bel_call (by with_reducible assumption) ?_ (Nat.le_refl _)))))
                (first
                  | (go_at_call 27; with_reducible refine (OT.out _).mono ?_; rintro e u0 ⟨x0, x1, rfl, hx, h0_⟩)
                  | (go_at_call 27; with_reducible refine (ON.out _).mono ?_; rintro e u1 ⟨y0, y1, rfl, hy, h1_⟩)
                  | (go_at_call 29; with_reducible refine (TM.out _).mono ?_; rintro e u2 ⟨z0, z1, z2, z3, rfl, hz, h2_⟩)
                  | (go_at_call 28; with_reducible refine (plus_any _ _ _ _ _ _ _ _ _ _ hx hz HS.out _).mono ?_; rintro e u3 ⟨p0, p1, p2, p3, rfl, hp, h3_⟩)
                  | (go_at_call 30; with_reducible refine (less_dec _ _ _ _ _ _ _ _ _ _ hp hy _ KK.out _).mono ?_; rintro e u4 ⟨rfl, h4_⟩)
                  | fail)
              go_wp2
              go_roundw
              case rel =>
                refine ⟨k, by omega, rfl, by rw [B4.out], ?_, ?_⟩
                · exact blk_call (w := wr) (by repeat' (first | (with_reducible exact Below.refl _ _) | (with_reducible exact (Below.refl _ _).drew) | (with_reducible refine bel_call (by with_reducible assumption) ?_ (Nat.le_refl _)))) Ha9.out
                · exact bel_onto HB9.out (by repeat' (first | (with_reducible exact Below.refl _ _) | (with_reducible exact (Below.refl _ _).drew) | (with_reducible refine bel_call (by with_reducible assumption) ?_ (Nat.le_refl _)))) HB9.out.size
              case measure => simp [intOf]; omega
    · rw [if_neg (fun x => h x.2)]
      have hd : decide (b < n) = true := decide_eq_true (by omega)
      dsimp only
      clear hok h
      go_enter Try.func20, Try.ntmps20
      go_wp2_with fail
      refine cl_gen ?_
      intro v0 hv0
      have XB : Below w.heap.size w v0 := by
        rw [hv0]
        (repeat' (first | exact Below.refl _ _ | (with_reducible assumption) | refine below_drewN _ ?_ | refine Below.drew ?_ | refine Below.setCell ?_ (by simp) _ | refine Below.alloc ?_ (by simp; try omega) _))
      have Xa : v0.heap[w.heap.size]? = some (.cells #[.int .u64 r, .int .u64 b, .int .u64 t] 24 (0, 0)) := by
        rw [hv0]
        (repeat' (first | (with_reducible exact heap_alloc_new _ _) | (with_reducible exact blk_new (by first | (simp; done) | omega)) | (with_reducible refine blk_drew ?_) | (with_reducible apply put1_0) | (with_reducible apply put2_0) | (with_reducible apply put2_1) | (with_reducible apply put3_0) | (with_reducible apply put3_1) | (with_reducible apply put3_2) | (with_reducible apply put4_0) | (with_reducible apply put4_1) | (with_reducible apply put4_2) | (with_reducible apply put4_3) | (with_reducible apply put5_0) | (with_reducible apply put5_1) | (with_reducible apply put5_2) | (with_reducible apply put5_3) | (with_reducible apply put5_4) | (with_reducible apply put6_0) | (with_reducible apply put6_1) | (with_reducible apply put6_2) | (with_reducible apply put6_3) | (with_reducible apply put6_4) | (with_reducible apply put6_5) | (with_reducible refine blk_else (by omega) ?_) | (with_reducible refine blk_old ?_)))
      obtain ⟨Ba, hBa⟩ : ∃ x, x = w.heap.size := ⟨_, rfl⟩
      rw [← hBa] at Xa
      try rw [← hBa]
      have lea : w.heap.size ≤ Ba := by omega
      clear hBa
      clear hv0
      refine (CK.out _).mono ?_
      rintro e w1 ⟨rfl, bb⟩
      have Ha1 := Lib.hid (blk_call bb Xa)
      have HB1 := Lib.hid (bel_onto XB bb XB.size)
      clear Xa XB bb
      obtain ⟨a0_, a1_, a2_, af0_, af1_, af2_⟩ := at3 Ha1.out
      have an_ := ne_blk Ha1.out
      have am_ := Ne.symm (a := Ba) an_
      have al_ := lt_blk Ha1.out
      go_wp2
      go_ret2
      exact ⟨rfl, HB1.out⟩
  · rw [if_neg (fun x => hok x.1)]
    have hk : bck r b t ≠ 0 := fun h => hok (bck_ok.1 h)
    generalize bck r b t = kk at *
    have g : (kk != 0) = true := by simp [hk]
    dsimp only
    clear hok hk
    go_enter Try.func20, Try.ntmps20
    go_wp2_with fail
    refine cl_gen ?_
    intro v0 hv0
    have XB : Below w.heap.size w v0 := by
      rw [hv0]
      (repeat' (first | exact Below.refl _ _ | (with_reducible assumption) | refine below_drewN _ ?_ | refine Below.drew ?_ | refine Below.setCell ?_ (by simp) _ | refine Below.alloc ?_ (by simp; try omega) _))
    have Xa : v0.heap[w.heap.size]? = some (.cells #[.int .u64 r, .int .u64 b, .int .u64 t] 24 (0, 0)) := by
      rw [hv0]
      (repeat' (first | (with_reducible exact heap_alloc_new _ _) | (with_reducible exact blk_new (by first | (simp; done) | omega)) | (with_reducible refine blk_drew ?_) | (with_reducible apply put1_0) | (with_reducible apply put2_0) | (with_reducible apply put2_1) | (with_reducible apply put3_0) | (with_reducible apply put3_1) | (with_reducible apply put3_2) | (with_reducible apply put4_0) | (with_reducible apply put4_1) | (with_reducible apply put4_2) | (with_reducible apply put4_3) | (with_reducible apply put5_0) | (with_reducible apply put5_1) | (with_reducible apply put5_2) | (with_reducible apply put5_3) | (with_reducible apply put5_4) | (with_reducible apply put6_0) | (with_reducible apply put6_1) | (with_reducible apply put6_2) | (with_reducible apply put6_3) | (with_reducible apply put6_4) | (with_reducible apply put6_5) | (with_reducible refine blk_else (by omega) ?_) | (with_reducible refine blk_old ?_)))
    obtain ⟨Ba, hBa⟩ : ∃ x, x = w.heap.size := ⟨_, rfl⟩
    rw [← hBa] at Xa
    try rw [← hBa]
    have lea : w.heap.size ≤ Ba := by omega
    clear hBa
    clear hv0
    refine (CK.out _).mono ?_
    rintro e w1 ⟨rfl, bb⟩
    have Ha1 := Lib.hid (blk_call bb Xa)
    have HB1 := Lib.hid (bel_onto XB bb XB.size)
    clear Xa XB bb
    obtain ⟨a0_, a1_, a2_, af0_, af1_, af2_⟩ := at3 Ha1.out
    have an_ := ne_blk Ha1.out
    have am_ := Ne.symm (a := Ba) an_
    have al_ := lt_blk Ha1.out
    go_wp2
    go_ret2
    exact ⟨rfl, HB1.out⟩
end Go.Proofs.Ytgmdhanbeafagaa
