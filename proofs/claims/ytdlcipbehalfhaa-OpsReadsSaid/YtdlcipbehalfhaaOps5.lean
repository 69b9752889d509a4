/-
  Package ops, the operation that stands at the beginning of bytes. What lay below the heap's end stands.
-/
import Derived.Test.YtdlcipbehalfhaaOps4
namespace Go.Proofs.Ytdlcipbehalfhaa
set_option linter.unusedVariables false
set_option linter.unusedSimpArgs false
open Go.ChangeShapes Go.WideShapes Go.ChangeAt Go.RowKit
attribute [-go_sem] run_index_string binOp_string_eql binOp_string_neq run_string_add_if run_slice_string_from_if run_slice_string_to_if
attribute [local go_sem] index_bt add_fits slice_from slice_to eql_str neq_str alloc_drewN setCell_drewN

theorem junk_bel (n : Int) (n0 : 0 ≤ n) (n1 : n ≤ 18446744073709551615) (w : World) :
    Calls Try.prog 91 #[.int .u64 n] w fun e w' => e = .returned (.bool (jnk n)) ∧ Below w.heap.size w w' := by
  refine (junk_any n n0 n1 w).mono ?_
  rintro e w' ⟨rfl, rfl⟩
  exact ⟨rfl, Below.refl _ _⟩
set_option maxRecDepth 100000 in
set_option maxHeartbeats 2000000 in
theorem otake_any (s : ByteArray) (hs0 : 0 < s.size) (hs : s.size ≤ 100000) (w : World) :
    Calls Try.prog 89 #[.string s] w fun e w' => e = .returned (.tuple #[(otake s).1.val, .int .i64 ((otake s).2 : Nat)]) ∧ Below w.heap.size w w' := by
  have hb := bt_bd s (0 : Nat)
  have hat : AtS s 0 := ⟨by omega, by omega⟩
  have hin : InS s 1 := ⟨by omega⟩
  have T0 := Lib.hid (Take_own (s.extract 1 s.size) (okinds (bt s (0 : Nat))) (by rw [size_ext _ _ _ (Nat.le_refl _)]; omega) (okinds_len _) (okinds_ok _))
  have F0 := Lib.hid (tl_fits (s.extract 1 s.size) (okinds (bt s (0 : Nat))))
  have HZ : (otake s) = if bt s (0 : Nat) = 0 ∨ 4 < bt s (0 : Nat) then (⟨0, 0, 0, bt s (0 : Nat), 0⟩, 1)
    else if (tl (s.extract 1 s.size) (okinds (bt s (0 : Nat))) 0).2.2 ≠ 0 then (Opn.torn, s.size)
    else (oper (bt s (0 : Nat)) (tl (s.extract 1 s.size) (okinds (bt s (0 : Nat))) 0).1, 1 + (tl (s.extract 1 s.size) (okinds (bt s (0 : Nat))) 0).2.1) := rfl
  unfold TakeEnd at T0
  have TB := Lib.hid (fun h => (tl_only (s.extract 1 s.size) (okinds (bt s (0 : Nat))) (tl (s.extract 1 s.size) (okinds (bt s (0 : Nat))) 0).1 0 (tl (s.extract 1 s.size) (okinds (bt s (0 : Nat))) 0).2.1 (Nat.zero_le _) h).2.2.2)
  obtain ⟨b, hbe⟩ : ∃ b, bt s (0 : Nat) = b := ⟨_, rfl⟩
  have hbe' : bt s 0 = b := hbe
  rw [hbe] at HZ hb T0 F0 TB
  obtain ⟨b0, b1⟩ := hb
  have JK := Lib.hid (fun W => junk_bel b b0 (by omega) W)
  by_cases hj : b = 0 ∨ 4 < b
  · rw [if_pos hj] at HZ
    rw [HZ]
    rw [show jnk b = true from decide_eq_true (by omega)] at JK
    clear HZ hj hbe T0 F0 TB
    have w1_ : IntKind.u64.wrap b = b := by rw [IntKind.wrap_u64]; omega
    go_enter Try.func89, Try.ntmps89
    go_wp2_with fail
    refine cl_gen ?_
    intro v0 hv0
    have XB : Below w.heap.size w v0 := by
      rw [hv0]
      (repeat' (first | (with_reducible exact Below.refl _ _) | (with_reducible assumption) | (with_reducible refine below_drewN _ ?_) | (with_reducible refine Below.drew ?_) | (with_reducible refine Below.setCell ?_ (by simp) _) | (with_reducible refine Below.alloc ?_ (by simp; try omega) _)))
    have Xz : v0.heap[w.heap.size]? = some (.cells #[.int .i64 0, .int .u32 0, .int .u32 0, .int .u64 0, .int .u64 0] 30 (0, 0)) := by
      rw [hv0]
      (repeat' (first | (with_reducible exact heap_alloc_new _ _) | (with_reducible exact blk_new (by first | (simp; done) | omega)) | (with_reducible refine blk_drew ?_) | (with_reducible apply put5_0) | (with_reducible apply put5_1) | (with_reducible apply put5_2) | (with_reducible apply put5_3) | (with_reducible apply put5_4) | (with_reducible refine blk_else (by omega) ?_) | (with_reducible refine blk_old ?_)))
    obtain ⟨Bz, hBz⟩ : ∃ x, x = w.heap.size := ⟨_, rfl⟩
    rw [← hBz] at Xz
    try rw [← hBz]
    have lez : w.heap.size ≤ Bz := by omega
    clear hBz
    clear hv0
    refine (JK.out _).mono ?_
    rintro e w1 ⟨rfl, bb⟩
    have Hz1 := Lib.hid (blk_call bb Xz)
    have HB1 := Lib.hid (bel_onto XB bb XB.size)
    clear Xz XB bb
    obtain ⟨z0_, z1_, z2_, z3_, z4_, zf0_, zf1_, zf2_, zf3_, zf4_⟩ := at5 Hz1.out
    have zn_ := ne_blk Hz1.out
    have zm_ := Ne.symm (a := Bz) zn_
    have zl_ := lt_blk Hz1.out
    go_wp2
    (try simp only [Exit.inBlock, Exit.then])
    refine bp_gen ?_
    intro v1 hv1
    have Xz : v1.heap[Bz]? = some (.cells #[.int .i64 0, .int .u32 0, .int .u32 0, .int .u64 b, .int .u64 0] 30 (0, 0)) := by
      rw [hv1]
      (repeat' (first | (with_reducible exact Hz1.out) | (with_reducible exact heap_alloc_new _ _) | (with_reducible exact blk_new (by first | (simp; done) | omega)) | (with_reducible refine blk_drew ?_) | (with_reducible apply put5_0) | (with_reducible apply put5_1) | (with_reducible apply put5_2) | (with_reducible apply put5_3) | (with_reducible apply put5_4) | (with_reducible refine blk_else (by omega) ?_) | (with_reducible refine blk_old ?_)))
    have XB : Below w.heap.size w v1 := by
      rw [hv1]
      (repeat' (first | (with_reducible exact HB1.out) | (with_reducible exact Below.refl _ _) | (with_reducible refine below_drewN _ ?_) | (with_reducible refine Below.drew ?_) | (with_reducible refine Below.setCell ?_ (by first | (simp; done) | omega) _) | (with_reducible refine Below.alloc ?_ (by have := HB1.out.size; simp; omega) _)))
    clear z0_ z1_ z2_ z3_ z4_ zf0_ zf1_ zf2_ zf3_ zf4_ zn_ zm_ zl_
    clear hv1 Hz1 HB1
    obtain ⟨z0_, z1_, z2_, z3_, z4_, -⟩ := at5 Xz
    refine bodyPost_ret (v := .tuple #[.agg #[.int .i64 0, .int .u32 0, .int .u32 0, .int .u64 b, .int .u64 0], .int .i64 1]) (by simp [results, Try.results89, go_sem, z0_, z1_, z2_, z3_, z4_]) rfl ⟨rfl, XB⟩
  · rw [if_neg hj] at HZ
    rw [show jnk b = false from decide_eq_false (by omega)] at JK
    have KD := Lib.hid (fun W => kinds_any b (by omega) (by omega) W)
    have OP := Lib.hid (fun fl hk hf base v W ho => oper_any b (by omega) (by omega) fl hk hf base v W ho)
    rw [HZ]
    clear HZ hbe
    generalize tl (s.extract 1 s.size) (okinds b) 0 = r at *
    obtain ⟨fl, d, er⟩ := r
    simp only at T0 F0 TB
    by_cases he : er = 0
    · subst he
      rw [if_neg (by simp)]
      obtain ⟨g1, g2⟩ := F0.out rfl
      have hd := TB.out rfl
      rw [size_ext _ _ _ (Nat.le_refl _)] at hd
      have OP2 := Lib.hid (OP.out fl g1 g2)
      clear F0 TB OP g1 g2
      obtain ⟨x, hx⟩ : ∃ x, oper b fl = x := ⟨_, rfl⟩
      rw [hx] at OP2 ⊢
      clear hx
      obtain ⟨xk, xf, xi, xn, xt⟩ := x
      unfold Opn.val at OP2 ⊢
      simp only at OP2 ⊢
      have ed : ((1 + d : Nat) : Int) = 1 + (d : Int) := by omega
      rw [ed]
      clear ed
      have w1_ : IntKind.i64.wrap (1 + (d : Int)) = 1 + (d : Int) := by rw [IntKind.wrap_i64]; omega
      go_enter Try.func89, Try.ntmps89
      go_wp2_with fail
      refine cl_gen ?_
      intro v0 hv0
      have XB : Below w.heap.size w v0 := by
        rw [hv0]
        (repeat' (first | (with_reducible exact Below.refl _ _) | (with_reducible assumption) | (with_reducible refine below_drewN _ ?_) | (with_reducible refine Below.drew ?_) | (with_reducible refine Below.setCell ?_ (by simp) _) | (with_reducible refine Below.alloc ?_ (by simp; try omega) _)))
      have Xz : v0.heap[w.heap.size]? = some (.cells #[.int .i64 0, .int .u32 0, .int .u32 0, .int .u64 0, .int .u64 0] 30 (0, 0)) := by
        rw [hv0]
        (repeat' (first | (with_reducible exact heap_alloc_new _ _) | (with_reducible exact blk_new (by first | (simp; done) | omega)) | (with_reducible refine blk_drew ?_) | (with_reducible apply put5_0) | (with_reducible apply put5_1) | (with_reducible apply put5_2) | (with_reducible apply put5_3) | (with_reducible apply put5_4) | (with_reducible refine blk_else (by omega) ?_) | (with_reducible refine blk_old ?_)))
      obtain ⟨Bz, hBz⟩ : ∃ x, x = w.heap.size := ⟨_, rfl⟩
      rw [← hBz] at Xz
      try rw [← hBz]
      have lez : w.heap.size ≤ Bz := by omega
      clear hBz
      clear hv0
      refine (JK.out _).mono ?_
      rintro e w1 ⟨rfl, bb⟩
      have Hz1 := Lib.hid (blk_call bb Xz)
      have HB1 := Lib.hid (bel_onto XB bb XB.size)
      clear Xz XB bb
      obtain ⟨z0_, z1_, z2_, z3_, z4_, zf0_, zf1_, zf2_, zf3_, zf4_⟩ := at5 Hz1.out
      have zn_ := ne_blk Hz1.out
      have zm_ := Ne.symm (a := Bz) zn_
      have zl_ := lt_blk Hz1.out
      go_wp2
      go_region_with (first
        | (go_at_call 141; (with_reducible refine (KD.out _).mono ?_); rintro e u1 ⟨v1, rfl, ho1, hu1⟩; have TT := Lib.hid (T0.out _ _ _ ho1); have HU1 := Lib.hid hu1; clear ho1 hu1)
        | (go_at_call 140; (with_reducible refine (TT.out).mono ?_); rintro e u2 ⟨v2, rfl, ho2, hu2⟩)
        | fail)
      all_goals
        have Xz : u2.heap[Bz]? = some (.cells #[.int .i64 0, .int .u32 0, .int .u32 0, .int .u64 0, .int .u64 0] 30 (0, 0)) := blk_call hu2 (blk_call HU1.out (by (repeat' (first | (with_reducible exact Hz1.out) | (with_reducible exact heap_alloc_new _ _) | (with_reducible exact blk_new (by first | (simp; done) | omega)) | (with_reducible refine blk_drew ?_) | (with_reducible apply put1_0) | (with_reducible apply put2_0) | (with_reducible apply put2_1) | (with_reducible apply put3_0) | (with_reducible apply put3_1) | (with_reducible apply put3_2) | (with_reducible apply put4_0) | (with_reducible apply put4_1) | (with_reducible apply put4_2) | (with_reducible apply put4_3) | (with_reducible apply put5_0) | (with_reducible apply put5_1) | (with_reducible apply put5_2) | (with_reducible apply put5_3) | (with_reducible apply put5_4) | (with_reducible apply put6_0) | (with_reducible apply put6_1) | (with_reducible apply put6_2) | (with_reducible apply put6_3) | (with_reducible apply put6_4) | (with_reducible apply put6_5) | (with_reducible refine blk_else (by omega) ?_) | (with_reducible refine blk_old ?_)))))
        have XB : Below w.heap.size w u2 := bel_call hu2 (bel_call HU1.out (by (repeat' (first | (with_reducible exact HB1.out) | (with_reducible exact Below.refl _ _) | (with_reducible refine below_drewN _ ?_) | (with_reducible refine Below.drew ?_) | (with_reducible refine Below.setCell ?_ (by first | (simp; done) | omega) _) | (with_reducible refine Below.alloc ?_ (by have := HB1.out.size; simp; omega) _)))) (by have := HB1.out.size; first | omega | (simp; omega))) (by have := HB1.out.size; have := HU1.out.size; first | omega | (simp; omega) | (simp at *; omega))
        have HO2 := Lib.hid ho2
        clear ho2 hu2 TT HU1 T0 KD
        clear z0_ z1_ z2_ z3_ z4_ zf0_ zf1_ zf2_ zf3_ zf4_ zn_ zm_ zl_
        clear Hz1 HB1
        have Hz2 := Lib.hid Xz
        have HB2 := Lib.hid XB
        clear Xz XB
        obtain ⟨z0_, z1_, z2_, z3_, z4_, zf0_, zf1_, zf2_, zf3_, zf4_⟩ := at5 Hz2.out
        have zn_ := ne_blk Hz2.out
        have zm_ := Ne.symm (a := Bz) zn_
        have zl_ := lt_blk Hz2.out
        have OP3 := Lib.hid (OP2.out _ _ _ HO2.out)
        clear OP2
        go_wp2_with fail
        refine (OP3.out).mono ?_
        rintro e w5 ⟨rfl, bb⟩
        have Xz : w5.heap[Bz]? = some (.cells #[.int .i64 0, .int .u32 0, .int .u32 0, .int .u64 0, .int .u64 0] 30 (0, 0)) := blk_call bb Hz2.out
        have XB : Below w.heap.size w w5 := bel_onto HB2.out bb HB2.out.size
        clear z0_ z1_ z2_ z3_ z4_ zf0_ zf1_ zf2_ zf3_ zf4_ zn_ zm_ zl_
        clear bb Hz2 HB2
        have Hz3 := Lib.hid Xz
        have HB3 := Lib.hid XB
        clear Xz XB
        obtain ⟨z0_, z1_, z2_, z3_, z4_, zf0_, zf1_, zf2_, zf3_, zf4_⟩ := at5 Hz3.out
        have zn_ := ne_blk Hz3.out
        have zm_ := Ne.symm (a := Bz) zn_
        have zl_ := lt_blk Hz3.out
        go_wp2
        (try simp only [Exit.inBlock, Exit.then])
        refine bp_gen ?_
        intro v3 hv3
        have Xz : v3.heap[Bz]? = some (.cells #[.int .i64 xk, .int .u32 xf, .int .u32 xi, .int .u64 xn, .int .u64 xt] 30 (0, 0)) := by
          rw [hv3]
          (repeat' (first | (with_reducible exact Hz3.out) | (with_reducible exact heap_alloc_new _ _) | (with_reducible exact blk_new (by first | (simp; done) | omega)) | (with_reducible refine blk_drew ?_) | (with_reducible apply put5_0) | (with_reducible apply put5_1) | (with_reducible apply put5_2) | (with_reducible apply put5_3) | (with_reducible apply put5_4) | (with_reducible refine blk_else (by omega) ?_) | (with_reducible refine blk_old ?_)))
        have XB : Below w.heap.size w v3 := by
          rw [hv3]
          (repeat' (first | (with_reducible exact HB3.out) | (with_reducible exact Below.refl _ _) | (with_reducible refine below_drewN _ ?_) | (with_reducible refine Below.drew ?_) | (with_reducible refine Below.setCell ?_ (by first | (simp; done) | omega) _) | (with_reducible refine Below.alloc ?_ (by have := HB3.out.size; simp; omega) _)))
        clear z0_ z1_ z2_ z3_ z4_ zf0_ zf1_ zf2_ zf3_ zf4_ zn_ zm_ zl_
        clear hv3 Hz3 HB3
        obtain ⟨z0_, z1_, z2_, z3_, z4_, -⟩ := at5 Xz
        refine bodyPost_ret (v := .tuple #[.agg #[.int .i64 xk, .int .u32 xf, .int .u32 xi, .int .u64 xn, .int .u64 xt], .int .i64 (1 + (d : Int))]) (by simp [results, Try.results89, go_sem, z0_, z1_, z2_, z3_, z4_]) rfl ⟨rfl, XB⟩
    · rw [if_pos (by simpa using he)]
      have g : (er != 0) = true := by simp [he]
      unfold Opn.torn Opn.val
      simp only
      clear he F0 TB OP
      go_enter Try.func89, Try.ntmps89
      go_wp2_with fail
      refine cl_gen ?_
      intro v0 hv0
      have XB : Below w.heap.size w v0 := by
        rw [hv0]
        (repeat' (first | (with_reducible exact Below.refl _ _) | (with_reducible assumption) | (with_reducible refine below_drewN _ ?_) | (with_reducible refine Below.drew ?_) | (with_reducible refine Below.setCell ?_ (by simp) _) | (with_reducible refine Below.alloc ?_ (by simp; try omega) _)))
      have Xz : v0.heap[w.heap.size]? = some (.cells #[.int .i64 0, .int .u32 0, .int .u32 0, .int .u64 0, .int .u64 0] 30 (0, 0)) := by
        rw [hv0]
        (repeat' (first | (with_reducible exact heap_alloc_new _ _) | (with_reducible exact blk_new (by first | (simp; done) | omega)) | (with_reducible refine blk_drew ?_) | (with_reducible apply put5_0) | (with_reducible apply put5_1) | (with_reducible apply put5_2) | (with_reducible apply put5_3) | (with_reducible apply put5_4) | (with_reducible refine blk_else (by omega) ?_) | (with_reducible refine blk_old ?_)))
      obtain ⟨Bz, hBz⟩ : ∃ x, x = w.heap.size := ⟨_, rfl⟩
      rw [← hBz] at Xz
      try rw [← hBz]
      have lez : w.heap.size ≤ Bz := by omega
      clear hBz
      clear hv0
      refine (JK.out _).mono ?_
      rintro e w1 ⟨rfl, bb⟩
      have Hz1 := Lib.hid (blk_call bb Xz)
      have HB1 := Lib.hid (bel_onto XB bb XB.size)
      clear Xz XB bb
      obtain ⟨z0_, z1_, z2_, z3_, z4_, zf0_, zf1_, zf2_, zf3_, zf4_⟩ := at5 Hz1.out
      have zn_ := ne_blk Hz1.out
      have zm_ := Ne.symm (a := Bz) zn_
      have zl_ := lt_blk Hz1.out
      go_wp2
      go_region_with (first
        | (go_at_call 141; (with_reducible refine (KD.out _).mono ?_); rintro e u1 ⟨v1, rfl, ho1, hu1⟩; have TT := Lib.hid (T0.out _ _ _ ho1); have HU1 := Lib.hid hu1; clear ho1 hu1)
        | (go_at_call 140; (with_reducible refine (TT.out).mono ?_); rintro e u2 ⟨v2, rfl, ho2, hu2⟩)
        | fail)
      all_goals
        have Xz : u2.heap[Bz]? = some (.cells #[.int .i64 0, .int .u32 0, .int .u32 0, .int .u64 0, .int .u64 0] 30 (0, 0)) := blk_call hu2 (blk_call HU1.out (by (repeat' (first | (with_reducible exact Hz1.out) | (with_reducible exact heap_alloc_new _ _) | (with_reducible exact blk_new (by first | (simp; done) | omega)) | (with_reducible refine blk_drew ?_) | (with_reducible apply put1_0) | (with_reducible apply put2_0) | (with_reducible apply put2_1) | (with_reducible apply put3_0) | (with_reducible apply put3_1) | (with_reducible apply put3_2) | (with_reducible apply put4_0) | (with_reducible apply put4_1) | (with_reducible apply put4_2) | (with_reducible apply put4_3) | (with_reducible apply put5_0) | (with_reducible apply put5_1) | (with_reducible apply put5_2) | (with_reducible apply put5_3) | (with_reducible apply put5_4) | (with_reducible apply put6_0) | (with_reducible apply put6_1) | (with_reducible apply put6_2) | (with_reducible apply put6_3) | (with_reducible apply put6_4) | (with_reducible apply put6_5) | (with_reducible refine blk_else (by omega) ?_) | (with_reducible refine blk_old ?_)))))
        have XB : Below w.heap.size w u2 := bel_call hu2 (bel_call HU1.out (by (repeat' (first | (with_reducible exact HB1.out) | (with_reducible exact Below.refl _ _) | (with_reducible refine below_drewN _ ?_) | (with_reducible refine Below.drew ?_) | (with_reducible refine Below.setCell ?_ (by first | (simp; done) | omega) _) | (with_reducible refine Below.alloc ?_ (by have := HB1.out.size; simp; omega) _)))) (by have := HB1.out.size; first | omega | (simp; omega))) (by have := HB1.out.size; have := HU1.out.size; first | omega | (simp; omega) | (simp at *; omega))
        have HO2 := Lib.hid ho2
        clear ho2 hu2 TT HU1 T0 KD
        clear z0_ z1_ z2_ z3_ z4_ zf0_ zf1_ zf2_ zf3_ zf4_ zn_ zm_ zl_
        clear Hz1 HB1
        have Hz2 := Lib.hid Xz
        have HB2 := Lib.hid XB
        clear Xz XB
        obtain ⟨z0_, z1_, z2_, z3_, z4_, zf0_, zf1_, zf2_, zf3_, zf4_⟩ := at5 Hz2.out
        have zn_ := ne_blk Hz2.out
        have zm_ := Ne.symm (a := Bz) zn_
        have zl_ := lt_blk Hz2.out
        go_wp2
        (try simp only [Exit.inBlock, Exit.then])
        refine bp_gen ?_
        intro v2 hv2
        have Xz : v2.heap[Bz]? = some (.cells #[.int .i64 5, .int .u32 0, .int .u32 0, .int .u64 0, .int .u64 0] 30 (0, 0)) := by
          rw [hv2]
          (repeat' (first | (with_reducible exact Hz2.out) | (with_reducible exact heap_alloc_new _ _) | (with_reducible exact blk_new (by first | (simp; done) | omega)) | (with_reducible refine blk_drew ?_) | (with_reducible apply put5_0) | (with_reducible apply put5_1) | (with_reducible apply put5_2) | (with_reducible apply put5_3) | (with_reducible apply put5_4) | (with_reducible refine blk_else (by omega) ?_) | (with_reducible refine blk_old ?_)))
        have XB : Below w.heap.size w v2 := by
          rw [hv2]
          (repeat' (first | (with_reducible exact HB2.out) | (with_reducible exact Below.refl _ _) | (with_reducible refine below_drewN _ ?_) | (with_reducible refine Below.drew ?_) | (with_reducible refine Below.setCell ?_ (by first | (simp; done) | omega) _) | (with_reducible refine Below.alloc ?_ (by have := HB2.out.size; simp; omega) _)))
        clear z0_ z1_ z2_ z3_ z4_ zf0_ zf1_ zf2_ zf3_ zf4_ zn_ zm_ zl_
        clear hv2 Hz2 HB2
        obtain ⟨z0_, z1_, z2_, z3_, z4_, -⟩ := at5 Xz
        refine bodyPost_ret (v := .tuple #[.agg #[.int .i64 5, .int .u32 0, .int .u32 0, .int .u64 0, .int .u64 0], .int .i64 s.size]) (by simp [results, Try.results89, go_sem, z0_, z1_, z2_, z3_, z4_]) rfl ⟨rfl, XB⟩
end Go.Proofs.Ytdlcipbehalfhaa
