/-
  Layer 33: a datagram, as the document's answer puts it. Condition: a header whose numbers are right, a body that is not too long.
-/
import Derived.Test.YtiaafpemhalmpaaHd5
import Derived.Deep.CutBlock
import Derived.Deep.DeepCutAuto
namespace Go.Proofs.Ytiaafpemhalmpaa
set_option linter.unusedVariables false
set_option linter.unusedSimpArgs false
open Go.ChangeShapes Go.WideShapes Go.ChangeAt Go.RowKit
attribute [-go_sem] run_index_string binOp_string_eql binOp_string_neq run_string_add_if run_slice_string_from_if run_slice_string_to_if
attribute [local go_sem] index_at add_fits slice_from slice_to eql_str neq_str alloc_drewN setCell_drewN

theorem chrs_take (l : List Int) (hl : ∀ z ∈ l, 0 ≤ z ∧ z ≤ 255) (k : Nat) (hk : k ≤ l.length) : (chrs l).extract 0 k = chrs (l.take k) := by
  have hl2 : ∀ z ∈ l.take k, 0 ≤ z ∧ z ≤ 255 := fun z hz => hl z (List.mem_of_mem_take hz)
  refine str_ext (by rw [size_ext _ _ _ (by rw [chrs_size]; exact hk), chrs_size, List.length_take]; omega) (fun j hj => ?_)
  rw [size_ext _ _ _ (by rw [chrs_size]; exact hk)] at hj
  have := bt_extract (chrs l) 0 k j (by omega)
  rw [Nat.zero_add] at this
  rw [this, bt_chrs l hl, bt_chrs _ hl2, List.getD_eq_getElem?_getD, List.getD_eq_getElem?_getD, List.getElem?_take_of_lt (by omega)]
theorem hb_front (h : Hdr) (k : h.ok) (n c : Int) (n0 : 0 ≤ n) (n1 : n ≤ 65507) :
    chrs [(17664 + 4 * h.d) / 256, (17664 + 4 * h.d) % 256] ++ chrs [(n + 28) / 256, (n + 28) % 256] ++ chrs [(h.i) / 256, (h.i) % 256] ++ chrs [(0) / 256, (0) % 256] ++ chrs [(256 * h.t + 17) / 256, (256 * h.t + 17) % 256] ++ chrs [(c) / 256, (c) % 256] ++ (chrs [h.s / 16777216, h.s / 65536 % 256, h.s / 256 % 256, h.s % 256] ++ chrs [h.q / 16777216, h.q / 65536 % 256, h.q / 256 % 256, h.q % 256]) ++ chrs [(h.x) / 256, (h.x) % 256] ++ chrs [(h.y) / 256, (h.y) % 256] ++ chrs [(n + 8) / 256, (n + 8) % 256] ++ chrs [(0) / 256, (0) % 256] = hd h n c ∧ chrs [(17664 + 4 * h.d) / 256, (17664 + 4 * h.d) % 256] ++ chrs [(n + 28) / 256, (n + 28) % 256] ++ chrs [(h.i) / 256, (h.i) % 256] ++ chrs [(0) / 256, (0) % 256] ++ chrs [(256 * h.t + 17) / 256, (256 * h.t + 17) % 256] ++ chrs [(0) / 256, (0) % 256] ++ (chrs [h.s / 16777216, h.s / 65536 % 256, h.s / 256 % 256, h.s % 256] ++ chrs [h.q / 16777216, h.q / 65536 % 256, h.q / 256 % 256, h.q % 256]) = chrs ((hb h n 0).take 20) := by
  obtain ⟨d, i, t, s, q, x, y⟩ := k
  simp only [← chrs_append, List.cons_append, List.nil_append]
  have e1 : (17664 + 4 * h.d) / 256 = 69 := by omega
  have e2 : (17664 + 4 * h.d) % 256 = 4 * h.d := by omega
  have e3 : (256 * h.t + 17) / 256 = h.t := by omega
  have e4 : (256 * h.t + 17) % 256 = 17 := by omega
  rw [e1, e2, e3, e4]
  exact ⟨rfl, rfl⟩
set_option maxRecDepth 100000 in
set_option maxHeartbeats 2000000 in
theorem rput_ok (d i t s q x y : Int) (k : (⟨d, i, t, s, q, x, y⟩ : Hdr).ok) (b : ByteArray) (hb1 : b.size ≤ 65507) (w : World) :
    Calls Try.prog 26 #[.agg #[.int .u8 d, .int .u16 i, .int .u8 t, .int .u32 s, .int .u32 q, .int .u16 x, .int .u16 y], .string b] w fun e w' => e = .returned (.tuple #[.string (pf ⟨d, i, t, s, q, x, y⟩ b), .int .i64 0]) ∧ Below w.heap.size w w' := by
  obtain ⟨n, hn⟩ : ∃ n : Int, n = b.size := ⟨_, rfl⟩
  have n0 : 0 ≤ n := by omega
  have n1 : n ≤ 65507 := by omega
  have CB := cs_bd ⟨d, i, t, s, q, x, y⟩ n
  obtain ⟨F1, F2⟩ := hb_front ⟨d, i, t, s, q, x, y⟩ k n (cs ⟨d, i, t, s, q, x, y⟩ n) n0 n1
  have IN := inet_hd k n0 n1
  have TK : (hd ⟨d, i, t, s, q, x, y⟩ n 0).extract 0 20 = chrs ((hb ⟨d, i, t, s, q, x, y⟩ n 0).take 20) := chrs_take _ (hb_bd k n0 n1 (by omega) (by omega)) 20 (by rw [hb_len]; omega)
  rw [TK, ← F2] at IN
  have EP : pf ⟨d, i, t, s, q, x, y⟩ b = hd ⟨d, i, t, s, q, x, y⟩ n (cs ⟨d, i, t, s, q, x, y⟩ n) ++ b := by rw [hn]; rfl
  rw [← F1] at EP
  have EPH := Lib.hid EP; have INH := Lib.hid IN
  clear F1 F2 IN TK EP
  obtain ⟨⟨d0, d1⟩, ⟨i0, i1⟩, ⟨t0, t1⟩, ⟨s0, s1⟩, ⟨q0, q1⟩, ⟨x0, x1⟩, ⟨y0_, y1_⟩⟩ := k
  simp only at d0 d1 i0 i1 t0 t1 s0 s1 q0 q1 x0 x1 y0_ y1_ EPH INH
  obtain ⟨C0, C1⟩ := CB
  have T1 := Lib.hid (fun W => two_any (17664 + 4 * d) (by omega) (by omega) W)
  have T2 := Lib.hid (fun W => two_any (n + 28) (by omega) (by omega) W)
  have T3 := Lib.hid (fun W => two_any (i) (by omega) (by omega) W)
  have T4 := Lib.hid (fun W => two_any (0) (by omega) (by omega) W)
  have T5 := Lib.hid (fun W => two_any (256 * t + 17) (by omega) (by omega) W)
  have T6 := Lib.hid (fun W => two_any (0) (by omega) (by omega) W)
  have V1 := Lib.hid (fun W => four_any (s) (by omega) (by omega) W)
  have V2 := Lib.hid (fun W => four_any (q) (by omega) (by omega) W)
  have T7 := Lib.hid (fun W => two_any (cs ⟨d, i, t, s, q, x, y⟩ n) C0 C1 W)
  have T8 := Lib.hid (fun W => two_any (x) (by omega) (by omega) W)
  have T9 := Lib.hid (fun W => two_any (y) (by omega) (by omega) W)
  have TA := Lib.hid (fun W => two_any (n + 8) (by omega) (by omega) W)
  have TB := Lib.hid (fun W => two_any (0) (by omega) (by omega) W)
  have zP1 : (chrs [(17664 + 4 * d) / 256, (17664 + 4 * d) % 256]).size = 2 := rfl
  have zP2 : (chrs [(n + 28) / 256, (n + 28) % 256]).size = 2 := rfl
  have zP3 : (chrs [(i) / 256, (i) % 256]).size = 2 := rfl
  have zP4 : (chrs [(0) / 256, (0) % 256]).size = 2 := rfl
  have zP5 : (chrs [(256 * t + 17) / 256, (256 * t + 17) % 256]).size = 2 := rfl
  have zQ1 : (chrs [s / 16777216, s / 65536 % 256, s / 256 % 256, s % 256]).size = 4 := rfl
  have zQ2 : (chrs [q / 16777216, q / 65536 % 256, q / 256 % 256, q % 256]).size = 4 := rfl
  have zP7 : (chrs [(cs ⟨d, i, t, s, q, x, y⟩ n) / 256, (cs ⟨d, i, t, s, q, x, y⟩ n) % 256]).size = 2 := rfl
  have zP8 : (chrs [(x) / 256, (x) % 256]).size = 2 := rfl
  have zP9 : (chrs [(y) / 256, (y) % 256]).size = 2 := rfl
  have zPA : (chrs [(n + 8) / 256, (n + 8) % 256]).size = 2 := rfl
  generalize chrs [(17664 + 4 * d) / 256, (17664 + 4 * d) % 256] = P1 at *
  generalize chrs [(n + 28) / 256, (n + 28) % 256] = P2 at *
  generalize chrs [(i) / 256, (i) % 256] = P3 at *
  generalize chrs [(0) / 256, (0) % 256] = P4 at *
  generalize chrs [(256 * t + 17) / 256, (256 * t + 17) % 256] = P5 at *
  generalize chrs [s / 16777216, s / 65536 % 256, s / 256 % 256, s % 256] = Q1 at *
  generalize chrs [q / 16777216, q / 65536 % 256, q / 256 % 256, q % 256] = Q2 at *
  generalize chrs [(cs ⟨d, i, t, s, q, x, y⟩ n) / 256, (cs ⟨d, i, t, s, q, x, y⟩ n) % 256] = P7 at *
  generalize chrs [(x) / 256, (x) % 256] = P8 at *
  generalize chrs [(y) / 256, (y) % 256] = P9 at *
  generalize chrs [(n + 8) / 256, (n + 8) % 256] = PA at *
  generalize cs ⟨d, i, t, s, q, x, y⟩ n = c at *
  have NI := Lib.hid (fun W => refinet_any (P1 ++ P2 ++ P3 ++ P4 ++ P5 ++ P4 ++ (Q1 ++ Q2)) (by simp only [ByteArray.size_append]; omega) W)
  rw [INH.out] at NI
  have fit1 := Fits.mk (a := P1) (b := P2) (by (try simp only [ByteArray.size_append]); omega)
  have fit2 := Fits.mk (a := P1 ++ P2) (b := P3) (by (try simp only [ByteArray.size_append]); omega)
  have fit3 := Fits.mk (a := P1 ++ P2 ++ P3) (b := P4) (by (try simp only [ByteArray.size_append]); omega)
  have fit4 := Fits.mk (a := P1 ++ P2 ++ P3 ++ P4) (b := P5) (by (try simp only [ByteArray.size_append]); omega)
  have fit5 := Fits.mk (a := Q1) (b := Q2) (by (try simp only [ByteArray.size_append]); omega)
  have fit6 := Fits.mk (a := P1 ++ P2 ++ P3 ++ P4 ++ P5) (b := P4) (by (try simp only [ByteArray.size_append]); omega)
  have fit7 := Fits.mk (a := P1 ++ P2 ++ P3 ++ P4 ++ P5 ++ P4) (b := (Q1 ++ Q2)) (by (try simp only [ByteArray.size_append]); omega)
  have fit8 := Fits.mk (a := P1 ++ P2 ++ P3 ++ P4 ++ P5) (b := P7) (by (try simp only [ByteArray.size_append]); omega)
  have fit9 := Fits.mk (a := P1 ++ P2 ++ P3 ++ P4 ++ P5 ++ P7) (b := (Q1 ++ Q2)) (by (try simp only [ByteArray.size_append]); omega)
  have fit10 := Fits.mk (a := P1 ++ P2 ++ P3 ++ P4 ++ P5 ++ P7 ++ (Q1 ++ Q2)) (b := P8) (by (try simp only [ByteArray.size_append]); omega)
  have fit11 := Fits.mk (a := P1 ++ P2 ++ P3 ++ P4 ++ P5 ++ P7 ++ (Q1 ++ Q2) ++ P8) (b := P9) (by (try simp only [ByteArray.size_append]); omega)
  have fit12 := Fits.mk (a := P1 ++ P2 ++ P3 ++ P4 ++ P5 ++ P7 ++ (Q1 ++ Q2) ++ P8 ++ P9) (b := PA) (by (try simp only [ByteArray.size_append]); omega)
  have fit13 := Fits.mk (a := P1 ++ P2 ++ P3 ++ P4 ++ P5 ++ P7 ++ (Q1 ++ Q2) ++ P8 ++ P9 ++ PA) (b := P4) (by (try simp only [ByteArray.size_append]); omega)
  have fit14 := Fits.mk (a := P1 ++ P2 ++ P3 ++ P4 ++ P5 ++ P7 ++ (Q1 ++ Q2) ++ P8 ++ P9 ++ PA ++ P4) (b := b) (by (try simp only [ByteArray.size_append]); omega)
  have g1 : ¬ 63 < d := by omega
  have g2 : ¬ (65507 : Int) < n := by omega
  have w1_ : IntKind.i64.wrap (4 * d) = 4 * d := by rw [IntKind.wrap_i64]; omega
  have w2_ : IntKind.i64.wrap (17664 + 4 * d) = 17664 + 4 * d := by rw [IntKind.wrap_i64]; omega
  have w3_ : IntKind.i64.wrap (n + 28) = n + 28 := by rw [IntKind.wrap_i64]; omega
  have w4_ : IntKind.i64.wrap (256 * t) = 256 * t := by rw [IntKind.wrap_i64]; omega
  have w5_ : IntKind.i64.wrap (256 * t + 17) = 256 * t + 17 := by rw [IntKind.wrap_i64]; omega
  have w6_ : IntKind.i64.wrap (n + 8) = n + 8 := by rw [IntKind.wrap_i64]; omega
  have w7_ : IntKind.i64.wrap d = d := by rw [IntKind.wrap_i64]; omega
  have w8_ : IntKind.i64.wrap i = i := by rw [IntKind.wrap_i64]; omega
  have w9_ : IntKind.i64.wrap t = t := by rw [IntKind.wrap_i64]; omega
  have wa_ : IntKind.i64.wrap x = x := by rw [IntKind.wrap_i64]; omega
  have wb_ : IntKind.i64.wrap y = y := by rw [IntKind.wrap_i64]; omega
  have sz_ : (b.size : Int) = n := hn.symm
  clear zP1 zP2 zP3 zP4 zP5 zQ1 zQ2 zP7 zP8 zP9 zPA hn INH
  go_enter Try.func26, Try.ntmps26
  go_upto_region 5 with (fail)
  obtain ⟨W1, hW1⟩ : ∃ W1, W1 = w.alloc (.cells #[.int .u8 d, .int .u16 i, .int .u8 t, .int .u32 s, .int .u32 q, .int .u16 x, .int .u16 y] 66) := ⟨_, rfl⟩
  rw [← hW1]
  obtain ⟨B0, hB0⟩ : ∃ B0, B0 = w.heap.size := ⟨_, rfl⟩
  have HBX := Lib.hid (show W1.heap[B0]? = some (.cells #[.int .u8 d, .int .u16 i, .int .u8 t, .int .u32 s, .int .u32 q, .int .u16 x, .int .u16 y] 66 (0, 0)) by rw [hW1, hB0]; exact heap_alloc_new _ _)
  have BW := Lib.hid (show Below w.heap.size w W1 by rw [hW1]; exact (Below.refl _ w).alloc (Nat.le_refl _) _)
  have SZ := Lib.hid (show w.heap.size ≤ W1.heap.size from BW.out.size)
  rw [← hB0]
  clear hW1 hB0
  have SC := Lib.hid (fun (v : World) (h : Below W1.heap.size W1 v) => (box7 (v := v) (B := B0) ((h.block _ (lt_blk HBX.out)).trans HBX.out) : Box7 B0 d i t s q x y v))
  unfold Box7 at SC
  have y0 : Below W1.heap.size W1 W1 := Below.refl _ _
  go_region_held3 (fun v => v.cell? ⟨B0, 0, none⟩ = some (.int .u8 d) ∧ v.cell? ⟨B0, 1, none⟩ = some (.int .u16 i) ∧ v.cell? ⟨B0, 2, none⟩ = some (.int .u8 t) ∧ v.cell? ⟨B0, 3, none⟩ = some (.int .u32 s) ∧ v.cell? ⟨B0, 4, none⟩ = some (.int .u32 q) ∧ v.cell? ⟨B0, 5, none⟩ = some (.int .u16 x) ∧ v.cell? ⟨B0, 6, none⟩ = some (.int .u16 y))
    ((first | exact SC.out _ ya5 | exact SC.out _ ya4 | exact SC.out _ ya3 | exact SC.out _ ya2 | exact SC.out _ ya1 | exact SC.out _ (by (repeat' (first | (with_reducible exact y0) | (with_reducible refine below_drewN _ ?_) | (with_reducible refine Below.drew ?_))))))
    (first
      | (go_at_call 50; refine (T1.out _).mono ?_; rintro e wyaA ⟨rfl, cya1⟩; have ya1 : Below W1.heap.size W1 wyaA := bel_call cya1 (by (repeat' (first | (with_reducible exact y0) | (with_reducible refine below_drewN _ ?_) | (with_reducible refine Below.drew ?_)))) (Nat.le_refl _); clear T1 cya1)
      | (go_at_call 50; refine (T2.out _).mono ?_; rintro e wyaB ⟨rfl, cya2⟩; have ya2 : Below W1.heap.size W1 wyaB := bel_call cya2 (by (repeat' (first | (with_reducible exact ya1) | (with_reducible refine below_drewN _ ?_) | (with_reducible refine Below.drew ?_)))) (Nat.le_refl _); clear T2 cya2)
      | (go_at_call 50; refine (T3.out _).mono ?_; rintro e wyaC ⟨rfl, cya3⟩; have ya3 : Below W1.heap.size W1 wyaC := bel_call cya3 (by (repeat' (first | (with_reducible exact ya2) | (with_reducible refine below_drewN _ ?_) | (with_reducible refine Below.drew ?_)))) (Nat.le_refl _); clear T3 cya3)
      | (go_at_call 50; refine (T4.out _).mono ?_; rintro e wyaD ⟨rfl, cya4⟩; have ya4 : Below W1.heap.size W1 wyaD := bel_call cya4 (by (repeat' (first | (with_reducible exact ya3) | (with_reducible refine below_drewN _ ?_) | (with_reducible refine Below.drew ?_)))) (Nat.le_refl _); clear T4 cya4)
      | (go_at_call 50; refine (T5.out _).mono ?_; rintro e wyaE ⟨rfl, cya5⟩; have ya5 : Below W1.heap.size W1 wyaE := bel_call cya5 (by (repeat' (first | (with_reducible exact ya4) | (with_reducible refine below_drewN _ ?_) | (with_reducible refine Below.drew ?_)))) (Nat.le_refl _); clear T5 cya5)
      | fail)
  go_upto_region 6 with (fail)
  go_region_held3 (fun v => v.cell? ⟨B0, 0, none⟩ = some (.int .u8 d) ∧ v.cell? ⟨B0, 1, none⟩ = some (.int .u16 i) ∧ v.cell? ⟨B0, 2, none⟩ = some (.int .u8 t) ∧ v.cell? ⟨B0, 3, none⟩ = some (.int .u32 s) ∧ v.cell? ⟨B0, 4, none⟩ = some (.int .u32 q) ∧ v.cell? ⟨B0, 5, none⟩ = some (.int .u16 x) ∧ v.cell? ⟨B0, 6, none⟩ = some (.int .u16 y))
    ((first | exact SC.out _ yb2 | exact SC.out _ yb1 | exact SC.out _ (by (repeat' (first | (with_reducible exact ya5) | (with_reducible refine below_drewN _ ?_) | (with_reducible refine Below.drew ?_))))))
    (first
      | (go_at_call 51; refine (V1.out _).mono ?_; rintro e wybA ⟨rfl, cyb1⟩; have yb1 : Below W1.heap.size W1 wybA := bel_call cyb1 (by (repeat' (first | (with_reducible exact ya5) | (with_reducible refine below_drewN _ ?_) | (with_reducible refine Below.drew ?_)))) (Nat.le_refl _); clear V1 cyb1)
      | (go_at_call 51; refine (V2.out _).mono ?_; rintro e wybB ⟨rfl, cyb2⟩; have yb2 : Below W1.heap.size W1 wybB := bel_call cyb2 (by (repeat' (first | (with_reducible exact yb1) | (with_reducible refine below_drewN _ ?_) | (with_reducible refine Below.drew ?_)))) (Nat.le_refl _); clear V2 cyb2)
      | fail)
  go_wp2_with fail
  refine (T6.out _).mono ?_
  rintro e wZ ⟨rfl, cz⟩
  have yz : Below W1.heap.size W1 wZ := bel_call cz (by (repeat' (first | (with_reducible exact yb2) | (with_reducible refine below_drewN _ ?_) | (with_reducible refine Below.drew ?_)))) (Nat.le_refl _)
  clear cz T6
  go_wp2_with fail
  refine (NI.out _).mono ?_
  rintro e wY ⟨rfl, cy⟩
  have yc : Below W1.heap.size W1 wY := by rw [← cy]; exact (by (repeat' (first | (with_reducible exact yz) | (with_reducible refine below_drewN _ ?_) | (with_reducible refine Below.drew ?_))))
  clear cy NI
  go_upto_region 8 with (fail)
  go_region_held3 (fun v => v.cell? ⟨B0, 0, none⟩ = some (.int .u8 d) ∧ v.cell? ⟨B0, 1, none⟩ = some (.int .u16 i) ∧ v.cell? ⟨B0, 2, none⟩ = some (.int .u8 t) ∧ v.cell? ⟨B0, 3, none⟩ = some (.int .u32 s) ∧ v.cell? ⟨B0, 4, none⟩ = some (.int .u32 q) ∧ v.cell? ⟨B0, 5, none⟩ = some (.int .u16 x) ∧ v.cell? ⟨B0, 6, none⟩ = some (.int .u16 y))
    ((first | exact SC.out _ yd5 | exact SC.out _ yd4 | exact SC.out _ yd3 | exact SC.out _ yd2 | exact SC.out _ yd1 | exact SC.out _ (by (repeat' (first | (with_reducible exact yc) | (with_reducible refine below_drewN _ ?_) | (with_reducible refine Below.drew ?_))))))
    (first
      | (go_at_call 50; refine (T7.out _).mono ?_; rintro e wydA ⟨rfl, cyd1⟩; have yd1 : Below W1.heap.size W1 wydA := bel_call cyd1 (by (repeat' (first | (with_reducible exact yc) | (with_reducible refine below_drewN _ ?_) | (with_reducible refine Below.drew ?_)))) (Nat.le_refl _); clear T7 cyd1)
      | (go_at_call 50; refine (T8.out _).mono ?_; rintro e wydB ⟨rfl, cyd2⟩; have yd2 : Below W1.heap.size W1 wydB := bel_call cyd2 (by (repeat' (first | (with_reducible exact yd1) | (with_reducible refine below_drewN _ ?_) | (with_reducible refine Below.drew ?_)))) (Nat.le_refl _); clear T8 cyd2)
      | (go_at_call 50; refine (T9.out _).mono ?_; rintro e wydC ⟨rfl, cyd3⟩; have yd3 : Below W1.heap.size W1 wydC := bel_call cyd3 (by (repeat' (first | (with_reducible exact yd2) | (with_reducible refine below_drewN _ ?_) | (with_reducible refine Below.drew ?_)))) (Nat.le_refl _); clear T9 cyd3)
      | (go_at_call 50; refine (TA.out _).mono ?_; rintro e wydD ⟨rfl, cyd4⟩; have yd4 : Below W1.heap.size W1 wydD := bel_call cyd4 (by (repeat' (first | (with_reducible exact yd3) | (with_reducible refine below_drewN _ ?_) | (with_reducible refine Below.drew ?_)))) (Nat.le_refl _); clear TA cyd4)
      | (go_at_call 50; refine (TB.out _).mono ?_; rintro e wydE ⟨rfl, cyd5⟩; have yd5 : Below W1.heap.size W1 wydE := bel_call cyd5 (by (repeat' (first | (with_reducible exact yd4) | (with_reducible refine below_drewN _ ?_) | (with_reducible refine Below.drew ?_)))) (Nat.le_refl _); clear TB cyd5)
      | fail)
  go_wp2
  go_ret2
  exact ⟨by rw [EPH.out]; rfl, BW.out.trans (yd5.mono SZ.out)⟩
end Go.Proofs.Ytiaafpemhalmpaa
