/-
  Layer 33: the laws' example, and the laws on what is put and taken, walked: true for any header, body and bytes. No condition.
-/
import Derived.Test.YtiaafpemhalmpaaHd8
namespace Go.Proofs.Ytiaafpemhalmpaa
set_option linter.unusedVariables false
set_option linter.unusedSimpArgs false
open Go.ChangeShapes Go.WideShapes Go.ChangeAt Go.RowKit
attribute [-go_sem] run_index_string binOp_string_eql binOp_string_neq run_string_add_if run_slice_string_from_if run_slice_string_to_if
attribute [local go_sem] index_at add_fits slice_from slice_to eql_str neq_str alloc_drewN setCell_drewN

theorem hop_put {h : Hdr} (k : h.ok) {b : ByteArray} (hb : b.size ≤ 65507) : hpE (pf h b) = (if h.t ≤ 1 then 21 else 0) ∧ hpS (pf h b) = (if h.t ≤ 1 then ⟨#[]⟩ else pf ⟨h.d, h.i, h.t - 1, h.s, h.q, h.x, h.y⟩ b) := by
  obtain ⟨e1, e2, e3⟩ := take_put k hb
  unfold hpE hpS
  rw [e1, e2, e3, if_neg (fun h => h rfl)]
  refine ⟨rfl, ?_⟩
  by_cases h1 : h.t ≤ 1
  · rw [if_pos (Or.inr h1), if_pos h1]
  · rw [if_neg (fun g => g.elim (fun g => g rfl) h1), if_neg h1]
theorem mark_put {h : Hdr} (k : h.ok) {b : ByteArray} (hb : b.size ≤ 65507) (p : Int) (hp : p ≤ 63) : mkE (pf h b) p = 0 ∧ mkS (pf h b) p = pf ⟨p, h.i, h.t, h.s, h.q, h.x, h.y⟩ b := by
  obtain ⟨e1, e2, e3⟩ := take_put k hb
  unfold mkE mkS
  rw [e1, e2, e3, if_neg (by omega), if_neg (fun g => g.elim (by omega) (fun g => g rfl))]
  exact ⟨rfl, rfl⟩
theorem tk_put {h : Hdr} (k : h.ok) {b : ByteArray} (hb : b.size ≤ 65507) : tke (pf h b) = 0 ∧ tkH (pf h b) = h ∧ tkB (pf h b) = b := by
  obtain ⟨e1, e2, e3⟩ := take_put k hb
  unfold tkH tkB
  rw [e1, e2, e3]
  exact ⟨rfl, rfl, rfl⟩
def h33 : Hdr := ⟨1, 0, 2, 0, 0, 0, 0⟩
def b33 : ByteArray := ⟨#[97, 98]⟩
theorem ok33 : h33.ok := by refine ⟨?_, ?_, ?_, ?_, ?_, ?_, ?_⟩ <;> decide
theorem ok33' : (⟨1, 0, 1, 0, 0, 0, 0⟩ : Hdr).ok := by refine ⟨?_, ?_, ?_, ?_, ?_, ?_, ?_⟩ <;> decide
theorem sz33 : b33.size ≤ 65507 := by decide
set_option maxRecDepth 100000 in
set_option maxHeartbeats 1000000 in
theorem lives33 (w : World) : Calls Try.prog 24 #[] w fun e w' => e = .returned (.bool true) ∧ Below w.heap.size w w' := by
  have PO : Hid (∀ W, Calls Try.prog 25 #[.agg #[.int .u8 1, .int .u16 0, .int .u8 2, .int .u32 0, .int .u32 0, .int .u16 0, .int .u16 0], .string ⟨#[97, 98]⟩] W fun e w' => e = .returned (.tuple #[.string (pf h33 b33), .int .i64 0]) ∧ Below W.heap.size W w') := Lib.hid (fun W => hput_ok 1 0 2 0 0 0 0 ok33 b33 sz33 W)
  have e30 : (pf h33 b33).size = 30 := by rw [pf_size]; rfl
  have B := pf_bt ok33 sz33
  have e2 : bt (pf h33 b33) 2 = 0 := (B 2).trans rfl
  have e3 : bt (pf h33 b33) 3 = 30 := (B 3).trans rfl
  have H1 := hop_put ok33 sz33
  have H2 := hop_put ok33' sz33
  rw [if_neg (by decide), if_neg (by decide)] at H1
  rw [if_pos (by decide), if_pos (by decide)] at H2
  have M1 : hpS (pf h33 b33) = pf ⟨1, 0, 1, 0, 0, 0, 0⟩ b33 := H1.2
  have e31 : (pf ⟨1, 0, 1, 0, 0, 0, 0⟩ b33).size = 30 := by rw [pf_size]; rfl
  have HA := Lib.hid (fun W => hhop_any (pf h33 b33) (by omega) W)
  have HB := Lib.hid (fun W => hhop_any (pf ⟨1, 0, 1, 0, 0, 0, 0⟩ b33) (by omega) W)
  rw [M1, H1.1] at HA
  rw [H2.1, H2.2] at HB
  clear M1 H1 H2 B e31
  generalize pf h33 b33 = L at *
  generalize pf ⟨1, 0, 1, 0, 0, 0, 0⟩ b33 = M at *
  have a2 : AtS L 2 := ⟨by omega⟩
  have a3 : AtS L 3 := ⟨by omega⟩
  have e30' : (L.size : Int) = 30 := by omega
  clear e30
  go_enter Try.func24, Try.ntmps24
  go_wp2_with fail
  refine (PO.out _).mono ?_
  rintro e wA ⟨rfl, h1⟩
  go_wp2_with fail
  refine (HA.out _).mono ?_
  rintro e wB ⟨rfl, h2⟩
  go_wp2_with fail
  refine (HB.out _).mono ?_
  rintro e wC ⟨rfl, h3⟩
  go_wp2
  go_ret
  exact ⟨rfl, (h1.trans (h2.mono h1.size)).trans (h3.mono (Nat.le_trans h1.size h2.size))⟩
set_option maxRecDepth 100000 in
set_option maxHeartbeats 1000000 in
theorem walk_headerPuts (d : Int) (d0 : 0 ≤ d) (d1 : d ≤ 255) (i : Int) (i0 : 0 ≤ i) (i1 : i ≤ 65535) (t : Int) (t0 : 0 ≤ t) (t1 : t ≤ 255) (s : Int) (s0 : 0 ≤ s) (s1 : s ≤ 4294967295) (q : Int) (q0 : 0 ≤ q) (q1 : q ≤ 4294967295) (x : Int) (x0 : 0 ≤ x) (x1 : x ≤ 65535) (y : Int) (y0 : 0 ≤ y) (y1 : y ≤ 65535) (b : ByteArray) (hbm : b.size ≤ maxLen) (w : World) :
    Calls Try.prog 5 #[.agg #[.int .u8 d, .int .u16 i, .int .u8 t, .int .u32 s, .int .u32 q, .int .u16 x, .int .u16 y], .string b] w fun e w' => e = .returned (.bool true) ∧ Below w.heap.size w w' := by
  have LV := Lib.hid (fun W => lives33 W)
  have hm : Try.prog.eqGuardType Try.prog.depth 66 = false := by kernel_rfl
  have B0 : Below w.heap.size w w := Below.refl _ _
  by_cases hl : 70000 < b.size
  · have g : (70000 : Int) < b.size := by omega
    go_enter Try.func5, Try.ntmps5
    go_wp2_with fail
    refine (LV.out _).mono ?_
    rintro e wL ⟨rfl, kbwL⟩
    have bwL : Below w.heap.size w wL := bel_call kbwL (by (repeat' (first | (with_reducible exact B0) | (with_reducible exact Below.refl _ _) | (with_reducible refine below_drewN _ ?_) | (with_reducible refine Below.drew ?_) | (with_reducible refine Below.alloc ?_ (by first | exact Nat.le_refl _ | omega | (have := B0.size; simp; omega) | (simp; done)) _) | (with_reducible refine Below.setCell ?_ (by first | exact Nat.le_refl _ | omega | (have := B0.size; simp; omega) | (simp; done)) _)))) (by first | exact Nat.le_refl _ | omega | (have := B0.size; simp; omega) | (simp; done))
    have Zh1 : wL.heap[w.heap.size]? = some (.cells #[.int .u8 d, .int .u16 i, .int .u8 t, .int .u32 s, .int .u32 q, .int .u16 x, .int .u16 y] 66 (0, 0)) := blk_call kbwL (by (repeat' (first | (with_reducible exact heap_alloc_new _ _) | (with_reducible exact blk_new (by first | (simp; done) | omega)) | (with_reducible refine blk_drew ?_) | (with_reducible apply put7_2) | (with_reducible refine blk_else (by omega) ?_) | (with_reducible refine blk_old ?_))))
    obtain ⟨zh0, zh1, zh2, zh3, zh4, zh5, zh6, -⟩ := at7 Zh1
    have nh_ := ne_blk Zh1
    have mh_ := Ne.symm nh_
    have lh_ := lt_blk Zh1
    clear kbwL
    go_wp2
    go_ret
    exact ⟨rfl, bwL⟩
  · have g : ¬ (70000 : Int) < b.size := by omega
    by_cases h63 : 63 < d
    · have P1 := Lib.hid (fun W => hput_arg d i t s q x y h63 b W)
      have P2 := Lib.hid (fun W => rput_arg d i t s q x y h63 b W)
      go_enter Try.func5, Try.ntmps5
      go_wp2_with fail
      refine (P1.out _).mono ?_
      rintro e wA ⟨rfl, kbwA⟩
      have bwA : Below w.heap.size w wA := bel_call kbwA (by (repeat' (first | (with_reducible exact B0) | (with_reducible exact Below.refl _ _) | (with_reducible refine below_drewN _ ?_) | (with_reducible refine Below.drew ?_) | (with_reducible refine Below.alloc ?_ (by first | exact Nat.le_refl _ | omega | (have := B0.size; simp; omega) | (simp; done)) _) | (with_reducible refine Below.setCell ?_ (by first | exact Nat.le_refl _ | omega | (have := B0.size; simp; omega) | (simp; done)) _)))) (by first | exact Nat.le_refl _ | omega | (have := B0.size; simp; omega) | (simp; done))
      have Zh1 : wA.heap[w.heap.size]? = some (.cells #[.int .u8 d, .int .u16 i, .int .u8 t, .int .u32 s, .int .u32 q, .int .u16 x, .int .u16 y] 66 (0, 0)) := blk_call kbwA (by (repeat' (first | (with_reducible exact heap_alloc_new _ _) | (with_reducible exact blk_new (by first | (simp; done) | omega)) | (with_reducible refine blk_drew ?_) | (with_reducible apply put7_2) | (with_reducible refine blk_else (by omega) ?_) | (with_reducible refine blk_old ?_))))
      obtain ⟨zh0, zh1, zh2, zh3, zh4, zh5, zh6, -⟩ := at7 Zh1
      have nh_ := ne_blk Zh1
      have mh_ := Ne.symm nh_
      have lh_ := lt_blk Zh1
      clear kbwA
      go_wp2_with fail
      refine (P2.out _).mono ?_
      rintro e wB ⟨rfl, kbwB⟩
      have bwB : Below w.heap.size w wB := bel_call kbwB (by (repeat' (first | (with_reducible exact bwA) | (with_reducible exact Below.refl _ _) | (with_reducible refine below_drewN _ ?_) | (with_reducible refine Below.drew ?_) | (with_reducible refine Below.alloc ?_ (by first | exact Nat.le_refl _ | omega | (have := bwA.size; simp; omega) | (simp; done)) _) | (with_reducible refine Below.setCell ?_ (by first | exact Nat.le_refl _ | omega | (have := bwA.size; simp; omega) | (simp; done)) _)))) (by first | exact Nat.le_refl _ | omega | (have := bwA.size; simp; omega) | (simp; done))
      have Zh2 : wB.heap[w.heap.size]? = some (.cells #[.int .u8 d, .int .u16 i, .int .u8 t, .int .u32 s, .int .u32 q, .int .u16 x, .int .u16 y] 66 (0, 0)) := blk_call kbwB (by (repeat' (first | (with_reducible exact Zh1) | (with_reducible exact heap_alloc_new _ _) | (with_reducible exact blk_new (by first | (simp; done) | omega)) | (with_reducible refine blk_drew ?_) | (with_reducible apply put7_2) | (with_reducible refine blk_else (by omega) ?_) | (with_reducible refine blk_old ?_))))
      clear Zh1 zh0 zh1 zh2 zh3 zh4 zh5 zh6 nh_ mh_ lh_
      obtain ⟨zh0, zh1, zh2, zh3, zh4, zh5, zh6, -⟩ := at7 Zh2
      have nh_ := ne_blk Zh2
      have mh_ := Ne.symm nh_
      have lh_ := lt_blk Zh2
      clear kbwB
      go_wp2_with fail
      refine (LV.out _).mono ?_
      rintro e wL ⟨rfl, kbwL⟩
      have bwL : Below w.heap.size w wL := bel_call kbwL (by (repeat' (first | (with_reducible exact bwB) | (with_reducible exact Below.refl _ _) | (with_reducible refine below_drewN _ ?_) | (with_reducible refine Below.drew ?_) | (with_reducible refine Below.alloc ?_ (by first | exact Nat.le_refl _ | omega | (have := bwB.size; simp; omega) | (simp; done)) _) | (with_reducible refine Below.setCell ?_ (by first | exact Nat.le_refl _ | omega | (have := bwB.size; simp; omega) | (simp; done)) _)))) (by first | exact Nat.le_refl _ | omega | (have := bwB.size; simp; omega) | (simp; done))
      have Zh3 : wL.heap[w.heap.size]? = some (.cells #[.int .u8 d, .int .u16 i, .int .u8 t, .int .u32 s, .int .u32 q, .int .u16 x, .int .u16 y] 66 (0, 0)) := blk_call kbwL (by (repeat' (first | (with_reducible exact Zh2) | (with_reducible exact heap_alloc_new _ _) | (with_reducible exact blk_new (by first | (simp; done) | omega)) | (with_reducible refine blk_drew ?_) | (with_reducible apply put7_2) | (with_reducible refine blk_else (by omega) ?_) | (with_reducible refine blk_old ?_))))
      clear Zh2 zh0 zh1 zh2 zh3 zh4 zh5 zh6 nh_ mh_ lh_
      obtain ⟨zh0, zh1, zh2, zh3, zh4, zh5, zh6, -⟩ := at7 Zh3
      have nh_ := ne_blk Zh3
      have mh_ := Ne.symm nh_
      have lh_ := lt_blk Zh3
      clear kbwL
      go_wp2
      go_ret
      exact ⟨rfl, bwL⟩
    · by_cases h65 : 65507 < b.size
      · have P1 := Lib.hid (fun W => hput_long d i t s q x y (by omega) b h65 W)
        have P2 := Lib.hid (fun W => rput_long d i t s q x y (by omega) b h65 W)
        go_enter Try.func5, Try.ntmps5
        go_wp2_with fail
        refine (P1.out _).mono ?_
        rintro e wA ⟨rfl, kbwA⟩
        have bwA : Below w.heap.size w wA := bel_call kbwA (by (repeat' (first | (with_reducible exact B0) | (with_reducible exact Below.refl _ _) | (with_reducible refine below_drewN _ ?_) | (with_reducible refine Below.drew ?_) | (with_reducible refine Below.alloc ?_ (by first | exact Nat.le_refl _ | omega | (have := B0.size; simp; omega) | (simp; done)) _) | (with_reducible refine Below.setCell ?_ (by first | exact Nat.le_refl _ | omega | (have := B0.size; simp; omega) | (simp; done)) _)))) (by first | exact Nat.le_refl _ | omega | (have := B0.size; simp; omega) | (simp; done))
        have Zh1 : wA.heap[w.heap.size]? = some (.cells #[.int .u8 d, .int .u16 i, .int .u8 t, .int .u32 s, .int .u32 q, .int .u16 x, .int .u16 y] 66 (0, 0)) := blk_call kbwA (by (repeat' (first | (with_reducible exact heap_alloc_new _ _) | (with_reducible exact blk_new (by first | (simp; done) | omega)) | (with_reducible refine blk_drew ?_) | (with_reducible apply put7_2) | (with_reducible refine blk_else (by omega) ?_) | (with_reducible refine blk_old ?_))))
        obtain ⟨zh0, zh1, zh2, zh3, zh4, zh5, zh6, -⟩ := at7 Zh1
        have nh_ := ne_blk Zh1
        have mh_ := Ne.symm nh_
        have lh_ := lt_blk Zh1
        clear kbwA
        go_wp2_with fail
        refine (P2.out _).mono ?_
        rintro e wB ⟨rfl, kbwB⟩
        have bwB : Below w.heap.size w wB := bel_call kbwB (by (repeat' (first | (with_reducible exact bwA) | (with_reducible exact Below.refl _ _) | (with_reducible refine below_drewN _ ?_) | (with_reducible refine Below.drew ?_) | (with_reducible refine Below.alloc ?_ (by first | exact Nat.le_refl _ | omega | (have := bwA.size; simp; omega) | (simp; done)) _) | (with_reducible refine Below.setCell ?_ (by first | exact Nat.le_refl _ | omega | (have := bwA.size; simp; omega) | (simp; done)) _)))) (by first | exact Nat.le_refl _ | omega | (have := bwA.size; simp; omega) | (simp; done))
        have Zh2 : wB.heap[w.heap.size]? = some (.cells #[.int .u8 d, .int .u16 i, .int .u8 t, .int .u32 s, .int .u32 q, .int .u16 x, .int .u16 y] 66 (0, 0)) := blk_call kbwB (by (repeat' (first | (with_reducible exact Zh1) | (with_reducible exact heap_alloc_new _ _) | (with_reducible exact blk_new (by first | (simp; done) | omega)) | (with_reducible refine blk_drew ?_) | (with_reducible apply put7_2) | (with_reducible refine blk_else (by omega) ?_) | (with_reducible refine blk_old ?_))))
        clear Zh1 zh0 zh1 zh2 zh3 zh4 zh5 zh6 nh_ mh_ lh_
        obtain ⟨zh0, zh1, zh2, zh3, zh4, zh5, zh6, -⟩ := at7 Zh2
        have nh_ := ne_blk Zh2
        have mh_ := Ne.symm nh_
        have lh_ := lt_blk Zh2
        clear kbwB
        go_wp2_with fail
        refine (LV.out _).mono ?_
        rintro e wL ⟨rfl, kbwL⟩
        have bwL : Below w.heap.size w wL := bel_call kbwL (by (repeat' (first | (with_reducible exact bwB) | (with_reducible exact Below.refl _ _) | (with_reducible refine below_drewN _ ?_) | (with_reducible refine Below.drew ?_) | (with_reducible refine Below.alloc ?_ (by first | exact Nat.le_refl _ | omega | (have := bwB.size; simp; omega) | (simp; done)) _) | (with_reducible refine Below.setCell ?_ (by first | exact Nat.le_refl _ | omega | (have := bwB.size; simp; omega) | (simp; done)) _)))) (by first | exact Nat.le_refl _ | omega | (have := bwB.size; simp; omega) | (simp; done))
        have Zh3 : wL.heap[w.heap.size]? = some (.cells #[.int .u8 d, .int .u16 i, .int .u8 t, .int .u32 s, .int .u32 q, .int .u16 x, .int .u16 y] 66 (0, 0)) := blk_call kbwL (by (repeat' (first | (with_reducible exact Zh2) | (with_reducible exact heap_alloc_new _ _) | (with_reducible exact blk_new (by first | (simp; done) | omega)) | (with_reducible refine blk_drew ?_) | (with_reducible apply put7_2) | (with_reducible refine blk_else (by omega) ?_) | (with_reducible refine blk_old ?_))))
        clear Zh2 zh0 zh1 zh2 zh3 zh4 zh5 zh6 nh_ mh_ lh_
        obtain ⟨zh0, zh1, zh2, zh3, zh4, zh5, zh6, -⟩ := at7 Zh3
        have nh_ := ne_blk Zh3
        have mh_ := Ne.symm nh_
        have lh_ := lt_blk Zh3
        clear kbwL
        go_wp2
        go_ret
        exact ⟨rfl, bwL⟩
      · have ok : (⟨d, i, t, s, q, x, y⟩ : Hdr).ok := ⟨⟨d0, by show d ≤ 63; omega⟩, ⟨i0, i1⟩, ⟨t0, t1⟩, ⟨s0, s1⟩, ⟨q0, q1⟩, ⟨x0, x1⟩, ⟨y0, y1⟩⟩
        have P1 := Lib.hid (fun W => hput_ok d i t s q x y ok b (by omega) W)
        have P2 := Lib.hid (fun W => rput_ok d i t s q x y ok b (by omega) W)
        obtain ⟨k1, k2, k3⟩ := tk_put ok (b := b) (by omega)
        have P3 := Lib.hid (fun W => htake_all (pf ⟨d, i, t, s, q, x, y⟩ b) (by rw [pf_size]; omega) W)
        rw [k1, k2, k3] at P3
        have P4 : Hid (∀ W, Calls Try.prog 27 #[.string (pf ⟨d, i, t, s, q, x, y⟩ b)] W fun e w' => e = .returned (.tuple #[.agg #[.int .u8 d, .int .u16 i, .int .u8 t, .int .u32 s, .int .u32 q, .int .u16 x, .int .u16 y], .string b, .int .i64 0]) ∧ Below W.heap.size W w') := Lib.hid P3.out
        clear P3 k1 k2 k3 ok
        generalize pf ⟨d, i, t, s, q, x, y⟩ b = D at *
        go_enter Try.func5, Try.ntmps5
        go_wp2_with fail
        refine (P1.out _).mono ?_
        rintro e wA ⟨rfl, kbwA⟩
        have bwA : Below w.heap.size w wA := bel_call kbwA (by (repeat' (first | (with_reducible exact B0) | (with_reducible exact Below.refl _ _) | (with_reducible refine below_drewN _ ?_) | (with_reducible refine Below.drew ?_) | (with_reducible refine Below.alloc ?_ (by first | exact Nat.le_refl _ | omega | (have := B0.size; simp; omega) | (simp; done)) _) | (with_reducible refine Below.setCell ?_ (by first | exact Nat.le_refl _ | omega | (have := B0.size; simp; omega) | (simp; done)) _)))) (by first | exact Nat.le_refl _ | omega | (have := B0.size; simp; omega) | (simp; done))
        have Zh1 : wA.heap[w.heap.size]? = some (.cells #[.int .u8 d, .int .u16 i, .int .u8 t, .int .u32 s, .int .u32 q, .int .u16 x, .int .u16 y] 66 (0, 0)) := blk_call kbwA (by (repeat' (first | (with_reducible exact heap_alloc_new _ _) | (with_reducible exact blk_new (by first | (simp; done) | omega)) | (with_reducible refine blk_drew ?_) | (with_reducible apply put7_2) | (with_reducible refine blk_else (by omega) ?_) | (with_reducible refine blk_old ?_))))
        obtain ⟨zh0, zh1, zh2, zh3, zh4, zh5, zh6, -⟩ := at7 Zh1
        have nh_ := ne_blk Zh1
        have mh_ := Ne.symm nh_
        have lh_ := lt_blk Zh1
        clear kbwA
        go_wp2_with fail
        refine (P2.out _).mono ?_
        rintro e wB ⟨rfl, kbwB⟩
        have bwB : Below w.heap.size w wB := bel_call kbwB (by (repeat' (first | (with_reducible exact bwA) | (with_reducible exact Below.refl _ _) | (with_reducible refine below_drewN _ ?_) | (with_reducible refine Below.drew ?_) | (with_reducible refine Below.alloc ?_ (by first | exact Nat.le_refl _ | omega | (have := bwA.size; simp; omega) | (simp; done)) _) | (with_reducible refine Below.setCell ?_ (by first | exact Nat.le_refl _ | omega | (have := bwA.size; simp; omega) | (simp; done)) _)))) (by first | exact Nat.le_refl _ | omega | (have := bwA.size; simp; omega) | (simp; done))
        have Zh2 : wB.heap[w.heap.size]? = some (.cells #[.int .u8 d, .int .u16 i, .int .u8 t, .int .u32 s, .int .u32 q, .int .u16 x, .int .u16 y] 66 (0, 0)) := blk_call kbwB (by (repeat' (first | (with_reducible exact Zh1) | (with_reducible exact heap_alloc_new _ _) | (with_reducible exact blk_new (by first | (simp; done) | omega)) | (with_reducible refine blk_drew ?_) | (with_reducible apply put7_2) | (with_reducible refine blk_else (by omega) ?_) | (with_reducible refine blk_old ?_))))
        clear Zh1 zh0 zh1 zh2 zh3 zh4 zh5 zh6 nh_ mh_ lh_
        obtain ⟨zh0, zh1, zh2, zh3, zh4, zh5, zh6, -⟩ := at7 Zh2
        have nh_ := ne_blk Zh2
        have mh_ := Ne.symm nh_
        have lh_ := lt_blk Zh2
        clear kbwB
        go_wp2_with fail
        refine (P4.out _).mono ?_
        rintro e wC ⟨rfl, kbwC⟩
        have bwC : Below w.heap.size w wC := bel_call kbwC (by (repeat' (first | (with_reducible exact bwB) | (with_reducible exact Below.refl _ _) | (with_reducible refine below_drewN _ ?_) | (with_reducible refine Below.drew ?_) | (with_reducible refine Below.alloc ?_ (by first | exact Nat.le_refl _ | omega | (have := bwB.size; simp; omega) | (simp; done)) _) | (with_reducible refine Below.setCell ?_ (by first | exact Nat.le_refl _ | omega | (have := bwB.size; simp; omega) | (simp; done)) _)))) (by first | exact Nat.le_refl _ | omega | (have := bwB.size; simp; omega) | (simp; done))
        have Zh3 : wC.heap[w.heap.size]? = some (.cells #[.int .u8 d, .int .u16 i, .int .u8 t, .int .u32 s, .int .u32 q, .int .u16 x, .int .u16 y] 66 (0, 0)) := blk_call kbwC (by (repeat' (first | (with_reducible exact Zh2) | (with_reducible exact heap_alloc_new _ _) | (with_reducible exact blk_new (by first | (simp; done) | omega)) | (with_reducible refine blk_drew ?_) | (with_reducible apply put7_2) | (with_reducible refine blk_else (by omega) ?_) | (with_reducible refine blk_old ?_))))
        clear Zh2 zh0 zh1 zh2 zh3 zh4 zh5 zh6 nh_ mh_ lh_
        obtain ⟨zh0, zh1, zh2, zh3, zh4, zh5, zh6, -⟩ := at7 Zh3
        have nh_ := ne_blk Zh3
        have mh_ := Ne.symm nh_
        have lh_ := lt_blk Zh3
        clear kbwC
        go_wp2_with fail
        refine (LV.out _).mono ?_
        rintro e wL ⟨rfl, kbwL⟩
        have bwL : Below w.heap.size w wL := bel_call kbwL (by (repeat' (first | (with_reducible exact bwC) | (with_reducible exact Below.refl _ _) | (with_reducible refine below_drewN _ ?_) | (with_reducible refine Below.drew ?_) | (with_reducible refine Below.alloc ?_ (by first | exact Nat.le_refl _ | omega | (have := bwC.size; simp; omega) | (simp; done)) _) | (with_reducible refine Below.setCell ?_ (by first | exact Nat.le_refl _ | omega | (have := bwC.size; simp; omega) | (simp; done)) _)))) (by first | exact Nat.le_refl _ | omega | (have := bwC.size; simp; omega) | (simp; done))
        have Zh4 : wL.heap[w.heap.size]? = some (.cells #[.int .u8 d, .int .u16 i, .int .u8 t, .int .u32 s, .int .u32 q, .int .u16 x, .int .u16 y] 66 (0, 0)) := blk_call kbwL (by (repeat' (first | (with_reducible exact Zh3) | (with_reducible exact heap_alloc_new _ _) | (with_reducible exact blk_new (by first | (simp; done) | omega)) | (with_reducible refine blk_drew ?_) | (with_reducible apply put7_2) | (with_reducible refine blk_else (by omega) ?_) | (with_reducible refine blk_old ?_))))
        clear Zh3 zh0 zh1 zh2 zh3 zh4 zh5 zh6 nh_ mh_ lh_
        obtain ⟨zh0, zh1, zh2, zh3, zh4, zh5, zh6, -⟩ := at7 Zh4
        have nh_ := ne_blk Zh4
        have mh_ := Ne.symm nh_
        have lh_ := lt_blk Zh4
        clear kbwL
        go_wp2
        go_ret
        exact ⟨rfl, bwL⟩
end Go.Proofs.Ytiaafpemhalmpaa
