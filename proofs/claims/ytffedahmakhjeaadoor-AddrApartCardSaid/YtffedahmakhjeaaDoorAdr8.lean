/-
  Layer 31: a prefix out of a text, and the example, as the program has them. What the library's variables hold is handed on.
-/
import Derived.Test.YtffedahmakhjeaaDoorAdr7
namespace Go.Proofs.YtffedahmakhjeaaDoor
set_option linter.unusedVariables false
set_option linter.unusedSimpArgs false
open Go.ChangeShapes Go.WideShapes Go.ChangeAt Go.RowKit
attribute [-go_sem] run_index_string binOp_string_eql binOp_string_neq run_string_add_if run_slice_string_from_if run_slice_string_to_if
attribute [local go_sem] index_at add_fits slice_from slice_to eql_str neq_str alloc_drewN setCell_drewN

theorem of_list (b : ByteArray) : (⟨b.data.toList.toArray⟩ : ByteArray) = b := by
  cases b; simp
set_option maxRecDepth 100000 in
set_option maxHeartbeats 2000000 in
theorem rp_ok (s b f : ByteArray) (a n : Int) (a0 : 0 ≤ a) (a1 : a ≤ 4294967295) (n0 : 0 ≤ n) (n1 : n ≤ 32) (hs : s.size ≤ 1000000) (hf : f.size ≤ 1000000) (hc : Lib.countByte s.data.toList 47 = 1) (hcut : Lib.cut s.data.toList [47] = (b.data.toList, f.data.toList, true)) (hn : nb f 32 = (n, 0)) (hr : RtP a n) (w : World) (H : Held31 w)
    (RD : Hid (∀ W, Below w.heap.size w W → Calls Tryd.prog 8 #[.string b] W fun e w' => e = .returned (.tuple #[.int .u32 a, .int .i64 0]) ∧ Below W.heap.size W w')) :
    Calls Tryd.prog 10 #[.string s] w fun e w' => e = .returned (.tuple #[.agg #[.int .u32 a, .int .i64 n], .int .i64 0]) ∧ Below w.heap.size w w' := by
  have CN : Hid (∀ W, Below w.heap.size w W → Calls Tryd.prog 24 #[.string s, .string ⟨#[47]⟩] W fun e w' => e = .returned (.int .i64 1) ∧ Below W.heap.size W w') := Lib.hid (fun W _ => by
    have := Tryd.strings_Count_one s 47 W
    rw [hc] at this
    exact this.mono fun _ _ ⟨h1, h2⟩ => ⟨h1, by rw [h2]; exact Below.refl _ _⟩)
  have CT : Hid (∀ W, Below w.heap.size w W → Calls Tryd.prog 30 #[.string s, .string ⟨#[47]⟩] W fun e w' => e = .returned (.tuple #[.string b, .string f, .bool true]) ∧ Below W.heap.size W w') := Lib.hid (fun W hW => by
    obtain ⟨m, hm⟩ := (H.below hW).max
    have := Tryd.strings_Cut s ⟨#[47]⟩ m W (by omega) hm
    rw [show ((⟨#[47]⟩ : ByteArray).data.toList) = [47] from rfl, hcut] at this
    dsimp only at this
    rw [of_list, of_list] at this
    exact this.mono fun _ _ ⟨h1, n, h2⟩ => ⟨h1, by rw [h2]; exact below_drewN _ (Below.refl _ _)⟩)
  have NU : Hid (∀ W, Below w.heap.size w W → Calls Tryd.prog 26 #[.string f, .int .u64 32] W fun e w' => e = .returned (.tuple #[.int .u64 n, .int .i64 0]) ∧ Below W.heap.size W w') := Lib.hid (fun W hW => by
    have := number_any f hf 32 W (H.below hW)
    rw [hn] at this
    exact this)
  have RT : Hid (∀ W, Below w.heap.size w W → Calls Tryd.prog 16 #[.agg #[.int .u32 a, .int .i64 n]] W fun e w' => e = .returned (.bool true) ∧ Below W.heap.size W w') := Lib.hid (fun W _ => by
    have := right_any a n a0 a1 (by omega) (by omega) W
    rw [decide_eq_true hr] at this
    exact this)
  have e1 : IntKind.i64.wrap n = n := by rw [IntKind.wrap_i64]; omega
  have B0 : Below w.heap.size w w := Below.refl _ _
  clear hc hcut hn hr H
  go_enter Tryd.func10, Tryd.ntmps10
  go_wp2_with fail
  refine (CN.out _ (by (repeat' (first | (with_reducible exact B0) | (with_reducible exact Below.refl _ _) | (with_reducible refine below_drewN _ ?_) | (with_reducible refine Below.drew ?_) | (with_reducible refine Below.alloc ?_ (by first | exact Nat.le_refl _ | omega | (have := B0.size; simp; omega) | (simp; done)) _) | (with_reducible refine Below.setCell ?_ (by first | exact Nat.le_refl _ | omega | (have := B0.size; simp; omega) | (simp; done)) _))))).mono ?_
  rintro e wA ⟨rfl, kbwA⟩
  have bwA : Below w.heap.size w wA := bel_call kbwA (by (repeat' (first | (with_reducible exact B0) | (with_reducible exact Below.refl _ _) | (with_reducible refine below_drewN _ ?_) | (with_reducible refine Below.drew ?_) | (with_reducible refine Below.alloc ?_ (by first | exact Nat.le_refl _ | omega | (have := B0.size; simp; omega) | (simp; done)) _) | (with_reducible refine Below.setCell ?_ (by first | exact Nat.le_refl _ | omega | (have := B0.size; simp; omega) | (simp; done)) _)))) (by first | exact Nat.le_refl _ | omega | (have := B0.size; simp; omega) | (simp; done))
  have Zr1 : wA.heap[w.heap.size]? = some (.cells #[.int .u32 0, .int .i64 0] 30 (0, 0)) := blk_call kbwA (by (repeat' (first | (with_reducible exact heap_alloc_new _ _) | (with_reducible exact blk_new (by first | (simp; done) | omega)) | (with_reducible refine blk_drew ?_) | (with_reducible apply put4_0) | (with_reducible apply put4_1) | (with_reducible apply put4_2) | (with_reducible apply put4_3) | (with_reducible apply put2_0) | (with_reducible apply put2_1) | (with_reducible refine blk_else (by omega) ?_) | (with_reducible refine blk_old ?_))))
  obtain ⟨zr0, zr1, fr0, fr1⟩ := at2 Zr1
  have nr_ := ne_blk Zr1
  have mr_ := Ne.symm nr_
  have lr_ := lt_blk Zr1
  clear kbwA
  go_wp2_with fail
  refine (CT.out _ (by (repeat' (first | (with_reducible exact bwA) | (with_reducible exact Below.refl _ _) | (with_reducible refine below_drewN _ ?_) | (with_reducible refine Below.drew ?_) | (with_reducible refine Below.alloc ?_ (by first | exact Nat.le_refl _ | omega | (have := bwA.size; simp; omega) | (simp; done)) _) | (with_reducible refine Below.setCell ?_ (by first | exact Nat.le_refl _ | omega | (have := bwA.size; simp; omega) | (simp; done)) _))))).mono ?_
  rintro e wB ⟨rfl, kbwB⟩
  have bwB : Below w.heap.size w wB := bel_call kbwB (by (repeat' (first | (with_reducible exact bwA) | (with_reducible exact Below.refl _ _) | (with_reducible refine below_drewN _ ?_) | (with_reducible refine Below.drew ?_) | (with_reducible refine Below.alloc ?_ (by first | exact Nat.le_refl _ | omega | (have := bwA.size; simp; omega) | (simp; done)) _) | (with_reducible refine Below.setCell ?_ (by first | exact Nat.le_refl _ | omega | (have := bwA.size; simp; omega) | (simp; done)) _)))) (by first | exact Nat.le_refl _ | omega | (have := bwA.size; simp; omega) | (simp; done))
  have Zr2 : wB.heap[w.heap.size]? = some (.cells #[.int .u32 0, .int .i64 0] 30 (0, 0)) := blk_call kbwB (by (repeat' (first | (with_reducible exact Zr1) | (with_reducible exact heap_alloc_new _ _) | (with_reducible exact blk_new (by first | (simp; done) | omega)) | (with_reducible refine blk_drew ?_) | (with_reducible apply put4_0) | (with_reducible apply put4_1) | (with_reducible apply put4_2) | (with_reducible apply put4_3) | (with_reducible apply put2_0) | (with_reducible apply put2_1) | (with_reducible refine blk_else (by omega) ?_) | (with_reducible refine blk_old ?_))))
  clear Zr1 zr0 zr1 nr_ mr_ lr_ fr0 fr1
  obtain ⟨zr0, zr1, fr0, fr1⟩ := at2 Zr2
  have nr_ := ne_blk Zr2
  have mr_ := Ne.symm nr_
  have lr_ := lt_blk Zr2
  clear kbwB
  go_wp2_with fail
  refine (RD.out _ (by (repeat' (first | (with_reducible exact bwB) | (with_reducible exact Below.refl _ _) | (with_reducible refine below_drewN _ ?_) | (with_reducible refine Below.drew ?_) | (with_reducible refine Below.alloc ?_ (by first | exact Nat.le_refl _ | omega | (have := bwB.size; simp; omega) | (simp; done)) _) | (with_reducible refine Below.setCell ?_ (by first | exact Nat.le_refl _ | omega | (have := bwB.size; simp; omega) | (simp; done)) _))))).mono ?_
  rintro e wC ⟨rfl, kbwC⟩
  have bwC : Below w.heap.size w wC := bel_call kbwC (by (repeat' (first | (with_reducible exact bwB) | (with_reducible exact Below.refl _ _) | (with_reducible refine below_drewN _ ?_) | (with_reducible refine Below.drew ?_) | (with_reducible refine Below.alloc ?_ (by first | exact Nat.le_refl _ | omega | (have := bwB.size; simp; omega) | (simp; done)) _) | (with_reducible refine Below.setCell ?_ (by first | exact Nat.le_refl _ | omega | (have := bwB.size; simp; omega) | (simp; done)) _)))) (by first | exact Nat.le_refl _ | omega | (have := bwB.size; simp; omega) | (simp; done))
  have Zr3 : wC.heap[w.heap.size]? = some (.cells #[.int .u32 0, .int .i64 0] 30 (0, 0)) := blk_call kbwC (by (repeat' (first | (with_reducible exact Zr2) | (with_reducible exact heap_alloc_new _ _) | (with_reducible exact blk_new (by first | (simp; done) | omega)) | (with_reducible refine blk_drew ?_) | (with_reducible apply put4_0) | (with_reducible apply put4_1) | (with_reducible apply put4_2) | (with_reducible apply put4_3) | (with_reducible apply put2_0) | (with_reducible apply put2_1) | (with_reducible refine blk_else (by omega) ?_) | (with_reducible refine blk_old ?_))))
  clear Zr2 zr0 zr1 nr_ mr_ lr_ fr0 fr1
  obtain ⟨zr0, zr1, fr0, fr1⟩ := at2 Zr3
  have nr_ := ne_blk Zr3
  have mr_ := Ne.symm nr_
  have lr_ := lt_blk Zr3
  clear kbwC
  go_wp2_with fail
  refine (NU.out _ (by (repeat' (first | (with_reducible exact bwC) | (with_reducible exact Below.refl _ _) | (with_reducible refine below_drewN _ ?_) | (with_reducible refine Below.drew ?_) | (with_reducible refine Below.alloc ?_ (by first | exact Nat.le_refl _ | omega | (have := bwC.size; simp; omega) | (simp; done)) _) | (with_reducible refine Below.setCell ?_ (by first | exact Nat.le_refl _ | omega | (have := bwC.size; simp; omega) | (simp; done)) _))))).mono ?_
  rintro e wD ⟨rfl, kbwD⟩
  have bwD : Below w.heap.size w wD := bel_call kbwD (by (repeat' (first | (with_reducible exact bwC) | (with_reducible exact Below.refl _ _) | (with_reducible refine below_drewN _ ?_) | (with_reducible refine Below.drew ?_) | (with_reducible refine Below.alloc ?_ (by first | exact Nat.le_refl _ | omega | (have := bwC.size; simp; omega) | (simp; done)) _) | (with_reducible refine Below.setCell ?_ (by first | exact Nat.le_refl _ | omega | (have := bwC.size; simp; omega) | (simp; done)) _)))) (by first | exact Nat.le_refl _ | omega | (have := bwC.size; simp; omega) | (simp; done))
  have Zr4 : wD.heap[w.heap.size]? = some (.cells #[.int .u32 0, .int .i64 0] 30 (0, 0)) := blk_call kbwD (by (repeat' (first | (with_reducible exact Zr3) | (with_reducible exact heap_alloc_new _ _) | (with_reducible exact blk_new (by first | (simp; done) | omega)) | (with_reducible refine blk_drew ?_) | (with_reducible apply put4_0) | (with_reducible apply put4_1) | (with_reducible apply put4_2) | (with_reducible apply put4_3) | (with_reducible apply put2_0) | (with_reducible apply put2_1) | (with_reducible refine blk_else (by omega) ?_) | (with_reducible refine blk_old ?_))))
  clear Zr3 zr0 zr1 nr_ mr_ lr_ fr0 fr1
  obtain ⟨zr0, zr1, fr0, fr1⟩ := at2 Zr4
  have nr_ := ne_blk Zr4
  have mr_ := Ne.symm nr_
  have lr_ := lt_blk Zr4
  clear kbwD
  go_wp2_with fail
  refine (RT.out _ (by (repeat' (first | (with_reducible exact bwD) | (with_reducible exact Below.refl _ _) | (with_reducible refine below_drewN _ ?_) | (with_reducible refine Below.drew ?_) | (with_reducible refine Below.alloc ?_ (by first | exact Nat.le_refl _ | omega | (have := bwD.size; simp; omega) | (simp; done)) _) | (with_reducible refine Below.setCell ?_ (by first | exact Nat.le_refl _ | omega | (have := bwD.size; simp; omega) | (simp; done)) _))))).mono ?_
  rintro e wE ⟨rfl, kbwE⟩
  have bwE : Below w.heap.size w wE := bel_call kbwE (by (repeat' (first | (with_reducible exact bwD) | (with_reducible exact Below.refl _ _) | (with_reducible refine below_drewN _ ?_) | (with_reducible refine Below.drew ?_) | (with_reducible refine Below.alloc ?_ (by first | exact Nat.le_refl _ | omega | (have := bwD.size; simp; omega) | (simp; done)) _) | (with_reducible refine Below.setCell ?_ (by first | exact Nat.le_refl _ | omega | (have := bwD.size; simp; omega) | (simp; done)) _)))) (by first | exact Nat.le_refl _ | omega | (have := bwD.size; simp; omega) | (simp; done))
  have Zr5 : wE.heap[w.heap.size]? = some (.cells #[.int .u32 0, .int .i64 0] 30 (0, 0)) := blk_call kbwE (by (repeat' (first | (with_reducible exact Zr4) | (with_reducible exact heap_alloc_new _ _) | (with_reducible exact blk_new (by first | (simp; done) | omega)) | (with_reducible refine blk_drew ?_) | (with_reducible apply put4_0) | (with_reducible apply put4_1) | (with_reducible apply put4_2) | (with_reducible apply put4_3) | (with_reducible apply put2_0) | (with_reducible apply put2_1) | (with_reducible refine blk_else (by omega) ?_) | (with_reducible refine blk_old ?_))))
  have Zq5 : wE.heap[wD.heap.size]? = some (.cells #[.int .u32 a, .int .i64 n] 30 (0, 0)) := blk_call kbwE (by (repeat' (first | (with_reducible exact heap_alloc_new _ _) | (with_reducible exact blk_new (by first | (simp; done) | omega)) | (with_reducible refine blk_drew ?_) | (with_reducible apply put4_0) | (with_reducible apply put4_1) | (with_reducible apply put4_2) | (with_reducible apply put4_3) | (with_reducible apply put2_0) | (with_reducible apply put2_1) | (with_reducible refine blk_else (by omega) ?_) | (with_reducible refine blk_old ?_))))
  clear Zr4 zr0 zr1 nr_ mr_ lr_ fr0 fr1
  obtain ⟨zr0, zr1, fr0, fr1⟩ := at2 Zr5
  have nr_ := ne_blk Zr5
  have mr_ := Ne.symm nr_
  have lr_ := lt_blk Zr5
  obtain ⟨zq0, zq1, -⟩ := at2 Zq5
  have nq_ := ne_blk Zq5
  have mq_ := Ne.symm nq_
  have lq_ := lt_blk Zq5
  clear kbwE
  have ZR := Lib.hid Zr5
  go_wp2
  (try simp only [Exit.inBlock, Exit.then])
  refine bp_gen ?_
  intro vz hvz
  have P : vz.heap[w.heap.size]? = some (.cells #[.int .u32 a, .int .i64 n] 30 (0, 0)) := by
    rw [hvz]
    exact put2_1 (put2_0 ZR.out)
  have Q : Below w.heap.size w vz := by
    rw [hvz]
    exact Below.setCell (Below.setCell bwE (p := ⟨w.heap.size, 0, none⟩) (Nat.le_refl _) _) (p := ⟨w.heap.size, 1, none⟩) (Nat.le_refl _) _
  clear hvz
  obtain ⟨y0, y1, -⟩ := at2 P
  refine bodyPost_ret (v := .tuple #[.agg #[.int .u32 a, .int .i64 n], .int .i64 0]) (by simp [results, Tryd.results10, go_sem, y0, y1]) rfl ⟨rfl, Q⟩
set_option maxRecDepth 100000 in
set_option maxHeartbeats 2000000 in
theorem rp_no (s b f : ByteArray) (a n : Int) (a0 : 0 ≤ a) (a1 : a ≤ 4294967295) (n0 : 0 ≤ n) (n1 : n ≤ 32) (hs : s.size ≤ 1000000) (hf : f.size ≤ 1000000) (hc : Lib.countByte s.data.toList 47 = 1) (hcut : Lib.cut s.data.toList [47] = (b.data.toList, f.data.toList, true)) (hn : nb f 32 = (n, 0)) (hr : ¬ RtP a n) (w : World) (H : Held31 w)
    (RD : Hid (∀ W, Below w.heap.size w W → Calls Tryd.prog 8 #[.string b] W fun e w' => e = .returned (.tuple #[.int .u32 a, .int .i64 0]) ∧ Below W.heap.size W w')) :
    Calls Tryd.prog 10 #[.string s] w fun e w' => e = .returned (.tuple #[.agg #[.int .u32 0, .int .i64 0], .int .i64 6]) ∧ Below w.heap.size w w' := by
  have CN : Hid (∀ W, Below w.heap.size w W → Calls Tryd.prog 24 #[.string s, .string ⟨#[47]⟩] W fun e w' => e = .returned (.int .i64 1) ∧ Below W.heap.size W w') := Lib.hid (fun W _ => by
    have := Tryd.strings_Count_one s 47 W
    rw [hc] at this
    exact this.mono fun _ _ ⟨h1, h2⟩ => ⟨h1, by rw [h2]; exact Below.refl _ _⟩)
  have CT : Hid (∀ W, Below w.heap.size w W → Calls Tryd.prog 30 #[.string s, .string ⟨#[47]⟩] W fun e w' => e = .returned (.tuple #[.string b, .string f, .bool true]) ∧ Below W.heap.size W w') := Lib.hid (fun W hW => by
    obtain ⟨m, hm⟩ := (H.below hW).max
    have := Tryd.strings_Cut s ⟨#[47]⟩ m W (by omega) hm
    rw [show ((⟨#[47]⟩ : ByteArray).data.toList) = [47] from rfl, hcut] at this
    dsimp only at this
    rw [of_list, of_list] at this
    exact this.mono fun _ _ ⟨h1, n, h2⟩ => ⟨h1, by rw [h2]; exact below_drewN _ (Below.refl _ _)⟩)
  have NU : Hid (∀ W, Below w.heap.size w W → Calls Tryd.prog 26 #[.string f, .int .u64 32] W fun e w' => e = .returned (.tuple #[.int .u64 n, .int .i64 0]) ∧ Below W.heap.size W w') := Lib.hid (fun W hW => by
    have := number_any f hf 32 W (H.below hW)
    rw [hn] at this
    exact this)
  have RT : Hid (∀ W, Below w.heap.size w W → Calls Tryd.prog 16 #[.agg #[.int .u32 a, .int .i64 n]] W fun e w' => e = .returned (.bool false) ∧ Below W.heap.size W w') := Lib.hid (fun W _ => by
    have := right_any a n a0 a1 (by omega) (by omega) W
    rw [decide_eq_false hr] at this
    exact this)
  have e1 : IntKind.i64.wrap n = n := by rw [IntKind.wrap_i64]; omega
  have B0 : Below w.heap.size w w := Below.refl _ _
  clear hc hcut hn hr H
  go_enter Tryd.func10, Tryd.ntmps10
  go_wp2_with fail
  refine (CN.out _ (by (repeat' (first | (with_reducible exact B0) | (with_reducible exact Below.refl _ _) | (with_reducible refine below_drewN _ ?_) | (with_reducible refine Below.drew ?_) | (with_reducible refine Below.alloc ?_ (by first | exact Nat.le_refl _ | omega | (have := B0.size; simp; omega) | (simp; done)) _) | (with_reducible refine Below.setCell ?_ (by first | exact Nat.le_refl _ | omega | (have := B0.size; simp; omega) | (simp; done)) _))))).mono ?_
  rintro e wA ⟨rfl, kbwA⟩
  have bwA : Below w.heap.size w wA := bel_call kbwA (by (repeat' (first | (with_reducible exact B0) | (with_reducible exact Below.refl _ _) | (with_reducible refine below_drewN _ ?_) | (with_reducible refine Below.drew ?_) | (with_reducible refine Below.alloc ?_ (by first | exact Nat.le_refl _ | omega | (have := B0.size; simp; omega) | (simp; done)) _) | (with_reducible refine Below.setCell ?_ (by first | exact Nat.le_refl _ | omega | (have := B0.size; simp; omega) | (simp; done)) _)))) (by first | exact Nat.le_refl _ | omega | (have := B0.size; simp; omega) | (simp; done))
  have Zr1 : wA.heap[w.heap.size]? = some (.cells #[.int .u32 0, .int .i64 0] 30 (0, 0)) := blk_call kbwA (by (repeat' (first | (with_reducible exact heap_alloc_new _ _) | (with_reducible exact blk_new (by first | (simp; done) | omega)) | (with_reducible refine blk_drew ?_) | (with_reducible apply put4_0) | (with_reducible apply put4_1) | (with_reducible apply put4_2) | (with_reducible apply put4_3) | (with_reducible apply put2_0) | (with_reducible apply put2_1) | (with_reducible refine blk_else (by omega) ?_) | (with_reducible refine blk_old ?_))))
  obtain ⟨zr0, zr1, fr0, fr1⟩ := at2 Zr1
  have nr_ := ne_blk Zr1
  have mr_ := Ne.symm nr_
  have lr_ := lt_blk Zr1
  clear kbwA
  go_wp2_with fail
  refine (CT.out _ (by (repeat' (first | (with_reducible exact bwA) | (with_reducible exact Below.refl _ _) | (with_reducible refine below_drewN _ ?_) | (with_reducible refine Below.drew ?_) | (with_reducible refine Below.alloc ?_ (by first | exact Nat.le_refl _ | omega | (have := bwA.size; simp; omega) | (simp; done)) _) | (with_reducible refine Below.setCell ?_ (by first | exact Nat.le_refl _ | omega | (have := bwA.size; simp; omega) | (simp; done)) _))))).mono ?_
  rintro e wB ⟨rfl, kbwB⟩
  have bwB : Below w.heap.size w wB := bel_call kbwB (by (repeat' (first | (with_reducible exact bwA) | (with_reducible exact Below.refl _ _) | (with_reducible refine below_drewN _ ?_) | (with_reducible refine Below.drew ?_) | (with_reducible refine Below.alloc ?_ (by first | exact Nat.le_refl _ | omega | (have := bwA.size; simp; omega) | (simp; done)) _) | (with_reducible refine Below.setCell ?_ (by first | exact Nat.le_refl _ | omega | (have := bwA.size; simp; omega) | (simp; done)) _)))) (by first | exact Nat.le_refl _ | omega | (have := bwA.size; simp; omega) | (simp; done))
  have Zr2 : wB.heap[w.heap.size]? = some (.cells #[.int .u32 0, .int .i64 0] 30 (0, 0)) := blk_call kbwB (by (repeat' (first | (with_reducible exact Zr1) | (with_reducible exact heap_alloc_new _ _) | (with_reducible exact blk_new (by first | (simp; done) | omega)) | (with_reducible refine blk_drew ?_) | (with_reducible apply put4_0) | (with_reducible apply put4_1) | (with_reducible apply put4_2) | (with_reducible apply put4_3) | (with_reducible apply put2_0) | (with_reducible apply put2_1) | (with_reducible refine blk_else (by omega) ?_) | (with_reducible refine blk_old ?_))))
  clear Zr1 zr0 zr1 nr_ mr_ lr_ fr0 fr1
  obtain ⟨zr0, zr1, fr0, fr1⟩ := at2 Zr2
  have nr_ := ne_blk Zr2
  have mr_ := Ne.symm nr_
  have lr_ := lt_blk Zr2
  clear kbwB
  go_wp2_with fail
  refine (RD.out _ (by (repeat' (first | (with_reducible exact bwB) | (with_reducible exact Below.refl _ _) | (with_reducible refine below_drewN _ ?_) | (with_reducible refine Below.drew ?_) | (with_reducible refine Below.alloc ?_ (by first | exact Nat.le_refl _ | omega | (have := bwB.size; simp; omega) | (simp; done)) _) | (with_reducible refine Below.setCell ?_ (by first | exact Nat.le_refl _ | omega | (have := bwB.size; simp; omega) | (simp; done)) _))))).mono ?_
  rintro e wC ⟨rfl, kbwC⟩
  have bwC : Below w.heap.size w wC := bel_call kbwC (by (repeat' (first | (with_reducible exact bwB) | (with_reducible exact Below.refl _ _) | (with_reducible refine below_drewN _ ?_) | (with_reducible refine Below.drew ?_) | (with_reducible refine Below.alloc ?_ (by first | exact Nat.le_refl _ | omega | (have := bwB.size; simp; omega) | (simp; done)) _) | (with_reducible refine Below.setCell ?_ (by first | exact Nat.le_refl _ | omega | (have := bwB.size; simp; omega) | (simp; done)) _)))) (by first | exact Nat.le_refl _ | omega | (have := bwB.size; simp; omega) | (simp; done))
  have Zr3 : wC.heap[w.heap.size]? = some (.cells #[.int .u32 0, .int .i64 0] 30 (0, 0)) := blk_call kbwC (by (repeat' (first | (with_reducible exact Zr2) | (with_reducible exact heap_alloc_new _ _) | (with_reducible exact blk_new (by first | (simp; done) | omega)) | (with_reducible refine blk_drew ?_) | (with_reducible apply put4_0) | (with_reducible apply put4_1) | (with_reducible apply put4_2) | (with_reducible apply put4_3) | (with_reducible apply put2_0) | (with_reducible apply put2_1) | (with_reducible refine blk_else (by omega) ?_) | (with_reducible refine blk_old ?_))))
  clear Zr2 zr0 zr1 nr_ mr_ lr_ fr0 fr1
  obtain ⟨zr0, zr1, fr0, fr1⟩ := at2 Zr3
  have nr_ := ne_blk Zr3
  have mr_ := Ne.symm nr_
  have lr_ := lt_blk Zr3
  clear kbwC
  go_wp2_with fail
  refine (NU.out _ (by (repeat' (first | (with_reducible exact bwC) | (with_reducible exact Below.refl _ _) | (with_reducible refine below_drewN _ ?_) | (with_reducible refine Below.drew ?_) | (with_reducible refine Below.alloc ?_ (by first | exact Nat.le_refl _ | omega | (have := bwC.size; simp; omega) | (simp; done)) _) | (with_reducible refine Below.setCell ?_ (by first | exact Nat.le_refl _ | omega | (have := bwC.size; simp; omega) | (simp; done)) _))))).mono ?_
  rintro e wD ⟨rfl, kbwD⟩
  have bwD : Below w.heap.size w wD := bel_call kbwD (by (repeat' (first | (with_reducible exact bwC) | (with_reducible exact Below.refl _ _) | (with_reducible refine below_drewN _ ?_) | (with_reducible refine Below.drew ?_) | (with_reducible refine Below.alloc ?_ (by first | exact Nat.le_refl _ | omega | (have := bwC.size; simp; omega) | (simp; done)) _) | (with_reducible refine Below.setCell ?_ (by first | exact Nat.le_refl _ | omega | (have := bwC.size; simp; omega) | (simp; done)) _)))) (by first | exact Nat.le_refl _ | omega | (have := bwC.size; simp; omega) | (simp; done))
  have Zr4 : wD.heap[w.heap.size]? = some (.cells #[.int .u32 0, .int .i64 0] 30 (0, 0)) := blk_call kbwD (by (repeat' (first | (with_reducible exact Zr3) | (with_reducible exact heap_alloc_new _ _) | (with_reducible exact blk_new (by first | (simp; done) | omega)) | (with_reducible refine blk_drew ?_) | (with_reducible apply put4_0) | (with_reducible apply put4_1) | (with_reducible apply put4_2) | (with_reducible apply put4_3) | (with_reducible apply put2_0) | (with_reducible apply put2_1) | (with_reducible refine blk_else (by omega) ?_) | (with_reducible refine blk_old ?_))))
  clear Zr3 zr0 zr1 nr_ mr_ lr_ fr0 fr1
  obtain ⟨zr0, zr1, fr0, fr1⟩ := at2 Zr4
  have nr_ := ne_blk Zr4
  have mr_ := Ne.symm nr_
  have lr_ := lt_blk Zr4
  clear kbwD
  go_wp2_with fail
  refine (RT.out _ (by (repeat' (first | (with_reducible exact bwD) | (with_reducible exact Below.refl _ _) | (with_reducible refine below_drewN _ ?_) | (with_reducible refine Below.drew ?_) | (with_reducible refine Below.alloc ?_ (by first | exact Nat.le_refl _ | omega | (have := bwD.size; simp; omega) | (simp; done)) _) | (with_reducible refine Below.setCell ?_ (by first | exact Nat.le_refl _ | omega | (have := bwD.size; simp; omega) | (simp; done)) _))))).mono ?_
  rintro e wE ⟨rfl, kbwE⟩
  have bwE : Below w.heap.size w wE := bel_call kbwE (by (repeat' (first | (with_reducible exact bwD) | (with_reducible exact Below.refl _ _) | (with_reducible refine below_drewN _ ?_) | (with_reducible refine Below.drew ?_) | (with_reducible refine Below.alloc ?_ (by first | exact Nat.le_refl _ | omega | (have := bwD.size; simp; omega) | (simp; done)) _) | (with_reducible refine Below.setCell ?_ (by first | exact Nat.le_refl _ | omega | (have := bwD.size; simp; omega) | (simp; done)) _)))) (by first | exact Nat.le_refl _ | omega | (have := bwD.size; simp; omega) | (simp; done))
  have Zr5 : wE.heap[w.heap.size]? = some (.cells #[.int .u32 0, .int .i64 0] 30 (0, 0)) := blk_call kbwE (by (repeat' (first | (with_reducible exact Zr4) | (with_reducible exact heap_alloc_new _ _) | (with_reducible exact blk_new (by first | (simp; done) | omega)) | (with_reducible refine blk_drew ?_) | (with_reducible apply put4_0) | (with_reducible apply put4_1) | (with_reducible apply put4_2) | (with_reducible apply put4_3) | (with_reducible apply put2_0) | (with_reducible apply put2_1) | (with_reducible refine blk_else (by omega) ?_) | (with_reducible refine blk_old ?_))))
  have Zq5 : wE.heap[wD.heap.size]? = some (.cells #[.int .u32 a, .int .i64 n] 30 (0, 0)) := blk_call kbwE (by (repeat' (first | (with_reducible exact heap_alloc_new _ _) | (with_reducible exact blk_new (by first | (simp; done) | omega)) | (with_reducible refine blk_drew ?_) | (with_reducible apply put4_0) | (with_reducible apply put4_1) | (with_reducible apply put4_2) | (with_reducible apply put4_3) | (with_reducible apply put2_0) | (with_reducible apply put2_1) | (with_reducible refine blk_else (by omega) ?_) | (with_reducible refine blk_old ?_))))
  clear Zr4 zr0 zr1 nr_ mr_ lr_ fr0 fr1
  obtain ⟨zr0, zr1, fr0, fr1⟩ := at2 Zr5
  have nr_ := ne_blk Zr5
  have mr_ := Ne.symm nr_
  have lr_ := lt_blk Zr5
  obtain ⟨zq0, zq1, -⟩ := at2 Zq5
  have nq_ := ne_blk Zq5
  have mq_ := Ne.symm nq_
  have lq_ := lt_blk Zq5
  clear kbwE
  have ZR := Lib.hid Zr5
  go_wp2
  (try simp only [Exit.inBlock, Exit.then])
  refine bp_gen ?_
  intro vz hvz
  have P : vz.heap[w.heap.size]? = some (.cells #[.int .u32 0, .int .i64 0] 30 (0, 0)) := by
    rw [hvz]
    exact put2_1 (put2_0 ZR.out)
  have Q : Below w.heap.size w vz := by
    rw [hvz]
    exact Below.setCell (Below.setCell bwE (p := ⟨w.heap.size, 0, none⟩) (Nat.le_refl _) _) (p := ⟨w.heap.size, 1, none⟩) (Nat.le_refl _) _
  clear hvz
  obtain ⟨y0, y1, -⟩ := at2 P
  refine bodyPost_ret (v := .tuple #[.agg #[.int .u32 0, .int .i64 0], .int .i64 6]) (by simp [results, Tryd.results10, go_sem, y0, y1]) rfl ⟨rfl, Q⟩
end Go.Proofs.YtffedahmakhjeaaDoor
