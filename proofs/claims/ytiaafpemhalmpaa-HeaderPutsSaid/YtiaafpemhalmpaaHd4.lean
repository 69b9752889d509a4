/-
  Layer 33: what the program takes, marks and hops of any bytes. No condition but that a string is no longer than one can be.
-/
import Derived.Test.YtiaafpemhalmpaaHd3
import Derived.Deep.CutBlock
import Derived.Deep.DeepCutAuto
namespace Go.Proofs.Ytiaafpemhalmpaa
set_option linter.unusedVariables false
set_option linter.unusedSimpArgs false
open Go.ChangeShapes Go.WideShapes Go.ChangeAt Go.RowKit
attribute [-go_sem] run_index_string binOp_string_eql binOp_string_neq run_string_add_if run_slice_string_from_if run_slice_string_to_if
attribute [local go_sem] index_at add_fits slice_from slice_to eql_str neq_str alloc_drewN setCell_drewN

theorem drewN_heap (w : World) (n : Nat) : (w.drewN n).heap = w.heap := rfl
def Hdr.vals (h : Hdr) : Value := .agg #[.int .u8 h.d, .int .u16 h.i, .int .u8 h.t, .int .u32 h.s, .int .u32 h.q, .int .u16 h.x, .int .u16 h.y]
/-- The header that is taken of bytes; none of bytes that are no datagram. -/
def tkH (S : ByteArray) : Hdr := if tke S = 0 then rdh S else Hdr.nil
def tkB (S : ByteArray) : ByteArray := if tke S = 0 then S.extract 28 S.size else ⟨#[]⟩
theorem half10 (S : ByteArray) (h28 : 28 ≤ S.size) (hs : S.size ≤ 140737488355328) (w : World) :
    Calls Try.prog 54 #[.string S, .int .i64 10] w fun e w' => e = .returned (.int .u16 (ckh S)) ∧ Below w.heap.size w w' :=
  (half_at S 10 (by omega) hs w).mono fun e w' ⟨h1, n, h2⟩ => ⟨h1, by rw [h2]; exact below_drewN _ (Below.refl _ _)⟩
set_option maxRecDepth 100000 in
set_option maxHeartbeats 1000000 in
theorem htake_short (S : ByteArray) (h28 : S.size < 28) (w : World) :
    Calls Try.prog 27 #[.string S] w fun e w' => e = .returned (.tuple #[Hdr.nil.vals, .string ⟨#[]⟩, .int .i64 2]) ∧ Below w.heap.size w w' := by
  have h1 : (S.size : Int) < 28 := by omega
  go_enter Try.func27, Try.ntmps27
  go_wp2
  (try simp only [Exit.inBlock, Exit.then])
  refine bp_gen ?_
  intro vz hvz
  have P : vz.heap[w.heap.size]? = some (.cells #[.int .u8 0, .int .u16 0, .int .u8 0, .int .u32 0, .int .u32 0, .int .u16 0, .int .u16 0] 66 (0, 0)) := by rw [hvz]; exact heap_alloc_new _ _
  have Q : Below w.heap.size w vz := by rw [hvz]; exact (Below.refl _ w).alloc (Nat.le_refl _) _
  clear hvz
  obtain ⟨y0, y1, y2, y3, y4, y5, y6, -⟩ := at7 P
  refine bodyPost_ret (v := .tuple #[Hdr.nil.vals, .string ⟨#[]⟩, .int .i64 2]) (by simp [results, Try.results27, go_sem, y0, y1, y2, y3, y4, y5, y6, Hdr.vals, Hdr.nil]) rfl ⟨rfl, Q⟩
set_option maxRecDepth 100000 in
set_option maxHeartbeats 2000000 in
theorem htake_any (S : ByteArray) (h28 : 28 ≤ S.size) (hs : S.size ≤ 140737488355328) (w : World) :
    Calls Try.prog 27 #[.string S] w fun e w' => e = .returned (.tuple #[(tkH S).vals, .string (tkB S), .int .i64 (tke S)]) ∧ Below w.heap.size w w' := by
  have RD := Lib.hid (fun W => hread_any S h28 hs W)
  have HF := Lib.hid (fun W => half10 S h28 hs W)
  have OK := rdh_ok S
  have C := ckh_bd S
  have BZ := Lib.hid (body_size S)
  have i28 : InS S 28 := ⟨by omega⟩
  have k28 : Int.toNat 28 = 28 := rfl
  have g1 : ¬ (S.size : Int) < 28 := by omega
  have E0 := Lib.hid (show tke S = if ¬ Fmh S then 3 else if ckh S ≠ cs (rdh S) (S.extract 28 S.size).size then 11 else 0 by unfold tke; rw [if_neg (by omega)])
  have FM := Lib.hid (show Fmh S ↔ (S.extract 28 S.size).size ≤ 65507 ∧ S.extract 0 28 = hd (rdh S) (S.extract 28 S.size).size (ckh S) from Iff.rfl)
  have TH := Lib.hid (show tkH S = if tke S = 0 then rdh S else Hdr.nil from rfl)
  have TB := Lib.hid (show tkB S = if tke S = 0 then S.extract 28 S.size else ⟨#[]⟩ from rfl)
  generalize hR : rdh S = H at *
  clear hR
  obtain ⟨d, i, t, s, q, x, y⟩ := H
  dsimp only at RD
  generalize ckh S = c at *
  generalize hB : S.extract 28 S.size = B at *
  clear h28
  go_enter Try.func27, Try.ntmps27
  go_upto_region 3 with (fail)
  obtain ⟨W1, hW1⟩ : ∃ W1, W1 = w.alloc (.cells #[.int .u8 0, .int .u16 0, .int .u8 0, .int .u32 0, .int .u32 0, .int .u16 0, .int .u16 0] 66) := ⟨_, rfl⟩
  rw [← hW1]
  have HBX := Lib.hid (show W1.heap[w.heap.size]? = some (.cells #[.int .u8 0, .int .u16 0, .int .u8 0, .int .u32 0, .int .u32 0, .int .u16 0, .int .u16 0] 66 (0, 0)) by rw [hW1]; exact heap_alloc_new _ _)
  have BW := Lib.hid (show Below w.heap.size w W1 by rw [hW1]; exact (Below.refl _ w).alloc (Nat.le_refl _) _)
  have SZ := Lib.hid (show w.heap.size ≤ W1.heap.size from BW.out.size)
  clear hW1
  go_cut [5, 6, 7] (fun p v6 v7 wx => ∃ B5 : Nat, p = .pointer (some ⟨B5, 0, none⟩) ∧ v6 = .string B ∧ v7 = .int .u16 c ∧ Hid (wx.heap[B5]? = some (.cells #[.int .u8 d, .int .u16 i, .int .u8 t, .int .u32 s, .int .u32 q, .int .u16 x, .int .u16 y] 66 (0, 0))) ∧ Hid (W1.heap.size ≤ B5) ∧ Hid (Below W1.heap.size W1 wx))
  case first =>
    refine wp_region_any (by kernel_rfl) ?_
    (try (change wpAny _ _ _ _ _ _ _ (World.drew _)))
    refine wpAny_take (i := 0) (v := ?_) rfl (by kernel_rfl) (by kernel_rfl) (by kernel_rfl) (fun _ _ _ h => h) (Or.inl ⟨by rfl, ?_⟩) ?_
    case refine_2 =>
      intro w
      go_simp
      (try with_reducible rfl)
    refine wpAny_take (i := 2) (v := ?_) rfl (by kernel_rfl) (by kernel_rfl) (by kernel_rfl) (fun _ _ _ h => h) (Or.inl ⟨by rfl, ?_⟩) ?_
    case refine_2 =>
      intro w
      go_simp
      (try with_reducible rfl)
    refine wpAny_take (i := 3) (v := ?_) rfl (by kernel_rfl) (by kernel_rfl) (by kernel_rfl) (fun _ _ _ h => h) (Or.inl ⟨by rfl, ?_⟩) ?_
    case refine_2 =>
      intro w
      go_simp
      (try with_reducible rfl)
    refine wpAny_take (i := 4) (v := ?_) rfl (by kernel_rfl) (by kernel_rfl) (by kernel_rfl) (fun _ _ _ h => h) (Or.inl ⟨by rfl, ?_⟩) ?_
    case refine_2 =>
      intro w
      go_simp
      (try with_reducible rfl)
    refine wpAny_ready (rs := [1, 6]) (by kernel_rfl) (by simp) ?_
    refine (AllReady.cons rfl (fun K hK => ?_) (AllReady.cons rfl (fun K hK => ?_) AllReady.nil))
    · go_simp
      refine (RD.out _).mono ?_
      rintro e uA ⟨rfl, c1⟩
      have Y1 : Below W1.heap.size W1 uA := bel_call c1 (by (repeat' (first | (with_reducible exact (Below.refl _ _)) | (with_reducible refine below_drewN _ ?_) | (with_reducible refine Below.drew ?_) | (with_reducible refine Below.alloc ?_ (by first | exact Nat.le_refl _ | exact Y1.size | exact Y2.size | (have := Y1.size; simp; omega) | (simp; done) | assumption) _)))) (Nat.le_refl _)
      go_simp
      refine hK _ _ ?_
      clear hK K
      refine wpAny_ready (rs := [5, 6]) (by kernel_rfl) (by simp) ?_
      refine (AllReady.cons rfl (fun K hK => ?_) (AllReady.cons rfl (fun K hK => ?_) AllReady.nil))
      · go_simp
        refine (HF.out _).mono ?_
        rintro e uB ⟨rfl, c2⟩
        have Y2 : Below W1.heap.size W1 uB := bel_call c2 (by (repeat' (first | (with_reducible exact Y1) | (with_reducible refine below_drewN _ ?_) | (with_reducible refine Below.drew ?_) | (with_reducible refine Below.alloc ?_ (by first | exact Nat.le_refl _ | exact Y1.size | exact Y2.size | (have := Y1.size; simp; omega) | (simp; done) | assumption) _)))) (Nat.le_refl _)
        go_simp
        refine hK _ _ ?_
        clear hK K
        refine wpAny_ready (rs := [6]) (by kernel_rfl) (by simp) ?_
        refine AllReady.cons rfl (fun K hK => ?_) AllReady.nil
        go_simp
        refine hK _ _ ?_
        clear hK K
        have ZC := heap_alloc_new uB (.cells #[.int .u8 0, .int .u16 0, .int .u8 0, .int .u32 0, .int .u32 0, .int .u16 0, .int .u16 0] 66)
        obtain ⟨z0, z1, z2, z3, z4, z5, z6, f0, f1, f2, f3, f4, f5, f6⟩ := at7 ZC
        refine wpAny_ready (rs := [7]) (by kernel_rfl) (by simp) ?_
        refine AllReady.cons rfl (fun K hK => ?_) AllReady.nil
        go_simp
        refine hK _ _ ?_
        clear hK K
        refine wpAny_take (i := 8) (v := ?_) rfl (by kernel_rfl) (by kernel_rfl) (by kernel_rfl) (fun _ _ _ h => h) (Or.inl ⟨by rfl, ?_⟩) ?_
        case refine_2 =>
          intro w
          go_simp
          (try with_reducible rfl)
        refine wpAny_take (i := 9) (v := ?_) rfl (by kernel_rfl) (by kernel_rfl) (by kernel_rfl) (fun _ _ _ h => h) (Or.inl ⟨by rfl, ?_⟩) ?_
        case refine_2 =>
          intro w
          go_simp
          (try with_reducible rfl)
        have P := put7 ZC (.int .u8 d) (.int .u16 i) (.int .u8 t) (.int .u32 s) (.int .u32 q) (.int .u16 x) (.int .u16 y)
        have QQ := put7_bel (B := uB.heap.size) (by (repeat' (first | (with_reducible exact Y2) | (with_reducible refine below_drewN _ ?_) | (with_reducible refine Below.drew ?_) | (with_reducible refine Below.alloc ?_ (by first | exact Nat.le_refl _ | exact Y1.size | exact Y2.size | (have := Y1.size; simp; omega) | (simp; done) | assumption) _)))) (Y2.size) (.int .u8 d) (.int .u16 i) (.int .u8 t) (.int .u32 s) (.int .u32 q) (.int .u16 x) (.int .u16 y)
        refine wpAny_done (by kernel_rfl) ?_ _
        have PH := Lib.hid P
        have QH := Lib.hid QQ
        clear P QQ z0 z1 z2 z3 z4 z5 z6 f0 f1 f2 f3 f4 f5 f6
        (try simp only [Exit.then])
        go_simp
        go_step
        go_meet
        case rel => exact ⟨_, rfl, rfl, rfl, Lib.hid (heap_alloc_new _ _), Lib.hid (Y2.size), Lib.hid (by (repeat' (first | (with_reducible exact Y2) | (with_reducible refine below_drewN _ ?_) | (with_reducible refine Below.drew ?_) | (with_reducible refine Below.alloc ?_ (by first | exact Nat.le_refl _ | exact Y1.size | exact Y2.size | (have := Y1.size; simp; omega) | (simp; done) | assumption) _))))⟩
      · go_simp
        refine hK _ _ ?_
        clear hK K
        refine wpAny_ready (rs := [5]) (by kernel_rfl) (by simp) ?_
        refine AllReady.cons rfl (fun K hK => ?_) AllReady.nil
        go_simp
        refine (HF.out _).mono ?_
        rintro e uB ⟨rfl, c2⟩
        have Y2 : Below W1.heap.size W1 uB := bel_call c2 (by (repeat' (first | (with_reducible exact Y1) | (with_reducible refine below_drewN _ ?_) | (with_reducible refine Below.drew ?_) | (with_reducible refine Below.alloc ?_ (by first | exact Nat.le_refl _ | exact Y1.size | exact Y2.size | (have := Y1.size; simp; omega) | (simp; done) | assumption) _)))) (Nat.le_refl _)
        go_simp
        refine hK _ _ ?_
        clear hK K
        have ZC := (blk_call c2 (heap_alloc_new uA (.cells #[.int .u8 0, .int .u16 0, .int .u8 0, .int .u32 0, .int .u32 0, .int .u16 0, .int .u16 0] 66)))
        obtain ⟨z0, z1, z2, z3, z4, z5, z6, f0, f1, f2, f3, f4, f5, f6⟩ := at7 ZC
        refine wpAny_ready (rs := [7]) (by kernel_rfl) (by simp) ?_
        refine AllReady.cons rfl (fun K hK => ?_) AllReady.nil
        go_simp
        refine hK _ _ ?_
        clear hK K
        refine wpAny_take (i := 8) (v := ?_) rfl (by kernel_rfl) (by kernel_rfl) (by kernel_rfl) (fun _ _ _ h => h) (Or.inl ⟨by rfl, ?_⟩) ?_
        case refine_2 =>
          intro w
          go_simp
          (try with_reducible rfl)
        refine wpAny_take (i := 9) (v := ?_) rfl (by kernel_rfl) (by kernel_rfl) (by kernel_rfl) (fun _ _ _ h => h) (Or.inl ⟨by rfl, ?_⟩) ?_
        case refine_2 =>
          intro w
          go_simp
          (try with_reducible rfl)
        have P := put7 ZC (.int .u8 d) (.int .u16 i) (.int .u8 t) (.int .u32 s) (.int .u32 q) (.int .u16 x) (.int .u16 y)
        have QQ := put7_bel (B := uA.heap.size) Y2 (Y1.size) (.int .u8 d) (.int .u16 i) (.int .u8 t) (.int .u32 s) (.int .u32 q) (.int .u16 x) (.int .u16 y)
        refine wpAny_done (by kernel_rfl) ?_ _
        have PH := Lib.hid P
        have QH := Lib.hid QQ
        clear P QQ z0 z1 z2 z3 z4 z5 z6 f0 f1 f2 f3 f4 f5 f6
        (try simp only [Exit.then])
        go_simp
        go_step
        go_meet
        case rel => exact ⟨_, rfl, rfl, rfl, PH, Lib.hid (Y1.size), QH⟩
    · go_simp
      refine hK _ _ ?_
      clear hK K
      refine wpAny_ready (rs := [1]) (by kernel_rfl) (by simp) ?_
      refine AllReady.cons rfl (fun K hK => ?_) AllReady.nil
      go_simp
      refine (RD.out _).mono ?_
      rintro e uA ⟨rfl, c1⟩
      have Y1 : Below W1.heap.size W1 uA := bel_call c1 (by (repeat' (first | (with_reducible exact (Below.refl _ _)) | (with_reducible refine below_drewN _ ?_) | (with_reducible refine Below.drew ?_) | (with_reducible refine Below.alloc ?_ (by first | exact Nat.le_refl _ | exact Y1.size | exact Y2.size | (have := Y1.size; simp; omega) | (simp; done) | assumption) _)))) (Nat.le_refl _)
      go_simp
      refine hK _ _ ?_
      clear hK K
      refine wpAny_ready (rs := [5]) (by kernel_rfl) (by simp) ?_
      refine AllReady.cons rfl (fun K hK => ?_) AllReady.nil
      go_simp
      refine (HF.out _).mono ?_
      rintro e uB ⟨rfl, c2⟩
      have Y2 : Below W1.heap.size W1 uB := bel_call c2 (by (repeat' (first | (with_reducible exact Y1) | (with_reducible refine below_drewN _ ?_) | (with_reducible refine Below.drew ?_) | (with_reducible refine Below.alloc ?_ (by first | exact Nat.le_refl _ | exact Y1.size | exact Y2.size | (have := Y1.size; simp; omega) | (simp; done) | assumption) _)))) (Nat.le_refl _)
      go_simp
      refine hK _ _ ?_
      clear hK K
      have ZC := (blk_call c2 (blk_call c1 (heap_alloc_new W1 (.cells #[.int .u8 0, .int .u16 0, .int .u8 0, .int .u32 0, .int .u32 0, .int .u16 0, .int .u16 0] 66))))
      obtain ⟨z0, z1, z2, z3, z4, z5, z6, f0, f1, f2, f3, f4, f5, f6⟩ := at7 ZC
      refine wpAny_ready (rs := [7]) (by kernel_rfl) (by simp) ?_
      refine AllReady.cons rfl (fun K hK => ?_) AllReady.nil
      go_simp
      refine hK _ _ ?_
      clear hK K
      refine wpAny_take (i := 8) (v := ?_) rfl (by kernel_rfl) (by kernel_rfl) (by kernel_rfl) (fun _ _ _ h => h) (Or.inl ⟨by rfl, ?_⟩) ?_
      case refine_2 =>
        intro w
        go_simp
        (try with_reducible rfl)
      refine wpAny_take (i := 9) (v := ?_) rfl (by kernel_rfl) (by kernel_rfl) (by kernel_rfl) (fun _ _ _ h => h) (Or.inl ⟨by rfl, ?_⟩) ?_
      case refine_2 =>
        intro w
        go_simp
        (try with_reducible rfl)
      have P := put7 ZC (.int .u8 d) (.int .u16 i) (.int .u8 t) (.int .u32 s) (.int .u32 q) (.int .u16 x) (.int .u16 y)
      have QQ := put7_bel (B := W1.heap.size) Y2 (Nat.le_refl _) (.int .u8 d) (.int .u16 i) (.int .u8 t) (.int .u32 s) (.int .u32 q) (.int .u16 x) (.int .u16 y)
      refine wpAny_done (by kernel_rfl) ?_ _
      have PH := Lib.hid P
      have QH := Lib.hid QQ
      clear P QQ z0 z1 z2 z3 z4 z5 z6 f0 f1 f2 f3 f4 f5 f6
      (try simp only [Exit.then])
      go_simp
      go_step
      go_meet
      case rel => exact ⟨_, rfl, rfl, rfl, PH, Lib.hid (Nat.le_refl _), QH⟩
  case rest =>
    obtain ⟨B5, rfl, rfl, rfl, HB5, L5, YC⟩ := hcut
    obtain ⟨wq, rfl⟩ : ∃ wq, wq = wc := ⟨_, rfl⟩
    have HR := Lib.hid (show wq.heap[w.heap.size]? = some (.cells #[.int .u8 0, .int .u16 0, .int .u8 0, .int .u32 0, .int .u32 0, .int .u16 0, .int .u16 0] 66 (0, 0)) from (YC.out.block _ (lt_blk HBX.out)).trans HBX.out)
    have YW := Lib.hid (show Below w.heap.size w wq from BW.out.trans (YC.out.mono SZ.out))
    have n5 : ¬ B5 = w.heap.size := by have := lt_blk HBX.out; have := L5.out; omega
    have n6 : ¬ w.heap.size = B5 := fun h => n5 h.symm
    obtain ⟨r0, r1, r2, r3, r4, r5, r6, rf0, rf1, rf2, rf3, rf4, rf5, rf6⟩ := at7 HR.out
    obtain ⟨b0, b1, b2, b3, b4, b5, b6, bf0, bf1, bf2, bf3, bf4, bf5, bf6⟩ := at7 HB5.out
    clear HBX BW SZ L5
    by_cases hl : 65507 < B.size
    · have g2 : (65507 : Int) < B.size := by omega
      have ET := Lib.hid (show tke S = 3 by rw [E0.out, if_pos (fun h => by have := (FM.out.1 h).1; omega)])
      clear hl
      go_upto_region 4 with (fail)
      go_quiet (fail)
      go_wp2
      (try simp only [Exit.inBlock, Exit.then])
      refine bp_gen ?_
      intro vz hvz
      have P : vz.heap[w.heap.size]? = some (.cells #[.int .u8 0, .int .u16 0, .int .u8 0, .int .u32 0, .int .u32 0, .int .u16 0, .int .u16 0] 66 (0, 0)) := by
        rw [hvz, drewN_heap]
        exact put7 HR.out (.int .u8 0) (.int .u16 0) (.int .u8 0) (.int .u32 0) (.int .u32 0) (.int .u16 0) (.int .u16 0)
      have Q : Below w.heap.size w vz := by
        rw [hvz]
        exact below_drewN _ (put7_bel (B := w.heap.size) YW.out (Nat.le_refl _) (.int .u8 0) (.int .u16 0) (.int .u8 0) (.int .u32 0) (.int .u32 0) (.int .u16 0) (.int .u16 0))
      clear hvz
      obtain ⟨y0, y1, y2, y3, y4, y5, y6, -⟩ := at7 P
      have QH := Lib.hid Q
      clear P Q
      refine bodyPost_ret (v := .tuple #[Hdr.nil.vals, .string ⟨#[]⟩, .int .i64 3]) (by simp [results, Try.results27, go_sem, y0, y1, y2, y3, y4, y5, y6, Hdr.vals, Hdr.nil]) rfl ⟨by rw [TH.out, TB.out, ET.out]; rfl, QH.out⟩
    · have g2 : ¬ (65507 : Int) < B.size := by omega
      have ST := Lib.hid (fun W => start_any d i t s q x y B.size c OK (by omega) (by omega) C.1 C.2 W)
      have CK := Lib.hid (fun W => checksum_any d i t s q x y B.size OK (by omega) (by omega) W)
      have SC := Lib.hid (fun (v : World) (h : Below wq.heap.size wq v) => (box7 (v := v) (B := B5) ((h.block _ (lt_blk HB5.out)).trans HB5.out) : Box7 B5 d i t s q x y v))
      unfold Box7 at SC
      have FM2 := Lib.hid (show Fmh S ↔ S.extract 0 28 = hd ⟨d, i, t, s, q, x, y⟩ B.size c from ⟨fun h => (FM.out.1 h).2, fun h => FM.out.2 ⟨by omega, h⟩⟩)
      clear FM hl OK
      generalize hd ⟨d, i, t, s, q, x, y⟩ B.size c = D at *
      generalize cs ⟨d, i, t, s, q, x, y⟩ B.size = k9 at *
      generalize hT : S.extract 0 28 = T28 at *
      go_upto_region 4 with (fail)
      go_cut [30] (fun v30 wx => v30 = .bool (!(decide (T28 = D))) ∧ Hid (Below wq.heap.size wq wx))
      case first =>
        go_region_held3 (fun v => v.cell? ⟨B5, 0, none⟩ = some (.int .u8 d) ∧ v.cell? ⟨B5, 1, none⟩ = some (.int .u16 i) ∧ v.cell? ⟨B5, 2, none⟩ = some (.int .u8 t) ∧ v.cell? ⟨B5, 3, none⟩ = some (.int .u32 s) ∧ v.cell? ⟨B5, 4, none⟩ = some (.int .u32 q) ∧ v.cell? ⟨B5, 5, none⟩ = some (.int .u16 x) ∧ v.cell? ⟨B5, 6, none⟩ = some (.int .u16 y))
          ((first | exact SC.out _ h1' | exact SC.out _ (by (repeat' (first | (with_reducible exact Below.refl _ _) | (with_reducible refine below_drewN _ ?_) | (with_reducible refine Below.drew ?_))))))
          (first
            | (go_at_call 48; refine (ST.out _).mono ?_; rintro e wA ⟨rfl, h1⟩; have h1' : Below wq.heap.size wq wA := bel_call h1 (by (repeat' (first | (with_reducible exact Below.refl _ _) | (with_reducible refine below_drewN _ ?_) | (with_reducible refine Below.drew ?_)))) (Nat.le_refl _))
            | fail)
        go_wp2_with fail
        go_meet
        case rel => exact ⟨rfl, Lib.hid h1'⟩
      case rest =>
        obtain ⟨hz, YD⟩ := hcut
        have HRd := Lib.hid ((YD.out.block _ (lt_blk HR.out)).trans HR.out)
        have HBd := Lib.hid ((YD.out.block _ (lt_blk HB5.out)).trans HB5.out)
        have YWd := Lib.hid (YW.out.trans (YD.out.mono YW.out.size))
        clear r0 r1 r2 r3 r4 r5 r6 rf0 rf1 rf2 rf3 rf4 rf5 rf6 b0 b1 b2 b3 b4 b5 b6 bf0 bf1 bf2 bf3 bf4 bf5 bf6
        by_cases f : T28 = D
        · have f1 : decide (T28 = D) = true := decide_eq_true f
          rw [f1, Bool.not_true] at hz
          subst hz
          obtain ⟨b0, b1, b2, b3, b4, b5, b6, -⟩ := at7 HBd.out
          have FY := Lib.hid (FM2.out.2 f)
          clear f
          go_wp2_with fail
          refine (CK.out _).mono ?_
          rintro e wE ⟨rfl, h2⟩
          have YE : Below wc.heap.size wc wE := bel_call h2 (by (repeat' (first | (with_reducible exact Below.refl _ _) | (with_reducible refine below_drewN _ ?_) | (with_reducible refine Below.drew ?_)))) (Nat.le_refl _)
          have HRe := Lib.hid ((YE.block _ (lt_blk HRd.out)).trans HRd.out)
          have HBe := Lib.hid ((YE.block _ (lt_blk HBd.out)).trans HBd.out)
          have YWe := Lib.hid (YWd.out.trans (YE.mono YWd.out.size))
          clear h2 YE b0 b1 b2 b3 b4 b5 b6
          obtain ⟨r0, r1, r2, r3, r4, r5, r6, rf0, rf1, rf2, rf3, rf4, rf5, rf6⟩ := at7 HRe.out
          by_cases hk : c = k9
          · have hk1 : (c == k9) = true := by simp [hk]
            have hk2 : (c != k9) = false := by simp [hk]
            have ET := Lib.hid (show tke S = 0 by rw [E0.out, if_neg (fun h => h FY.out), if_neg (fun h => h hk)])
            obtain ⟨b0, b1, b2, b3, b4, b5, b6, -⟩ := at7 HBe.out
            clear hk
            go_wp2
            (try simp only [Exit.inBlock, Exit.then])
            refine bp_gen ?_
            intro vz hvz
            have P : vz.heap[w.heap.size]? = some (.cells #[.int .u8 d, .int .u16 i, .int .u8 t, .int .u32 s, .int .u32 q, .int .u16 x, .int .u16 y] 66 (0, 0)) := by
              rw [hvz]
              exact put7 HRe.out (.int .u8 d) (.int .u16 i) (.int .u8 t) (.int .u32 s) (.int .u32 q) (.int .u16 x) (.int .u16 y)
            have Q : Below w.heap.size w vz := by
              rw [hvz]
              exact put7_bel (B := w.heap.size) YWe.out (Nat.le_refl _) (.int .u8 d) (.int .u16 i) (.int .u8 t) (.int .u32 s) (.int .u32 q) (.int .u16 x) (.int .u16 y)
            clear hvz
            obtain ⟨y0, y1, y2, y3, y4, y5, y6, -⟩ := at7 P
            have QH := Lib.hid Q
            clear P Q
            refine bodyPost_ret (v := .tuple #[.agg #[.int .u8 d, .int .u16 i, .int .u8 t, .int .u32 s, .int .u32 q, .int .u16 x, .int .u16 y], .string B, .int .i64 0]) (by simp [results, Try.results27, go_sem, y0, y1, y2, y3, y4, y5, y6, Hdr.vals, Hdr.nil]) rfl ⟨by rw [TH.out, TB.out, ET.out]; rfl, QH.out⟩
          · have hk1 : (c == k9) = false := by simp [hk]
            have hk2 : (c != k9) = true := by simp [hk]
            have ET := Lib.hid (show tke S = 11 by rw [E0.out, if_neg (fun h => h FY.out), if_pos hk])
            clear hk
            go_wp2
            (try simp only [Exit.inBlock, Exit.then])
            refine bp_gen ?_
            intro vz hvz
            have P : vz.heap[w.heap.size]? = some (.cells #[.int .u8 0, .int .u16 0, .int .u8 0, .int .u32 0, .int .u32 0, .int .u16 0, .int .u16 0] 66 (0, 0)) := by
              rw [hvz]
              exact put7 HRe.out (.int .u8 0) (.int .u16 0) (.int .u8 0) (.int .u32 0) (.int .u32 0) (.int .u16 0) (.int .u16 0)
            have Q : Below w.heap.size w vz := by
              rw [hvz]
              exact put7_bel (B := w.heap.size) YWe.out (Nat.le_refl _) (.int .u8 0) (.int .u16 0) (.int .u8 0) (.int .u32 0) (.int .u32 0) (.int .u16 0) (.int .u16 0)
            clear hvz
            obtain ⟨y0, y1, y2, y3, y4, y5, y6, -⟩ := at7 P
            have QH := Lib.hid Q
            clear P Q
            refine bodyPost_ret (v := .tuple #[Hdr.nil.vals, .string ⟨#[]⟩, .int .i64 11]) (by simp [results, Try.results27, go_sem, y0, y1, y2, y3, y4, y5, y6, Hdr.vals, Hdr.nil]) rfl ⟨by rw [TH.out, TB.out, ET.out]; rfl, QH.out⟩
        · have f1 : decide (T28 = D) = false := decide_eq_false f
          rw [f1, Bool.not_false] at hz
          subst hz
          have ET := Lib.hid (show tke S = 3 by rw [E0.out, if_pos (fun h => f (FM2.out.1 h))])
          obtain ⟨r0, r1, r2, r3, r4, r5, r6, rf0, rf1, rf2, rf3, rf4, rf5, rf6⟩ := at7 HRd.out
          clear f
          go_wp2
          (try simp only [Exit.inBlock, Exit.then])
          refine bp_gen ?_
          intro vz hvz
          have P : vz.heap[w.heap.size]? = some (.cells #[.int .u8 0, .int .u16 0, .int .u8 0, .int .u32 0, .int .u32 0, .int .u16 0, .int .u16 0] 66 (0, 0)) := by
            rw [hvz]
            exact put7 HRd.out (.int .u8 0) (.int .u16 0) (.int .u8 0) (.int .u32 0) (.int .u32 0) (.int .u16 0) (.int .u16 0)
          have Q : Below w.heap.size w vz := by
            rw [hvz]
            exact put7_bel (B := w.heap.size) YWd.out (Nat.le_refl _) (.int .u8 0) (.int .u16 0) (.int .u8 0) (.int .u32 0) (.int .u32 0) (.int .u16 0) (.int .u16 0)
          clear hvz
          obtain ⟨y0, y1, y2, y3, y4, y5, y6, -⟩ := at7 P
          have QH := Lib.hid Q
          clear P Q
          refine bodyPost_ret (v := .tuple #[Hdr.nil.vals, .string ⟨#[]⟩, .int .i64 3]) (by simp [results, Try.results27, go_sem, y0, y1, y2, y3, y4, y5, y6, Hdr.vals, Hdr.nil]) rfl ⟨by rw [TH.out, TB.out, ET.out]; rfl, QH.out⟩
end Go.Proofs.Ytiaafpemhalmpaa
