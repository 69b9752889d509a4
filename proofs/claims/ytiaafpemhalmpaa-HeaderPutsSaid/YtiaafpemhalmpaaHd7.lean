/-
  Layer 33: what the document's answer takes of any bytes. No condition but that a string is no longer than one can be.
-/
import Derived.Test.YtiaafpemhalmpaaHd4
import Derived.Test.YtiaafpemhalmpaaHd6
namespace Go.Proofs.Ytiaafpemhalmpaa
set_option linter.unusedVariables false
set_option linter.unusedSimpArgs false
open Go.ChangeShapes Go.WideShapes Go.ChangeAt Go.RowKit
attribute [-go_sem] run_index_string binOp_string_eql binOp_string_neq run_string_add_if run_slice_string_from_if run_slice_string_to_if
attribute [local go_sem] index_at add_fits slice_from slice_to eql_str neq_str alloc_drewN setCell_drewN

set_option maxRecDepth 100000 in
theorem rput_arg (d i t s q x y : Int) (hd : 63 < d) (b : ByteArray) (w : World) :
    Calls Try.prog 26 #[.agg #[.int .u8 d, .int .u16 i, .int .u8 t, .int .u32 s, .int .u32 q, .int .u16 x, .int .u16 y], .string b] w fun e w' => e = .returned (.tuple #[.string ⟨#[]⟩, .int .i64 6]) ∧ Below w.heap.size w w' := by
  go_enter Try.func26, Try.ntmps26
  go_wp2
  go_ret2
  exact ⟨rfl, (Below.refl _ w).alloc (Nat.le_refl _) _⟩
set_option maxRecDepth 100000 in
theorem rput_long (d i t s q x y : Int) (hd : d ≤ 63) (b : ByteArray) (hb : 65507 < b.size) (w : World) :
    Calls Try.prog 26 #[.agg #[.int .u8 d, .int .u16 i, .int .u8 t, .int .u32 s, .int .u32 q, .int .u16 x, .int .u16 y], .string b] w fun e w' => e = .returned (.tuple #[.string ⟨#[]⟩, .int .i64 4]) ∧ Below w.heap.size w w' := by
  have g1 : ¬ 63 < d := by omega
  have g2 : (65507 : Int) < b.size := by omega
  go_enter Try.func26, Try.ntmps26
  go_wp2
  go_ret2
  exact ⟨rfl, (Below.refl _ w).alloc (Nat.le_refl _) _⟩
set_option maxRecDepth 100000 in
theorem hput_arg (d i t s q x y : Int) (hd : 63 < d) (b : ByteArray) (w : World) :
    Calls Try.prog 25 #[.agg #[.int .u8 d, .int .u16 i, .int .u8 t, .int .u32 s, .int .u32 q, .int .u16 x, .int .u16 y], .string b] w fun e w' => e = .returned (.tuple #[.string ⟨#[]⟩, .int .i64 6]) ∧ Below w.heap.size w w' := by
  go_enter Try.func25, Try.ntmps25
  go_wp2
  go_ret2
  exact ⟨rfl, (Below.refl _ w).alloc (Nat.le_refl _) _⟩
set_option maxRecDepth 100000 in
theorem hput_long (d i t s q x y : Int) (hd : d ≤ 63) (b : ByteArray) (hb : 65507 < b.size) (w : World) :
    Calls Try.prog 25 #[.agg #[.int .u8 d, .int .u16 i, .int .u8 t, .int .u32 s, .int .u32 q, .int .u16 x, .int .u16 y], .string b] w fun e w' => e = .returned (.tuple #[.string ⟨#[]⟩, .int .i64 4]) ∧ Below w.heap.size w w' := by
  have g1 : ¬ 63 < d := by omega
  have g2 : (65507 : Int) < b.size := by omega
  go_enter Try.func25, Try.ntmps25
  go_wp2
  go_ret2
  exact ⟨rfl, (Below.refl _ w).alloc (Nat.le_refl _) _⟩
set_option maxRecDepth 100000 in
set_option maxHeartbeats 1000000 in
theorem rtake_short (S : ByteArray) (h28 : S.size < 28) (w : World) :
    Calls Try.prog 28 #[.string S] w fun e w' => e = .returned (.tuple #[Hdr.nil.vals, .string ⟨#[]⟩, .int .i64 2]) ∧ Below w.heap.size w w' := by
  have h1 : (S.size : Int) < 28 := by omega
  go_enter Try.func28, Try.ntmps28
  go_wp2
  (try simp only [Exit.inBlock, Exit.then])
  refine bp_gen ?_
  intro vz hvz
  have P : vz.heap[w.heap.size]? = some (.cells #[.int .u8 0, .int .u16 0, .int .u8 0, .int .u32 0, .int .u32 0, .int .u16 0, .int .u16 0] 66 (0, 0)) := by rw [hvz]; exact heap_alloc_new _ _
  have Q : Below w.heap.size w vz := by rw [hvz]; exact (Below.refl _ w).alloc (Nat.le_refl _) _
  clear hvz
  obtain ⟨y0, y1, y2, y3, y4, y5, y6, -⟩ := at7 P
  refine bodyPost_ret (v := .tuple #[Hdr.nil.vals, .string ⟨#[]⟩, .int .i64 2]) (by simp [results, Try.results28, go_sem, y0, y1, y2, y3, y4, y5, y6, Hdr.vals, Hdr.nil]) rfl ⟨rfl, Q⟩
set_option maxRecDepth 100000 in
set_option maxHeartbeats 4000000 in
theorem rtake_any (S : ByteArray) (h28 : 28 ≤ S.size) (hs : S.size ≤ 140737488355328) (w : World) :
    Calls Try.prog 28 #[.string S] w fun e w' => e = .returned (.tuple #[(tkH S).vals, .string (tkB S), .int .i64 (tke S)]) ∧ Below w.heap.size w w' := by
  have N4 : Hid (∀ W, Calls Try.prog 55 #[.string S, .int .i64 4, .int .i64 2] W fun e w' => e = .returned (.int .u64 (rdh S).i) ∧ W = w') := Lib.hid (fun W => (number_at S 4 2 (by omega) (by omega) hs W).mono fun e w' ⟨h1, h2⟩ => ⟨h1.trans (by rw [show nbr S 4 2 = (rdh S).i from by simp only [nbr, rdh, Nat.add_zero, Nat.reduceAdd]; omega]), h2⟩)
  have N12 : Hid (∀ W, Calls Try.prog 55 #[.string S, .int .i64 12, .int .i64 4] W fun e w' => e = .returned (.int .u64 (rdh S).s) ∧ W = w') := Lib.hid (fun W => (number_at S 12 4 (by omega) (by omega) hs W).mono fun e w' ⟨h1, h2⟩ => ⟨h1.trans (by rw [show nbr S 12 4 = (rdh S).s from by simp only [nbr, rdh, Nat.add_zero, Nat.reduceAdd]; omega]), h2⟩)
  have N16 : Hid (∀ W, Calls Try.prog 55 #[.string S, .int .i64 16, .int .i64 4] W fun e w' => e = .returned (.int .u64 (rdh S).q) ∧ W = w') := Lib.hid (fun W => (number_at S 16 4 (by omega) (by omega) hs W).mono fun e w' ⟨h1, h2⟩ => ⟨h1.trans (by rw [show nbr S 16 4 = (rdh S).q from by simp only [nbr, rdh, Nat.add_zero, Nat.reduceAdd]; omega]), h2⟩)
  have N20 : Hid (∀ W, Calls Try.prog 55 #[.string S, .int .i64 20, .int .i64 2] W fun e w' => e = .returned (.int .u64 (rdh S).x) ∧ W = w') := Lib.hid (fun W => (number_at S 20 2 (by omega) (by omega) hs W).mono fun e w' ⟨h1, h2⟩ => ⟨h1.trans (by rw [show nbr S 20 2 = (rdh S).x from by simp only [nbr, rdh, Nat.add_zero, Nat.reduceAdd]; omega]), h2⟩)
  have N22 : Hid (∀ W, Calls Try.prog 55 #[.string S, .int .i64 22, .int .i64 2] W fun e w' => e = .returned (.int .u64 (rdh S).y) ∧ W = w') := Lib.hid (fun W => (number_at S 22 2 (by omega) (by omega) hs W).mono fun e w' ⟨h1, h2⟩ => ⟨h1.trans (by rw [show nbr S 22 2 = (rdh S).y from by simp only [nbr, rdh, Nat.add_zero, Nat.reduceAdd]; omega]), h2⟩)
  have OK := rdh_ok S
  have BZ := Lib.hid (body_size S)
  have i28 : InS S 28 := ⟨by omega⟩
  have k28 : Int.toNat 28 = 28 := rfl
  have k10 : Int.toNat 10 = 10 := rfl
  have k12 : Int.toNat 12 = 12 := rfl
  have i10 : InS S 10 := ⟨by omega⟩
  have i12 : InS S 12 := ⟨by omega⟩
  have at1 : AtS S 1 := ⟨by omega, by omega⟩
  have at8 : AtS S 8 := ⟨by omega, by omega⟩
  have g1 : ¬ (S.size : Int) < 28 := by omega
  have E0 := Lib.hid (show tke S = if ¬ Fmh S then 3 else if ckh S ≠ cs (rdh S) (S.extract 28 S.size).size then 11 else 0 by unfold tke; rw [if_neg (by omega)])
  have TH := Lib.hid (show tkH S = if tke S = 0 then rdh S else Hdr.nil from rfl)
  have TB := Lib.hid (show tkB S = if tke S = 0 then S.extract 28 S.size else ⟨#[]⟩ from rfl)
  have FR := Lib.hid (fun h => form_ref S h28 h)
  have SR := Lib.hid (fun h => sum_ref S h28 h)
  have FL := Lib.hid (show Fmh S → (S.extract 28 S.size).size ≤ 65507 from fun h => h.1)
  have SZ10 := Lib.hid (show (S.extract 0 10).size = 10 from by rw [size_ext _ _ _ (by omega)])
  have SZ12 := Lib.hid (show (S.extract 12 S.size).size = S.size - 12 from size_ext _ _ _ (Nat.le_refl _))
  have SZW := Lib.hid (pf_size (rdh S) (S.extract 28 S.size))
  have f2 := Fits.mk (a := S.extract 0 10) (b := S.extract 12 S.size) (by rw [SZ10.out, SZ12.out]; omega)
  have hd0 : (bt S 1).tdiv 4 = (rdh S).d := by
    have b1 := bt_bd S 1
    rw [Int.tdiv_eq_ediv_of_nonneg b1.1]
    rfl
  have ht0 : bt S 8 = (rdh S).t := rfl
  have hdw : IntKind.u8.wrap (rdh S).d = (rdh S).d := by have := OK.d; rw [IntKind.wrap_u8]; omega
  have hiw : IntKind.u16.wrap (rdh S).i = (rdh S).i := by have := OK.i; rw [IntKind.wrap_u16]; omega
  have hxw : IntKind.u16.wrap (rdh S).x = (rdh S).x := by have := OK.x; rw [IntKind.wrap_u16]; omega
  have hyw : IntKind.u16.wrap (rdh S).y = (rdh S).y := by have := OK.y; rw [IntKind.wrap_u16]; omega
  have hsw : IntKind.u32.wrap (rdh S).s = (rdh S).s := by have := OK.s; rw [IntKind.wrap_u32]; omega
  have hqw : IntKind.u32.wrap (rdh S).q = (rdh S).q := by have := OK.q; rw [IntKind.wrap_u32]; omega
  have d63 := OK.d.2
  generalize hR : rdh S = H at *
  clear hR
  obtain ⟨d, i, t, s, q, x, y⟩ := H
  dsimp only at N4 N12 N16 N20 N22 hd0 ht0 hdw hiw hxw hyw hsw hqw d63
  generalize hB : S.extract 28 S.size = B at *
  clear h28
  go_enter Try.func28, Try.ntmps28
  go_upto_region 3 with (fail)
  obtain ⟨W1, hW1⟩ : ∃ W1, W1 = w.alloc (.cells #[.int .u8 0, .int .u16 0, .int .u8 0, .int .u32 0, .int .u32 0, .int .u16 0, .int .u16 0] 66) := ⟨_, rfl⟩
  rw [← hW1]
  have HBX := Lib.hid (show W1.heap[w.heap.size]? = some (.cells #[.int .u8 0, .int .u16 0, .int .u8 0, .int .u32 0, .int .u32 0, .int .u16 0, .int .u16 0] 66 (0, 0)) by rw [hW1]; exact heap_alloc_new _ _)
  have BW := Lib.hid (show Below w.heap.size w W1 by rw [hW1]; exact (Below.refl _ w).alloc (Nat.le_refl _) _)
  have SZ := Lib.hid (show w.heap.size ≤ W1.heap.size from BW.out.size)
  clear hW1
  go_cut [5] (fun p wx => ∃ B5 : Nat, p = .pointer (some ⟨B5, 0, none⟩) ∧ Hid (wx.heap[B5]? = some (.cells #[.int .u8 d, .int .u16 i, .int .u8 t, .int .u32 s, .int .u32 q, .int .u16 x, .int .u16 y] 66 (0, 0))) ∧ Hid (W1.heap.size ≤ B5) ∧ Hid (Below W1.heap.size W1 wx))
  case first =>
    refine wp_region_any (by kernel_rfl) ?_
    (try (change wpAny _ _ _ _ _ _ _ (World.drew _)))
    refine wpAny_take (i := 0) (v := ?_) rfl (by kernel_rfl) (by kernel_rfl) (by kernel_rfl) (fun _ _ _ h => h) (Or.inl ⟨by rfl, ?_⟩) ?_
    case refine_2 =>
      intro w
      go_simp
      (try with_reducible rfl)
    refine wpAny_take (i := 3) (v := ?_) rfl (by kernel_rfl) (by kernel_rfl) (by kernel_rfl) (fun _ _ _ h => h) (Or.inl ⟨by rfl, ?_⟩) ?_
    case refine_2 =>
      intro w
      go_simp
      (try with_reducible rfl)
    refine wpAny_take (i := 6) (v := ?_) rfl (by kernel_rfl) (by kernel_rfl) (by kernel_rfl) (fun _ _ _ h => h) (Or.inl ⟨by rfl, ?_⟩) ?_
    case refine_2 =>
      intro w
      go_simp
      (try with_reducible rfl)
    refine wpAny_take (i := 8) (v := ?_) rfl (by kernel_rfl) (by kernel_rfl) (by kernel_rfl) (fun _ _ _ h => h) (Or.inl ⟨by rfl, ?_⟩) ?_
    case refine_2 =>
      intro w
      go_simp
      (try with_reducible rfl)
    refine wpAny_take (i := 11) (v := ?_) rfl (by kernel_rfl) (by kernel_rfl) (by kernel_rfl) (fun _ _ _ h => h) (Or.inl ⟨by rfl, ?_⟩) ?_
    case refine_2 =>
      intro w
      go_simp
      (try with_reducible rfl)
    refine wpAny_take (i := 14) (v := ?_) rfl (by kernel_rfl) (by kernel_rfl) (by kernel_rfl) (fun _ _ _ h => h) (Or.inl ⟨by rfl, ?_⟩) ?_
    case refine_2 =>
      intro w
      go_simp
      (try with_reducible rfl)
    refine wpAny_take (i := 17) (v := ?_) rfl (by kernel_rfl) (by kernel_rfl) (by kernel_rfl) (fun _ _ _ h => h) (Or.inl ⟨by rfl, ?_⟩) ?_
    case refine_2 =>
      intro w
      go_simp
      (try with_reducible rfl)
    refine wpAny_take (i := 1) (v := ?_) rfl (by kernel_rfl) (by kernel_rfl) (by kernel_rfl) (fun _ _ _ h => h) (Or.inl ⟨by rfl, ?_⟩) ?_
    case refine_2 =>
      intro w
      go_simp
      (try with_reducible rfl)
    refine wpAny_take (i := 7) (v := ?_) rfl (by kernel_rfl) (by kernel_rfl) (by kernel_rfl) (fun _ _ _ h => h) (Or.inl ⟨by rfl, ?_⟩) ?_
    case refine_2 =>
      intro w
      go_simp
      (try with_reducible rfl)
    refine wpAny_take (i := 2) (v := ?_) rfl (by kernel_rfl) (by kernel_rfl) (by kernel_rfl) (fun _ _ _ h => h) (Or.inl ⟨by rfl, ?_⟩) ?_
    case refine_2 =>
      intro w
      go_simp
      (try with_reducible rfl)
    refine wpAny_ready (rs := [4, 21]) (by kernel_rfl) (by simp) ?_
    refine (AllReady.cons rfl (fun K hK => ?_) (AllReady.cons rfl (fun K hK => ?_) AllReady.nil))
    · go_simp
      refine (N4.out _).mono ?_
      rintro e wN ⟨rfl, rfl⟩
      go_simp
      refine hK _ _ ?_
      clear hK K
      refine wpAny_take (i := 5) (v := ?_) rfl (by kernel_rfl) (by kernel_rfl) (by kernel_rfl) (fun _ _ _ h => h) (Or.inl ⟨by rfl, ?_⟩) ?_
      case refine_2 =>
        intro w
        go_simp
        (try with_reducible rfl)
      refine wpAny_ready (rs := [9, 21]) (by kernel_rfl) (by simp) ?_
      refine (AllReady.cons rfl (fun K hK => ?_) (AllReady.cons rfl (fun K hK => ?_) AllReady.nil))
      · go_simp
        refine (N12.out _).mono ?_
        rintro e wN ⟨rfl, rfl⟩
        go_simp
        refine hK _ _ ?_
        clear hK K
        refine wpAny_take (i := 10) (v := ?_) rfl (by kernel_rfl) (by kernel_rfl) (by kernel_rfl) (fun _ _ _ h => h) (Or.inl ⟨by rfl, ?_⟩) ?_
        case refine_2 =>
          intro w
          go_simp
          (try with_reducible rfl)
        refine wpAny_ready (rs := [12, 21]) (by kernel_rfl) (by simp) ?_
        refine (AllReady.cons rfl (fun K hK => ?_) (AllReady.cons rfl (fun K hK => ?_) AllReady.nil))
        · go_simp
          refine (N16.out _).mono ?_
          rintro e wN ⟨rfl, rfl⟩
          go_simp
          refine hK _ _ ?_
          clear hK K
          refine wpAny_take (i := 13) (v := ?_) rfl (by kernel_rfl) (by kernel_rfl) (by kernel_rfl) (fun _ _ _ h => h) (Or.inl ⟨by rfl, ?_⟩) ?_
          case refine_2 =>
            intro w
            go_simp
            (try with_reducible rfl)
          refine wpAny_ready (rs := [15, 21]) (by kernel_rfl) (by simp) ?_
          refine (AllReady.cons rfl (fun K hK => ?_) (AllReady.cons rfl (fun K hK => ?_) AllReady.nil))
          · go_simp
            refine (N20.out _).mono ?_
            rintro e wN ⟨rfl, rfl⟩
            go_simp
            refine hK _ _ ?_
            clear hK K
            refine wpAny_take (i := 16) (v := ?_) rfl (by kernel_rfl) (by kernel_rfl) (by kernel_rfl) (fun _ _ _ h => h) (Or.inl ⟨by rfl, ?_⟩) ?_
            case refine_2 =>
              intro w
              go_simp
              (try with_reducible rfl)
            refine wpAny_ready (rs := [18, 21]) (by kernel_rfl) (by simp) ?_
            refine (AllReady.cons rfl (fun K hK => ?_) (AllReady.cons rfl (fun K hK => ?_) AllReady.nil))
            · go_simp
              refine (N22.out _).mono ?_
              rintro e wN ⟨rfl, rfl⟩
              go_simp
              refine hK _ _ ?_
              clear hK K
              refine wpAny_take (i := 19) (v := ?_) rfl (by kernel_rfl) (by kernel_rfl) (by kernel_rfl) (fun _ _ _ h => h) (Or.inl ⟨by rfl, ?_⟩) ?_
              case refine_2 =>
                intro w
                go_simp
                (try with_reducible rfl)
              refine wpAny_take (i := 20) (v := ?_) rfl (by kernel_rfl) (by kernel_rfl) (by kernel_rfl) (fun _ _ _ h => h) (Or.inl ⟨by rfl, ?_⟩) ?_
              case refine_2 =>
                intro w
                go_simp
                (try with_reducible rfl)
              refine wpAny_ready (rs := [21]) (by kernel_rfl) (by simp) ?_
              refine AllReady.cons rfl (fun K hK => ?_) AllReady.nil
              go_simp
              refine hK _ _ ?_
              clear hK K
              refine wpAny_ready (rs := [22]) (by kernel_rfl) (by simp) ?_
              refine AllReady.cons rfl (fun K hK => ?_) AllReady.nil
              go_simp
              refine hK _ _ ?_
              clear hK K
              refine wpAny_done (by kernel_rfl) ?_ _
              (try simp only [Exit.then])
              go_simp
              go_step
              go_meet
              case rel => exact ⟨_, rfl, Lib.hid (blk_new rfl), Lib.hid (Nat.le_refl _), Lib.hid (by (repeat' (first | (with_reducible exact (Below.refl _ _)) | (with_reducible refine below_drewN _ ?_) | (with_reducible refine Below.drew ?_) | (with_reducible refine Below.alloc ?_ (Nat.le_refl _) _))))⟩
            · go_simp
              refine hK _ _ ?_
              clear hK K
              refine wpAny_ready (rs := [18]) (by kernel_rfl) (by simp) ?_
              refine AllReady.cons rfl (fun K hK => ?_) AllReady.nil
              go_simp
              refine (N22.out _).mono ?_
              rintro e wN ⟨rfl, rfl⟩
              go_simp
              refine hK _ _ ?_
              clear hK K
              refine wpAny_take (i := 19) (v := ?_) rfl (by kernel_rfl) (by kernel_rfl) (by kernel_rfl) (fun _ _ _ h => h) (Or.inl ⟨by rfl, ?_⟩) ?_
              case refine_2 =>
                intro w
                go_simp
                (try with_reducible rfl)
              refine wpAny_take (i := 20) (v := ?_) rfl (by kernel_rfl) (by kernel_rfl) (by kernel_rfl) (fun _ _ _ h => h) (Or.inl ⟨by rfl, ?_⟩) ?_
              case refine_2 =>
                intro w
                go_simp
                (try with_reducible rfl)
              refine wpAny_ready (rs := [22]) (by kernel_rfl) (by simp) ?_
              refine AllReady.cons rfl (fun K hK => ?_) AllReady.nil
              go_simp
              refine hK _ _ ?_
              clear hK K
              refine wpAny_done (by kernel_rfl) ?_ _
              (try simp only [Exit.then])
              go_simp
              go_step
              go_meet
              case rel => exact ⟨_, rfl, Lib.hid (blk_new rfl), Lib.hid (Nat.le_refl _), Lib.hid (by (repeat' (first | (with_reducible exact (Below.refl _ _)) | (with_reducible refine below_drewN _ ?_) | (with_reducible refine Below.drew ?_) | (with_reducible refine Below.alloc ?_ (Nat.le_refl _) _))))⟩
          · go_simp
            refine hK _ _ ?_
            clear hK K
            refine wpAny_ready (rs := [15]) (by kernel_rfl) (by simp) ?_
            refine AllReady.cons rfl (fun K hK => ?_) AllReady.nil
            go_simp
            refine (N20.out _).mono ?_
            rintro e wN ⟨rfl, rfl⟩
            go_simp
            refine hK _ _ ?_
            clear hK K
            refine wpAny_take (i := 16) (v := ?_) rfl (by kernel_rfl) (by kernel_rfl) (by kernel_rfl) (fun _ _ _ h => h) (Or.inl ⟨by rfl, ?_⟩) ?_
            case refine_2 =>
              intro w
              go_simp
              (try with_reducible rfl)
            refine wpAny_ready (rs := [18]) (by kernel_rfl) (by simp) ?_
            refine AllReady.cons rfl (fun K hK => ?_) AllReady.nil
            go_simp
            refine (N22.out _).mono ?_
            rintro e wN ⟨rfl, rfl⟩
            go_simp
            refine hK _ _ ?_
            clear hK K
            refine wpAny_take (i := 19) (v := ?_) rfl (by kernel_rfl) (by kernel_rfl) (by kernel_rfl) (fun _ _ _ h => h) (Or.inl ⟨by rfl, ?_⟩) ?_
            case refine_2 =>
              intro w
              go_simp
              (try with_reducible rfl)
            refine wpAny_take (i := 20) (v := ?_) rfl (by kernel_rfl) (by kernel_rfl) (by kernel_rfl) (fun _ _ _ h => h) (Or.inl ⟨by rfl, ?_⟩) ?_
            case refine_2 =>
              intro w
              go_simp
              (try with_reducible rfl)
            refine wpAny_ready (rs := [22]) (by kernel_rfl) (by simp) ?_
            refine AllReady.cons rfl (fun K hK => ?_) AllReady.nil
            go_simp
            refine hK _ _ ?_
            clear hK K
            refine wpAny_done (by kernel_rfl) ?_ _
            (try simp only [Exit.then])
            go_simp
            go_step
            go_meet
            case rel => exact ⟨_, rfl, Lib.hid (blk_new rfl), Lib.hid (Nat.le_refl _), Lib.hid (by (repeat' (first | (with_reducible exact (Below.refl _ _)) | (with_reducible refine below_drewN _ ?_) | (with_reducible refine Below.drew ?_) | (with_reducible refine Below.alloc ?_ (Nat.le_refl _) _))))⟩
        · go_simp
          refine hK _ _ ?_
          clear hK K
          refine wpAny_ready (rs := [12]) (by kernel_rfl) (by simp) ?_
          refine AllReady.cons rfl (fun K hK => ?_) AllReady.nil
          go_simp
          refine (N16.out _).mono ?_
          rintro e wN ⟨rfl, rfl⟩
          go_simp
          refine hK _ _ ?_
          clear hK K
          refine wpAny_take (i := 13) (v := ?_) rfl (by kernel_rfl) (by kernel_rfl) (by kernel_rfl) (fun _ _ _ h => h) (Or.inl ⟨by rfl, ?_⟩) ?_
          case refine_2 =>
            intro w
            go_simp
            (try with_reducible rfl)
          refine wpAny_ready (rs := [15]) (by kernel_rfl) (by simp) ?_
          refine AllReady.cons rfl (fun K hK => ?_) AllReady.nil
          go_simp
          refine (N20.out _).mono ?_
          rintro e wN ⟨rfl, rfl⟩
          go_simp
          refine hK _ _ ?_
          clear hK K
          refine wpAny_take (i := 16) (v := ?_) rfl (by kernel_rfl) (by kernel_rfl) (by kernel_rfl) (fun _ _ _ h => h) (Or.inl ⟨by rfl, ?_⟩) ?_
          case refine_2 =>
            intro w
            go_simp
            (try with_reducible rfl)
          refine wpAny_ready (rs := [18]) (by kernel_rfl) (by simp) ?_
          refine AllReady.cons rfl (fun K hK => ?_) AllReady.nil
          go_simp
          refine (N22.out _).mono ?_
          rintro e wN ⟨rfl, rfl⟩
          go_simp
          refine hK _ _ ?_
          clear hK K
          refine wpAny_take (i := 19) (v := ?_) rfl (by kernel_rfl) (by kernel_rfl) (by kernel_rfl) (fun _ _ _ h => h) (Or.inl ⟨by rfl, ?_⟩) ?_
          case refine_2 =>
            intro w
            go_simp
            (try with_reducible rfl)
          refine wpAny_take (i := 20) (v := ?_) rfl (by kernel_rfl) (by kernel_rfl) (by kernel_rfl) (fun _ _ _ h => h) (Or.inl ⟨by rfl, ?_⟩) ?_
          case refine_2 =>
            intro w
            go_simp
            (try with_reducible rfl)
          refine wpAny_ready (rs := [22]) (by kernel_rfl) (by simp) ?_
          refine AllReady.cons rfl (fun K hK => ?_) AllReady.nil
          go_simp
          refine hK _ _ ?_
          clear hK K
          refine wpAny_done (by kernel_rfl) ?_ _
          (try simp only [Exit.then])
          go_simp
          go_step
          go_meet
          case rel => exact ⟨_, rfl, Lib.hid (blk_new rfl), Lib.hid (Nat.le_refl _), Lib.hid (by (repeat' (first | (with_reducible exact (Below.refl _ _)) | (with_reducible refine below_drewN _ ?_) | (with_reducible refine Below.drew ?_) | (with_reducible refine Below.alloc ?_ (Nat.le_refl _) _))))⟩
      · go_simp
        refine hK _ _ ?_
        clear hK K
        refine wpAny_ready (rs := [9]) (by kernel_rfl) (by simp) ?_
        refine AllReady.cons rfl (fun K hK => ?_) AllReady.nil
        go_simp
        refine (N12.out _).mono ?_
        rintro e wN ⟨rfl, rfl⟩
        go_simp
        refine hK _ _ ?_
        clear hK K
        refine wpAny_take (i := 10) (v := ?_) rfl (by kernel_rfl) (by kernel_rfl) (by kernel_rfl) (fun _ _ _ h => h) (Or.inl ⟨by rfl, ?_⟩) ?_
        case refine_2 =>
          intro w
          go_simp
          (try with_reducible rfl)
        refine wpAny_ready (rs := [12]) (by kernel_rfl) (by simp) ?_
        refine AllReady.cons rfl (fun K hK => ?_) AllReady.nil
        go_simp
        refine (N16.out _).mono ?_
        rintro e wN ⟨rfl, rfl⟩
        go_simp
        refine hK _ _ ?_
        clear hK K
        refine wpAny_take (i := 13) (v := ?_) rfl (by kernel_rfl) (by kernel_rfl) (by kernel_rfl) (fun _ _ _ h => h) (Or.inl ⟨by rfl, ?_⟩) ?_
        case refine_2 =>
          intro w
          go_simp
          (try with_reducible rfl)
        refine wpAny_ready (rs := [15]) (by kernel_rfl) (by simp) ?_
        refine AllReady.cons rfl (fun K hK => ?_) AllReady.nil
        go_simp
        refine (N20.out _).mono ?_
        rintro e wN ⟨rfl, rfl⟩
        go_simp
        refine hK _ _ ?_
        clear hK K
        refine wpAny_take (i := 16) (v := ?_) rfl (by kernel_rfl) (by kernel_rfl) (by kernel_rfl) (fun _ _ _ h => h) (Or.inl ⟨by rfl, ?_⟩) ?_
        case refine_2 =>
          intro w
          go_simp
          (try with_reducible rfl)
        refine wpAny_ready (rs := [18]) (by kernel_rfl) (by simp) ?_
        refine AllReady.cons rfl (fun K hK => ?_) AllReady.nil
        go_simp
        refine (N22.out _).mono ?_
        rintro e wN ⟨rfl, rfl⟩
        go_simp
        refine hK _ _ ?_
        clear hK K
        refine wpAny_take (i := 19) (v := ?_) rfl (by kernel_rfl) (by kernel_rfl) (by kernel_rfl) (fun _ _ _ h => h) (Or.inl ⟨by rfl, ?_⟩) ?_
        case refine_2 =>
          intro w
          go_simp
          (try with_reducible rfl)
        refine wpAny_take (i := 20) (v := ?_) rfl (by kernel_rfl) (by kernel_rfl) (by kernel_rfl) (fun _ _ _ h => h) (Or.inl ⟨by rfl, ?_⟩) ?_
        case refine_2 =>
          intro w
          go_simp
          (try with_reducible rfl)
        refine wpAny_ready (rs := [22]) (by kernel_rfl) (by simp) ?_
        refine AllReady.cons rfl (fun K hK => ?_) AllReady.nil
        go_simp
        refine hK _ _ ?_
        clear hK K
        refine wpAny_done (by kernel_rfl) ?_ _
        (try simp only [Exit.then])
        go_simp
        go_step
        go_meet
        case rel => exact ⟨_, rfl, Lib.hid (blk_new rfl), Lib.hid (Nat.le_refl _), Lib.hid (by (repeat' (first | (with_reducible exact (Below.refl _ _)) | (with_reducible refine below_drewN _ ?_) | (with_reducible refine Below.drew ?_) | (with_reducible refine Below.alloc ?_ (Nat.le_refl _) _))))⟩
    · go_simp
      refine hK _ _ ?_
      clear hK K
      refine wpAny_ready (rs := [4]) (by kernel_rfl) (by simp) ?_
      refine AllReady.cons rfl (fun K hK => ?_) AllReady.nil
      go_simp
      refine (N4.out _).mono ?_
      rintro e wN ⟨rfl, rfl⟩
      go_simp
      refine hK _ _ ?_
      clear hK K
      refine wpAny_take (i := 5) (v := ?_) rfl (by kernel_rfl) (by kernel_rfl) (by kernel_rfl) (fun _ _ _ h => h) (Or.inl ⟨by rfl, ?_⟩) ?_
      case refine_2 =>
        intro w
        go_simp
        (try with_reducible rfl)
      refine wpAny_ready (rs := [9]) (by kernel_rfl) (by simp) ?_
      refine AllReady.cons rfl (fun K hK => ?_) AllReady.nil
      go_simp
      refine (N12.out _).mono ?_
      rintro e wN ⟨rfl, rfl⟩
      go_simp
      refine hK _ _ ?_
      clear hK K
      refine wpAny_take (i := 10) (v := ?_) rfl (by kernel_rfl) (by kernel_rfl) (by kernel_rfl) (fun _ _ _ h => h) (Or.inl ⟨by rfl, ?_⟩) ?_
      case refine_2 =>
        intro w
        go_simp
        (try with_reducible rfl)
      refine wpAny_ready (rs := [12]) (by kernel_rfl) (by simp) ?_
      refine AllReady.cons rfl (fun K hK => ?_) AllReady.nil
      go_simp
      refine (N16.out _).mono ?_
      rintro e wN ⟨rfl, rfl⟩
      go_simp
      refine hK _ _ ?_
      clear hK K
      refine wpAny_take (i := 13) (v := ?_) rfl (by kernel_rfl) (by kernel_rfl) (by kernel_rfl) (fun _ _ _ h => h) (Or.inl ⟨by rfl, ?_⟩) ?_
      case refine_2 =>
        intro w
        go_simp
        (try with_reducible rfl)
      refine wpAny_ready (rs := [15]) (by kernel_rfl) (by simp) ?_
      refine AllReady.cons rfl (fun K hK => ?_) AllReady.nil
      go_simp
      refine (N20.out _).mono ?_
      rintro e wN ⟨rfl, rfl⟩
      go_simp
      refine hK _ _ ?_
      clear hK K
      refine wpAny_take (i := 16) (v := ?_) rfl (by kernel_rfl) (by kernel_rfl) (by kernel_rfl) (fun _ _ _ h => h) (Or.inl ⟨by rfl, ?_⟩) ?_
      case refine_2 =>
        intro w
        go_simp
        (try with_reducible rfl)
      refine wpAny_ready (rs := [18]) (by kernel_rfl) (by simp) ?_
      refine AllReady.cons rfl (fun K hK => ?_) AllReady.nil
      go_simp
      refine (N22.out _).mono ?_
      rintro e wN ⟨rfl, rfl⟩
      go_simp
      refine hK _ _ ?_
      clear hK K
      refine wpAny_take (i := 19) (v := ?_) rfl (by kernel_rfl) (by kernel_rfl) (by kernel_rfl) (fun _ _ _ h => h) (Or.inl ⟨by rfl, ?_⟩) ?_
      case refine_2 =>
        intro w
        go_simp
        (try with_reducible rfl)
      refine wpAny_take (i := 20) (v := ?_) rfl (by kernel_rfl) (by kernel_rfl) (by kernel_rfl) (fun _ _ _ h => h) (Or.inl ⟨by rfl, ?_⟩) ?_
      case refine_2 =>
        intro w
        go_simp
        (try with_reducible rfl)
      refine wpAny_ready (rs := [22]) (by kernel_rfl) (by simp) ?_
      refine AllReady.cons rfl (fun K hK => ?_) AllReady.nil
      go_simp
      refine hK _ _ ?_
      clear hK K
      refine wpAny_done (by kernel_rfl) ?_ _
      (try simp only [Exit.then])
      go_simp
      go_step
      go_meet
      case rel => exact ⟨_, rfl, Lib.hid (blk_new rfl), Lib.hid (Nat.le_refl _), Lib.hid (by (repeat' (first | (with_reducible exact (Below.refl _ _)) | (with_reducible refine below_drewN _ ?_) | (with_reducible refine Below.drew ?_) | (with_reducible refine Below.alloc ?_ (Nat.le_refl _) _))))⟩
  case rest =>
    obtain ⟨B5, rfl, HB5, L5, YC⟩ := hcut
    obtain ⟨wq, rfl⟩ : ∃ wq, wq = wc := ⟨_, rfl⟩
    clear N4 N12 N16 N20 N22 at1 at8 hd0 ht0 hdw hiw hxw hyw hsw hqw
    have HR := Lib.hid (show wq.heap[w.heap.size]? = some (.cells #[.int .u8 0, .int .u16 0, .int .u8 0, .int .u32 0, .int .u32 0, .int .u16 0, .int .u16 0] 66 (0, 0)) from (YC.out.block _ (lt_blk HBX.out)).trans HBX.out)
    have YW := Lib.hid (show Below w.heap.size w wq from BW.out.trans (YC.out.mono SZ.out))
    have n5 : ¬ B5 = w.heap.size := by have := lt_blk HBX.out; have := L5.out; omega
    have n6 : ¬ w.heap.size = B5 := fun h => n5 h.symm
    clear HBX BW SZ L5
    obtain ⟨b0, b1, b2, b3, b4, b5, b6, -⟩ := at7 HB5.out
    by_cases hl : 65507 < B.size
    · have PL := Lib.hid (fun W => rput_long d i t s q x y d63 B hl W)
      have ET := Lib.hid (show tke S = 3 by rw [E0.out, if_pos (fun h => by have := FL.out h; omega)])
      clear hl
      go_wp2_with fail
      refine (PL.out _).mono ?_
      rintro e wE ⟨rfl, h2⟩
      have YE : Below wq.heap.size wq wE := bel_call h2 (by (repeat' (first | (with_reducible exact Below.refl _ _) | (with_reducible refine below_drewN _ ?_) | (with_reducible refine Below.drew ?_)))) (Nat.le_refl _)
      have HRe := Lib.hid ((YE.block _ (lt_blk HR.out)).trans HR.out)
      have YWe := Lib.hid (YW.out.trans (YE.mono YW.out.size))
      clear h2 YE b0 b1 b2 b3 b4 b5 b6
      obtain ⟨r0, r1, r2, r3, r4, r5, r6, rf0, rf1, rf2, rf3, rf4, rf5, rf6⟩ := at7 HRe.out
      go_upto_region 6 with (fail)
      go_quiet (fail)
      go_wp2
      (try simp only [Exit.inBlock, Exit.then])
      refine bp_gen ?_
      intro vz hvz
      have P : vz.heap[w.heap.size]? = some (.cells #[.int .u8 0, .int .u16 0, .int .u8 0, .int .u32 0, .int .u32 0, .int .u16 0, .int .u16 0] 66 (0, 0)) := by
        rw [hvz, drewN_heap]
        exact put7 HRe.out (.int .u8 0) (.int .u16 0) (.int .u8 0) (.int .u32 0) (.int .u32 0) (.int .u16 0) (.int .u16 0)
      have Q : Below w.heap.size w vz := by
        rw [hvz]
        exact below_drewN _ (put7_bel (B := w.heap.size) YWe.out (Nat.le_refl _) (.int .u8 0) (.int .u16 0) (.int .u8 0) (.int .u32 0) (.int .u32 0) (.int .u16 0) (.int .u16 0))
      clear hvz
      obtain ⟨y0, y1, y2, y3, y4, y5, y6, -⟩ := at7 P
      have QH := Lib.hid Q
      clear P Q
      refine bodyPost_ret (v := .tuple #[Hdr.nil.vals, .string ⟨#[]⟩, .int .i64 3]) (by simp [results, Try.results28, go_sem, y0, y1, y2, y3, y4, y5, y6, Hdr.vals, Hdr.nil]) rfl ⟨by rw [TH.out, TB.out, ET.out]; rfl, QH.out⟩
    · have PO := Lib.hid (fun W => rput_ok d i t s q x y OK B (by omega) W)
      have FR2 := Lib.hid (FR.out (by omega))
      have WZ : (pf ⟨d, i, t, s, q, x, y⟩ B).size = 28 + B.size := SZW.out
      generalize pf ⟨d, i, t, s, q, x, y⟩ B = WT at *
      have j10 : InS WT 10 := ⟨by omega⟩
      have j12 : InS WT 12 := ⟨by omega⟩
      have f1 := Fits.mk (a := WT.extract 0 10) (b := WT.extract 12 WT.size) (by rw [size_ext _ _ _ (by omega), size_ext _ _ _ (Nat.le_refl _)]; have := BZ.out; omega)
      clear hl WZ
      go_wp2_with fail
      refine (PO.out _).mono ?_
      rintro e wE ⟨rfl, h2⟩
      have YE : Below wq.heap.size wq wE := bel_call h2 (by (repeat' (first | (with_reducible exact Below.refl _ _) | (with_reducible refine below_drewN _ ?_) | (with_reducible refine Below.drew ?_)))) (Nat.le_refl _)
      have HRe := Lib.hid ((YE.block _ (lt_blk HR.out)).trans HR.out)
      have HBe := Lib.hid ((YE.block _ (lt_blk HB5.out)).trans HB5.out)
      have YWe := Lib.hid (YW.out.trans (YE.mono YW.out.size))
      clear h2 YE b0 b1 b2 b3 b4 b5 b6
      obtain ⟨r0, r1, r2, r3, r4, r5, r6, rf0, rf1, rf2, rf3, rf4, rf5, rf6⟩ := at7 HRe.out
      by_cases hf : Fmh S
      · have fd : decide (WT.extract 0 10 ++ WT.extract 12 WT.size = S.extract 0 10 ++ S.extract 12 S.size) = true := decide_eq_true (FR2.out.2 hf)
        have SR2 := Lib.hid (SR.out hf)
        have FY := Lib.hid hf
        clear hf
        go_upto_region 6 with (fail)
        go_quiet (fail)
        by_cases hw : WT = S
        · have fe : decide (WT = S) = true := decide_eq_true hw
          have ET := Lib.hid (show tke S = 0 by rw [E0.out, if_neg (fun h => h FY.out), if_neg (fun h => h (SR2.out.1 hw))])
          obtain ⟨b0, b1, b2, b3, b4, b5, b6, -⟩ := at7 HBe.out
          clear hw
          go_wp2
          (try simp only [Exit.inBlock, Exit.then])
          refine bp_gen ?_
          intro vz hvz
          have P : vz.heap[w.heap.size]? = some (.cells #[.int .u8 d, .int .u16 i, .int .u8 t, .int .u32 s, .int .u32 q, .int .u16 x, .int .u16 y] 66 (0, 0)) := by
            rw [hvz, drewN_heap]
            exact put7 HRe.out (.int .u8 d) (.int .u16 i) (.int .u8 t) (.int .u32 s) (.int .u32 q) (.int .u16 x) (.int .u16 y)
          have Q : Below w.heap.size w vz := by
            rw [hvz]
            exact below_drewN _ (put7_bel (B := w.heap.size) YWe.out (Nat.le_refl _) (.int .u8 d) (.int .u16 i) (.int .u8 t) (.int .u32 s) (.int .u32 q) (.int .u16 x) (.int .u16 y))
          clear hvz
          obtain ⟨y0, y1, y2, y3, y4, y5, y6, -⟩ := at7 P
          have QH := Lib.hid Q
          clear P Q
          refine bodyPost_ret (v := .tuple #[.agg #[.int .u8 d, .int .u16 i, .int .u8 t, .int .u32 s, .int .u32 q, .int .u16 x, .int .u16 y], .string B, .int .i64 0]) (by simp [results, Try.results28, go_sem, y0, y1, y2, y3, y4, y5, y6, Hdr.vals, Hdr.nil]) rfl ⟨by rw [TH.out, TB.out, ET.out]; rfl, QH.out⟩
        · have fe : decide (WT = S) = false := decide_eq_false hw
          have ET := Lib.hid (show tke S = 11 by rw [E0.out, if_neg (fun h => h FY.out), if_pos (fun h => hw (SR2.out.2 h))])
          clear hw
          go_wp2
          (try simp only [Exit.inBlock, Exit.then])
          refine bp_gen ?_
          intro vz hvz
          have P : vz.heap[w.heap.size]? = some (.cells #[.int .u8 0, .int .u16 0, .int .u8 0, .int .u32 0, .int .u32 0, .int .u16 0, .int .u16 0] 66 (0, 0)) := by
            rw [hvz, drewN_heap]
            exact put7 HRe.out (.int .u8 0) (.int .u16 0) (.int .u8 0) (.int .u32 0) (.int .u32 0) (.int .u16 0) (.int .u16 0)
          have Q : Below w.heap.size w vz := by
            rw [hvz]
            exact below_drewN _ (put7_bel (B := w.heap.size) YWe.out (Nat.le_refl _) (.int .u8 0) (.int .u16 0) (.int .u8 0) (.int .u32 0) (.int .u32 0) (.int .u16 0) (.int .u16 0))
          clear hvz
          obtain ⟨y0, y1, y2, y3, y4, y5, y6, -⟩ := at7 P
          have QH := Lib.hid Q
          clear P Q
          refine bodyPost_ret (v := .tuple #[Hdr.nil.vals, .string ⟨#[]⟩, .int .i64 11]) (by simp [results, Try.results28, go_sem, y0, y1, y2, y3, y4, y5, y6, Hdr.vals, Hdr.nil]) rfl ⟨by rw [TH.out, TB.out, ET.out]; rfl, QH.out⟩
      · have fd : decide (WT.extract 0 10 ++ WT.extract 12 WT.size = S.extract 0 10 ++ S.extract 12 S.size) = false := decide_eq_false (fun h => hf (FR2.out.1 h))
        have ET := Lib.hid (show tke S = 3 by rw [E0.out, if_pos hf])
        clear hf
        go_upto_region 6 with (fail)
        go_quiet (fail)
        go_wp2
        (try simp only [Exit.inBlock, Exit.then])
        refine bp_gen ?_
        intro vz hvz
        have P : vz.heap[w.heap.size]? = some (.cells #[.int .u8 0, .int .u16 0, .int .u8 0, .int .u32 0, .int .u32 0, .int .u16 0, .int .u16 0] 66 (0, 0)) := by
          rw [hvz, drewN_heap]
          exact put7 HRe.out (.int .u8 0) (.int .u16 0) (.int .u8 0) (.int .u32 0) (.int .u32 0) (.int .u16 0) (.int .u16 0)
        have Q : Below w.heap.size w vz := by
          rw [hvz]
          exact below_drewN _ (put7_bel (B := w.heap.size) YWe.out (Nat.le_refl _) (.int .u8 0) (.int .u16 0) (.int .u8 0) (.int .u32 0) (.int .u32 0) (.int .u16 0) (.int .u16 0))
        clear hvz
        obtain ⟨y0, y1, y2, y3, y4, y5, y6, -⟩ := at7 P
        have QH := Lib.hid Q
        clear P Q
        refine bodyPost_ret (v := .tuple #[Hdr.nil.vals, .string ⟨#[]⟩, .int .i64 3]) (by simp [results, Try.results28, go_sem, y0, y1, y2, y3, y4, y5, y6, Hdr.vals, Hdr.nil]) rfl ⟨by rw [TH.out, TB.out, ET.out]; rfl, QH.out⟩
end Go.Proofs.Ytiaafpemhalmpaa
