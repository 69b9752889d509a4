/-
  The law of what both sums tell of layer 5, walked: it returns true for any strings and numbers. No condition.
-/
import Derived.Test.YtmdaoicnbenfnaaWalk5f
import Derived.Deep.RegionHeld3
namespace Go.Proofs.Ytmdaoicnbenfnaa
set_option linter.unusedVariables false
set_option linter.unusedSimpArgs false
open Go.ChangeShapes Go.WideShapes Go.ChangeAt Go.RowKit
attribute [-go_sem] run_index_string binOp_string_eql binOp_string_neq run_string_add_if run_slice_string_from_if run_slice_string_to_if
attribute [local go_sem] index_bt add_fits slice_from slice_to eql_str neq_str alloc_drewN setCell_drewN conv_one conv_four conv_one_drew conv_four_two

theorem upd_bd (n a b : Int) (n0 : 0 ≤ n) (n1 : n ≤ 65535) (a0 : 0 ≤ a) (a1 : a ≤ 65535) (b0 : 0 ≤ b) (b1 : b ≤ 65535) : 0 ≤ upd n a b ∧ upd n a b ≤ 65535 := by
  have h1 := rg_bd (65535 - n) (65535 - a) (by omega) (by omega) (by omega) (by omega)
  have h2 := rg_bd (rg (65535 - n) (65535 - a)) b h1.1 h1.2 b0 b1
  unfold upd; omega

set_option maxHeartbeats 4000000 in
theorem walk_sumTells (s : ByteArray) (hs : s.size ≤ maxLen) (n : Int) (n0 : 0 ≤ n) (n1 : n ≤ 4294967295) (x : Int) (x0 : 0 ≤ x) (x1 : x ≤ 65535) (y : Int) (y0 : 0 ≤ y) (y1 : y ≤ 65535) (z : Int) (z0 : 0 ≤ z) (z1 : z ≤ 65535) (w : World) :
    Calls Try.prog 7 #[.string s, .int .u32 n, .agg #[.int .u16 x, .int .u16 y, .int .u16 z]] w fun e w' => e = .returned (.bool true) ∧ Below w.heap.size w w' := by
  unfold maxLen at hs
  by_cases h5 : 5000 < s.size
  · go_enter Try.func7, Try.ntmps7
    go_wp2_with fail
    refine (lives5 _).mono ?_
    rintro e w5 ⟨rfl, h5⟩
    go_wp2
    go_ret
    exact ⟨rfl, Below.go ((Below.refl _ _).alloc (Nat.le_refl _) _) h5⟩
  · have S0 : Hid (∀ v, Below (w.alloc (.cells #[.int .u16 x, .int .u16 y, .int .u16 z] 45)).heap.size (w.alloc (.cells #[.int .u16 x, .int .u16 y, .int .u16 z] 45)) v →
        v.cell? ⟨w.heap.size, 0, none⟩ = some (.int .u16 x) ∧ v.cell? ⟨w.heap.size, 1, none⟩ = some (.int .u16 y) ∧ v.cell? ⟨w.heap.size, 2, none⟩ = some (.int .u16 z)) := Lib.hid fun v hv => by
      refine ⟨(hv.cell (p := ⟨w.heap.size, 0, none⟩) (by simp)).trans ?_, (hv.cell (p := ⟨w.heap.size, 1, none⟩) (by simp)).trans ?_, (hv.cell (p := ⟨w.heap.size, 2, none⟩) (by simp)).trans ?_⟩ <;> simp [go_sem]
    obtain ⟨i0, i1⟩ := inet_bd s
    obtain ⟨u0, u1⟩ := upd_bd x y z x0 x1 y0 y1 z0 z1
    obtain ⟨m0, m1⟩ := mor_bd n s
    obtain ⟨m2, m3⟩ := mor_bd 1 s
    have OF := Lib.hid (fun b c w hc => of_one b c s (by omega) w hc)
    have B0 : Hid (Below w.heap.size w (w.alloc (.cells #[.int .u16 x, .int .u16 y, .int .u16 z] 45))) := Lib.hid ((Below.refl _ _).alloc (Nat.le_refl _) _)
    have k16 : ∀ q : Int, 0 ≤ q → q ≤ 65535 → IntKind.i64.wrap q = q := fun q h0 h1 => by rw [IntKind.wrap_i64]; omega
    have kx := k16 x x0 x1; have ky := k16 y y0 y1; have kz := k16 z z0 z1; have ki := k16 _ i0 i1; have ku := k16 _ u0 u1
    clear k16
    by_cases h4 : s.size < 4
    · go_enter Try.func7, Try.ntmps7
      go_wp2_with fail
      refine (open_any s (by omega) _).mono ?_
      rintro e w1 ⟨rfl, hb1⟩
      rw [if_neg (by omega)]
      go_wp2_with fail
      have bd := hb1.drew
      go_region_held3 (fun v => v.cell? ⟨w.heap.size, 0, none⟩ = some (.int .u16 x) ∧ v.cell? ⟨w.heap.size, 1, none⟩ = some (.int .u16 y) ∧ v.cell? ⟨w.heap.size, 2, none⟩ = some (.int .u16 z))
        ((first
          | exact S0.out _ (Below.go (Below.go (Below.go (hb1.alloc hb1.size _).drew k1) k2) k3)
          | exact S0.out _ (Below.go (Below.go (hb1.alloc hb1.size _).drew k1) k2)
          | exact S0.out _ (Below.go (hb1.alloc hb1.size _).drew k1)
          | exact S0.out _ (bd.alloc bd.size _)
          | exact S0.out _ (hb1.alloc hb1.size _).drew
          | exact S0.out _ bd))
        (first
          | (go_at_call 23; refine (inet_any s (by omega) _).mono ?_; rintro e w' ⟨rfl, rfl⟩)
          | (go_at_call 24; refine (refinet_any s (by omega) _).mono ?_; rintro e w' ⟨rfl, rfl⟩)
          | (go_at_call 25; refine (update_any x y z x0 x1 y0 y1 z0 z1 _).mono ?_; rintro e w' ⟨rfl, rfl⟩)
          | (go_at_call 26; refine (refupdate_any x y z x0 x1 y0 y1 z0 z1 _).mono ?_; rintro e w' ⟨rfl, rfl⟩)
          | (go_at_call 27; refine (more_any n s n0 n1 (by omega) _).mono ?_; rintro e w' ⟨rfl, rfl⟩)
          | (go_at_call 28; refine (refmore_any n s n0 n1 (by omega) _).mono ?_; rintro e w' ⟨rfl, rfl⟩)
          | (go_at_call 29; refine (OF.out _ _ _ (by first | exact one_cell _ _ _ | exact one_cell w1 (.string s) 9)).mono ?_; rintro e w' ⟨rfl, rfl⟩)
          | (go_at_call 30; refine (refof_any s (by omega) _).mono ?_; rintro e w' ⟨rfl, rfl⟩)
          | (go_at_call 31; refine (seal_any s (by omega) _).mono ?_; rintro e w2 ⟨rfl, k1⟩)
          | (go_at_call 22; refine (refseal_any s (by omega) _).mono ?_; rintro e w3 ⟨rfl, k2⟩)
          | (go_at_call 20; refine (lives5 _).mono ?_; rintro e w4 ⟨rfl, k3⟩))
      go_wp2
      go_ret
      exact ⟨rfl, Below.go B0.out (Below.go (Below.go (Below.go (hb1.alloc hb1.size _).drew k1) k2) k3)⟩
    · have e4 : (s.extract 0 (s.size - 4)).size = s.size - 4 := by rw [size_ext _ _ _ (by omega)]; omega
      have ei : ((s.size : Int) - 4).toNat = s.size - 4 := by omega
      have ii : InS s ((s.size : Int) - 4) := ⟨by omega⟩
      have E4 := Lib.hid e4; clear e4
      have e0 : (s.extract 0 (s.size - 4) = s) = False := by
        simp only [eq_iff_iff, iff_false]
        intro h
        have h1 := E4.out
        rw [h] at h1
        omega
      generalize hx : s.extract 0 (s.size - 4) = t at *
      by_cases h : seal4 t = s
      · have hd : decide (seal4 t = s) = true := decide_eq_true h
        have HH := Lib.hid h; clear h
        have HI := Lib.hid (show 4 ≤ s.size ∧ seal4 t = s from ⟨by omega, HH.out⟩)
        go_enter Try.func7, Try.ntmps7
        go_wp2_with fail
        refine (open_any s (by omega) _).mono ?_
        rintro e w1 ⟨rfl, hb1⟩
        rw [hx, if_pos HI.out]
        go_wp2_with fail
        refine (refseal_any t (by rw [E4.out]; omega) _).mono ?_
        rintro e w9 ⟨rfl, k0⟩
        have hb9 := Below.go hb1 k0
        go_wp2_with fail
        have bd := hb9.drew
        go_region_held3 (fun v => v.cell? ⟨w.heap.size, 0, none⟩ = some (.int .u16 x) ∧ v.cell? ⟨w.heap.size, 1, none⟩ = some (.int .u16 y) ∧ v.cell? ⟨w.heap.size, 2, none⟩ = some (.int .u16 z))
          ((first
            | exact S0.out _ (Below.go (Below.go (Below.go (hb9.alloc hb9.size _).drew k1) k2) k3)
            | exact S0.out _ (Below.go (Below.go (hb9.alloc hb9.size _).drew k1) k2)
            | exact S0.out _ (Below.go (hb9.alloc hb9.size _).drew k1)
            | exact S0.out _ (bd.alloc bd.size _)
            | exact S0.out _ (hb9.alloc hb9.size _).drew
            | exact S0.out _ bd))
          (first
            | (go_at_call 23; refine (inet_any s (by omega) _).mono ?_; rintro e w' ⟨rfl, rfl⟩)
            | (go_at_call 24; refine (refinet_any s (by omega) _).mono ?_; rintro e w' ⟨rfl, rfl⟩)
            | (go_at_call 25; refine (update_any x y z x0 x1 y0 y1 z0 z1 _).mono ?_; rintro e w' ⟨rfl, rfl⟩)
            | (go_at_call 26; refine (refupdate_any x y z x0 x1 y0 y1 z0 z1 _).mono ?_; rintro e w' ⟨rfl, rfl⟩)
            | (go_at_call 27; refine (more_any n s n0 n1 (by omega) _).mono ?_; rintro e w' ⟨rfl, rfl⟩)
            | (go_at_call 28; refine (refmore_any n s n0 n1 (by omega) _).mono ?_; rintro e w' ⟨rfl, rfl⟩)
            | (go_at_call 29; refine (OF.out _ _ _ (by first | exact one_cell _ _ _ | exact one_cell w9 (.string s) 9)).mono ?_; rintro e w' ⟨rfl, rfl⟩)
            | (go_at_call 30; refine (refof_any s (by omega) _).mono ?_; rintro e w' ⟨rfl, rfl⟩)
            | (go_at_call 31; refine (seal_any s (by omega) _).mono ?_; rintro e w2 ⟨rfl, k1⟩)
            | (go_at_call 22; refine (refseal_any s (by omega) _).mono ?_; rintro e w3 ⟨rfl, k2⟩)
            | (go_at_call 20; refine (lives5 _).mono ?_; rintro e w4 ⟨rfl, k3⟩))
        go_wp2
        go_ret
        exact ⟨rfl, Below.go B0.out (Below.go (Below.go (Below.go (hb9.alloc hb9.size _).drew k1) k2) k3)⟩
      · have hd : decide (seal4 t = s) = false := decide_eq_false h
        have HI := Lib.hid (show ¬ (4 ≤ s.size ∧ seal4 t = s) from fun g => h g.2); clear h
        go_enter Try.func7, Try.ntmps7
        go_wp2_with fail
        refine (open_any s (by omega) _).mono ?_
        rintro e w1 ⟨rfl, hb1⟩
        rw [hx, if_neg HI.out]
        go_wp2_with fail
        refine (refseal_any t (by rw [E4.out]; omega) _).mono ?_
        rintro e w9 ⟨rfl, k0⟩
        have hb9 := Below.go hb1 k0
        go_wp2_with fail
        have bd := hb9.drew
        go_region_held3 (fun v => v.cell? ⟨w.heap.size, 0, none⟩ = some (.int .u16 x) ∧ v.cell? ⟨w.heap.size, 1, none⟩ = some (.int .u16 y) ∧ v.cell? ⟨w.heap.size, 2, none⟩ = some (.int .u16 z))
          ((first
            | exact S0.out _ (Below.go (Below.go (Below.go (hb9.alloc hb9.size _).drew k1) k2) k3)
            | exact S0.out _ (Below.go (Below.go (hb9.alloc hb9.size _).drew k1) k2)
            | exact S0.out _ (Below.go (hb9.alloc hb9.size _).drew k1)
            | exact S0.out _ (bd.alloc bd.size _)
            | exact S0.out _ (hb9.alloc hb9.size _).drew
            | exact S0.out _ bd))
          (first
            | (go_at_call 23; refine (inet_any s (by omega) _).mono ?_; rintro e w' ⟨rfl, rfl⟩)
            | (go_at_call 24; refine (refinet_any s (by omega) _).mono ?_; rintro e w' ⟨rfl, rfl⟩)
            | (go_at_call 25; refine (update_any x y z x0 x1 y0 y1 z0 z1 _).mono ?_; rintro e w' ⟨rfl, rfl⟩)
            | (go_at_call 26; refine (refupdate_any x y z x0 x1 y0 y1 z0 z1 _).mono ?_; rintro e w' ⟨rfl, rfl⟩)
            | (go_at_call 27; refine (more_any n s n0 n1 (by omega) _).mono ?_; rintro e w' ⟨rfl, rfl⟩)
            | (go_at_call 28; refine (refmore_any n s n0 n1 (by omega) _).mono ?_; rintro e w' ⟨rfl, rfl⟩)
            | (go_at_call 29; refine (OF.out _ _ _ (by first | exact one_cell _ _ _ | exact one_cell w9 (.string s) 9)).mono ?_; rintro e w' ⟨rfl, rfl⟩)
            | (go_at_call 30; refine (refof_any s (by omega) _).mono ?_; rintro e w' ⟨rfl, rfl⟩)
            | (go_at_call 31; refine (seal_any s (by omega) _).mono ?_; rintro e w2 ⟨rfl, k1⟩)
            | (go_at_call 22; refine (refseal_any s (by omega) _).mono ?_; rintro e w3 ⟨rfl, k2⟩)
            | (go_at_call 20; refine (lives5 _).mono ?_; rintro e w4 ⟨rfl, k3⟩))
        go_wp2
        go_ret
        exact ⟨rfl, Below.go B0.out (Below.go (Below.go (Below.go (hb9.alloc hb9.size _).drew k1) k2) k3)⟩
end Go.Proofs.Ytmdaoicnbenfnaa
