/-
  The law of layer 14 on all that is told of a row, walked: true for any row. No condition.
-/
import Derived.Test.YteblhgmepfegpabInvLaw
import Derived.Test.YteblhgmepfegpabApp0
namespace Go.Proofs.Yteblhgmepfegpab
set_option linter.unusedVariables false
set_option linter.unusedSimpArgs false
open Go.ChangeShapes Go.WideShapes Go.ChangeAt Go.RowKit
attribute [local go_sem] alloc_drewN setCell_drewN

theorem Row1.num {w : World} {a : Option Addr} {n c : Nat} {zs : List Int} (hr : Row1 .u64 w a n zs) : NumAt w w.heap.size (.slice a n c) (fun i => zs.getD i 0) n := by
  obtain ⟨hz, hm, hw, hc⟩ := hr
  refine ⟨a, c, rfl, fun i hi => ?_⟩
  obtain ⟨b, off, rfl, hb, h⟩ := hc (by omega)
  exact ⟨b, off, rfl, hb, hb, h i hi⟩
set_option maxRecDepth 100000 in
set_option maxHeartbeats 4000000 in
theorem walk_invertTells (a : Option Addr) (n c : Nat) (zs : List Int) {w : World} (hr : Row1 .u64 w a n zs) (hcap : n ≤ c) :
    Calls Try.prog 3 #[.slice a n c] w fun e w' => e = .returned (.bool true) ∧ Below w.heap.size w w' := by
  obtain ⟨i0, hi0, hz0, hz1, hz2⟩ := info_parts infoU
  by_cases hbig : 400 < n
  · have hm := hr.2.1
    unfold maxLen at hm
    clear hr
    go_enter Try.func3, Try.ntmps3
    go_wp2_with fail
    refine (lives14 _).mono ?_
    rintro e w5 ⟨rfl, h5⟩
    go_wp2
    go_ret
    exact ⟨rfl, h5⟩
  have hn : n ≤ 400 := by omega
  obtain ⟨z, hzz⟩ : ∃ z : Nat → Int, z = fun i => zs.getD i 0 := ⟨_, rfl⟩
  have HN := Lib.hid (show NumAt w w.heap.size (.slice a n c) z n by rw [hzz]; exact hr.num)
  have HZ := Lib.hid (show ∀ i, zs.getD i 0 = z i from fun i => by rw [hzz])
  clear hzz
  have hlz := hr.1
  have HR := Lib.hid hr
  have hno : ¬ (400 : Int) < n := by omega
  have hb1 : Below w.heap.size w (w.alloc (.cells #[] 24)) := (Below.refl _ w).alloc (Nat.le_refl _) _
  have HB1 := Lib.hid hb1
  have ho : (w.alloc (.cells #[] 24)).ownsRow w.heap.size 24 1 (.slice (some ⟨w.heap.size, 0, none⟩) 0 0) 0 [] := World.ownsRow_lit w #[] 0 (Nat.le_refl _) (Nat.zero_le _) rfl
  have HO := Lib.hid ho
  clear hr hb1 ho hbig
  go_enter Try.func3, Try.ntmps3
  go_upto_region 3 with (fail)
  go_cut [3] (fun y wx => ∃ vm, vm = y ∧ U64s wx w.heap.size vm zs ∧ Below w.heap.size w wx)
  case first =>
    by_cases h0 : n = 0
    · subst h0
      obtain rfl : zs = [] := List.eq_nil_of_length_eq_zero hlz
      go_wp2_with (at_builtin; refine wpList_append_own_zero rfl _ _ 22 rfl w.heap.size 24 i0 1 Try.underlying22 hi0 _ _ _ rfl HO.out _ _ rfl ?_)
      go_meet
      case rel => exact ⟨_, rfl, HO.out, HB1.out⟩
    · obtain ⟨b, off, rfl, hb, hc⟩ := HR.out.2.2.2 (by omega)
      have HC := Lib.hid (show ∀ j u, (zs.map (Value.int .u64))[j]? = some u → (w.alloc (.cells #[] 24)).cell? ((⟨b, off, none⟩ : Addr).add j) = some u from fun j u hu => by
        have hj : j < n := by
          have := (List.getElem?_eq_some_iff.1 hu).1
          simpa [hlz] using this
        rw [Go.WideShapes.add_plain]
        refine (HB1.out.cell (p := ⟨b, off + j, none⟩) hb).trans ((hc j hj).trans ?_)
        rw [← hu, List.getElem?_map, List.getD_eq_getElem?_getD, List.getElem?_eq_getElem (by omega)]; rfl)
      have HL := Lib.hid (show (zs.map (Value.int .u64)).length = n * 1 by rw [List.length_map]; omega)
      have H1 := Lib.hid (show ∀ u ∈ zs.map (Value.int .u64), u.oneCell' = true from fun u hu => by obtain ⟨x, _, rfl⟩ := List.mem_map.1 hu; rfl)
      clear hc
      go_wp2_with (at_builtin; refine wpList_append_own _ rfl _ _ 22 rfl w.heap.size 24 i0 (.int .u64 0) 1 8 Try.underlying22 hi0 hz0 hz1 hz2 rfl (by decide) _ _ _ rfl HO.out ⟨b, off, none⟩ n c (zs.map (Value.int .u64)) rfl HL.out HC.out H1.out (by unfold maxLen; omega) (by omega) (by simp) ?_; intro v3 w3 ho4 hg3 hn3; clear hn3)
      go_meet
      case rel => exact ⟨v3, rfl, by
        unfold U64s
        rw [hlz]
        simpa using ho4, HB1.out.grown hg3 (by simp) (fun g hg => (World.ownsRow.lt HO.out g hg).1)⟩
  case rest =>
    obtain ⟨vm, rfl, hm, hb⟩ := hcut
    generalize wc = wy at *
    have HM := Lib.hid hm
    have N0 := Lib.hid (num_grow HN.out hb)
    have B0 := Lib.hid hb
    clear hm hb
    go_wp2_with fail
    refine (count14 hn _ _ _ N0.out).mono ?_
    rintro e w1 ⟨rfl, b1⟩
    have N1 := Lib.hid (num_grow N0.out b1)
    have B1 := Lib.hid (B0.out.trans (b1.mono B0.out.size))
    have M1 := Lib.hid (HM.out.below b1)
    clear b1
    go_wp2_with fail
    refine (rcount14 hn _ _ _ N1.out).mono ?_
    rintro e w2 ⟨rfl, b2⟩
    have N2 := Lib.hid (num_grow N1.out b2)
    have B2 := Lib.hid (B1.out.trans (b2.mono B1.out.size))
    have M2 := Lib.hid (M1.out.below b2)
    clear b2
    go_wp2_with fail
    refine (order14 hn _ _ _ N2.out).mono ?_
    rintro e w3 ⟨v3, rfl, i3, b3⟩
    have N3 := Lib.hid (num_grow N2.out b3)
    have B3 := Lib.hid (B2.out.trans (b3.mono B2.out.size))
    have M3 := Lib.hid (M2.out.below b3)
    have I3 := Lib.hid i3
    clear i3
    clear b3
    go_wp2_with fail
    refine (rorder14 hn _ _ _ N3.out).mono ?_
    rintro e w4 ⟨v4, rfl, i4, b4⟩
    have N4 := Lib.hid (num_grow N3.out b4)
    have B4 := Lib.hid (B3.out.trans (b4.mono B3.out.size))
    have M4 := Lib.hid (M3.out.below b4)
    have I34 := Lib.hid (I3.out.below b4)
    have I4 := Lib.hid i4
    clear i4
    clear b4
    go_wp2_with fail
    refine (same6 _ _ v3 v4 _ (by rw [List.length_map, ordN_length]; omega) _ I34.out I4.out).mono ?_
    rintro e w5 ⟨rfl, b5⟩
    have N5 := Lib.hid (num_grow N4.out b5)
    have B5 := Lib.hid (B4.out.trans (b5.mono B4.out.size))
    have M5 := Lib.hid (M4.out.below b5)
    clear b5
    go_wp2_with fail
    refine (late14 hn _ _ _ N5.out).mono ?_
    rintro e w6 ⟨v6, rfl, i6, b6⟩
    have N6 := Lib.hid (num_grow N5.out b6)
    have B6 := Lib.hid (B5.out.trans (b6.mono B5.out.size))
    have M6 := Lib.hid (M5.out.below b6)
    have I6 := Lib.hid i6
    clear i6
    clear b6
    go_wp2_with fail
    refine (rlate14 hn _ _ _ N6.out).mono ?_
    rintro e w7 ⟨v7, rfl, i7, b7⟩
    have N7 := Lib.hid (num_grow N6.out b7)
    have B7 := Lib.hid (B6.out.trans (b7.mono B6.out.size))
    have M7 := Lib.hid (M6.out.below b7)
    have I67 := Lib.hid (I6.out.below b7)
    have I7 := Lib.hid i7
    clear i7
    clear b7
    go_wp2_with fail
    refine (same6 _ _ v6 v7 _ (by rw [latN_length]; omega) _ I67.out I7.out).mono ?_
    rintro e w8 ⟨rfl, b8⟩
    have N8 := Lib.hid (num_grow N7.out b8)
    have B8 := Lib.hid (B7.out.trans (b8.mono B7.out.size))
    have M8 := Lib.hid (M7.out.below b8)
    clear b8
    go_wp2_with fail
    refine (longest14 hn _ _ _ N8.out).mono ?_
    rintro e w9 ⟨rfl, b9⟩
    have N9 := Lib.hid (num_grow N8.out b9)
    have B9 := Lib.hid (B8.out.trans (b9.mono B8.out.size))
    have M9 := Lib.hid (M8.out.below b9)
    clear b9
    go_wp2_with fail
    refine (rlong14 hn _ _ _ N9.out).mono ?_
    rintro e w10 ⟨rfl, b10⟩
    have N10 := Lib.hid (num_grow N9.out b10)
    have B10 := Lib.hid (B9.out.trans (b10.mono B9.out.size))
    have M10 := Lib.hid (M9.out.below b10)
    clear b10
    have NC := Lib.hid N10.out.open
    obtain ⟨am, cm, rfl, -, hmc⟩ := M10.out.form
    have MC := Lib.hid hmc
    have L10 := Lib.hid (lives14)
    clear hmc
    rw [hlz]
    go_wp2
    go_loopw [4, 41] (fun x y wr => ∃ i : Nat, i ≤ n ∧ x = .bool true ∧ y = .int .i64 i ∧ Below w10.heap.size w10 wr) (fun _ y _ => n - (intOf y).toNat)
    case atStart => exact ⟨0, Nat.zero_le _, by simp, rfl, Below.refl _ _⟩
    case round =>
      obtain ⟨i, hi, rfl, rfl, hb⟩ := hrel
      by_cases hlt : i < n
      · obtain ⟨b, off, rfl, hb1, hb2, ci⟩ := NC.out i hlt
        obtain ⟨g, rfl, hg0, hg, cg, -⟩ := MC.out i (by omega)
        rw [HZ.out i] at cg
        have ci := (hb.cell (p := ⟨b, off + i, none⟩) hb1).trans ci
        have cg := (hb.cell (p := ⟨g, i, none⟩) hg).trans cg
        have i00 : (0 : Int) ≤ i := by omega
        have i1 : (i : Int) < n := by omega
        generalize z i = zi at *
        go_wp2
        go_quiet (fail)
        go_wp2
        go_roundw
        case rel => exact ⟨i + 1, by omega, by simp, by go_num, below_drewN _ hb⟩
        case measure => simp [intOf] <;> omega
      · obtain rfl : i = n := by omega
        have B11 := Lib.hid (B10.out.trans (hb.mono B10.out.size))
        clear hb
        go_wp2_with fail
        refine (L10.out _).mono ?_
        rintro e w11 ⟨rfl, b11⟩
        have B12 := Lib.hid (B11.out.trans (b11.mono B11.out.size))
        clear b11
        go_wp2
        go_ret
        exact ⟨rfl, B12.out⟩
end Go.Proofs.Yteblhgmepfegpab
