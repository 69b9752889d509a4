/-
  The law of layer 14 on rows that do not fall, walked: true for any row. No condition.
-/
import Derived.Test.YteblhgmepfegpabInvSwap
namespace Go.Proofs.Yteblhgmepfegpab
set_option linter.unusedVariables false
set_option linter.unusedSimpArgs false
open Go.ChangeShapes Go.WideShapes Go.ChangeAt Go.RowKit
attribute [local go_sem] alloc_drewN setCell_drewN

def FallsTo (z : Nat → Int) (i : Nat) : Prop := ∃ j, j < i ∧ 0 < j ∧ z j < z (j - 1)
theorem falls_zero (z : Nat → Int) : ¬ FallsTo z 0 := fun ⟨j, h, _⟩ => absurd h (Nat.not_lt_zero _)
theorem falls_step {z : Nat → Int} {i : Nat} (h : ¬ FallsTo z i) : FallsTo z (i + 1) ↔ 0 < i ∧ z i < z (i - 1) := by
  constructor
  · rintro ⟨j, h1, h2, h3⟩
    by_cases e : j = i
    · subst e; exact ⟨h2, h3⟩
    · exact absurd ⟨j, by omega, h2, h3⟩ h
  · rintro ⟨h1, h2⟩; exact ⟨i, by omega, h1, h2⟩
theorem falls_more {z : Nat → Int} {i : Nat} (h : FallsTo z i) : FallsTo z (i + 1) := by
  obtain ⟨j, h1, h2, h3⟩ := h; exact ⟨j, by omega, h2, h3⟩
theorem falls_not {z : Nat → Int} {n : Nat} : ¬ FallsTo z n ↔ ∀ i, i < n → 0 < i → z (i - 1) ≤ z i := by
  constructor
  · intro h i hi h0
    exact Int.not_lt.1 (fun hh => h ⟨i, hi, h0, hh⟩)
  · rintro h ⟨j, h1, h2, h3⟩
    have := h j h1 h2; omega
set_option maxRecDepth 100000 in
set_option maxHeartbeats 4000000 in
theorem walk_invertNone (a : Option Addr) (n c : Nat) (zs : List Int) {w : World} (hr : Row1 .u64 w a n zs) (hcap : n ≤ c) :
    Calls Try.prog 4 #[.slice a n c] w fun e w' => e = .returned (.bool true) ∧ Below w.heap.size w w' := by
  obtain ⟨i0, hi0, hz0, hz1, hz2⟩ := info_parts infoU
  by_cases hbig : 400 < n
  · have hm := hr.2.1
    unfold maxLen at hm
    clear hr
    go_enter Try.func4, Try.ntmps4
    go_wp2_with fail
    refine (lives14 _).mono ?_
    rintro e w5 ⟨rfl, h5⟩
    go_wp2
    go_ret
    exact ⟨rfl, h5⟩
  have hn : n ≤ 400 := by omega
  obtain ⟨z, hzz⟩ : ∃ z : Nat → Int, z = fun i => zs.getD i 0 := ⟨_, rfl⟩
  have HN := Lib.hid (show NumAt w w.heap.size (.slice a n c) z n by rw [hzz]; exact hr.num)
  clear hzz
  have hno : ¬ (400 : Int) < n := by omega
  clear hr hbig
  go_enter Try.func4, Try.ntmps4
  go_wp2
  go_loopw [3, 17] (fun x y wr => ∃ (fl : Bool) (i : Nat), i ≤ n ∧ x = .bool fl ∧ y = .int .i64 i ∧ Hid (fl = true ↔ FallsTo z i) ∧ Below w.heap.size w wr) (fun _ y _ => n - (intOf y).toNat)
  case atStart => exact ⟨false, 0, Nat.zero_le _, rfl, rfl, Lib.hid ⟨fun h => (by cases h), fun h => absurd h (falls_zero z)⟩, Below.refl _ _⟩
  case round =>
    obtain ⟨fl, i, hi, rfl, rfl, hf, hb⟩ := hrel
    by_cases hlt : i < n
    · obtain ⟨b, off, rfl, hb1, hb2, ci⟩ := HN.out.open i hlt
      have ci := (hb.cell (p := ⟨b, off + i, none⟩) hb1).trans ci
      have i00 : (0 : Int) ≤ i := by omega
      have i1 : (i : Int) < n := by omega
      cases fl with
      | true =>
        have HF := Lib.hid (falls_more (hf.out.1 rfl))
        go_wp2
        go_quiet (fail)
        go_wp2
        go_roundw
        case rel => exact ⟨true, i + 1, by omega, rfl, by go_num, Lib.hid ⟨fun _ => HF.out, fun _ => rfl⟩, below_drewN _ hb⟩
        case measure => simp [intOf] <;> omega
      | false =>
        have hnf : ¬ FallsTo z i := fun h => by have := hf.out.2 h; cases this
        have HS := Lib.hid (falls_step hnf)
        clear hnf
        by_cases h0 : i = 0
        · subst h0
          have d0 : decide ((0 : Int) < ((0 : Nat) : Int)) = false := by decide
          go_wp2
          go_quiet (fail)
          go_wp2
          go_roundw
          case rel => exact ⟨false, 0 + 1, by omega, by simp, by go_num, Lib.hid ⟨fun h => (by cases h), fun h => absurd (HS.out.1 h).1 (Nat.lt_irrefl _)⟩, below_drewN _ hb⟩
          case measure => simp [intOf] <;> omega
        · obtain ⟨j, hj⟩ : ∃ j, j + 1 = i := ⟨i - 1, by omega⟩
          have cj : _ := (hb.cell (p := ⟨b, off + j, none⟩) hb1).trans (by
            obtain ⟨b2, off2, e, _, _, ck⟩ := HN.out.open j (by omega)
            injection e with e; injection e with e1 e2; subst e1; subst e2; exact ck)
          have jw : IntKind.i64.wrap ((i : Int) - 1) = (j : Int) := by rw [IntKind.wrap_i64]; omega
          have d0 : decide ((0 : Int) < (i : Int)) = true := decide_eq_true (by omega)
          have d0' : decide (0 < i) = true := decide_eq_true (by omega)
          have d0n : 0 < i := by omega
          have HS2 := Lib.hid (show FallsTo z (i + 1) ↔ z i < z j from by
            have e : i - 1 = j := by omega
            have h := HS.out
            rw [e] at h
            exact ⟨fun hh => (h.1 hh).2, fun hh => h.2 ⟨by omega, hh⟩⟩)
          have j00 : (0 : Int) ≤ j := by omega
          have j1 : (j : Int) < n := by omega
          clear HS hj
          by_cases hz : z i < z j
          · have HT := Lib.hid (HS2.out.2 hz)
            have hzd : decide (z i < z j) = true := decide_eq_true hz
            generalize z i = zq at *
            generalize z j = zj at *
            go_wp2
            go_quiet (fail)
            go_wp2
            go_roundw
            case rel => exact ⟨true, i + 1, by omega, by simp, by go_num, Lib.hid ⟨fun _ => HT.out, fun _ => rfl⟩, below_drewN _ hb⟩
            case measure => simp [intOf] <;> omega
          · have HT := Lib.hid (fun h => hz (HS2.out.1 h))
            have hzd : decide (z i < z j) = false := decide_eq_false hz
            generalize z i = zq at *
            generalize z j = zj at *
            go_wp2
            go_quiet (fail)
            go_wp2
            go_roundw
            case rel => exact ⟨false, i + 1, by omega, by simp, by go_num, Lib.hid ⟨fun h => (by cases h), fun h => absurd h HT.out⟩, below_drewN _ hb⟩
            case measure => simp [intOf] <;> omega
    · obtain rfl : i = n := by omega
      have N0 := Lib.hid (num_grow HN.out hb)
      have B0 := Lib.hid hb
      have HF := hf
      clear hb hf
      go_wp2_with fail
      refine (late14 hn _ _ _ N0.out).mono ?_
      rintro e w1 ⟨v1, rfl, i1, b1⟩
      obtain ⟨av, cv, rfl, _, hc⟩ := i1.form
      rw [latN_length] at hc ⊢
      have HC := Lib.hid hc
      have N1 := Lib.hid (num_grow N0.out b1)
      have B1 := Lib.hid (B0.out.trans (b1.mono B0.out.size))
      clear i1 b1 hc
      go_wp2
      go_loopw [5, 41] (fun x y w2 => ∃ q : Nat, q ≤ i ∧ x = .int .u64 (sumR (lateN z) q : Nat) ∧ y = .int .i64 q ∧ w2 = w1) (fun _ y _ => i - (intOf y).toNat)
      case atStart => exact ⟨0, Nat.zero_le _, rfl, rfl, by first | rfl | trivial⟩
      case round =>
        obtain ⟨q, hq, rfl, rfl, rfl⟩ := hrel
        by_cases hlt : q < i
        · obtain ⟨g, rfl, hg, cg⟩ := HC.out q hlt
          rw [latN_at z i q hlt] at cg
          have hle := lateN_le z q
          have hinv := invN_bound z q
          unfold invN at hinv
          have hii : q * q ≤ 400 * 400 := Nat.mul_le_mul (by omega) (by omega)
          have HS := Lib.hid (show sumR (lateN z) q + lateN z q = sumR (lateN z) (q + 1) from rfl)
          generalize lateN z q = la at *
          generalize sumR (lateN z) q = sm at *
          have w1' : IntKind.u64.wrap (la : Int) = (la : Int) := by rw [IntKind.wrap_u64]; omega
          have w2' : IntKind.u64.wrap ((sm : Int) + (la : Int)) = (sm : Int) + (la : Int) := by rw [IntKind.wrap_u64]; omega
          have q0 : (0 : Int) ≤ q := by omega
          have q1 : (q : Int) < i := by omega
          go_wp2
          go_roundw
          case rel => exact ⟨q + 1, by omega, by rw [← HS.out]; go_num, by go_num, by first | rfl | trivial⟩
          case measure => simp [intOf] <;> omega
        · obtain rfl : q = i := by omega
          rw [show sumR (lateN z) q = invN z q from rfl]
          go_wp2_with fail
          refine (order14 hn _ _ _ N1.out).mono ?_
          rintro e w3 ⟨v3, rfl, i3, b3⟩
          obtain ⟨ao, co, rfl, _, hco⟩ := i3.form
          rw [List.length_map, ordN_length] at hco ⊢
          have HCO := Lib.hid hco
          have N3 := Lib.hid (num_grow N1.out b3)
          have B3 := Lib.hid (B1.out.trans (b3.mono B1.out.size))
          clear i3 b3 hco
          go_wp2
          go_loopw [8, 53] (fun x y w4 => ∃ (vm : Value) (p : Nat), vm = x ∧ p ≤ q ∧ y = .int .i64 p ∧ U64s w4 w3.heap.size vm ((List.range p).map (fun j => z ((ordN z q).getD j 0))) ∧ Below w3.heap.size w3 w4) (fun _ y _ => q - (intOf y).toNat)
          case atStart => exact ⟨_, 0, rfl, Nat.zero_le _, rfl, World.ownsRow_nil _ _ _ _, Below.refl _ _⟩
          case round =>
            obtain ⟨vm, p, rfl, hp, rfl, hm, hb4⟩ := hrel
            by_cases hlp : p < q
            · obtain ⟨g, rfl, hg, cg⟩ := HCO.out p hlp
              have cg := (hb4.cell (p := ⟨g, p, none⟩) hg).trans cg
              have eo : ((ordN z q).map (fun i : Nat => (i : Int))).getD p 0 = ((ordN z q).getD p 0 : Nat) := by
                rw [List.getD_eq_getElem?_getD, List.getElem?_map, List.getD_eq_getElem?_getD, List.getElem?_eq_getElem (by rw [ordN_length]; exact hlp)]; rfl
              rw [eo] at cg
              have hol : (ordN z q).getD p 0 < q := ordN_lt z q _ (by rw [List.getD_eq_getElem?_getD, List.getElem?_eq_getElem (by rw [ordN_length]; exact hlp)]; exact List.getElem_mem _)
              obtain ⟨b, off, rfl, hb1, hb2, ci⟩ := N3.out.open ((ordN z q).getD p 0) hol
              have ci := (hb4.cell (p := ⟨b, off + (ordN z q).getD p 0, none⟩) hb1).trans ci
              have HR := Lib.hid (show (List.range p).map (fun j => z ((ordN z q).getD j 0)) ++ [z ((ordN z q).getD p 0)] = (List.range (p + 1)).map (fun j => z ((ordN z q).getD j 0)) by rw [List.range_succ, List.map_append]; rfl)
              have HL := Lib.hid (show ((List.range p).map (fun j => z ((ordN z q).getD j 0))).length = p by simp)
              have HM := Lib.hid hm
              have HB4 := Lib.hid hb4
              have hs := hb4.size
              clear hm hb4 eo
              generalize (List.range p).map (fun j => z ((ordN z q).getD j 0)) = xs at *
              generalize z ((ordN z q).getD p 0) = zo at *
              generalize (ordN z q).getD p 0 = o at *
              have ho3 := HM.out
              unfold U64s at ho3
              have hxl : xs.length ≤ 400 := by have := HL.out; omega
              have p0 : (0 : Int) ≤ p := by omega
              have p1 : (p : Int) < q := by omega
              have o0 : (0 : Int) ≤ o := by omega
              have o1 : (o : Int) < q := by omega
              have o2 : decide ((o : Int) < 0) = false := decide_eq_false (by omega)
              have o3 : decide ((q : Int) ≤ (o : Int)) = false := decide_eq_false (by omega)
              go_wp2_with (at_builtin; refine wpList_append_own _ rfl _ _ 22 rfl w3.heap.size 24 i0 (.int .u64 0) 1 8 Try.underlying22 hi0 hz0 hz1 hz2 rfl (by decide) vm _ _ rfl (ho3.alloc _) ⟨wr.heap.size, 0, none⟩ 1 1 [.int .u64 zo] rfl rfl (cells_one6 _ _ _) (fun x hx => by simp at hx; subst hx; rfl) (by unfold maxLen; omega) (by omega) (by simp; omega) ?_; intro v5 w5 ho4 hg3 hn3; clear hn3)
              go_roundw
              case rel => exact ⟨v5, p + 1, rfl, by omega, by go_num, by rw [← HR.out]; exact U64s.of_append ho4, (HB4.out.alloc hs _).grown hg3 (by simp; omega) (fun g hg => (World.ownsRow.lt HM.out g hg).1)⟩
              case measure => simp [intOf] <;> omega
            · obtain rfl : p = q := by omega
              obtain ⟨am, cm, rfl, -, -⟩ := hm.form
              have hml : ((List.range p).map (fun j => z ((ordN z p).getD j 0))).length = p := by simp
              have NM0 : NumAt wr wr.heap.size (.slice am p cm) (fun j => z ((ordN z p).getD j 0)) p := by
                have h := hm.num
                rw [hml] at h
                refine h.congr (fun j hj => ?_)
                show ((List.range p).map (fun j => z ((ordN z p).getD j 0))).getD j 0 = _
                rw [List.getD_eq_getElem?_getD, List.getElem?_map, List.getElem?_range hj]; rfl
              have N4 := Lib.hid (num_grow N3.out hb4)
              have NM := Lib.hid NM0
              have B4 := Lib.hid (B3.out.trans (hb4.mono B3.out.size))
              have IZ := invN_zero z p
              have TW := tls_whole z p
              have HO0 := Lib.hid ((invN_zero (fun j => z ((ordN z p).getD j 0)) p).2 (fun i hi h0 => ordN_rises z p i hi h0))
              have HLIV := Lib.hid lives14
              rw [hml]
              have hne : ∀ x : Nat, ¬ x = 0 → ((x : Int) == 0) = false := fun x hx => by rw [beq_eq_false_iff_ne]; omega
              have hne2 : ∀ x : Nat, ¬ x = p → ((x : Int) == (p : Int)) = false := fun x hx => by rw [beq_eq_false_iff_ne]; omega
              have HFF : Hid ((fl = true ∧ ((invN z p : Int) == 0) = false ∧ (((tls z p).length : Int) == (p : Int)) = false) ∨ (fl = false ∧ invN z p = 0 ∧ (tls z p).length = p)) := by
                by_cases hfl : FallsTo z p
                · exact Lib.hid (Or.inl ⟨HF.out.2 hfl, hne _ (fun h => falls_not.2 (IZ.1 h) hfl), hne2 _ (fun h => falls_not.2 (TW.1 h) hfl)⟩)
                · refine Lib.hid (Or.inr ⟨?_, IZ.2 (falls_not.1 hfl), TW.2 (falls_not.1 hfl)⟩)
                  cases hfv : fl with
                  | false => rfl
                  | true => exact absurd (HF.out.1 hfv) hfl
              clear hm hml NM0 hb4 IZ TW hne hne2 HF HCO N3 B3 HC N1 B1
              go_wp2_with fail
              refine (count14 hn _ _ _ N4.out).mono ?_
              rintro e w5 ⟨rfl, b5⟩
              have N5 := Lib.hid (num_grow N4.out b5)
              have M5 := Lib.hid (num_grow NM.out b5)
              have B5 := Lib.hid (B4.out.trans (b5.mono B4.out.size))
              clear b5
              have LG := Lib.hid (fun (W : World) (h : NumAt W W.heap.size (.slice a p c) z p) => longest14 hn a c W h)
              have CM := Lib.hid (fun (W : World) (h : NumAt W W.heap.size (.slice am p cm) (fun j => z ((ordN z p).getD j 0)) p) => count14 hn am cm W h)
              rw [HO0.out] at CM
              generalize invN z p = I at *
              generalize (tls z p).length = T at *
              rcases HFF.out with ⟨rfl, f1, f2⟩ | ⟨rfl, rfl, rfl⟩
              · go_wp2_with fail
                refine (LG.out _ N5.out).mono ?_
                rintro e w6 ⟨rfl, b6⟩
                have M6 := Lib.hid (num_grow M5.out b6)
                have B6 := Lib.hid (B5.out.trans (b6.mono B5.out.size))
                clear b6
                go_wp2_with fail
                refine (CM.out _ M6.out).mono ?_
                rintro e w7 ⟨rfl, b7⟩
                have B7 := Lib.hid (B6.out.trans (b7.mono B6.out.size))
                clear b7
                go_wp2_with fail
                refine (HLIV.out _).mono ?_
                rintro e w8 ⟨rfl, b8⟩
                have B8 := Lib.hid (B7.out.trans (b8.mono B7.out.size))
                clear b8
                go_wp2
                go_ret
                exact ⟨rfl, B8.out⟩
              · go_wp2_with fail
                refine (LG.out _ N5.out).mono ?_
                rintro e w6 ⟨rfl, b6⟩
                have M6 := Lib.hid (num_grow M5.out b6)
                have B6 := Lib.hid (B5.out.trans (b6.mono B5.out.size))
                clear b6
                go_wp2_with fail
                refine (CM.out _ M6.out).mono ?_
                rintro e w7 ⟨rfl, b7⟩
                have B7 := Lib.hid (B6.out.trans (b7.mono B6.out.size))
                clear b7
                go_wp2_with fail
                refine (HLIV.out _).mono ?_
                rintro e w8 ⟨rfl, b8⟩
                have B8 := Lib.hid (B7.out.trans (b8.mono B7.out.size))
                clear b8
                go_wp2
                go_ret
                exact ⟨rfl, B8.out⟩
end Go.Proofs.Yteblhgmepfegpab
