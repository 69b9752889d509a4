/-
  The law of bounds of layer 12, walked: true for any number of queues and any ranks. No condition.
-/
import Derived.Test.YtkgiaijcgblpbaaSpB
import Derived.Test.YtkgiaijcgblpbaaLives12
import Derived.Test.YtkgiaijcgblpbaaOpen2
namespace Go.Proofs.Ytkgiaijcgblpbaa
set_option linter.unusedVariables false
set_option linter.unusedSimpArgs false
open Go.ChangeShapes Go.WideShapes Go.ChangeAt Go.RowKit
attribute [local go_sem] alloc_drewN setCell_drewN

theorem tot_start (rs : List RgI) (hk : ∀ i (hi : i < rs.length), (rs[i]).k = 0) : totI rs = 0 := by
  have h := tot_leI rs 0 (fun i hi => by have := hk i hi; omega) rs.length (Nat.le_refl _)
  rw [List.take_length] at h
  omega
set_option maxRecDepth 100000 in
set_option maxHeartbeats 4000000 in
theorem bounds12_at (n : Int) (m0 : 0 ≤ n) (m1 : n ≤ 255) (a : Option Addr) (c : Nat) (zs : List Int) (hn : zs.length ≤ 300) (hz : ∀ i, i < zs.length → 0 ≤ zs.getD i 0 ∧ zs.getD i 0 ≤ 18446744073709551615) (w : World)
    (hc : ∀ i, i < zs.length → ∃ b off, a = some ⟨b, off, none⟩ ∧ b < w.heap.size ∧ w.cell? ⟨b, off + i, none⟩ = some (.int .u64 (zs.getD i 0))) :
    Calls Try.prog 7 #[.int .u8 n, .slice a zs.length c] w fun e w' => e = .returned (.bool true) ∧ Below w.heap.size w w' := by
  have HC := Lib.hid hc; have HZ := Lib.hid hz
  obtain ⟨l, hl⟩ : ∃ l, l = zs.length := ⟨_, rfl⟩
  have HL := Lib.hid hl
  rw [← hl] at hn ⊢
  clear hc hz hl
  have n300 : ¬ (300 : Int) < l := by omega
  obtain ⟨m, hm⟩ : ∃ m : Nat, (m : Int) = n % 32 + 1 := ⟨(n % 32 + 1).toNat, by omega⟩
  have hm1 : 1 ≤ m := by omega
  have hm2 : m ≤ 32 := by omega
  have LV := Lib.hid (fun w => lives12 w)
  have NW := Lib.hid (snewI 4096 m (by omega) (by omega) hm1 hm2 w)
  have w2 : n % 32 + 1 = (m : Int) := hm.symm
  clear hm
  go_enter Try.func7, Try.ntmps7
  go_wp2_with fail
  refine NW.out.mono ?_
  rintro e w1 ⟨B, rfl, b1, vb, vq, rs, h1, hrl, hk⟩
  have S1 := Lib.hid h1
  have B1 := Lib.hid b1
  have T1 := Lib.hid (tot_start rs hk)
  clear h1 b1 hk hrl NW
  go_wp2
  go_loopw [7, 30] (fun y x wr => ∃ (i : Nat) (mo : Int) (bs : List Int) (rs : List RgI), y = .int .u64 mo ∧ x = .int .i64 i ∧ i ≤ l ∧ 0 ≤ mo ∧ mo ≤ 18446744073709551615 ∧ BInv bs mo ∧ SpAtI wr w.heap.size B 4096 vb vq bs rs ∧ totI rs = i ∧ Below w.heap.size w wr) (fun _ x _ => l - (intOf x).toNat)
  case atStart => exact ⟨0, 0, _, rs, rfl, rfl, Nat.zero_le _, by omega, by omega, BInv.start m, S1.out, T1.out, B1.out⟩
  case round =>
    clear S1 B1 T1
    obtain ⟨i, mo, bs, rs, rfl, rfl, hi, o0, o1, hB, hS, hT, hb⟩ := hrel
    by_cases hin : i < l
    · obtain ⟨b, off, rfl, hbl, z0⟩ := HC.out i (by rw [← HL.out]; exact hin)
      have z0 := (hb.cell (p := ⟨b, off + i, none⟩) hbl).trans z0
      obtain ⟨r0, r1⟩ := HZ.out i (by rw [← HL.out]; exact hin)
      generalize zs.getD i 0 = r at *
      have hlen0 : 0 < bs.length := by have := hS.n0; have := hS.lb; omega
      have PS := Lib.hid (spushI hS (by omega) r r0 r1 hB.mono (fun k hk => by have := hB.bnd k hk; omega) (i : Int) hb.size)
      have HB := Lib.hid hB; have HS := Lib.hid hS; have HT := Lib.hid hT; have HBW := Lib.hid hb; have HI := Lib.hid hin; have HLN := Lib.hid hlen0
      rcases Int.lt_or_le mo r with hlt | hlt
      · have g1 : (i : Int) < l := by omega
        have g0 : (0 : Int) ≤ i := by omega
        clear hB hS hT hb hlen0
        go_wp2_with fail
        refine PS.out.mono ?_
        rintro e w4 ⟨j, bs', rs', rfl, hj, hrl, hp, h4, hc4, ht4, m4⟩
        obtain ⟨hl4, hi4⟩ := HB.out.push HLN.out r0 hp
        rw [show max mo r = r by omega] at hi4
        have B4 := Lib.hid (m4.below HBW.out (fun j hj => (HS.out.inlt hj).1) HBW.out.size)
        have S4 := Lib.hid h4
        have I4 := Lib.hid hi4
        have T4 : Hid (totI rs' = i + 1) := Lib.hid (by rw [ht4, HT.out])
        have BD := Lib.hid (sbounds h4)
        clear h4 hi4 ht4 hc4 hp m4 hl4 hj hrl PS HBW HS HB HT
        obtain ⟨k, hk⟩ : ∃ k, bs'.length = k := ⟨_, rfl⟩
        have HK := Lib.hid hk
        have hk32 : k ≤ 32 := by have := S4.out.n1; have := S4.out.lb; omega
        rw [hk] at BD
        clear hk
        go_wp2_with fail
        refine BD.out.mono ?_
        rintro e w5 ⟨rfl, ho5, b5⟩
        have O5 := Lib.hid ho5
        have B5 := Lib.hid (B4.out.trans (b5.mono B4.out.size))
        have S5 := Lib.hid (S4.out.below b5)
        have hgl := (World.ownsRow.lt ho5 w4.heap.size rfl).2
        clear ho5 b5 BD S4 B4
        generalize w4.heap.size = g at *
        go_wp2
        go_loopw [51] (fun x wq => ∃ (q : Nat), x = .int .i64 q ∧ q ≤ k ∧ Below w5.heap.size w5 wq) (fun x _ => k - (intOf x).toNat)
        case atStart => exact ⟨0, rfl, Nat.zero_le _, Below.refl _ _⟩
        case round =>
          obtain ⟨q, rfl, hq, hbq⟩ := hrel
          by_cases hqk : q < k
          · have cell : ∀ t, t < k → wr.cell? ⟨g, t, none⟩ = some (.int .u64 (bs'.getD t 0)) := fun t ht => by
              rw [hbq.cell (p := ⟨g, t, none⟩) hgl, World.ownsRow.cellAt O5.out t (by omega), List.getElem?_map, List.getElem?_eq_getElem (by rw [HK.out]; exact ht), List.getD_eq_getElem?_getD, List.getElem?_eq_getElem (by rw [HK.out]; exact ht)]; rfl
            have c0 := cell q hqk
            have hbd := (I4.out.bnd q (by rw [HK.out]; exact hqk)).2
            have HBQ := Lib.hid hbq
            have q0 : (0 : Int) ≤ q := by omega
            have q1 : (q : Int) < k := by omega
            rcases Nat.eq_zero_or_pos q with h0 | h0
            · subst h0
              have e1 : decide (r < bs'.getD 0 0) = false := by rw [decide_eq_false_iff_not]; omega
              clear hbq cell
              generalize bs'.getD 0 0 = v0 at *
              have e2 : ¬ r < v0 := by omega
              go_wp2
              go_quiet (fail)
              go_wp2
              go_roundw
              case rel => exact ⟨1, by first | rfl | (congr 1; omega), by omega, below_drewN _ HBQ.out⟩
              case measure => simp [intOf] <;> omega
            · have c1 := cell (q - 1) (by omega)
              have hmo := I4.out.mono (q - 1) q (by omega) (by rw [HK.out]; exact hqk)
              have e3 : ((q : Int) - 1) = ((q - 1 : Nat) : Int) := by omega
              have e4 : IntKind.i64.wrap ((q : Int) - 1) = ((q - 1 : Nat) : Int) := by rw [IntKind.wrap_i64]; omega
              have e5 : (0 : Int) ≤ ((q - 1 : Nat) : Int) := by omega
              have e9 : IntKind.i64.wrap ((q - 1 : Nat) : Int) = ((q - 1 : Nat) : Int) := by rw [IntKind.wrap_i64]; omega
              have e6 : ((q - 1 : Nat) : Int) < k := by omega
              have e7 : (0 : Int) < q := by omega
              clear hbq cell
              generalize bs'.getD q 0 = v0 at *
              generalize bs'.getD (q - 1) 0 = v1 at *
              generalize q - 1 = q' at *
              have e2 : ¬ r < v0 := by omega
              have e8 : ¬ v0 < v1 := by omega
              go_wp2
              go_quiet (fail)
              go_wp2
              go_roundw
              case rel => exact ⟨q + 1, by first | rfl | (congr 1; omega), by omega, below_drewN _ HBQ.out⟩
              case measure => simp [intOf] <;> omega
          · obtain rfl : q = k := by omega
            have F := Lib.hid (S5.out.below hbq)
            have FB := Lib.hid (B5.out.trans (hbq.mono B5.out.size))
            clear hbq
            go_wp2
            go_roundw
            case rel => exact ⟨i + 1, r, bs', rs', rfl, by first | rfl | (congr 1; omega), by have := HI.out; omega, r0, r1, I4.out, F.out, T4.out, FB.out⟩
            case measure => have := HI.out; simp [intOf]; omega
      · have hlt' : ¬ mo < r := by omega
        have g1 : (i : Int) < l := by omega
        have g0 : (0 : Int) ≤ i := by omega
        clear hB hS hT hb hlen0
        go_wp2_with fail
        refine PS.out.mono ?_
        rintro e w4 ⟨j, bs', rs', rfl, hj, hrl, hp, h4, hc4, ht4, m4⟩
        obtain ⟨hl4, hi4⟩ := HB.out.push HLN.out r0 hp
        rw [show max mo r = mo by omega] at hi4
        have B4 := Lib.hid (m4.below HBW.out (fun j hj => (HS.out.inlt hj).1) HBW.out.size)
        have S4 := Lib.hid h4
        have I4 := Lib.hid hi4
        have T4 : Hid (totI rs' = i + 1) := Lib.hid (by rw [ht4, HT.out])
        have BD := Lib.hid (sbounds h4)
        clear h4 hi4 ht4 hc4 hp m4 hl4 hj hrl PS HBW HS HB HT
        obtain ⟨k, hk⟩ : ∃ k, bs'.length = k := ⟨_, rfl⟩
        have HK := Lib.hid hk
        have hk32 : k ≤ 32 := by have := S4.out.n1; have := S4.out.lb; omega
        rw [hk] at BD
        clear hk
        go_wp2_with fail
        refine BD.out.mono ?_
        rintro e w5 ⟨rfl, ho5, b5⟩
        have O5 := Lib.hid ho5
        have B5 := Lib.hid (B4.out.trans (b5.mono B4.out.size))
        have S5 := Lib.hid (S4.out.below b5)
        have hgl := (World.ownsRow.lt ho5 w4.heap.size rfl).2
        clear ho5 b5 BD S4 B4
        generalize w4.heap.size = g at *
        go_wp2
        go_loopw [51] (fun x wq => ∃ (q : Nat), x = .int .i64 q ∧ q ≤ k ∧ Below w5.heap.size w5 wq) (fun x _ => k - (intOf x).toNat)
        case atStart => exact ⟨0, rfl, Nat.zero_le _, Below.refl _ _⟩
        case round =>
          obtain ⟨q, rfl, hq, hbq⟩ := hrel
          by_cases hqk : q < k
          · have cell : ∀ t, t < k → wr.cell? ⟨g, t, none⟩ = some (.int .u64 (bs'.getD t 0)) := fun t ht => by
              rw [hbq.cell (p := ⟨g, t, none⟩) hgl, World.ownsRow.cellAt O5.out t (by omega), List.getElem?_map, List.getElem?_eq_getElem (by rw [HK.out]; exact ht), List.getD_eq_getElem?_getD, List.getElem?_eq_getElem (by rw [HK.out]; exact ht)]; rfl
            have c0 := cell q hqk
            have hbd := (I4.out.bnd q (by rw [HK.out]; exact hqk)).2
            have HBQ := Lib.hid hbq
            have q0 : (0 : Int) ≤ q := by omega
            have q1 : (q : Int) < k := by omega
            rcases Nat.eq_zero_or_pos q with h0 | h0
            · subst h0
              have e1 : decide (mo < bs'.getD 0 0) = false := by rw [decide_eq_false_iff_not]; omega
              clear hbq cell
              generalize bs'.getD 0 0 = v0 at *
              have e2 : ¬ mo < v0 := by omega
              go_wp2
              go_quiet (fail)
              go_wp2
              go_roundw
              case rel => exact ⟨1, by first | rfl | (congr 1; omega), by omega, below_drewN _ HBQ.out⟩
              case measure => simp [intOf] <;> omega
            · have c1 := cell (q - 1) (by omega)
              have hmo := I4.out.mono (q - 1) q (by omega) (by rw [HK.out]; exact hqk)
              have e3 : ((q : Int) - 1) = ((q - 1 : Nat) : Int) := by omega
              have e4 : IntKind.i64.wrap ((q : Int) - 1) = ((q - 1 : Nat) : Int) := by rw [IntKind.wrap_i64]; omega
              have e5 : (0 : Int) ≤ ((q - 1 : Nat) : Int) := by omega
              have e9 : IntKind.i64.wrap ((q - 1 : Nat) : Int) = ((q - 1 : Nat) : Int) := by rw [IntKind.wrap_i64]; omega
              have e6 : ((q - 1 : Nat) : Int) < k := by omega
              have e7 : (0 : Int) < q := by omega
              clear hbq cell
              generalize bs'.getD q 0 = v0 at *
              generalize bs'.getD (q - 1) 0 = v1 at *
              generalize q - 1 = q' at *
              have e2 : ¬ mo < v0 := by omega
              have e8 : ¬ v0 < v1 := by omega
              go_wp2
              go_quiet (fail)
              go_wp2
              go_roundw
              case rel => exact ⟨q + 1, by first | rfl | (congr 1; omega), by omega, below_drewN _ HBQ.out⟩
              case measure => simp [intOf] <;> omega
          · obtain rfl : q = k := by omega
            have F := Lib.hid (S5.out.below hbq)
            have FB := Lib.hid (B5.out.trans (hbq.mono B5.out.size))
            clear hbq
            go_wp2
            go_roundw
            case rel => exact ⟨i + 1, mo, bs', rs', rfl, by first | rfl | (congr 1; omega), by have := HI.out; omega, o0, o1, I4.out, F.out, T4.out, FB.out⟩
            case measure => have := HI.out; simp [intOf]; omega
    · obtain rfl : i = l := by omega
      have FB := Lib.hid hb
      clear hB hS hT hb hin hi
      go_wp2_with fail
      refine (LV.out _).mono ?_
      rintro e w9 ⟨rfl, b9⟩
      go_wp2
      go_ret
      exact ⟨rfl, FB.out.trans (b9.mono FB.out.size)⟩
theorem walk_spBounds (n : Int) (m0 : 0 ≤ n) (m1 : n ≤ 255) (a : Option Addr) (l c : Nat) (zs : List Int) {w : World} (hr : Row1 .u64 w a l zs) (hcap : l ≤ c) :
    Calls Try.prog 7 #[.int .u8 n, .slice a l c] w fun e w' => e = .returned (.bool true) ∧ Below w.heap.size w w' := by
  obtain ⟨hz, hm, hw, hc⟩ := hr
  by_cases h : l ≤ 300
  · subst hz
    refine bounds12_at n m0 m1 a c zs h (fun i hi => ?_) w (fun i hi => ?_)
    · exact bounds_u64 (hw _ (by rw [List.getD_eq_getElem?_getD, List.getElem?_eq_getElem hi]; exact List.getElem_mem _))
    · obtain ⟨b, off, e, hb, hcell⟩ := hc (by omega)
      exact ⟨b, off, e, hb, hcell i hi⟩
  · unfold maxLen at hm
    have h1 : 300 < l := by omega
    have LV := Lib.hid (lives12 w)
    clear hc hw hz h
    go_enter Try.func7, Try.ntmps7
    go_wp2_with fail
    refine LV.out.mono ?_
    rintro e w9 ⟨rfl, b9⟩
    go_wp2
    go_ret
    exact ⟨rfl, b9⟩
end Go.Proofs.Ytkgiaijcgblpbaa
