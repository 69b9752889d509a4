/-
  The law of layer 13 on ranks that rise: walked, for any conf, ranks and two ranks. No condition.
-/
import Derived.Test.YtnnbkooikimedaaAifoG
import Derived.Test.YtnnbkooikimedaaOpen
import Derived.Deep.CutBlock
import Derived.Deep.DeepCutAuto
import Derived.RegionTactic
import Derived.Deep.RegionWith
import Derived.Deep.RegionHeld3
namespace Go.Proofs.Ytnnbkooikimedaa
set_option linter.unusedVariables false
set_option linter.unusedSimpArgs false
open Go.ChangeShapes Go.WideShapes Go.ChangeAt Go.RowKit
attribute [local go_sem] alloc_drewN setCell_drewN

theorem Row1.atR {k : IntKind} {w w' : World} {a : Option Addr} {n : Nat} {zs : List Int} (h : Row1 k w a n zs) (hb : Below w.heap.size w w') (i : Nat) (hi : i < n) : ∃ b off, a = some ⟨b, off, none⟩ ∧ w'.cell? ⟨b, off + i, none⟩ = some (.int k (zs.getD i 0)) := by
  obtain ⟨b, off, e, hlt, hc⟩ := h.2.2.2 (by omega)
  exact ⟨b, off, e, (hb.cell (p := ⟨b, off + i, none⟩) hlt).trans (hc i hi)⟩
set_option maxRecDepth 100000 in
set_option maxHeartbeats 8000000 in
theorem rises13_at (room win num den x y : Int) (hx0 : 0 ≤ x) (hx1 : x ≤ 18446744073709551615) (hy0 : 0 ≤ y) (hy1 : y ≤ 18446744073709551615) (hnum : 0 ≤ num) (hden : 0 ≤ den) (a1 : Option Addr) (n1 c1 : Nat) (zs : List Int) {w : World} (hr : Row1 .u64 w a1 n1 zs) (hchk : chk room win num den = 0) (hn1 : n1 ≤ 200) :
    Calls Try.prog 3 #[.agg #[.int .i64 room, .int .i64 win, .int .u64 num, .int .u64 den], .slice a1 n1 c1, .agg #[.int .u64 x, .int .u64 y]] w fun e w' => e = .returned (.bool true) ∧ Below w.heap.size w w' := by
  have hm1 : ¬ (200 : Int) < n1 := by omega
  obtain ⟨W9, hW9⟩ : ∃ W9, w.alloc (.cells #[.int .i64 room, .int .i64 win, .int .u64 num, .int .u64 den] 24) = W9 := ⟨_, rfl⟩
  obtain ⟨W0, hW0⟩ : ∃ W0, W9.alloc (.cells #[.int .u64 x, .int .u64 y] 26) = W0 := ⟨_, rfl⟩
  have hs9 : W9.heap.size = w.heap.size + 1 := by rw [← hW9]; simp
  have B0 : Below w.heap.size w W0 := by rw [← hW0, ← hW9]; exact ((Below.refl _ w).alloc (Nat.le_refl _) _).alloc (by simp) _
  have e0 : W0.cell? ⟨w.heap.size, 0, none⟩ = some (.int .i64 room) := by rw [← hW0, ← hW9]; simp [go_sem]
  have e1 : W0.cell? ⟨w.heap.size, 1, none⟩ = some (.int .i64 win) := by rw [← hW0, ← hW9]; simp [go_sem]
  have e2 : W0.cell? ⟨w.heap.size, 2, none⟩ = some (.int .u64 num) := by rw [← hW0, ← hW9]; simp [go_sem]
  have e3 : W0.cell? ⟨w.heap.size, 3, none⟩ = some (.int .u64 den) := by rw [← hW0, ← hW9]; simp [go_sem]
  have e4 : W0.cell? ⟨w.heap.size + 1, 0, none⟩ = some (.int .u64 x) := by rw [← hW0, ← hs9]; simp [go_sem]
  have e5 : W0.cell? ⟨w.heap.size + 1, 1, none⟩ = some (.int .u64 y) := by rw [← hW0, ← hs9]; simp [go_sem]
  have hlt : w.heap.size + 1 < W0.heap.size := by rw [← hW0]; simp; omega
  have HB0 := Lib.hid B0; have HLT := Lib.hid hlt
  have HR := Lib.hid hr
  have HS9 := Lib.hid hs9
  clear B0 hr hlt
  go_enter Try.func3, Try.ntmps3
  go_wp2_with fail
  clear hW0 hW9
  go_quiet (fail)
  have F0 : Hid (∃ W1 : World, W0.drewN nq = W1 ∧ W1.heap = W0.heap) := Lib.hid ⟨_, rfl, rfl⟩
  obtain ⟨W1, hW1, hh⟩ := F0.out
  have f0 : W1.cell? ⟨w.heap.size, 0, none⟩ = some (.int .i64 room) := by rw [← hW1]; exact e0
  have f1 : W1.cell? ⟨w.heap.size, 1, none⟩ = some (.int .i64 win) := by rw [← hW1]; exact e1
  have f2 : W1.cell? ⟨w.heap.size, 2, none⟩ = some (.int .u64 num) := by rw [← hW1]; exact e2
  have f3 : W1.cell? ⟨w.heap.size, 3, none⟩ = some (.int .u64 den) := by rw [← hW1]; exact e3
  have HB1 := Lib.hid (show Below w.heap.size w W1 by rw [← hW1]; exact below_drewN nq HB0.out)
  have HL1 := Lib.hid (show w.heap.size + 1 < W1.heap.size by rw [hh]; exact HLT.out)
  rw [hW1]
  clear e0 e1 e2 e3 e4 e5 hh hW1 F0 hs9 HS9 HB0 HLT
  have NW := Lib.hid (gnew_ok room win num den W1 hnum hchk)
  go_wp2_with fail
  refine NW.out.mono ?_
  rintro e w1 ⟨G, R, C, rfl, g1, b1⟩
  have k0 := (b1.cell (p := ⟨w.heap.size, 0, none⟩) (by have := HL1.out; simp; omega)).trans f0
  have k2 := (b1.cell (p := ⟨w.heap.size, 2, none⟩) (by have := HL1.out; simp; omega)).trans f2
  have k3 := (b1.cell (p := ⟨w.heap.size, 3, none⟩) (by have := HL1.out; simp; omega)).trans f3
  have HC1 := Lib.hid (And.intro k0 (And.intro k2 k3))
  have ON := Lib.hid (show One w1 W1.heap.size G room win num den 0 [] from ⟨R, C, _, _, _, _, _, _, g1, rfl⟩)
  have HB2 := Lib.hid (HB1.out.trans (b1.mono HB1.out.size))
  have HS2 := Lib.hid b1.size
  clear f0 f1 f2 f3 k0 k2 k3 g1 NW
  go_wp2
  have HT1 := Lib.hid (show w.heap.size ≤ W1.heap.size by have := HL1.out; omega)
  have R0 := Lib.hid (Below.refl W1.heap.size w1)
  clear b1
  go_loopw [45] (fun z wr => ∃ (i a : Nat) (WA : List Int), i ≤ n1 ∧ z = .int .i64 i ∧ One wr W1.heap.size G room win num den a WA ∧ Below W1.heap.size w1 wr ∧ W1.heap.size ≤ wr.heap.size) (fun z _ => n1 - (intOf z).toNat)
  case atStart => exact ⟨0, 0, [], Nat.zero_le _, rfl, ON.out, R0.out, HS2.out⟩
  case round =>
    obtain ⟨i, a, WA, hi, rfl, htw, hb, hsz⟩ := hrel
    have TW := Lib.hid htw
    have HB := Lib.hid hb
    have HS := Lib.hid hsz
    have HW := Lib.hid (HB2.out.trans (hb.mono HT1.out))
    clear htw hb hsz
    by_cases hlt : i < n1
    · obtain ⟨g, off, rfl, cg⟩ := HR.out.atR HW.out i hlt
      have i0 : (0 : Int) ≤ i := by omega
      have i1 : (i : Int) < n1 := by omega
      generalize zs.getD i 0 = r at *
      go_wp2_with fail
      refine (one_offer TW.out r HS.out).mono ?_
      rintro e w2 ⟨rfl, t2, b2⟩
      have T2 := Lib.hid t2
      have B2 := Lib.hid (HB.out.trans b2)
      have S2 := Lib.hid (Nat.le_trans HS.out b2.size)
      clear t2 b2 cg
      generalize bump a (mayP room num den a WA r) = a2 at *
      generalize winP WA win.toNat r = W2 at *
      go_wp2_with fail
      · refine (one_take T2.out S2.out).mono ?_
        rintro e w3 ⟨rfl, t3, b3⟩
        have T3 := Lib.hid t3
        have B3 := Lib.hid (B2.out.trans b3)
        have S3 := Lib.hid (Nat.le_trans S2.out b3.size)
        clear t3 b3
        go_wp2
        go_roundw
        case rel => exact ⟨i + 1, a2 - 1, W2, by omega, by go_num, T3.out, B3.out, S3.out⟩
        case measure => simp [intOf] <;> omega
      · go_roundw
        case rel => exact ⟨i + 1, a2, W2, by omega, by go_num, T2.out, B2.out, S2.out⟩
        case measure => simp [intOf] <;> omega
    · have hWL := TW.out.wlen
      have HK : Hid (∀ v : World, Below W1.heap.size w1 v → v.cell? ⟨w.heap.size, 0, none⟩ = some (.int .i64 room) ∧ v.cell? ⟨w.heap.size, 2, none⟩ = some (.int .u64 num) ∧ v.cell? ⟨w.heap.size, 3, none⟩ = some (.int .u64 den)) := Lib.hid (fun v hv => ⟨(hv.cell (p := ⟨w.heap.size, 0, none⟩) (by have := HL1.out; simp; omega)).trans HC1.out.1, (hv.cell (p := ⟨w.heap.size, 2, none⟩) (by have := HL1.out; simp; omega)).trans HC1.out.2.1, (hv.cell (p := ⟨w.heap.size, 3, none⟩) (by have := HL1.out; simp; omega)).trans HC1.out.2.2⟩)
      obtain ⟨k0, k2, k3⟩ := HC1.out
      obtain ⟨r0, r1, b0, b1, b2, ha⟩ := TW.out.bounds
      clear HR HC1 ON k0 k2 k3
      obtain ⟨lo, hh, hle, hl0, hl1, hsp⟩ : ∃ lo hh, lo ≤ hh ∧ 0 ≤ lo ∧ lo ≤ 18446744073709551615 ∧ ((lo = x ∧ hh = y ∧ x < y) ∨ (lo = y ∧ hh = x ∧ y < x) ∨ (lo = x ∧ hh = y ∧ x = y)) := by
        rcases Int.lt_trichotomy x y with h | h | h
        · exact ⟨x, y, by omega, hx0, hx1, Or.inl ⟨rfl, rfl, h⟩⟩
        · exact ⟨x, y, by omega, hx0, hx1, Or.inr (Or.inr ⟨rfl, rfl, h⟩)⟩
        · exact ⟨y, x, by omega, hy0, hy1, Or.inr (Or.inl ⟨rfl, rfl, h⟩)⟩
      have HM := Lib.hid (fun h => mayP_mono (a := a) (W := WA) r0 b1 hle h)
      have HSl := Lib.hid (fun h h' => mayP_slack (a := a) (W := WA) (x := hh) r0 b1 h h')
      obtain ⟨ml, hml⟩ : ∃ ml, mayP room num den a WA lo = ml := ⟨_, rfl⟩
      obtain ⟨mh, hmh⟩ : ∃ mh, mayP room num den a WA hh = mh := ⟨_, rfl⟩
      rw [hmh, hml] at HM
      rw [hmh] at HSl
      have PL := Lib.hid (fun (v : World) (h : One v W1.heap.size G room win num den a WA) => hml ▸ one_may h lo)
      have PH := Lib.hid (fun (v : World) (h : One v W1.heap.size G room win num den a WA) => hmh ▸ one_may h hh)
      clear hml hmh
      rcases hsp with ⟨h1, h2, h3⟩ | ⟨h1, h2, h3⟩ | ⟨h1, h2, h3⟩
      · have q1 : ¬ y < x := by omega
        have q2 : ¬ y ≤ x := by omega
        have q3 : x ≤ y := by omega
        have q4 : min x y = x := by omega
        have q5 : max x y = y := by omega
        subst h1 h2
        go_wp2_with fail
        refine (PH.out _ TW.out).mono ?_
        rintro e w2 ⟨rfl, z2, hw2⟩
        have T2 := Lib.hid (show One w2 W1.heap.size G room win num den a WA by rw [hw2]; exact TW.out.drewN)
        have B2 := Lib.hid (show Below W1.heap.size w1 w2 by rw [hw2]; exact below_drewN z2 HB.out)
        have S2 := Lib.hid (show W1.heap.size ≤ w2.heap.size by rw [hw2]; simpa using HS.out)
        clear hw2
        cases mh with
        | true =>
          have hmt := HM.out rfl
          subst hmt
          go_wp2_with fail
          refine (PL.out _ T2.out).mono ?_
          rintro e w3 ⟨rfl, z3, hw3⟩
          have T3 := Lib.hid (show One w3 W1.heap.size G room win num den a WA by rw [hw3]; exact T2.out.drewN)
          have B3 := Lib.hid (show Below W1.heap.size w1 w3 by rw [hw3]; exact below_drewN z3 B2.out)
          have S3 := Lib.hid (show W1.heap.size ≤ w3.heap.size by rw [hw3]; simpa using S2.out)
          clear hw3
          go_wp2_with fail
          refine (one_window T3.out).mono ?_
          rintro e w4 ⟨v4, rfl, u4, b4⟩
          obtain ⟨av, cv, rfl, _, hcv⟩ := u4.form
          have HCV := Lib.hid hcv
          have T4 := Lib.hid (T3.out.below b4)
          have B4 := Lib.hid (B3.out.trans (b4.mono S3.out))
          have S4 := Lib.hid (Nat.le_trans S3.out b4.size)
          have U4 := Lib.hid (Below.refl w4.heap.size w4)
          clear u4 b4 hcv
          go_wp2
          go_loopw [15, 77] (fun l z wr => ∃ (j : Nat) (lv : Int), j ≤ WA.length ∧ l = .int .u64 lv ∧ z = .int .i64 j ∧ (∀ q, q < j → lv ≤ WA.getD q 0) ∧ Below w4.heap.size w4 wr) (fun _ z _ => WA.length - (intOf z).toNat)
          case atStart => exact ⟨0, _, Nat.zero_le _, rfl, rfl, fun q h => absurd h (by omega), U4.out⟩
          case round =>
            obtain ⟨j, lv, hj, rfl, rfl, hle2, hb5⟩ := hrel
            have HLE := Lib.hid hle2
            have HB5 := Lib.hid hb5
            clear hle2 hb5
            by_cases hjl : j < WA.length
            · obtain ⟨g, rfl, _, hgl, cg, _⟩ := HCV.out j hjl
              have d0 := (HB5.out.cell (p := ⟨g, j, none⟩) hgl).trans cg
              have j0 : (0 : Int) ≤ j := by omega
              have j1 : (j : Int) < WA.length := by omega
              have HE := Lib.hid (show ∀ v : Int, v ≤ lv → v ≤ WA.getD j 0 → ∀ q, q < j + 1 → v ≤ WA.getD q 0 from fun v h1 h2 q hq => by
                rcases Nat.lt_or_ge q j with h | h
                · have := HLE.out q h; omega
                · obtain rfl : q = j := by omega
                  exact h2)
              clear cg
              generalize WA.getD j 0 = ev at *
              rcases Int.lt_trichotomy lv ev with h | h | h
              · have q9 : ¬ ev < lv := by omega
                have q8 : min lv ev = lv := by omega
                go_wp2
                go_roundw
                case rel => exact ⟨j + 1, lv, by omega, rfl, by go_num, HE.out lv (by omega) (by omega), HB5.out⟩
                case measure => simp [intOf] <;> omega
              · subst h
                go_wp2
                go_roundw
                case rel => exact ⟨j + 1, lv, by omega, rfl, by go_num, HE.out lv (by omega) (by omega), HB5.out⟩
                case measure => simp [intOf] <;> omega
              · have q9 : ¬ lv < ev := by omega
                have q8 : min lv ev = ev := by omega
                go_wp2
                go_roundw
                case rel => exact ⟨j + 1, ev, by omega, rfl, by go_num, HE.out ev (by omega) (by omega), HB5.out⟩
                case measure => simp [intOf] <;> omega
            · obtain rfl : j = WA.length := by omega
              have T5 := Lib.hid (T4.out.below HB5.out)
              have B5 := Lib.hid (B4.out.trans (HB5.out.mono S4.out))
              have S5 := Lib.hid (Nat.le_trans S4.out HB5.out.size)
              have PM := Lib.hid (fun (v : World) (h : One v W1.heap.size G room win num den a WA) (mv : Int) (hmv : mv ≤ lv) => (mayP_least (x := mv) ha (show 0 < den by omega) (fun y hy => by
                obtain ⟨q, hq, hqe⟩ := List.getElem_of_mem hy
                have := HLE.out q hq
                rw [List.getD_eq_getElem?_getD, List.getElem?_eq_getElem hq] at this
                simp at this
                omega)) ▸ one_may h mv)
              obtain ⟨kk0, kk2, kk3⟩ := HK.out wr B5.out
              clear HCV HLE
              have p0 : 0 ≤ (a : Int) * den := Int.mul_nonneg (by omega) (by omega)
              have p1 : (a : Int) * den ≤ 4096 * 65536 := Int.mul_le_mul (by omega) (by omega) (by omega) (by omega)
              have p2 : 0 ≤ num * room := Int.mul_nonneg (by omega) (by omega)
              have p3 : num * room ≤ 65536 * 4096 := Int.mul_le_mul (by omega) (by omega) (by omega) (by omega)
              by_cases hb : (a : Int) < room
              · by_cases hs : (a : Int) * den ≤ num * room
                · have hmm := HSl.out hb hs
                  go_wp2
                  go_region_held3 (fun v => v.cell? ⟨w.heap.size, 0, none⟩ = some (.int .i64 room)) ((first | exact kk0)) (first
                    | (go_at_call 19; refine (one_len T5.out.drew).mono ?_; rintro e w6 ⟨rfl, hw6⟩; subst hw6))
                  go_wp2_with fail
                  all_goals
                    refine (PM.out _ T5.out.drew _ (by first | exact Int.le_refl _ | omega)).mono ?_
                    rintro e w7 ⟨rfl, z7, hw7⟩
                    have T7 := Lib.hid (show One w7 W1.heap.size G room win num den a WA by rw [hw7]; exact T5.out.drew.drewN)
                    have B7 := Lib.hid (show Below W1.heap.size w1 w7 by rw [hw7]; exact below_drewN z7 B5.out.drew)
                    have S7 := Lib.hid (show W1.heap.size ≤ w7.heap.size by rw [hw7]; simpa using S5.out)
                    clear hw7 kk0 kk2 kk3
                    obtain ⟨m0, m2, m3⟩ := HK.out w7 B7.out
                    clear PM PL
                    obtain ⟨pa, hpa⟩ : ∃ pa, (a : Int) * den = pa := ⟨_, rfl⟩
                    obtain ⟨pn, hpn⟩ : ∃ pn, num * room = pn := ⟨_, rfl⟩
                    have q21 : IntKind.u64.wrap ((a : Int) * den) = pa := by rw [IntKind.wrap_u64]; omega
                    have q22 : IntKind.u64.wrap (num * room) = pn := by rw [IntKind.wrap_u64]; omega
                    have q23 : IntKind.u64.wrap room = room := by rw [IntKind.wrap_u64]; omega
                    have q24 : IntKind.u64.wrap (a : Int) = a := by rw [IntKind.wrap_u64]; omega
                    have q26 : IntKind.u64.wrap pa = pa := by rw [IntKind.wrap_u64]; omega
                    have q27 : IntKind.u64.wrap pn = pn := by rw [IntKind.wrap_u64]; omega
                    have q25 : pa ≤ pn := by omega
                    clear p0 p1 p2 p3 hs
                    go_wp2
                    have LNQ := Lib.hid (fun n => one_len (T7.out.drewN (q := n)))
                    have PHQ := Lib.hid (fun n => PH.out _ (T7.out.drewN (q := n)))
                    go_quiet ((first | (go_at_call 19; exact Calls.quiet_of_same (LNQ.out _)) | (go_at_call 17; exact Calls.quiet_of (PHQ.out _))))
                    go_wp2_with fail
                    refine (lives13 _).mono ?_
                    rintro e w9 ⟨rfl, b9⟩
                    have B9 := Lib.hid (HB2.out.trans (Below.mono ((below_drewN nq B7.out).trans (b9.mono (by simpa using S7.out))) HT1.out))
                    clear b9
                    go_wp2
                    go_ret
                    exact ⟨rfl, B9.out⟩
                · skip
                  go_wp2
                  go_region_held3 (fun v => v.cell? ⟨w.heap.size, 0, none⟩ = some (.int .i64 room)) ((first | exact kk0)) (first
                    | (go_at_call 19; refine (one_len T5.out.drew).mono ?_; rintro e w6 ⟨rfl, hw6⟩; subst hw6))
                  go_wp2_with fail
                  all_goals
                    refine (PM.out _ T5.out.drew _ (by first | exact Int.le_refl _ | omega)).mono ?_
                    rintro e w7 ⟨rfl, z7, hw7⟩
                    have T7 := Lib.hid (show One w7 W1.heap.size G room win num den a WA by rw [hw7]; exact T5.out.drew.drewN)
                    have B7 := Lib.hid (show Below W1.heap.size w1 w7 by rw [hw7]; exact below_drewN z7 B5.out.drew)
                    have S7 := Lib.hid (show W1.heap.size ≤ w7.heap.size by rw [hw7]; simpa using S5.out)
                    clear hw7 kk0 kk2 kk3
                    obtain ⟨m0, m2, m3⟩ := HK.out w7 B7.out
                    clear PM PL
                    obtain ⟨pa, hpa⟩ : ∃ pa, (a : Int) * den = pa := ⟨_, rfl⟩
                    obtain ⟨pn, hpn⟩ : ∃ pn, num * room = pn := ⟨_, rfl⟩
                    have q21 : IntKind.u64.wrap ((a : Int) * den) = pa := by rw [IntKind.wrap_u64]; omega
                    have q22 : IntKind.u64.wrap (num * room) = pn := by rw [IntKind.wrap_u64]; omega
                    have q23 : IntKind.u64.wrap room = room := by rw [IntKind.wrap_u64]; omega
                    have q24 : IntKind.u64.wrap (a : Int) = a := by rw [IntKind.wrap_u64]; omega
                    have q26 : IntKind.u64.wrap pa = pa := by rw [IntKind.wrap_u64]; omega
                    have q27 : IntKind.u64.wrap pn = pn := by rw [IntKind.wrap_u64]; omega
                    have q25 : decide (pa ≤ pn) = false := decide_eq_false (by omega)
                    clear p0 p1 p2 p3 hs
                    go_wp2
                    have LNQ := Lib.hid (fun n => one_len (T7.out.drewN (q := n)))
                    have PHQ := Lib.hid (fun n => PH.out _ (T7.out.drewN (q := n)))
                    go_quiet ((first | (go_at_call 19; exact Calls.quiet_of_same (LNQ.out _)) | (go_at_call 17; exact Calls.quiet_of (PHQ.out _))))
                    go_wp2_with fail
                    refine (lives13 _).mono ?_
                    rintro e w9 ⟨rfl, b9⟩
                    have B9 := Lib.hid (HB2.out.trans (Below.mono ((below_drewN nq B7.out).trans (b9.mono (by simpa using S7.out))) HT1.out))
                    clear b9
                    go_wp2
                    go_ret
                    exact ⟨rfl, B9.out⟩
              · skip
                go_wp2
                go_region_held3 (fun v => v.cell? ⟨w.heap.size, 0, none⟩ = some (.int .i64 room)) ((first | exact kk0)) (first
                  | (go_at_call 19; refine (one_len T5.out.drew).mono ?_; rintro e w6 ⟨rfl, hw6⟩; subst hw6))
                go_wp2_with fail
                all_goals
                  refine (PM.out _ T5.out.drew _ (by first | exact Int.le_refl _ | omega)).mono ?_
                  rintro e w7 ⟨rfl, z7, hw7⟩
                  have T7 := Lib.hid (show One w7 W1.heap.size G room win num den a WA by rw [hw7]; exact T5.out.drew.drewN)
                  have B7 := Lib.hid (show Below W1.heap.size w1 w7 by rw [hw7]; exact below_drewN z7 B5.out.drew)
                  have S7 := Lib.hid (show W1.heap.size ≤ w7.heap.size by rw [hw7]; simpa using S5.out)
                  clear hw7 kk0 kk2 kk3
                  obtain ⟨m0, m2, m3⟩ := HK.out w7 B7.out
                  clear PM PL
                  have q25 : decide ((a : Int) < room) = false := decide_eq_false (by omega)
                  go_wp2
                  have LNQ := Lib.hid (fun n => one_len (T7.out.drewN (q := n)))
                  have PHQ := Lib.hid (fun n => PH.out _ (T7.out.drewN (q := n)))
                  go_quiet ((first | (go_at_call 19; exact Calls.quiet_of_same (LNQ.out _)) | (go_at_call 17; exact Calls.quiet_of (PHQ.out _))))
                  go_wp2_with fail
                  refine (lives13 _).mono ?_
                  rintro e w9 ⟨rfl, b9⟩
                  have B9 := Lib.hid (HB2.out.trans (Below.mono ((below_drewN nq B7.out).trans (b9.mono (by simpa using S7.out))) HT1.out))
                  clear b9
                  go_wp2
                  go_ret
                  exact ⟨rfl, B9.out⟩
        | false =>
          have T3 := T2
          have B3 := B2
          have S3 := S2
          go_wp2_with fail
          refine (one_window T3.out).mono ?_
          rintro e w4 ⟨v4, rfl, u4, b4⟩
          obtain ⟨av, cv, rfl, _, hcv⟩ := u4.form
          have HCV := Lib.hid hcv
          have T4 := Lib.hid (T3.out.below b4)
          have B4 := Lib.hid (B3.out.trans (b4.mono S3.out))
          have S4 := Lib.hid (Nat.le_trans S3.out b4.size)
          have U4 := Lib.hid (Below.refl w4.heap.size w4)
          clear u4 b4 hcv
          go_wp2
          go_loopw [15, 77] (fun l z wr => ∃ (j : Nat) (lv : Int), j ≤ WA.length ∧ l = .int .u64 lv ∧ z = .int .i64 j ∧ (∀ q, q < j → lv ≤ WA.getD q 0) ∧ Below w4.heap.size w4 wr) (fun _ z _ => WA.length - (intOf z).toNat)
          case atStart => exact ⟨0, _, Nat.zero_le _, rfl, rfl, fun q h => absurd h (by omega), U4.out⟩
          case round =>
            obtain ⟨j, lv, hj, rfl, rfl, hle2, hb5⟩ := hrel
            have HLE := Lib.hid hle2
            have HB5 := Lib.hid hb5
            clear hle2 hb5
            by_cases hjl : j < WA.length
            · obtain ⟨g, rfl, _, hgl, cg, _⟩ := HCV.out j hjl
              have d0 := (HB5.out.cell (p := ⟨g, j, none⟩) hgl).trans cg
              have j0 : (0 : Int) ≤ j := by omega
              have j1 : (j : Int) < WA.length := by omega
              have HE := Lib.hid (show ∀ v : Int, v ≤ lv → v ≤ WA.getD j 0 → ∀ q, q < j + 1 → v ≤ WA.getD q 0 from fun v h1 h2 q hq => by
                rcases Nat.lt_or_ge q j with h | h
                · have := HLE.out q h; omega
                · obtain rfl : q = j := by omega
                  exact h2)
              clear cg
              generalize WA.getD j 0 = ev at *
              rcases Int.lt_trichotomy lv ev with h | h | h
              · have q9 : ¬ ev < lv := by omega
                have q8 : min lv ev = lv := by omega
                go_wp2
                go_roundw
                case rel => exact ⟨j + 1, lv, by omega, rfl, by go_num, HE.out lv (by omega) (by omega), HB5.out⟩
                case measure => simp [intOf] <;> omega
              · subst h
                go_wp2
                go_roundw
                case rel => exact ⟨j + 1, lv, by omega, rfl, by go_num, HE.out lv (by omega) (by omega), HB5.out⟩
                case measure => simp [intOf] <;> omega
              · have q9 : ¬ lv < ev := by omega
                have q8 : min lv ev = ev := by omega
                go_wp2
                go_roundw
                case rel => exact ⟨j + 1, ev, by omega, rfl, by go_num, HE.out ev (by omega) (by omega), HB5.out⟩
                case measure => simp [intOf] <;> omega
            · obtain rfl : j = WA.length := by omega
              have T5 := Lib.hid (T4.out.below HB5.out)
              have B5 := Lib.hid (B4.out.trans (HB5.out.mono S4.out))
              have S5 := Lib.hid (Nat.le_trans S4.out HB5.out.size)
              have PM := Lib.hid (fun (v : World) (h : One v W1.heap.size G room win num den a WA) (mv : Int) (hmv : mv ≤ lv) => (mayP_least (x := mv) ha (show 0 < den by omega) (fun y hy => by
                obtain ⟨q, hq, hqe⟩ := List.getElem_of_mem hy
                have := HLE.out q hq
                rw [List.getD_eq_getElem?_getD, List.getElem?_eq_getElem hq] at this
                simp at this
                omega)) ▸ one_may h mv)
              obtain ⟨kk0, kk2, kk3⟩ := HK.out wr B5.out
              clear HCV HLE
              have p0 : 0 ≤ (a : Int) * den := Int.mul_nonneg (by omega) (by omega)
              have p1 : (a : Int) * den ≤ 4096 * 65536 := Int.mul_le_mul (by omega) (by omega) (by omega) (by omega)
              have p2 : 0 ≤ num * room := Int.mul_nonneg (by omega) (by omega)
              have p3 : num * room ≤ 65536 * 4096 := Int.mul_le_mul (by omega) (by omega) (by omega) (by omega)
              by_cases hb : (a : Int) < room
              · by_cases hs : (a : Int) * den ≤ num * room
                · have hmm := HSl.out hb hs
                  exact absurd hmm Bool.false_ne_true
                · skip
                  go_wp2
                  go_region_held3 (fun v => v.cell? ⟨w.heap.size, 0, none⟩ = some (.int .i64 room)) ((first | exact kk0)) (first
                    | (go_at_call 19; refine (one_len T5.out.drew).mono ?_; rintro e w6 ⟨rfl, hw6⟩; subst hw6))
                  go_wp2_with fail
                  all_goals
                    refine (PM.out _ T5.out.drew _ (by first | exact Int.le_refl _ | omega)).mono ?_
                    rintro e w7 ⟨rfl, z7, hw7⟩
                    have T7 := Lib.hid (show One w7 W1.heap.size G room win num den a WA by rw [hw7]; exact T5.out.drew.drewN)
                    have B7 := Lib.hid (show Below W1.heap.size w1 w7 by rw [hw7]; exact below_drewN z7 B5.out.drew)
                    have S7 := Lib.hid (show W1.heap.size ≤ w7.heap.size by rw [hw7]; simpa using S5.out)
                    clear hw7 kk0 kk2 kk3
                    obtain ⟨m0, m2, m3⟩ := HK.out w7 B7.out
                    clear PM PL
                    obtain ⟨pa, hpa⟩ : ∃ pa, (a : Int) * den = pa := ⟨_, rfl⟩
                    obtain ⟨pn, hpn⟩ : ∃ pn, num * room = pn := ⟨_, rfl⟩
                    have q21 : IntKind.u64.wrap ((a : Int) * den) = pa := by rw [IntKind.wrap_u64]; omega
                    have q22 : IntKind.u64.wrap (num * room) = pn := by rw [IntKind.wrap_u64]; omega
                    have q23 : IntKind.u64.wrap room = room := by rw [IntKind.wrap_u64]; omega
                    have q24 : IntKind.u64.wrap (a : Int) = a := by rw [IntKind.wrap_u64]; omega
                    have q26 : IntKind.u64.wrap pa = pa := by rw [IntKind.wrap_u64]; omega
                    have q27 : IntKind.u64.wrap pn = pn := by rw [IntKind.wrap_u64]; omega
                    have q25 : decide (pa ≤ pn) = false := decide_eq_false (by omega)
                    clear p0 p1 p2 p3 hs
                    go_wp2
                    have LNQ := Lib.hid (fun n => one_len (T7.out.drewN (q := n)))
                    have PHQ := Lib.hid (fun n => PH.out _ (T7.out.drewN (q := n)))
                    go_quiet ((first | (go_at_call 19; exact Calls.quiet_of_same (LNQ.out _)) | (go_at_call 17; exact Calls.quiet_of (PHQ.out _))))
                    go_wp2_with fail
                    refine (lives13 _).mono ?_
                    rintro e w9 ⟨rfl, b9⟩
                    have B9 := Lib.hid (HB2.out.trans (Below.mono ((below_drewN nq B7.out).trans (b9.mono (by simpa using S7.out))) HT1.out))
                    clear b9
                    go_wp2
                    go_ret
                    exact ⟨rfl, B9.out⟩
              · skip
                go_wp2
                go_region_held3 (fun v => v.cell? ⟨w.heap.size, 0, none⟩ = some (.int .i64 room)) ((first | exact kk0)) (first
                  | (go_at_call 19; refine (one_len T5.out.drew).mono ?_; rintro e w6 ⟨rfl, hw6⟩; subst hw6))
                go_wp2_with fail
                all_goals
                  refine (PM.out _ T5.out.drew _ (by first | exact Int.le_refl _ | omega)).mono ?_
                  rintro e w7 ⟨rfl, z7, hw7⟩
                  have T7 := Lib.hid (show One w7 W1.heap.size G room win num den a WA by rw [hw7]; exact T5.out.drew.drewN)
                  have B7 := Lib.hid (show Below W1.heap.size w1 w7 by rw [hw7]; exact below_drewN z7 B5.out.drew)
                  have S7 := Lib.hid (show W1.heap.size ≤ w7.heap.size by rw [hw7]; simpa using S5.out)
                  clear hw7 kk0 kk2 kk3
                  obtain ⟨m0, m2, m3⟩ := HK.out w7 B7.out
                  clear PM PL
                  have q25 : decide ((a : Int) < room) = false := decide_eq_false (by omega)
                  go_wp2
                  have LNQ := Lib.hid (fun n => one_len (T7.out.drewN (q := n)))
                  have PHQ := Lib.hid (fun n => PH.out _ (T7.out.drewN (q := n)))
                  go_quiet ((first | (go_at_call 19; exact Calls.quiet_of_same (LNQ.out _)) | (go_at_call 17; exact Calls.quiet_of (PHQ.out _))))
                  go_wp2_with fail
                  refine (lives13 _).mono ?_
                  rintro e w9 ⟨rfl, b9⟩
                  have B9 := Lib.hid (HB2.out.trans (Below.mono ((below_drewN nq B7.out).trans (b9.mono (by simpa using S7.out))) HT1.out))
                  clear b9
                  go_wp2
                  go_ret
                  exact ⟨rfl, B9.out⟩
      · have q1 : ¬ x < y := by omega
        have q2 : ¬ x ≤ y := by omega
        have q3 : y ≤ x := by omega
        have q4 : min x y = y := by omega
        have q5 : max x y = x := by omega
        subst h1 h2
        go_wp2_with fail
        refine (PH.out _ TW.out).mono ?_
        rintro e w2 ⟨rfl, z2, hw2⟩
        have T2 := Lib.hid (show One w2 W1.heap.size G room win num den a WA by rw [hw2]; exact TW.out.drewN)
        have B2 := Lib.hid (show Below W1.heap.size w1 w2 by rw [hw2]; exact below_drewN z2 HB.out)
        have S2 := Lib.hid (show W1.heap.size ≤ w2.heap.size by rw [hw2]; simpa using HS.out)
        clear hw2
        cases mh with
        | true =>
          have hmt := HM.out rfl
          subst hmt
          go_wp2_with fail
          refine (PL.out _ T2.out).mono ?_
          rintro e w3 ⟨rfl, z3, hw3⟩
          have T3 := Lib.hid (show One w3 W1.heap.size G room win num den a WA by rw [hw3]; exact T2.out.drewN)
          have B3 := Lib.hid (show Below W1.heap.size w1 w3 by rw [hw3]; exact below_drewN z3 B2.out)
          have S3 := Lib.hid (show W1.heap.size ≤ w3.heap.size by rw [hw3]; simpa using S2.out)
          clear hw3
          go_wp2_with fail
          refine (one_window T3.out).mono ?_
          rintro e w4 ⟨v4, rfl, u4, b4⟩
          obtain ⟨av, cv, rfl, _, hcv⟩ := u4.form
          have HCV := Lib.hid hcv
          have T4 := Lib.hid (T3.out.below b4)
          have B4 := Lib.hid (B3.out.trans (b4.mono S3.out))
          have S4 := Lib.hid (Nat.le_trans S3.out b4.size)
          have U4 := Lib.hid (Below.refl w4.heap.size w4)
          clear u4 b4 hcv
          go_wp2
          go_loopw [15, 77] (fun l z wr => ∃ (j : Nat) (lv : Int), j ≤ WA.length ∧ l = .int .u64 lv ∧ z = .int .i64 j ∧ (∀ q, q < j → lv ≤ WA.getD q 0) ∧ Below w4.heap.size w4 wr) (fun _ z _ => WA.length - (intOf z).toNat)
          case atStart => exact ⟨0, _, Nat.zero_le _, rfl, rfl, fun q h => absurd h (by omega), U4.out⟩
          case round =>
            obtain ⟨j, lv, hj, rfl, rfl, hle2, hb5⟩ := hrel
            have HLE := Lib.hid hle2
            have HB5 := Lib.hid hb5
            clear hle2 hb5
            by_cases hjl : j < WA.length
            · obtain ⟨g, rfl, _, hgl, cg, _⟩ := HCV.out j hjl
              have d0 := (HB5.out.cell (p := ⟨g, j, none⟩) hgl).trans cg
              have j0 : (0 : Int) ≤ j := by omega
              have j1 : (j : Int) < WA.length := by omega
              have HE := Lib.hid (show ∀ v : Int, v ≤ lv → v ≤ WA.getD j 0 → ∀ q, q < j + 1 → v ≤ WA.getD q 0 from fun v h1 h2 q hq => by
                rcases Nat.lt_or_ge q j with h | h
                · have := HLE.out q h; omega
                · obtain rfl : q = j := by omega
                  exact h2)
              clear cg
              generalize WA.getD j 0 = ev at *
              rcases Int.lt_trichotomy lv ev with h | h | h
              · have q9 : ¬ ev < lv := by omega
                have q8 : min lv ev = lv := by omega
                go_wp2
                go_roundw
                case rel => exact ⟨j + 1, lv, by omega, rfl, by go_num, HE.out lv (by omega) (by omega), HB5.out⟩
                case measure => simp [intOf] <;> omega
              · subst h
                go_wp2
                go_roundw
                case rel => exact ⟨j + 1, lv, by omega, rfl, by go_num, HE.out lv (by omega) (by omega), HB5.out⟩
                case measure => simp [intOf] <;> omega
              · have q9 : ¬ lv < ev := by omega
                have q8 : min lv ev = ev := by omega
                go_wp2
                go_roundw
                case rel => exact ⟨j + 1, ev, by omega, rfl, by go_num, HE.out ev (by omega) (by omega), HB5.out⟩
                case measure => simp [intOf] <;> omega
            · obtain rfl : j = WA.length := by omega
              have T5 := Lib.hid (T4.out.below HB5.out)
              have B5 := Lib.hid (B4.out.trans (HB5.out.mono S4.out))
              have S5 := Lib.hid (Nat.le_trans S4.out HB5.out.size)
              have PM := Lib.hid (fun (v : World) (h : One v W1.heap.size G room win num den a WA) (mv : Int) (hmv : mv ≤ lv) => (mayP_least (x := mv) ha (show 0 < den by omega) (fun y hy => by
                obtain ⟨q, hq, hqe⟩ := List.getElem_of_mem hy
                have := HLE.out q hq
                rw [List.getD_eq_getElem?_getD, List.getElem?_eq_getElem hq] at this
                simp at this
                omega)) ▸ one_may h mv)
              obtain ⟨kk0, kk2, kk3⟩ := HK.out wr B5.out
              clear HCV HLE
              have p0 : 0 ≤ (a : Int) * den := Int.mul_nonneg (by omega) (by omega)
              have p1 : (a : Int) * den ≤ 4096 * 65536 := Int.mul_le_mul (by omega) (by omega) (by omega) (by omega)
              have p2 : 0 ≤ num * room := Int.mul_nonneg (by omega) (by omega)
              have p3 : num * room ≤ 65536 * 4096 := Int.mul_le_mul (by omega) (by omega) (by omega) (by omega)
              by_cases hb : (a : Int) < room
              · by_cases hs : (a : Int) * den ≤ num * room
                · have hmm := HSl.out hb hs
                  go_wp2
                  go_region_held3 (fun v => v.cell? ⟨w.heap.size, 0, none⟩ = some (.int .i64 room)) ((first | exact kk0)) (first
                    | (go_at_call 19; refine (one_len T5.out.drew).mono ?_; rintro e w6 ⟨rfl, hw6⟩; subst hw6))
                  go_wp2_with fail
                  all_goals
                    refine (PM.out _ T5.out.drew _ (by first | exact Int.le_refl _ | omega)).mono ?_
                    rintro e w7 ⟨rfl, z7, hw7⟩
                    have T7 := Lib.hid (show One w7 W1.heap.size G room win num den a WA by rw [hw7]; exact T5.out.drew.drewN)
                    have B7 := Lib.hid (show Below W1.heap.size w1 w7 by rw [hw7]; exact below_drewN z7 B5.out.drew)
                    have S7 := Lib.hid (show W1.heap.size ≤ w7.heap.size by rw [hw7]; simpa using S5.out)
                    clear hw7 kk0 kk2 kk3
                    obtain ⟨m0, m2, m3⟩ := HK.out w7 B7.out
                    clear PM PL
                    obtain ⟨pa, hpa⟩ : ∃ pa, (a : Int) * den = pa := ⟨_, rfl⟩
                    obtain ⟨pn, hpn⟩ : ∃ pn, num * room = pn := ⟨_, rfl⟩
                    have q21 : IntKind.u64.wrap ((a : Int) * den) = pa := by rw [IntKind.wrap_u64]; omega
                    have q22 : IntKind.u64.wrap (num * room) = pn := by rw [IntKind.wrap_u64]; omega
                    have q23 : IntKind.u64.wrap room = room := by rw [IntKind.wrap_u64]; omega
                    have q24 : IntKind.u64.wrap (a : Int) = a := by rw [IntKind.wrap_u64]; omega
                    have q26 : IntKind.u64.wrap pa = pa := by rw [IntKind.wrap_u64]; omega
                    have q27 : IntKind.u64.wrap pn = pn := by rw [IntKind.wrap_u64]; omega
                    have q25 : pa ≤ pn := by omega
                    clear p0 p1 p2 p3 hs
                    go_wp2
                    have LNQ := Lib.hid (fun n => one_len (T7.out.drewN (q := n)))
                    have PHQ := Lib.hid (fun n => PH.out _ (T7.out.drewN (q := n)))
                    go_quiet ((first | (go_at_call 19; exact Calls.quiet_of_same (LNQ.out _)) | (go_at_call 17; exact Calls.quiet_of (PHQ.out _))))
                    go_wp2_with fail
                    refine (lives13 _).mono ?_
                    rintro e w9 ⟨rfl, b9⟩
                    have B9 := Lib.hid (HB2.out.trans (Below.mono ((below_drewN nq B7.out).trans (b9.mono (by simpa using S7.out))) HT1.out))
                    clear b9
                    go_wp2
                    go_ret
                    exact ⟨rfl, B9.out⟩
                · skip
                  go_wp2
                  go_region_held3 (fun v => v.cell? ⟨w.heap.size, 0, none⟩ = some (.int .i64 room)) ((first | exact kk0)) (first
                    | (go_at_call 19; refine (one_len T5.out.drew).mono ?_; rintro e w6 ⟨rfl, hw6⟩; subst hw6))
                  go_wp2_with fail
                  all_goals
                    refine (PM.out _ T5.out.drew _ (by first | exact Int.le_refl _ | omega)).mono ?_
                    rintro e w7 ⟨rfl, z7, hw7⟩
                    have T7 := Lib.hid (show One w7 W1.heap.size G room win num den a WA by rw [hw7]; exact T5.out.drew.drewN)
                    have B7 := Lib.hid (show Below W1.heap.size w1 w7 by rw [hw7]; exact below_drewN z7 B5.out.drew)
                    have S7 := Lib.hid (show W1.heap.size ≤ w7.heap.size by rw [hw7]; simpa using S5.out)
                    clear hw7 kk0 kk2 kk3
                    obtain ⟨m0, m2, m3⟩ := HK.out w7 B7.out
                    clear PM PL
                    obtain ⟨pa, hpa⟩ : ∃ pa, (a : Int) * den = pa := ⟨_, rfl⟩
                    obtain ⟨pn, hpn⟩ : ∃ pn, num * room = pn := ⟨_, rfl⟩
                    have q21 : IntKind.u64.wrap ((a : Int) * den) = pa := by rw [IntKind.wrap_u64]; omega
                    have q22 : IntKind.u64.wrap (num * room) = pn := by rw [IntKind.wrap_u64]; omega
                    have q23 : IntKind.u64.wrap room = room := by rw [IntKind.wrap_u64]; omega
                    have q24 : IntKind.u64.wrap (a : Int) = a := by rw [IntKind.wrap_u64]; omega
                    have q26 : IntKind.u64.wrap pa = pa := by rw [IntKind.wrap_u64]; omega
                    have q27 : IntKind.u64.wrap pn = pn := by rw [IntKind.wrap_u64]; omega
                    have q25 : decide (pa ≤ pn) = false := decide_eq_false (by omega)
                    clear p0 p1 p2 p3 hs
                    go_wp2
                    have LNQ := Lib.hid (fun n => one_len (T7.out.drewN (q := n)))
                    have PHQ := Lib.hid (fun n => PH.out _ (T7.out.drewN (q := n)))
                    go_quiet ((first | (go_at_call 19; exact Calls.quiet_of_same (LNQ.out _)) | (go_at_call 17; exact Calls.quiet_of (PHQ.out _))))
                    go_wp2_with fail
                    refine (lives13 _).mono ?_
                    rintro e w9 ⟨rfl, b9⟩
                    have B9 := Lib.hid (HB2.out.trans (Below.mono ((below_drewN nq B7.out).trans (b9.mono (by simpa using S7.out))) HT1.out))
                    clear b9
                    go_wp2
                    go_ret
                    exact ⟨rfl, B9.out⟩
              · skip
                go_wp2
                go_region_held3 (fun v => v.cell? ⟨w.heap.size, 0, none⟩ = some (.int .i64 room)) ((first | exact kk0)) (first
                  | (go_at_call 19; refine (one_len T5.out.drew).mono ?_; rintro e w6 ⟨rfl, hw6⟩; subst hw6))
                go_wp2_with fail
                all_goals
                  refine (PM.out _ T5.out.drew _ (by first | exact Int.le_refl _ | omega)).mono ?_
                  rintro e w7 ⟨rfl, z7, hw7⟩
                  have T7 := Lib.hid (show One w7 W1.heap.size G room win num den a WA by rw [hw7]; exact T5.out.drew.drewN)
                  have B7 := Lib.hid (show Below W1.heap.size w1 w7 by rw [hw7]; exact below_drewN z7 B5.out.drew)
                  have S7 := Lib.hid (show W1.heap.size ≤ w7.heap.size by rw [hw7]; simpa using S5.out)
                  clear hw7 kk0 kk2 kk3
                  obtain ⟨m0, m2, m3⟩ := HK.out w7 B7.out
                  clear PM PL
                  have q25 : decide ((a : Int) < room) = false := decide_eq_false (by omega)
                  go_wp2
                  have LNQ := Lib.hid (fun n => one_len (T7.out.drewN (q := n)))
                  have PHQ := Lib.hid (fun n => PH.out _ (T7.out.drewN (q := n)))
                  go_quiet ((first | (go_at_call 19; exact Calls.quiet_of_same (LNQ.out _)) | (go_at_call 17; exact Calls.quiet_of (PHQ.out _))))
                  go_wp2_with fail
                  refine (lives13 _).mono ?_
                  rintro e w9 ⟨rfl, b9⟩
                  have B9 := Lib.hid (HB2.out.trans (Below.mono ((below_drewN nq B7.out).trans (b9.mono (by simpa using S7.out))) HT1.out))
                  clear b9
                  go_wp2
                  go_ret
                  exact ⟨rfl, B9.out⟩
        | false =>
          have T3 := T2
          have B3 := B2
          have S3 := S2
          go_wp2_with fail
          refine (one_window T3.out).mono ?_
          rintro e w4 ⟨v4, rfl, u4, b4⟩
          obtain ⟨av, cv, rfl, _, hcv⟩ := u4.form
          have HCV := Lib.hid hcv
          have T4 := Lib.hid (T3.out.below b4)
          have B4 := Lib.hid (B3.out.trans (b4.mono S3.out))
          have S4 := Lib.hid (Nat.le_trans S3.out b4.size)
          have U4 := Lib.hid (Below.refl w4.heap.size w4)
          clear u4 b4 hcv
          go_wp2
          go_loopw [15, 77] (fun l z wr => ∃ (j : Nat) (lv : Int), j ≤ WA.length ∧ l = .int .u64 lv ∧ z = .int .i64 j ∧ (∀ q, q < j → lv ≤ WA.getD q 0) ∧ Below w4.heap.size w4 wr) (fun _ z _ => WA.length - (intOf z).toNat)
          case atStart => exact ⟨0, _, Nat.zero_le _, rfl, rfl, fun q h => absurd h (by omega), U4.out⟩
          case round =>
            obtain ⟨j, lv, hj, rfl, rfl, hle2, hb5⟩ := hrel
            have HLE := Lib.hid hle2
            have HB5 := Lib.hid hb5
            clear hle2 hb5
            by_cases hjl : j < WA.length
            · obtain ⟨g, rfl, _, hgl, cg, _⟩ := HCV.out j hjl
              have d0 := (HB5.out.cell (p := ⟨g, j, none⟩) hgl).trans cg
              have j0 : (0 : Int) ≤ j := by omega
              have j1 : (j : Int) < WA.length := by omega
              have HE := Lib.hid (show ∀ v : Int, v ≤ lv → v ≤ WA.getD j 0 → ∀ q, q < j + 1 → v ≤ WA.getD q 0 from fun v h1 h2 q hq => by
                rcases Nat.lt_or_ge q j with h | h
                · have := HLE.out q h; omega
                · obtain rfl : q = j := by omega
                  exact h2)
              clear cg
              generalize WA.getD j 0 = ev at *
              rcases Int.lt_trichotomy lv ev with h | h | h
              · have q9 : ¬ ev < lv := by omega
                have q8 : min lv ev = lv := by omega
                go_wp2
                go_roundw
                case rel => exact ⟨j + 1, lv, by omega, rfl, by go_num, HE.out lv (by omega) (by omega), HB5.out⟩
                case measure => simp [intOf] <;> omega
              · subst h
                go_wp2
                go_roundw
                case rel => exact ⟨j + 1, lv, by omega, rfl, by go_num, HE.out lv (by omega) (by omega), HB5.out⟩
                case measure => simp [intOf] <;> omega
              · have q9 : ¬ lv < ev := by omega
                have q8 : min lv ev = ev := by omega
                go_wp2
                go_roundw
                case rel => exact ⟨j + 1, ev, by omega, rfl, by go_num, HE.out ev (by omega) (by omega), HB5.out⟩
                case measure => simp [intOf] <;> omega
            · obtain rfl : j = WA.length := by omega
              have T5 := Lib.hid (T4.out.below HB5.out)
              have B5 := Lib.hid (B4.out.trans (HB5.out.mono S4.out))
              have S5 := Lib.hid (Nat.le_trans S4.out HB5.out.size)
              have PM := Lib.hid (fun (v : World) (h : One v W1.heap.size G room win num den a WA) (mv : Int) (hmv : mv ≤ lv) => (mayP_least (x := mv) ha (show 0 < den by omega) (fun y hy => by
                obtain ⟨q, hq, hqe⟩ := List.getElem_of_mem hy
                have := HLE.out q hq
                rw [List.getD_eq_getElem?_getD, List.getElem?_eq_getElem hq] at this
                simp at this
                omega)) ▸ one_may h mv)
              obtain ⟨kk0, kk2, kk3⟩ := HK.out wr B5.out
              clear HCV HLE
              have p0 : 0 ≤ (a : Int) * den := Int.mul_nonneg (by omega) (by omega)
              have p1 : (a : Int) * den ≤ 4096 * 65536 := Int.mul_le_mul (by omega) (by omega) (by omega) (by omega)
              have p2 : 0 ≤ num * room := Int.mul_nonneg (by omega) (by omega)
              have p3 : num * room ≤ 65536 * 4096 := Int.mul_le_mul (by omega) (by omega) (by omega) (by omega)
              by_cases hb : (a : Int) < room
              · by_cases hs : (a : Int) * den ≤ num * room
                · have hmm := HSl.out hb hs
                  exact absurd hmm Bool.false_ne_true
                · skip
                  go_wp2
                  go_region_held3 (fun v => v.cell? ⟨w.heap.size, 0, none⟩ = some (.int .i64 room)) ((first | exact kk0)) (first
                    | (go_at_call 19; refine (one_len T5.out.drew).mono ?_; rintro e w6 ⟨rfl, hw6⟩; subst hw6))
                  go_wp2_with fail
                  all_goals
                    refine (PM.out _ T5.out.drew _ (by first | exact Int.le_refl _ | omega)).mono ?_
                    rintro e w7 ⟨rfl, z7, hw7⟩
                    have T7 := Lib.hid (show One w7 W1.heap.size G room win num den a WA by rw [hw7]; exact T5.out.drew.drewN)
                    have B7 := Lib.hid (show Below W1.heap.size w1 w7 by rw [hw7]; exact below_drewN z7 B5.out.drew)
                    have S7 := Lib.hid (show W1.heap.size ≤ w7.heap.size by rw [hw7]; simpa using S5.out)
                    clear hw7 kk0 kk2 kk3
                    obtain ⟨m0, m2, m3⟩ := HK.out w7 B7.out
                    clear PM PL
                    obtain ⟨pa, hpa⟩ : ∃ pa, (a : Int) * den = pa := ⟨_, rfl⟩
                    obtain ⟨pn, hpn⟩ : ∃ pn, num * room = pn := ⟨_, rfl⟩
                    have q21 : IntKind.u64.wrap ((a : Int) * den) = pa := by rw [IntKind.wrap_u64]; omega
                    have q22 : IntKind.u64.wrap (num * room) = pn := by rw [IntKind.wrap_u64]; omega
                    have q23 : IntKind.u64.wrap room = room := by rw [IntKind.wrap_u64]; omega
                    have q24 : IntKind.u64.wrap (a : Int) = a := by rw [IntKind.wrap_u64]; omega
                    have q26 : IntKind.u64.wrap pa = pa := by rw [IntKind.wrap_u64]; omega
                    have q27 : IntKind.u64.wrap pn = pn := by rw [IntKind.wrap_u64]; omega
                    have q25 : decide (pa ≤ pn) = false := decide_eq_false (by omega)
                    clear p0 p1 p2 p3 hs
                    go_wp2
                    have LNQ := Lib.hid (fun n => one_len (T7.out.drewN (q := n)))
                    have PHQ := Lib.hid (fun n => PH.out _ (T7.out.drewN (q := n)))
                    go_quiet ((first | (go_at_call 19; exact Calls.quiet_of_same (LNQ.out _)) | (go_at_call 17; exact Calls.quiet_of (PHQ.out _))))
                    go_wp2_with fail
                    refine (lives13 _).mono ?_
                    rintro e w9 ⟨rfl, b9⟩
                    have B9 := Lib.hid (HB2.out.trans (Below.mono ((below_drewN nq B7.out).trans (b9.mono (by simpa using S7.out))) HT1.out))
                    clear b9
                    go_wp2
                    go_ret
                    exact ⟨rfl, B9.out⟩
              · skip
                go_wp2
                go_region_held3 (fun v => v.cell? ⟨w.heap.size, 0, none⟩ = some (.int .i64 room)) ((first | exact kk0)) (first
                  | (go_at_call 19; refine (one_len T5.out.drew).mono ?_; rintro e w6 ⟨rfl, hw6⟩; subst hw6))
                go_wp2_with fail
                all_goals
                  refine (PM.out _ T5.out.drew _ (by first | exact Int.le_refl _ | omega)).mono ?_
                  rintro e w7 ⟨rfl, z7, hw7⟩
                  have T7 := Lib.hid (show One w7 W1.heap.size G room win num den a WA by rw [hw7]; exact T5.out.drew.drewN)
                  have B7 := Lib.hid (show Below W1.heap.size w1 w7 by rw [hw7]; exact below_drewN z7 B5.out.drew)
                  have S7 := Lib.hid (show W1.heap.size ≤ w7.heap.size by rw [hw7]; simpa using S5.out)
                  clear hw7 kk0 kk2 kk3
                  obtain ⟨m0, m2, m3⟩ := HK.out w7 B7.out
                  clear PM PL
                  have q25 : decide ((a : Int) < room) = false := decide_eq_false (by omega)
                  go_wp2
                  have LNQ := Lib.hid (fun n => one_len (T7.out.drewN (q := n)))
                  have PHQ := Lib.hid (fun n => PH.out _ (T7.out.drewN (q := n)))
                  go_quiet ((first | (go_at_call 19; exact Calls.quiet_of_same (LNQ.out _)) | (go_at_call 17; exact Calls.quiet_of (PHQ.out _))))
                  go_wp2_with fail
                  refine (lives13 _).mono ?_
                  rintro e w9 ⟨rfl, b9⟩
                  have B9 := Lib.hid (HB2.out.trans (Below.mono ((below_drewN nq B7.out).trans (b9.mono (by simpa using S7.out))) HT1.out))
                  clear b9
                  go_wp2
                  go_ret
                  exact ⟨rfl, B9.out⟩
      · subst h1 h2
        subst h3
        go_wp2_with fail
        refine (PH.out _ TW.out).mono ?_
        rintro e w2 ⟨rfl, z2, hw2⟩
        have T2 := Lib.hid (show One w2 W1.heap.size G room win num den a WA by rw [hw2]; exact TW.out.drewN)
        have B2 := Lib.hid (show Below W1.heap.size w1 w2 by rw [hw2]; exact below_drewN z2 HB.out)
        have S2 := Lib.hid (show W1.heap.size ≤ w2.heap.size by rw [hw2]; simpa using HS.out)
        clear hw2
        cases mh with
        | true =>
          have hmt := HM.out rfl
          subst hmt
          go_wp2_with fail
          refine (PL.out _ T2.out).mono ?_
          rintro e w3 ⟨rfl, z3, hw3⟩
          have T3 := Lib.hid (show One w3 W1.heap.size G room win num den a WA by rw [hw3]; exact T2.out.drewN)
          have B3 := Lib.hid (show Below W1.heap.size w1 w3 by rw [hw3]; exact below_drewN z3 B2.out)
          have S3 := Lib.hid (show W1.heap.size ≤ w3.heap.size by rw [hw3]; simpa using S2.out)
          clear hw3
          go_wp2_with fail
          refine (one_window T3.out).mono ?_
          rintro e w4 ⟨v4, rfl, u4, b4⟩
          obtain ⟨av, cv, rfl, _, hcv⟩ := u4.form
          have HCV := Lib.hid hcv
          have T4 := Lib.hid (T3.out.below b4)
          have B4 := Lib.hid (B3.out.trans (b4.mono S3.out))
          have S4 := Lib.hid (Nat.le_trans S3.out b4.size)
          have U4 := Lib.hid (Below.refl w4.heap.size w4)
          clear u4 b4 hcv
          go_wp2
          go_loopw [15, 77] (fun l z wr => ∃ (j : Nat) (lv : Int), j ≤ WA.length ∧ l = .int .u64 lv ∧ z = .int .i64 j ∧ (∀ q, q < j → lv ≤ WA.getD q 0) ∧ Below w4.heap.size w4 wr) (fun _ z _ => WA.length - (intOf z).toNat)
          case atStart => exact ⟨0, _, Nat.zero_le _, rfl, rfl, fun q h => absurd h (by omega), U4.out⟩
          case round =>
            obtain ⟨j, lv, hj, rfl, rfl, hle2, hb5⟩ := hrel
            have HLE := Lib.hid hle2
            have HB5 := Lib.hid hb5
            clear hle2 hb5
            by_cases hjl : j < WA.length
            · obtain ⟨g, rfl, _, hgl, cg, _⟩ := HCV.out j hjl
              have d0 := (HB5.out.cell (p := ⟨g, j, none⟩) hgl).trans cg
              have j0 : (0 : Int) ≤ j := by omega
              have j1 : (j : Int) < WA.length := by omega
              have HE := Lib.hid (show ∀ v : Int, v ≤ lv → v ≤ WA.getD j 0 → ∀ q, q < j + 1 → v ≤ WA.getD q 0 from fun v h1 h2 q hq => by
                rcases Nat.lt_or_ge q j with h | h
                · have := HLE.out q h; omega
                · obtain rfl : q = j := by omega
                  exact h2)
              clear cg
              generalize WA.getD j 0 = ev at *
              rcases Int.lt_trichotomy lv ev with h | h | h
              · have q9 : ¬ ev < lv := by omega
                have q8 : min lv ev = lv := by omega
                go_wp2
                go_roundw
                case rel => exact ⟨j + 1, lv, by omega, rfl, by go_num, HE.out lv (by omega) (by omega), HB5.out⟩
                case measure => simp [intOf] <;> omega
              · subst h
                go_wp2
                go_roundw
                case rel => exact ⟨j + 1, lv, by omega, rfl, by go_num, HE.out lv (by omega) (by omega), HB5.out⟩
                case measure => simp [intOf] <;> omega
              · have q9 : ¬ lv < ev := by omega
                have q8 : min lv ev = ev := by omega
                go_wp2
                go_roundw
                case rel => exact ⟨j + 1, ev, by omega, rfl, by go_num, HE.out ev (by omega) (by omega), HB5.out⟩
                case measure => simp [intOf] <;> omega
            · obtain rfl : j = WA.length := by omega
              have T5 := Lib.hid (T4.out.below HB5.out)
              have B5 := Lib.hid (B4.out.trans (HB5.out.mono S4.out))
              have S5 := Lib.hid (Nat.le_trans S4.out HB5.out.size)
              have PM := Lib.hid (fun (v : World) (h : One v W1.heap.size G room win num den a WA) (mv : Int) (hmv : mv ≤ lv) => (mayP_least (x := mv) ha (show 0 < den by omega) (fun y hy => by
                obtain ⟨q, hq, hqe⟩ := List.getElem_of_mem hy
                have := HLE.out q hq
                rw [List.getD_eq_getElem?_getD, List.getElem?_eq_getElem hq] at this
                simp at this
                omega)) ▸ one_may h mv)
              obtain ⟨kk0, kk2, kk3⟩ := HK.out wr B5.out
              clear HCV HLE
              have p0 : 0 ≤ (a : Int) * den := Int.mul_nonneg (by omega) (by omega)
              have p1 : (a : Int) * den ≤ 4096 * 65536 := Int.mul_le_mul (by omega) (by omega) (by omega) (by omega)
              have p2 : 0 ≤ num * room := Int.mul_nonneg (by omega) (by omega)
              have p3 : num * room ≤ 65536 * 4096 := Int.mul_le_mul (by omega) (by omega) (by omega) (by omega)
              by_cases hb : (a : Int) < room
              · by_cases hs : (a : Int) * den ≤ num * room
                · have hmm := HSl.out hb hs
                  go_wp2
                  go_region_held3 (fun v => v.cell? ⟨w.heap.size, 0, none⟩ = some (.int .i64 room)) ((first | exact kk0)) (first
                    | (go_at_call 19; refine (one_len T5.out.drew).mono ?_; rintro e w6 ⟨rfl, hw6⟩; subst hw6))
                  go_wp2_with fail
                  all_goals
                    refine (PM.out _ T5.out.drew _ (by first | exact Int.le_refl _ | omega)).mono ?_
                    rintro e w7 ⟨rfl, z7, hw7⟩
                    have T7 := Lib.hid (show One w7 W1.heap.size G room win num den a WA by rw [hw7]; exact T5.out.drew.drewN)
                    have B7 := Lib.hid (show Below W1.heap.size w1 w7 by rw [hw7]; exact below_drewN z7 B5.out.drew)
                    have S7 := Lib.hid (show W1.heap.size ≤ w7.heap.size by rw [hw7]; simpa using S5.out)
                    clear hw7 kk0 kk2 kk3
                    obtain ⟨m0, m2, m3⟩ := HK.out w7 B7.out
                    clear PM PL
                    obtain ⟨pa, hpa⟩ : ∃ pa, (a : Int) * den = pa := ⟨_, rfl⟩
                    obtain ⟨pn, hpn⟩ : ∃ pn, num * room = pn := ⟨_, rfl⟩
                    have q21 : IntKind.u64.wrap ((a : Int) * den) = pa := by rw [IntKind.wrap_u64]; omega
                    have q22 : IntKind.u64.wrap (num * room) = pn := by rw [IntKind.wrap_u64]; omega
                    have q23 : IntKind.u64.wrap room = room := by rw [IntKind.wrap_u64]; omega
                    have q24 : IntKind.u64.wrap (a : Int) = a := by rw [IntKind.wrap_u64]; omega
                    have q26 : IntKind.u64.wrap pa = pa := by rw [IntKind.wrap_u64]; omega
                    have q27 : IntKind.u64.wrap pn = pn := by rw [IntKind.wrap_u64]; omega
                    have q25 : pa ≤ pn := by omega
                    clear p0 p1 p2 p3 hs
                    go_wp2
                    have LNQ := Lib.hid (fun n => one_len (T7.out.drewN (q := n)))
                    have PHQ := Lib.hid (fun n => PH.out _ (T7.out.drewN (q := n)))
                    go_quiet ((first | (go_at_call 19; exact Calls.quiet_of_same (LNQ.out _)) | (go_at_call 17; exact Calls.quiet_of (PHQ.out _))))
                    go_wp2_with fail
                    refine (lives13 _).mono ?_
                    rintro e w9 ⟨rfl, b9⟩
                    have B9 := Lib.hid (HB2.out.trans (Below.mono ((below_drewN nq B7.out).trans (b9.mono (by simpa using S7.out))) HT1.out))
                    clear b9
                    go_wp2
                    go_ret
                    exact ⟨rfl, B9.out⟩
                · skip
                  go_wp2
                  go_region_held3 (fun v => v.cell? ⟨w.heap.size, 0, none⟩ = some (.int .i64 room)) ((first | exact kk0)) (first
                    | (go_at_call 19; refine (one_len T5.out.drew).mono ?_; rintro e w6 ⟨rfl, hw6⟩; subst hw6))
                  go_wp2_with fail
                  all_goals
                    refine (PM.out _ T5.out.drew _ (by first | exact Int.le_refl _ | omega)).mono ?_
                    rintro e w7 ⟨rfl, z7, hw7⟩
                    have T7 := Lib.hid (show One w7 W1.heap.size G room win num den a WA by rw [hw7]; exact T5.out.drew.drewN)
                    have B7 := Lib.hid (show Below W1.heap.size w1 w7 by rw [hw7]; exact below_drewN z7 B5.out.drew)
                    have S7 := Lib.hid (show W1.heap.size ≤ w7.heap.size by rw [hw7]; simpa using S5.out)
                    clear hw7 kk0 kk2 kk3
                    obtain ⟨m0, m2, m3⟩ := HK.out w7 B7.out
                    clear PM PL
                    obtain ⟨pa, hpa⟩ : ∃ pa, (a : Int) * den = pa := ⟨_, rfl⟩
                    obtain ⟨pn, hpn⟩ : ∃ pn, num * room = pn := ⟨_, rfl⟩
                    have q21 : IntKind.u64.wrap ((a : Int) * den) = pa := by rw [IntKind.wrap_u64]; omega
                    have q22 : IntKind.u64.wrap (num * room) = pn := by rw [IntKind.wrap_u64]; omega
                    have q23 : IntKind.u64.wrap room = room := by rw [IntKind.wrap_u64]; omega
                    have q24 : IntKind.u64.wrap (a : Int) = a := by rw [IntKind.wrap_u64]; omega
                    have q26 : IntKind.u64.wrap pa = pa := by rw [IntKind.wrap_u64]; omega
                    have q27 : IntKind.u64.wrap pn = pn := by rw [IntKind.wrap_u64]; omega
                    have q25 : decide (pa ≤ pn) = false := decide_eq_false (by omega)
                    clear p0 p1 p2 p3 hs
                    go_wp2
                    have LNQ := Lib.hid (fun n => one_len (T7.out.drewN (q := n)))
                    have PHQ := Lib.hid (fun n => PH.out _ (T7.out.drewN (q := n)))
                    go_quiet ((first | (go_at_call 19; exact Calls.quiet_of_same (LNQ.out _)) | (go_at_call 17; exact Calls.quiet_of (PHQ.out _))))
                    go_wp2_with fail
                    refine (lives13 _).mono ?_
                    rintro e w9 ⟨rfl, b9⟩
                    have B9 := Lib.hid (HB2.out.trans (Below.mono ((below_drewN nq B7.out).trans (b9.mono (by simpa using S7.out))) HT1.out))
                    clear b9
                    go_wp2
                    go_ret
                    exact ⟨rfl, B9.out⟩
              · skip
                go_wp2
                go_region_held3 (fun v => v.cell? ⟨w.heap.size, 0, none⟩ = some (.int .i64 room)) ((first | exact kk0)) (first
                  | (go_at_call 19; refine (one_len T5.out.drew).mono ?_; rintro e w6 ⟨rfl, hw6⟩; subst hw6))
                go_wp2_with fail
                all_goals
                  refine (PM.out _ T5.out.drew _ (by first | exact Int.le_refl _ | omega)).mono ?_
                  rintro e w7 ⟨rfl, z7, hw7⟩
                  have T7 := Lib.hid (show One w7 W1.heap.size G room win num den a WA by rw [hw7]; exact T5.out.drew.drewN)
                  have B7 := Lib.hid (show Below W1.heap.size w1 w7 by rw [hw7]; exact below_drewN z7 B5.out.drew)
                  have S7 := Lib.hid (show W1.heap.size ≤ w7.heap.size by rw [hw7]; simpa using S5.out)
                  clear hw7 kk0 kk2 kk3
                  obtain ⟨m0, m2, m3⟩ := HK.out w7 B7.out
                  clear PM PL
                  have q25 : decide ((a : Int) < room) = false := decide_eq_false (by omega)
                  go_wp2
                  have LNQ := Lib.hid (fun n => one_len (T7.out.drewN (q := n)))
                  have PHQ := Lib.hid (fun n => PH.out _ (T7.out.drewN (q := n)))
                  go_quiet ((first | (go_at_call 19; exact Calls.quiet_of_same (LNQ.out _)) | (go_at_call 17; exact Calls.quiet_of (PHQ.out _))))
                  go_wp2_with fail
                  refine (lives13 _).mono ?_
                  rintro e w9 ⟨rfl, b9⟩
                  have B9 := Lib.hid (HB2.out.trans (Below.mono ((below_drewN nq B7.out).trans (b9.mono (by simpa using S7.out))) HT1.out))
                  clear b9
                  go_wp2
                  go_ret
                  exact ⟨rfl, B9.out⟩
        | false =>
          have T3 := T2
          have B3 := B2
          have S3 := S2
          go_wp2_with fail
          refine (one_window T3.out).mono ?_
          rintro e w4 ⟨v4, rfl, u4, b4⟩
          obtain ⟨av, cv, rfl, _, hcv⟩ := u4.form
          have HCV := Lib.hid hcv
          have T4 := Lib.hid (T3.out.below b4)
          have B4 := Lib.hid (B3.out.trans (b4.mono S3.out))
          have S4 := Lib.hid (Nat.le_trans S3.out b4.size)
          have U4 := Lib.hid (Below.refl w4.heap.size w4)
          clear u4 b4 hcv
          go_wp2
          go_loopw [15, 77] (fun l z wr => ∃ (j : Nat) (lv : Int), j ≤ WA.length ∧ l = .int .u64 lv ∧ z = .int .i64 j ∧ (∀ q, q < j → lv ≤ WA.getD q 0) ∧ Below w4.heap.size w4 wr) (fun _ z _ => WA.length - (intOf z).toNat)
          case atStart => exact ⟨0, _, Nat.zero_le _, rfl, rfl, fun q h => absurd h (by omega), U4.out⟩
          case round =>
            obtain ⟨j, lv, hj, rfl, rfl, hle2, hb5⟩ := hrel
            have HLE := Lib.hid hle2
            have HB5 := Lib.hid hb5
            clear hle2 hb5
            by_cases hjl : j < WA.length
            · obtain ⟨g, rfl, _, hgl, cg, _⟩ := HCV.out j hjl
              have d0 := (HB5.out.cell (p := ⟨g, j, none⟩) hgl).trans cg
              have j0 : (0 : Int) ≤ j := by omega
              have j1 : (j : Int) < WA.length := by omega
              have HE := Lib.hid (show ∀ v : Int, v ≤ lv → v ≤ WA.getD j 0 → ∀ q, q < j + 1 → v ≤ WA.getD q 0 from fun v h1 h2 q hq => by
                rcases Nat.lt_or_ge q j with h | h
                · have := HLE.out q h; omega
                · obtain rfl : q = j := by omega
                  exact h2)
              clear cg
              generalize WA.getD j 0 = ev at *
              rcases Int.lt_trichotomy lv ev with h | h | h
              · have q9 : ¬ ev < lv := by omega
                have q8 : min lv ev = lv := by omega
                go_wp2
                go_roundw
                case rel => exact ⟨j + 1, lv, by omega, rfl, by go_num, HE.out lv (by omega) (by omega), HB5.out⟩
                case measure => simp [intOf] <;> omega
              · subst h
                go_wp2
                go_roundw
                case rel => exact ⟨j + 1, lv, by omega, rfl, by go_num, HE.out lv (by omega) (by omega), HB5.out⟩
                case measure => simp [intOf] <;> omega
              · have q9 : ¬ lv < ev := by omega
                have q8 : min lv ev = ev := by omega
                go_wp2
                go_roundw
                case rel => exact ⟨j + 1, ev, by omega, rfl, by go_num, HE.out ev (by omega) (by omega), HB5.out⟩
                case measure => simp [intOf] <;> omega
            · obtain rfl : j = WA.length := by omega
              have T5 := Lib.hid (T4.out.below HB5.out)
              have B5 := Lib.hid (B4.out.trans (HB5.out.mono S4.out))
              have S5 := Lib.hid (Nat.le_trans S4.out HB5.out.size)
              have PM := Lib.hid (fun (v : World) (h : One v W1.heap.size G room win num den a WA) (mv : Int) (hmv : mv ≤ lv) => (mayP_least (x := mv) ha (show 0 < den by omega) (fun y hy => by
                obtain ⟨q, hq, hqe⟩ := List.getElem_of_mem hy
                have := HLE.out q hq
                rw [List.getD_eq_getElem?_getD, List.getElem?_eq_getElem hq] at this
                simp at this
                omega)) ▸ one_may h mv)
              obtain ⟨kk0, kk2, kk3⟩ := HK.out wr B5.out
              clear HCV HLE
              have p0 : 0 ≤ (a : Int) * den := Int.mul_nonneg (by omega) (by omega)
              have p1 : (a : Int) * den ≤ 4096 * 65536 := Int.mul_le_mul (by omega) (by omega) (by omega) (by omega)
              have p2 : 0 ≤ num * room := Int.mul_nonneg (by omega) (by omega)
              have p3 : num * room ≤ 65536 * 4096 := Int.mul_le_mul (by omega) (by omega) (by omega) (by omega)
              by_cases hb : (a : Int) < room
              · by_cases hs : (a : Int) * den ≤ num * room
                · have hmm := HSl.out hb hs
                  exact absurd hmm Bool.false_ne_true
                · skip
                  go_wp2
                  go_region_held3 (fun v => v.cell? ⟨w.heap.size, 0, none⟩ = some (.int .i64 room)) ((first | exact kk0)) (first
                    | (go_at_call 19; refine (one_len T5.out.drew).mono ?_; rintro e w6 ⟨rfl, hw6⟩; subst hw6))
                  go_wp2_with fail
                  all_goals
                    refine (PM.out _ T5.out.drew _ (by first | exact Int.le_refl _ | omega)).mono ?_
                    rintro e w7 ⟨rfl, z7, hw7⟩
                    have T7 := Lib.hid (show One w7 W1.heap.size G room win num den a WA by rw [hw7]; exact T5.out.drew.drewN)
                    have B7 := Lib.hid (show Below W1.heap.size w1 w7 by rw [hw7]; exact below_drewN z7 B5.out.drew)
                    have S7 := Lib.hid (show W1.heap.size ≤ w7.heap.size by rw [hw7]; simpa using S5.out)
                    clear hw7 kk0 kk2 kk3
                    obtain ⟨m0, m2, m3⟩ := HK.out w7 B7.out
                    clear PM PL
                    obtain ⟨pa, hpa⟩ : ∃ pa, (a : Int) * den = pa := ⟨_, rfl⟩
                    obtain ⟨pn, hpn⟩ : ∃ pn, num * room = pn := ⟨_, rfl⟩
                    have q21 : IntKind.u64.wrap ((a : Int) * den) = pa := by rw [IntKind.wrap_u64]; omega
                    have q22 : IntKind.u64.wrap (num * room) = pn := by rw [IntKind.wrap_u64]; omega
                    have q23 : IntKind.u64.wrap room = room := by rw [IntKind.wrap_u64]; omega
                    have q24 : IntKind.u64.wrap (a : Int) = a := by rw [IntKind.wrap_u64]; omega
                    have q26 : IntKind.u64.wrap pa = pa := by rw [IntKind.wrap_u64]; omega
                    have q27 : IntKind.u64.wrap pn = pn := by rw [IntKind.wrap_u64]; omega
                    have q25 : decide (pa ≤ pn) = false := decide_eq_false (by omega)
                    clear p0 p1 p2 p3 hs
                    go_wp2
                    have LNQ := Lib.hid (fun n => one_len (T7.out.drewN (q := n)))
                    have PHQ := Lib.hid (fun n => PH.out _ (T7.out.drewN (q := n)))
                    go_quiet ((first | (go_at_call 19; exact Calls.quiet_of_same (LNQ.out _)) | (go_at_call 17; exact Calls.quiet_of (PHQ.out _))))
                    go_wp2_with fail
                    refine (lives13 _).mono ?_
                    rintro e w9 ⟨rfl, b9⟩
                    have B9 := Lib.hid (HB2.out.trans (Below.mono ((below_drewN nq B7.out).trans (b9.mono (by simpa using S7.out))) HT1.out))
                    clear b9
                    go_wp2
                    go_ret
                    exact ⟨rfl, B9.out⟩
              · skip
                go_wp2
                go_region_held3 (fun v => v.cell? ⟨w.heap.size, 0, none⟩ = some (.int .i64 room)) ((first | exact kk0)) (first
                  | (go_at_call 19; refine (one_len T5.out.drew).mono ?_; rintro e w6 ⟨rfl, hw6⟩; subst hw6))
                go_wp2_with fail
                all_goals
                  refine (PM.out _ T5.out.drew _ (by first | exact Int.le_refl _ | omega)).mono ?_
                  rintro e w7 ⟨rfl, z7, hw7⟩
                  have T7 := Lib.hid (show One w7 W1.heap.size G room win num den a WA by rw [hw7]; exact T5.out.drew.drewN)
                  have B7 := Lib.hid (show Below W1.heap.size w1 w7 by rw [hw7]; exact below_drewN z7 B5.out.drew)
                  have S7 := Lib.hid (show W1.heap.size ≤ w7.heap.size by rw [hw7]; simpa using S5.out)
                  clear hw7 kk0 kk2 kk3
                  obtain ⟨m0, m2, m3⟩ := HK.out w7 B7.out
                  clear PM PL
                  have q25 : decide ((a : Int) < room) = false := decide_eq_false (by omega)
                  go_wp2
                  have LNQ := Lib.hid (fun n => one_len (T7.out.drewN (q := n)))
                  have PHQ := Lib.hid (fun n => PH.out _ (T7.out.drewN (q := n)))
                  go_quiet ((first | (go_at_call 19; exact Calls.quiet_of_same (LNQ.out _)) | (go_at_call 17; exact Calls.quiet_of (PHQ.out _))))
                  go_wp2_with fail
                  refine (lives13 _).mono ?_
                  rintro e w9 ⟨rfl, b9⟩
                  have B9 := Lib.hid (HB2.out.trans (Below.mono ((below_drewN nq B7.out).trans (b9.mono (by simpa using S7.out))) HT1.out))
                  clear b9
                  go_wp2
                  go_ret
                  exact ⟨rfl, B9.out⟩
end Go.Proofs.Ytnnbkooikimedaa
