/-
  The law of layer 15 on what stays: walked, for any act and rows. No condition.
-/
import Derived.Test.YtnnbkooikimedaaFlowK
import Derived.Test.YtnnbkooikimedaaFlowL
import Derived.Test.YtnnbkooikimedaaOpen
import Derived.RegionTactic
import Derived.BigQuiet
namespace Go.Proofs.Ytnnbkooikimedaa
set_option linter.unusedVariables false
set_option linter.unusedSimpArgs false
open Go.ChangeShapes Go.WideShapes Go.ChangeAt Go.RowKit
attribute [local go_sem] alloc_drewN setCell_drewN

theorem Row1.atS {k : IntKind} {w w' : World} {a : Option Addr} {n : Nat} {zs : List Int} (h : Row1 k w a n zs) (hb : Below w.heap.size w w') (i : Nat) (hi : i < n) : ∃ b off, a = some ⟨b, off, none⟩ ∧ w'.cell? ⟨b, off + i, none⟩ = some (.int k (zs.getD i 0)) := by
  obtain ⟨b, off, e, hlt, hc⟩ := h.2.2.2 (by omega)
  exact ⟨b, off, e, (hb.cell (p := ⟨b, off + i, none⟩) hlt).trans (hc i hi)⟩
set_option maxRecDepth 100000 in
set_option maxHeartbeats 4000000 in
theorem stays_at (k id x : Int) (a1 : Option Addr) (n1 c1 : Nat) (zs : List Int) {w : World} (hr : Row1 .u32 w a1 n1 zs) (a2 : Option Addr) (n2 c2 : Nat) (ts : List Int) (ht : Row1 .u32 w a2 n2 ts) (h1 : n1 ≤ 2000) (h2 : n2 ≤ 2000) :
    Calls Try.prog 7 #[.agg #[.int .u8 k, .int .u32 id, .int .i64 x], .slice a1 n1 c1, .slice a2 n2 c2] w fun e w' => e = .returned (.bool true) ∧ Below w.heap.size w w' := by
  have hm1 : ¬ (2000 : Int) < n1 := by omega
  have hm2 : ¬ (2000 : Int) < n2 := by omega
  have LV := Lib.hid (fun W => lives15 W)
  have HR := Lib.hid hr; have HT := Lib.hid ht
  clear hr ht
  obtain ⟨W0, hW0⟩ : ∃ W0, w.alloc (.cells #[.int .u8 k, .int .u32 id, .int .i64 x] 88) = W0 := ⟨_, rfl⟩
  have HB0 := Lib.hid (show Below w.heap.size w W0 by rw [← hW0]; exact (Below.refl _ w).alloc (Nat.le_refl _) _)
  have e1 : W0.cell? ⟨w.heap.size, 1, none⟩ = some (.int .u32 id) := by rw [← hW0]; simp [go_sem]
  have e2 : W0.cell? ⟨w.heap.size, 2, none⟩ = some (.int .i64 x) := by rw [← hW0]; simp [go_sem]
  have HW0 := Lib.hid hW0
  go_enter Try.func7, Try.ntmps7
  go_wp2_with fail
  clear hW0
  go_quiet (fail)
  obtain ⟨W1, hW1⟩ : ∃ W1, W0.drewN nq = W1 := ⟨_, rfl⟩
  have HB1 := Lib.hid (show Below w.heap.size w W1 by rw [← hW1]; exact below_drewN nq HB0.out)
  rw [hW1]
  clear e1 e2 hW1 HB0 HW0
  go_wp2_with fail
  refine (tnewI 4096 (by omega) (by omega) _).mono ?_
  rintro e w2 ⟨rfl, h2', b2⟩
  have T2 := Lib.hid h2'
  have B2 := Lib.hid b2
  clear h2' b2
  have KF := Lib.hid (kfirst (n₀ := w.heap.size) (w := w) T2.out HB1.out.size B2.out.size (HB1.out.trans (B2.out.mono HB1.out.size)) id x)
  clear T2 B2 HB1
  generalize W1.heap.size = B at *
  go_wp2_with fail
  refine KF.out.mono ?_
  rintro e w3 ⟨rfl, hK⟩
  have HK := Lib.hid hK
  clear hK KF
  go_wp2
  go_loopw [47] (fun p wr => ∃ q : Nat, p = .int .i64 q ∧ q ≤ n1 ∧ Hid (Kept w.heap.size w wr B B id x)) (fun p _ => n1 - (intOf p).toNat)
  case atStart => exact ⟨0, rfl, Nat.zero_le _, HK⟩
  case round =>
    clear HK
    obtain ⟨q, rfl, hq, HQ⟩ := hrel
    by_cases hqn : q < n1
    · have e1 : (q : Int) < n1 := by omega
      have e0 : (0 : Int) ≤ q := by omega
      obtain ⟨b, off, rfl, hc⟩ := HR.out.atS HQ.out.b q hqn
      generalize hz : zs.getD q 0 = o at *
      have KP := Lib.hid (kput HQ.out o q)
      clear HQ hz
      by_cases ho : o = id
      · subst ho
        go_wp2_with fail
        refine KP.out.mono ?_
        rintro e w4 ⟨c, rfl, hc8, hK⟩
        obtain rfl : c = 8 := by first | exact hc8 rfl | exact hc8 trivial | simpa using hc8
        have HK := Lib.hid hK
        clear hK KP hc8 hc
        go_wp2
        go_roundw
        case rel => exact ⟨q + 1, by first | rfl | (congr 1; omega), by omega, HK⟩
        case measure => simp [intOf]; omega
      · go_wp2_with fail
        refine KP.out.mono ?_
        rintro e w4 ⟨c, rfl, hc8, hK⟩
        have HK := Lib.hid hK
        clear hK KP hc8 hc
        go_wp2
        go_roundw
        case rel => exact ⟨q + 1, by first | rfl | (congr 1; omega), by omega, HK⟩
        case measure => simp [intOf]; omega
    · obtain rfl : q = n1 := by omega
      clear hqn hq
      go_wp2
      go_loopw [66] (fun p wq => ∃ r : Nat, p = .int .i64 r ∧ r ≤ n2 ∧ Hid (Kept w.heap.size w wq B B id x)) (fun p _ => n2 - (intOf p).toNat)
      case atStart => exact ⟨0, rfl, Nat.zero_le _, HQ⟩
      case round =>
        clear HQ
        obtain ⟨r, rfl, hr, HP⟩ := hrel
        by_cases hrn : r < n2
        · have e1 : (r : Int) < n2 := by omega
          have e0 : (0 : Int) ≤ r := by omega
          obtain ⟨b, off, rfl, hc⟩ := HT.out.atS HP.out.b r hrn
          generalize hz : ts.getD r 0 = d at *
          by_cases hd : d = id
          · subst hd
            go_wp2
            go_roundw
            case rel => exact ⟨r + 1, by first | rfl | (congr 1; omega), by omega, HP⟩
            case measure => simp [intOf]; omega
          · have KD := Lib.hid (kdrop HP.out d hd)
            clear HP hz
            go_wp2_with fail
            refine KD.out.mono ?_
            rintro e w5 ⟨y, t, rfl, hK⟩
            have HK := Lib.hid hK
            clear hK KD hc
            go_wp2
            go_roundw
            case rel => exact ⟨r + 1, by first | rfl | (congr 1; omega), by omega, HK⟩
            case measure => simp [intOf]; omega
        · obtain rfl : r = n2 := by omega
          clear hrn hr
          go_wp2_with fail
          refine (kget HP.out).mono ?_
          rintro e w5 ⟨rfl, hK⟩
          have HK := Lib.hid hK
          clear hK HP
          go_wp2_with fail
          refine (kdropped HK.out).mono ?_
          rintro e w6 ⟨rfl, hK⟩
          have HL := Lib.hid hK
          clear hK HK
          go_wp2_with fail
          refine (kgone HL.out).mono ?_
          rintro e w7 ⟨rfl, hs, hb⟩
          have HS := Lib.hid hs
          have HB := Lib.hid hb
          clear hs hb HL
          go_wp2_with fail
          refine (LV.out _).mono ?_
          rintro e w8 ⟨rfl, hb⟩
          have HB8 := Lib.hid (HB.out.trans (hb.mono HS.out))
          clear hb HB HS
          go_wp2
          go_ret
          exact ⟨rfl, HB8.out⟩
set_option maxRecDepth 100000 in
set_option maxHeartbeats 1000000 in
theorem stays_long (k id x : Int) (a1 : Option Addr) (n1 c1 : Nat) (a2 : Option Addr) (n2 c2 : Nat) (w : World) (h : 2000 < n1 ∨ 2000 < n2) :
    Calls Try.prog 7 #[.agg #[.int .u8 k, .int .u32 id, .int .i64 x], .slice a1 n1 c1, .slice a2 n2 c2] w fun e w' => e = .returned (.bool true) ∧ Below w.heap.size w w' := by
  have LV := Lib.hid (fun W => lives15 W)
  obtain ⟨W0, hW0⟩ : ∃ W0, w.alloc (.cells #[.int .u8 k, .int .u32 id, .int .i64 x] 88) = W0 := ⟨_, rfl⟩
  have HB0 := Lib.hid (show Below w.heap.size w W0 by rw [← hW0]; exact (Below.refl _ w).alloc (Nat.le_refl _) _)
  have e1 : W0.cell? ⟨w.heap.size, 1, none⟩ = some (.int .u32 id) := by rw [← hW0]; simp [go_sem]
  have e2 : W0.cell? ⟨w.heap.size, 2, none⟩ = some (.int .i64 x) := by rw [← hW0]; simp [go_sem]
  go_enter Try.func7, Try.ntmps7
  go_wp2_with fail
  clear hW0
  go_quiet (fail)
  obtain ⟨W1, hW1⟩ : ∃ W1, W0.drewN nq = W1 := ⟨_, rfl⟩
  have HB1 := Lib.hid (show Below w.heap.size w W1 by rw [← hW1]; exact below_drewN nq HB0.out)
  rw [hW1]
  clear e1 e2 hW1 HB0
  by_cases h1 : 2000 < n1
  · have hm1 : (2000 : Int) < n1 := by omega
    clear h h1
    go_wp2_with fail
    refine (LV.out _).mono ?_
    rintro e w8 ⟨rfl, hb⟩
    have HB8 := Lib.hid (HB1.out.trans (hb.mono HB1.out.size))
    clear hb HB1
    go_wp2
    go_ret
    exact ⟨rfl, HB8.out⟩
  · have hm1 : ¬ (2000 : Int) < n1 := by omega
    have hm2 : (2000 : Int) < n2 := by omega
    clear h h1
    go_wp2_with fail
    refine (LV.out _).mono ?_
    rintro e w8 ⟨rfl, hb⟩
    have HB8 := Lib.hid (HB1.out.trans (hb.mono HB1.out.size))
    clear hb HB1
    go_wp2
    go_ret
    exact ⟨rfl, HB8.out⟩
theorem walk_flowStays (k : Int) (k0 : 0 ≤ k) (k1 : k ≤ 255) (id : Int) (i0 : 0 ≤ id) (i1 : id ≤ 4294967295) (x : Int) (x0 : -9223372036854775808 ≤ x) (x1 : x ≤ 9223372036854775807) (a1 : Option Addr) (n1 c1 : Nat) (zs : List Int) {w : World} (hr : Row1 .u32 w a1 n1 zs) (hc1 : n1 ≤ c1) (a2 : Option Addr) (n2 c2 : Nat) (ts : List Int) (ht : Row1 .u32 w a2 n2 ts) (hc2 : n2 ≤ c2) :
    Calls Try.prog 7 #[.agg #[.int .u8 k, .int .u32 id, .int .i64 x], .slice a1 n1 c1, .slice a2 n2 c2] w fun e w' => e = .returned (.bool true) ∧ Below w.heap.size w w' := by
  by_cases h : n1 ≤ 2000 ∧ n2 ≤ 2000
  · exact stays_at k id x a1 n1 c1 zs hr a2 n2 c2 ts ht h.1 h.2
  · exact stays_long k id x a1 n1 c1 a2 n2 c2 w (by omega)
end Go.Proofs.Ytnnbkooikimedaa
