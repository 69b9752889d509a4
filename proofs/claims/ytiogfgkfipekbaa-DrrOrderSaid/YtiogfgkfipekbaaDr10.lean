/-
  The example of layer 29, and the law on turns that nobody made, walked: true. No condition.
-/
import Derived.Test.YtiogfgkfipekbaaDr9
namespace Go.Proofs.Ytiogfgkfipekbaa
set_option linter.unusedVariables false
set_option linter.unusedSimpArgs false
open Go.ChangeShapes Go.WideShapes Go.ChangeAt Go.RowKit
attribute [local go_sem] alloc_drewN setCell_drewN

def ps29 : Nat → Ts
  | 0 => Ts.new 2 [100, 200]
  | i + 1 => (ps29 i).push ((i : Int) % 2) 100 i
def ns29 : Nat → Ts
  | 0 => ps29 6
  | i + 1 => (ns29 i).next
def sv29 : Nat → Int
  | 0 => 0
  | i + 1 => 10 * sv29 i + (ns29 i).first.1
theorem ps_may : ∀ i, i < 6 → (ps29 i).may ((i : Int) % 2) 100 = 0
  | 0, _ => by decide
  | 1, _ => by decide
  | 2, _ => by decide
  | 3, _ => by decide
  | 4, _ => by decide
  | 5, _ => by decide
  | n + 6, h => by omega
set_option maxRecDepth 100000 in
theorem sv_all : sv29 0 = 0 ∧ sv29 1 = 0 ∧ sv29 2 = 1 ∧ sv29 3 = 11 ∧ sv29 4 = 110 ∧ sv29 5 = 1101 ∧ sv29 6 = 11010 ∧ (ns29 6).R = [] := by decide +kernel
set_option maxRecDepth 100000 in
theorem ns_fit : ∀ i, i < 6 → 0 ≤ (ns29 i).first.1 ∧ (ns29 i).first.1 ≤ 1 ∧ 0 ≤ sv29 i ∧ sv29 i ≤ 1101
  | 0, _ => by decide +kernel
  | 1, _ => by decide +kernel
  | 2, _ => by decide +kernel
  | 3, _ => by decide +kernel
  | 4, _ => by decide +kernel
  | 5, _ => by decide +kernel
  | n + 6, h => by omega
theorem row_lit (w : World) (x y : Int) (hx : 0 ≤ x ∧ x ≤ 18446744073709551615) (hy : 0 ≤ y ∧ y ≤ 18446744073709551615) : Row1 .u64 (w.alloc (.cells #[.int .u64 x, .int .u64 y] 22)) (some ⟨w.heap.size, 0, none⟩) 2 [x, y] := by
  have hb := heap_alloc_new w (.cells #[.int .u64 x, .int .u64 y] 22)
  refine ⟨rfl, by unfold maxLen; omega, fun z hz => ?_, fun _ => ⟨w.heap.size, 0, rfl, by simp, fun i hi => ?_⟩⟩
  · simp only [List.mem_cons, List.not_mem_nil, or_false] at hz
    rcases hz with rfl | rfl
    · simp [Lit.wf]; exact hx
    · simp [Lit.wf]; exact hy
  · have hc : i = 0 ∨ i = 1 := by omega
    rcases hc with rfl | rfl
    · exact cell_of_row _ _ 0 _ _ (0, 0) hb
    · exact cell_of_row _ _ 1 _ _ (0, 0) hb
set_option maxRecDepth 100000 in
set_option maxHeartbeats 4000000 in
theorem lives29 (w : World) : Calls Try.prog 33 #[] w fun e w' => e = .returned (.bool true) ∧ Below w.heap.size w w' := by
  have HL := Lib.hid (row_lit w 100 200 (by decide) (by decide))
  have HB := Lib.hid ((Below.refl _ w).alloc (Nat.le_refl _) (.cells #[.int .u64 100, .int .u64 200] 22))
  have NW := Lib.hid (dnew (some ⟨w.heap.size, 0, none⟩) 2 2 [100, 200] (by decide) (by decide) HL.out)
  have QO := Lib.hid (show QuOk 2 [100, 200] from fun j hj => by
    have hc : j = 0 ∨ j = 1 := by omega
    rcases hc with rfl | rfl <;> decide)
  have SV := Lib.hid sv_all
  have SF := Lib.hid ns_fit
  have PM := Lib.hid ps_may
  clear HL
  go_enter Try.func33, Try.ntmps33
  go_wp2_with fail
  refine NW.out.mono ?_
  rintro e w1 ⟨b1, (⟨hq, -⟩ | ⟨-, T, In, rfl, d1⟩)⟩
  · exact absurd QO.out hq
  · have D1 := Lib.hid d1
    have W0 := Lib.hid (HB.out.size)
    have S1 := Lib.hid b1.size
    have B1 := Lib.hid (HB.out.trans (b1.mono HB.out.size))
    clear d1 b1 NW
    generalize hbs : (w.alloc (.cells #[.int .u64 100, .int .u64 200] 22)).heap.size = base at *
    go_wp2
    go_loopw [20] (fun z wr => ∃ (i : Nat) (In1 : Nat → Prop), z = .int .i64 i ∧ i ≤ 6 ∧ Hid (DrG wr base T (ps29 i) In1) ∧ Hid (base ≤ wr.heap.size) ∧ Hid (Below w.heap.size w wr)) (fun z _ => 6 - (intOf z).toNat)
    case atStart => exact ⟨0, In, rfl, by decide, D1, S1, B1⟩
    case round =>
      clear D1 S1 B1
      obtain ⟨i, In1, rfl, hi, D, SZ, B⟩ := hrel
      by_cases hlt : i < 6
      · have hm : (i : Int).tmod 2 = (i : Int) % 2 := Int.tmod_eq_emod_of_nonneg (by omega)
        have hw : IntKind.i64.wrap ((i : Int) % 2) = (i : Int) % 2 := by rw [IntKind.wrap_i64]; omega
        have PU := dpush D.out SZ.out ((i : Int) % 2) 100 i (by decide) (by decide)
        rw [PM.out i hlt] at PU
        have PUH := Lib.hid PU
        have z1 : (i : Int) < 6 := by omega
        clear PU
        go_wp2_with fail
        refine PUH.out.mono ?_
        rintro e w2 ⟨rfl, In2, d2, m2⟩
        have D2 := Lib.hid (show DrG w2 base T (ps29 (i + 1)) In2 from d2)
        have B2 := Lib.hid (B.out.trans ((m2.below (Below.refl _ _) (fun j hj => (D.out.inlt hj).1) SZ.out).mono W0.out))
        have SZ2 := Lib.hid (Nat.le_trans SZ.out m2.size)
        clear d2 m2 PUH hm hw
        go_wp2
        go_roundw
        case rel => exact ⟨i + 1, In2, by go_num, by omega, D2, SZ2, B2⟩
        case measure => simp [intOf] <;> omega
      · have D6 := Lib.hid (show DrG wr base T (ps29 6) In1 from by
          have e : i = 6 := by omega
          rw [← e]; exact D.out)
        have z6 : ¬ (i : Int) < 6 := by omega
        clear D hi hlt
        go_wp2
        go_loopw [4, 30] (fun zs z wr => ∃ (j : Nat) (In1 : Nat → Prop), z = .int .i64 j ∧ j ≤ 6 ∧ zs = .int .i64 (sv29 j) ∧ Hid (DrG wr base T (ns29 j) In1) ∧ Hid (base ≤ wr.heap.size) ∧ Hid (Below w.heap.size w wr)) (fun _ z _ => 6 - (intOf z).toNat)
        case atStart => exact ⟨0, In1, rfl, by decide, rfl, D6, SZ, B⟩
        case round =>
          clear D6 SZ B
          obtain ⟨j, In3, rfl, hj, rfl, D, SZ, B⟩ := hrel
          by_cases hlt2 : j < 6
          · obtain ⟨f0, f1, s0, s1⟩ := SF.out j hlt2
            have NX := Lib.hid (dnext D.out SZ.out)
            have SE := Lib.hid (show sv29 (j + 1) = 10 * sv29 j + (ns29 j).first.1 from rfl)
            have z1 : (j : Int) < 6 := by omega
            obtain ⟨S, hS⟩ : ∃ S, ns29 j = S := ⟨_, rfl⟩
            rw [hS] at NX SE f0 f1
            have HS := Lib.hid hS
            clear hS
            obtain ⟨⟨fa, fb, fc, fd⟩, hF⟩ : ∃ x : Int × Int × Int × Bool, S.first = x := ⟨_, rfl⟩
            rw [hF] at NX SE f0 f1
            dsimp only at NX SE f0 f1
            obtain ⟨s, hs⟩ : ∃ s, sv29 j = s := ⟨_, rfl⟩
            rw [hs] at s0 s1 SE ⊢
            clear hs
            have h1 : IntKind.i64.wrap (10 * s) = 10 * s := by rw [IntKind.wrap_i64]; omega
            have h2 : IntKind.i64.wrap (10 * s + fa) = 10 * s + fa := by rw [IntKind.wrap_i64]; omega
            clear hF
            go_wp2_with fail
            refine NX.out.mono ?_
            rintro e w2 ⟨rfl, In4, d2, m2⟩
            have D2 := Lib.hid (show DrG w2 base T (ns29 (j + 1)) In4 from by
              show DrG w2 base T (ns29 j).next In4
              rw [HS.out]; exact d2)
            have B2 := Lib.hid (B.out.trans ((m2.below (Below.refl _ _) (fun j hj => (D.out.inlt hj).1) SZ.out).mono W0.out))
            have SZ2 := Lib.hid (Nat.le_trans SZ.out m2.size)
            clear d2 m2 NX
            go_wp2
            go_roundw
            case rel => exact ⟨j + 1, In4, by go_num, by omega, by rw [SE.out], D2, SZ2, B2⟩
            case measure => simp [intOf] <;> omega
          · obtain rfl : j = 6 := by omega
            have LE := dlen D.out
            rw [show lenR (ns29 6).q (ns29 6).R = 0 by rw [SV.out.2.2.2.2.2.2.2]; rfl] at LE
            have LEH := Lib.hid LE
            rw [SV.out.2.2.2.2.2.2.1]
            clear LE
            go_wp2_with fail
            refine LEH.out.mono ?_
            rintro e w2 ⟨rfl, b2⟩
            have BE := Lib.hid (B.out.trans (b2.mono B.out.size))
            clear b2
            go_wp2
            go_ret
            exact ⟨rfl, BE.out⟩
theorem walk_drrNobody (c : Int) (c0 : -9223372036854775808 ≤ c) (c1 : c ≤ 9223372036854775807) (size : Int) (s0 : 0 ≤ size) (s1 : size ≤ 18446744073709551615) (w : World) :
    Calls Try.prog 8 #[.int .i64 c, .int .u64 size] w fun e w' => e = .returned (.bool true) ∧ Below w.heap.size w w' := by
  have NX := Lib.hid (fun W => dnext_nil W)
  have PU := Lib.hid (fun W => dpush_nil c size 1 W)
  have CR := Lib.hid (fun W => dcredit_nil c W)
  have LN := Lib.hid (fun W => dlen_nil W)
  have RW := Lib.hid (fun W => drow_nil W)
  go_enter Try.func8, Try.ntmps8
  go_wp2_with fail
  refine (NX.out _).mono ?_
  rintro e w1 ⟨rfl, rfl⟩
  go_wp2_with fail
  refine (PU.out _).mono ?_
  rintro e w2 ⟨rfl, rfl⟩
  go_wp2_with fail
  refine (CR.out _).mono ?_
  rintro e w3 ⟨rfl, rfl⟩
  go_wp2_with fail
  refine (LN.out _).mono ?_
  rintro e w4 ⟨rfl, rfl⟩
  go_wp2_with fail
  refine (RW.out _).mono ?_
  rintro e w5 ⟨rfl, rfl⟩
  go_wp2_with fail
  refine (lives29 _).mono ?_
  rintro e w6 ⟨rfl, b6⟩
  have B6 := Lib.hid b6
  clear b6
  go_wp2
  go_ret
  exact ⟨rfl, B6.out⟩
end Go.Proofs.Ytiogfgkfipekbaa
