/-
  math/bits.Div64 returns the quotient of two words by one, for any divisor above the high word: the library's own text, walked. Condition: the divisor is above the high word.
-/
import Derived.Test.YtdokllignldbeaaSat
import Derived.Test.YtdokllignldbeaaDivMath
import Derived.Deep.CutBlock
import Derived.Deep.DeepCutAuto
import Derived.Deep.LoopGhost
import Derived.Lib.ItoaNum
namespace Go.Proofs.Ytdokllignldbeaa
set_option linter.unusedVariables false
set_option linter.unusedSimpArgs false
open Go.ChangeShapes Go.WideShapes Go.ChangeAt Go.RowKit

set_option maxHeartbeats 2000000 in
theorem div64_big (h l y : Int) (s : Nat) (hs : s ≤ 63) (hy : 0 < y) (hh0 : 0 < h) (hh : h < y) (hl0 : 0 ≤ l) (hl1 : l ≤ 18446744073709551615) (hy1 : y ≤ 18446744073709551615)
    (hb : (64 - (Lib.bitLen y.toNat : Int)) = s) (n1 : y * 2 ^ s ≤ 18446744073709551615) (n2 : 9223372036854775808 ≤ y * 2 ^ s) (w : World) :
    Calls Try.prog 175 #[.int .u64 h, .int .u64 l, .int .u64 y] w fun e w' => ∃ r, e = .returned (.tuple #[.int .u64 ((h * 18446744073709551616 + l) / y), .int .u64 r]) ∧ w = w' := by
  have HB := Lib.hid hb; clear hb
  obtain ⟨U, L, eU, eL, U0, U1, L0, L1, eN⟩ := shift_parts h l y s hs (by omega) hh hl0 hl1 n1
  have eq := shifted (h * 18446744073709551616 + l) y s hy
  rw [← eN] at eq
  have eU := Lib.hid eU; have eL := Lib.hid eL
  have EQ := Lib.hid eq
  clear eN eq
  have m1 := mask32 (y * 2 ^ s) (by omega) n1
  have m0 := mask32 L L0 L1
  have M1 := Lib.hid m1; have M0 := Lib.hid m0
  clear m1 m0
  have hY : 0 < y * 2 ^ s := by omega
  go_enter Try.func175, Try.ntmps175
  go_wp2_with fail
  refine (lz64_any _ (by omega) (by omega) _).mono ?_
  rintro e w' ⟨rfl, rfl⟩
  rw [HB.out]
  go_upto_block 0 with fail
  simp only [eU.out, eL.out, M1.out, M0.out]
  clear eU eL M1 M0 HB
  generalize y * 2 ^ s = Y at *
  have b1 : 2147483648 ≤ Y / 4294967296 := by omega
  have b1' : Y / 4294967296 ≤ 4294967295 := by omega
  have b0 : 0 ≤ Y % 4294967296 ∧ Y % 4294967296 ≤ 4294967295 := by omega
  have d1 : 0 ≤ L / 4294967296 ∧ L / 4294967296 ≤ 4294967295 := by omega
  have d0 : 0 ≤ L % 4294967296 ∧ L % 4294967296 ≤ 4294967295 := by omega
  have tw := two_digits hY U0 d1.1 d0.1 d0.2
  rw [show L / 4294967296 * 4294967296 + L % 4294967296 = L from by omega] at tw
  rw [EQ.out] at tw
  clear EQ
  have eY : Y / 4294967296 * 4294967296 + Y % 4294967296 = Y := by omega
  have hq1 := digit_bounds (q := (U * 4294967296 + L / 4294967296) / Y) U0 d1 b0 b1 (by omega) (by rw [eY])
  have t1 := fun g => digit_test (u := U) (q := (U * 4294967296 + L / 4294967296) / Y) d1 b0 b1 (by rw [eY]) g
  obtain ⟨v0, v1⟩ := digit_rest (u := U) (d := L / 4294967296) (q := (U * 4294967296 + L / 4294967296) / Y) hY rfl
  have hr1 : 0 ≤ U - U / (Y / 4294967296) * (Y / 4294967296) ∧ U - U / (Y / 4294967296) * (Y / 4294967296) < Y / 4294967296 := by
    have h1 := Int.mul_ediv_add_emod U (Y / 4294967296)
    have h2 := Int.emod_lt_of_pos U (b := Y / 4294967296) (by omega)
    have h3 := Int.emod_nonneg U (b := Y / 4294967296) (by omega)
    rw [Int.mul_comm] at h1
    omega
  generalize (U * 4294967296 + L / 4294967296) / Y = q1 at *
  have eV : IntKind.u64.wrap (IntKind.u64.wrap (IntKind.u64.wrap (U * 4294967296) + L / 4294967296) - IntKind.u64.wrap (q1 * Y)) = U * 4294967296 + L / 4294967296 - q1 * Y := by
    rw [IntKind.wrap_u64, IntKind.wrap_u64, IntKind.wrap_u64, IntKind.wrap_u64]; omega
  generalize hV : U * 4294967296 + L / 4294967296 - q1 * Y = V at *
  have hq0 := digit_bounds (u := V) (q := (V * 4294967296 + L % 4294967296) / Y) v0 d0 b0 b1 (by omega) (by rw [eY])
  have t0 := fun g => digit_test (u := V) (q := (V * 4294967296 + L % 4294967296) / Y) d0 b0 b1 (by rw [eY]) g
  have hr0 : 0 ≤ V - V / (Y / 4294967296) * (Y / 4294967296) ∧ V - V / (Y / 4294967296) * (Y / 4294967296) < Y / 4294967296 := by
    have h1 := Int.mul_ediv_add_emod V (Y / 4294967296)
    have h2 := Int.emod_lt_of_pos V (b := Y / 4294967296) (by omega)
    have h3 := Int.emod_nonneg V (b := Y / 4294967296) (by omega)
    rw [Int.mul_comm] at h1
    omega
  generalize (V * 4294967296 + L % 4294967296) / Y = q0 at *
  have TW := Lib.hid tw; have EY := Lib.hid eY; have EV := Lib.hid eV; have T1 := Lib.hid t1; have T0 := Lib.hid t0; have HV := Lib.hid hV
  clear tw eY eV t1 t0 hV
  obtain ⟨b00, b01⟩ := b0; obtain ⟨d10, d11⟩ := d1; obtain ⟨d00, d01⟩ := d0; obtain ⟨r10, r11⟩ := hr1; obtain ⟨r00, r01⟩ := hr0
  obtain ⟨q10, q11, q12, q13⟩ := hq1; obtain ⟨q00, q01, q02, q03⟩ := hq0
  generalize hyy1 : Y / 4294967296 = y1 at *
  generalize hyy0 : Y % 4294967296 = y0 at *
  generalize hLd1 : L / 4294967296 = D1 at *
  generalize hLd0 : L % 4294967296 = D0 at *
  have K1 := Lib.hid hyy1; have K2 := Lib.hid hyy0; have K3 := Lib.hid hLd1; have K4 := Lib.hid hLd0
  clear hyy1 hyy0 hLd1 hLd0
  have ew : IntKind.u64.wrap (U - IntKind.u64.wrap (U / y1 * y1)) = U - U / y1 * y1 := by rw [IntKind.wrap_u64, IntKind.wrap_u64]; omega
  rw [ew]
  clear ew
  go_cut [15, 16] (fun a b wx => a = .int .u64 q1 ∧ (∃ r : Int, b = .int .u64 r) ∧ w = wx)
  case first =>
    go_wp2_with fail
    go_loop [15, 16] (fun a b => ∃ g r : Int, a = .int .u64 g ∧ b = .int .u64 r ∧ q1 ≤ g ∧ g ≤ 4294967297 ∧ 0 ≤ r ∧ r ≤ 4294967295 ∧ Hid (r = U - g * y1)) (fun a _ => (intOf a).toNat)
    case atStart => exact ⟨_, _, rfl, rfl, q12, q13, r10, by omega, Lib.hid rfl⟩
    case round =>
      obtain ⟨g, r, rfl, rfl, g0, g1, r0, r1, hr⟩ := hrel
      have tg := (T1.out g).1
      have tb := (T1.out (g - 1)).2
      have hr' := hr.out
      have hn : U - (g - 1) * y1 = r + y1 := by rw [Int.sub_mul, Int.one_mul]; omega
      rw [← hr'] at tg
      rw [hn] at tb
      have HN := Lib.hid hn.symm; have TB := Lib.hid tb
      clear hn tb hr'
      by_cases hq : q1 < g
      · by_cases hg : 4294967296 ≤ g
        · clear tg
          by_cases hbk : 4294967296 ≤ r + y1
          · have fin : g - 1 = q1 := by have := TB.out (by omega) (by omega) hbk; omega
            have FIN := Lib.hid fin; clear fin
            go_wp2
            go_meet
            case rel => exact ⟨by rw [FIN.out], ⟨_, rfl⟩, rfl⟩
          · go_wp2
            go_round
            case rel => exact ⟨g - 1, r + y1, rfl, rfl, by omega, by omega, by omega, by omega, HN⟩
            case measure => simp [intOf]; omega
        · have hz := dg_mul g y0 (by omega) (by omega) b00 b01
          obtain ⟨z0, z1⟩ := hz
          have ht : 4294967296 * r + D1 < g * y0 := tg.2 hq
          clear tg
          by_cases hbk : 4294967296 ≤ r + y1
          · have fin : g - 1 = q1 := by have := TB.out (by omega) (by omega) hbk; omega
            have FIN := Lib.hid fin; clear fin
            go_wp2
            go_meet
            case rel => exact ⟨by rw [FIN.out], ⟨_, rfl⟩, rfl⟩
          · go_wp2
            go_round
            case rel => exact ⟨g - 1, r + y1, rfl, rfl, by omega, by omega, by omega, by omega, HN⟩
            case measure => simp [intOf]; omega
      · have hz := dg_mul g y0 (by omega) (by omega) b00 b01
        obtain ⟨z0, z1⟩ := hz
        have ht : ¬ 4294967296 * r + D1 < g * y0 := fun x => hq (tg.1 x)
        have hgq : g ≤ 4294967295 := by omega
        clear tg
        have fin : g = q1 := by omega
        have FIN := Lib.hid fin; clear fin
        go_wp2
        go_meet
        case rel => exact ⟨by rw [FIN.out], ⟨_, rfl⟩, rfl⟩
  case rest =>
    obtain ⟨rfl, ⟨r, rfl⟩, rfl⟩ := hcut
    go_upto_block 2 with fail
    have e1 : IntKind.u64.wrap (V.tdiv y1) = V / y1 := by rw [Int.tdiv_eq_ediv_of_nonneg v0, IntKind.wrap_u64]; omega
    have e2 : IntKind.u64.wrap (V - IntKind.u64.wrap (V / y1 * y1)) = V - V / y1 * y1 := by rw [IntKind.wrap_u64, IntKind.wrap_u64]; omega
    simp only [EV.out, e1, e2]
    clear e1 e2 EV
    go_cut [18, 16] (fun a b wx => a = .int .u64 q0 ∧ (∃ r : Int, b = .int .u64 r) ∧ w = wx)
    case first =>
      go_wp2_with fail
      go_loop [18, 16] (fun a b => ∃ g r : Int, a = .int .u64 g ∧ b = .int .u64 r ∧ q0 ≤ g ∧ g ≤ 4294967297 ∧ 0 ≤ r ∧ r ≤ 4294967295 ∧ Hid (r = V - g * y1)) (fun a _ => (intOf a).toNat)
      case atStart => exact ⟨_, _, rfl, rfl, q02, q03, r00, by omega, Lib.hid rfl⟩
      case round =>
        obtain ⟨g, r, rfl, rfl, g0, g1, r0, r1, hr⟩ := hrel
        have tg := (T0.out g).1
        have tb := (T0.out (g - 1)).2
        have hr' := hr.out
        have hn : V - (g - 1) * y1 = r + y1 := by rw [Int.sub_mul, Int.one_mul]; omega
        rw [← hr'] at tg
        rw [hn] at tb
        have HN := Lib.hid hn.symm; have TB := Lib.hid tb
        clear hn tb hr'
        by_cases hq : q0 < g
        · by_cases hg : 4294967296 ≤ g
          · clear tg
            by_cases hbk : 4294967296 ≤ r + y1
            · have fin : g - 1 = q0 := by have := TB.out (by omega) (by omega) hbk; omega
              have FIN := Lib.hid fin; clear fin
              go_wp2
              go_meet
              case rel => exact ⟨by rw [FIN.out], ⟨_, rfl⟩, rfl⟩
            · go_wp2
              go_round
              case rel => exact ⟨g - 1, r + y1, rfl, rfl, by omega, by omega, by omega, by omega, HN⟩
              case measure => simp [intOf]; omega
          · have hz := dg_mul g y0 (by omega) (by omega) b00 b01
            obtain ⟨z0, z1⟩ := hz
            have ht : 4294967296 * r + D0 < g * y0 := tg.2 hq
            clear tg
            by_cases hbk : 4294967296 ≤ r + y1
            · have fin : g - 1 = q0 := by have := TB.out (by omega) (by omega) hbk; omega
              have FIN := Lib.hid fin; clear fin
              go_wp2
              go_meet
              case rel => exact ⟨by rw [FIN.out], ⟨_, rfl⟩, rfl⟩
            · go_wp2
              go_round
              case rel => exact ⟨g - 1, r + y1, rfl, rfl, by omega, by omega, by omega, by omega, HN⟩
              case measure => simp [intOf]; omega
        · have hz := dg_mul g y0 (by omega) (by omega) b00 b01
          obtain ⟨z0, z1⟩ := hz
          have ht : ¬ 4294967296 * r + D0 < g * y0 := fun x => hq (tg.1 x)
          have hgq : g ≤ 4294967295 := by omega
          clear tg
          have fin : g = q0 := by omega
          have FIN := Lib.hid fin; clear fin
          go_wp2
          go_meet
          case rel => exact ⟨by rw [FIN.out], ⟨_, rfl⟩, rfl⟩
    case rest =>
      obtain ⟨rfl, ⟨r, rfl⟩, rfl⟩ := hcut
      go_wp2
      go_ret2
      exact ⟨_, by rw [TW.out]; rfl, rfl⟩
/-- Of a word above 0: how far it may be shifted. -/
theorem lz_room (y : Int) (hy : 0 < y) (hy1 : y ≤ 18446744073709551615) : ∃ s : Nat, s ≤ 63 ∧ (64 - (Lib.bitLen y.toNat : Int)) = s ∧ y * 2 ^ s ≤ 18446744073709551615 ∧ 9223372036854775808 ≤ y * 2 ^ s := by
  obtain ⟨y, rfl⟩ := Int.eq_ofNat_of_zero_le (Int.le_of_lt hy)
  obtain ⟨h1, h2, h3⟩ := Lib.bitLenAux_bounds 64 y (by omega) (by omega)
  have h4 := Lib.bitLen_le y 64 (Nat.le_refl _) (by omega)
  have e : Lib.bitLen y = Lib.bitLenAux 64 y := rfl
  rw [← e] at h1 h2 h3
  rw [Int.toNat_natCast]
  generalize Lib.bitLen y = b at *
  refine ⟨64 - b, by omega, by omega, ?_, ?_⟩
  · have k : y * 2 ^ (64 - b) < 2 ^ b * 2 ^ (64 - b) := Nat.mul_lt_mul_of_pos_right h3 (Nat.two_pow_pos _)
    rw [← Nat.pow_add, show b + (64 - b) = 64 from by omega] at k
    have : ((y * 2 ^ (64 - b) : Nat) : Int) < 18446744073709551616 := by omega
    push_cast at this
    omega
  · have k : 2 ^ (b - 1) * 2 ^ (64 - b) ≤ y * 2 ^ (64 - b) := Nat.mul_le_mul_right _ h2
    rw [← Nat.pow_add, show b - 1 + (64 - b) = 63 from by omega] at k
    have : (9223372036854775808 : Int) ≤ ((y * 2 ^ (64 - b) : Nat) : Int) := by omega
    push_cast at this
    omega

theorem div64_any (h l y : Int) (hh0 : 0 ≤ h) (hh : h < y) (hl0 : 0 ≤ l) (hl1 : l ≤ 18446744073709551615) (hy1 : y ≤ 18446744073709551615) (w : World) :
    Calls Try.prog 175 #[.int .u64 h, .int .u64 l, .int .u64 y] w fun e w' => ∃ r n, e = .returned (.tuple #[.int .u64 ((h * 18446744073709551616 + l) / y), .int .u64 r]) ∧ w' = w.drewN n := by
  by_cases h0 : h = 0
  · subst h0
    have q0 : 0 ≤ l / y := Int.ediv_nonneg hl0 (by omega)
    have q1 : l / y ≤ l := Int.ediv_le_self _ hl0
    have e : (0 * 18446744073709551616 + l) / y = l / y := by rw [Int.zero_mul, Int.zero_add]
    rw [e]
    clear e
    go_enter Try.func175, Try.ntmps175
    go_wp2
    go_quiet (fail)
    go_wp2
    go_ret2
    exact ⟨_, nq, rfl, rfl⟩
  · obtain ⟨s, h1, h2, h3, h4⟩ := lz_room y (by omega) hy1
    refine (div64_big h l y s h1 (by omega) (by omega) hh hl0 hl1 hy1 h2 h3 h4 w).mono ?_
    rintro e w' ⟨r, rfl, rfl⟩
    exact ⟨r, 0, rfl, rfl⟩
theorem sat_muldiv (a b c : Int) (ha0 : 0 ≤ a) (ha1 : a ≤ 18446744073709551615) (hb0 : 0 ≤ b) (hb1 : b ≤ 18446744073709551615) (hc0 : 0 ≤ c) (hc1 : c ≤ 18446744073709551615) (w : World) :
    Calls Try.prog 139 #[.int .u64 a, .int .u64 b, .int .u64 c] w fun e w' => ∃ n, e = .returned (.int .u64 (mdiv a b c)) ∧ w' = w.drewN n := by
  have m0 := (wd_mul a b ha0 ha1 hb0 hb1)
  have eh := Int.mul_ediv_add_emod (a * b) 18446744073709551616
  have h0 : 0 ≤ a * b / 18446744073709551616 := by omega
  have l0 : 0 ≤ a * b % 18446744073709551616 ∧ a * b % 18446744073709551616 ≤ 18446744073709551615 := by omega
  obtain ⟨l0, l1⟩ := l0
  by_cases h : c ≤ a * b / 18446744073709551616
  · have e : mdiv a b c = 18446744073709551615 := by
      unfold mdiv
      split
      · rfl
      · apply cap_over
        have : 18446744073709551616 ≤ a * b / c := by
          rw [Int.le_ediv_iff_mul_le (by omega)]; omega
        omega
    rw [e]
    have E := Lib.hid e; clear e
    have eh := Lib.hid eh; clear m0
    go_enter Try.func139, Try.ntmps139
    go_wp2_with fail
    refine (mul64_any _ _ (by omega) (by omega) (by omega) (by omega) _).mono ?_
    rintro e w' ⟨rfl, rfl⟩
    go_wp2
    go_ret
    exact ⟨0, rfl, rfl⟩
  · have e : mdiv a b c = (a * b / 18446744073709551616 * 18446744073709551616 + a * b % 18446744073709551616) / c := by
      unfold mdiv
      rw [if_neg (by omega), show a * b / 18446744073709551616 * 18446744073709551616 + a * b % 18446744073709551616 = a * b from by omega]
      apply cap_of
      have : a * b / c < 18446744073709551616 := by
        apply Int.ediv_lt_of_lt_mul (by omega); omega
      omega
    rw [e]
    have E := Lib.hid e; clear e
    have eh := Lib.hid eh; clear m0
    go_enter Try.func139, Try.ntmps139
    go_wp2_with fail
    refine (mul64_any _ _ (by omega) (by omega) (by omega) (by omega) _).mono ?_
    rintro e w' ⟨rfl, rfl⟩
    go_wp2_with fail
    refine (div64_any _ _ _ h0 (by omega) l0 l1 (by omega) _).mono ?_
    rintro e w' ⟨r, n, rfl, rfl⟩
    go_wp2
    go_ret
    exact ⟨n, rfl, rfl⟩
end Go.Proofs.Ytdokllignldbeaa
