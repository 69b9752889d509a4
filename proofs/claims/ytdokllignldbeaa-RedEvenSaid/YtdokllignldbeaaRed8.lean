/-
  The law of layer 18 on a mean that stays between: true for any configuration and place. No condition.
-/
import Derived.Test.YtdokllignldbeaaRed7
namespace Go.Proofs.Ytdokllignldbeaa
set_option linter.unusedVariables false
set_option linter.unusedSimpArgs false
open Go.ChangeShapes Go.WideShapes Go.ChangeAt Go.RowKit
attribute [local go_sem] alloc_drewN setCell_drewN

/-- One of so many. -/
theorem every_bd {p : Int} (h0 : 50 ≤ p) (h1 : p ≤ 65536) : 1 ≤ up 65536 p ∧ up 65536 p ≤ 1311 ∧ (up 65536 p - 1) * p < 65536 ∧ 65536 ≤ up 65536 p * p := by
  unfold up
  rw [if_neg (by decide), if_neg (by omega)]
  have e1 := Int.mul_ediv_add_emod (65536 - 1) p
  have e2 := Int.emod_lt_of_pos (65536 - 1) (show 0 < p by omega)
  have e3 := Int.emod_nonneg (65536 - 1) (show p ≠ 0 by omega)
  have e0 : 0 ≤ (65536 - 1) / p := Int.ediv_nonneg (by decide) (by omega)
  have hq : (65536 - 1) / p ≤ 1310 := by
    have : (65536 - 1) / p < 1311 := Int.ediv_lt_of_lt_mul (by omega) (by omega)
    omega
  generalize (65536 - 1) / p = q at *
  generalize (65536 - 1) % p = r at *
  rw [show q + 1 - 1 = q by omega, Int.add_mul, Int.one_mul, Int.mul_comm q p]
  omega
theorem count_hits {p E cn : Int} (h0 : 50 ≤ p) (h1 : p ≤ 65536) (hE : up 65536 p = E) (c0 : 0 ≤ cn) (c1 : cn < E) : (cn + 1 = E → 65536 ≤ cap (cap (cn + 1) * p)) ∧ (cn + 1 < E → ¬ 65536 ≤ cap (cap (cn + 1) * p) ∧ cap (cn + 1) = cn + 1) := by
  obtain ⟨a, b, c, d⟩ := every_bd h0 h1
  rw [hE] at a b c d
  rw [cap_of (show cn + 1 ≤ 18446744073709551615 by omega)]
  have k1 : (cn + 1) * p ≤ 1311 * 65536 := Int.mul_le_mul (by omega) h1 (by omega) (by omega)
  rw [cap_of (by omega)]
  refine ⟨fun e => by rw [e]; omega, fun h => ⟨?_, rfl⟩⟩
  have k2 : (cn + 1) * p ≤ (E - 1) * p := Int.mul_le_mul_of_nonneg_right (by omega) (by omega)
  omega

set_option maxRecDepth 100000 in
set_option maxHeartbeats 4000000 in
theorem even18_at (lo hi mo : Int) (k : Nat) (l0 : 0 ≤ lo) (g0 : 0 ≤ hi) (m0 : 0 ≤ mo) (at_ : Int) (i0 : 0 ≤ at_) (i1 : at_ ≤ 18446744073709551615) (w : World) (hok : rok lo hi mo k = true) :
    Calls Try.prog 9 #[.agg #[.int .u64 lo, .int .u64 hi, .int .u64 mo, .int .i64 k], .int .u64 at_] w fun e w' => e = .returned (.bool true) ∧ Below w.heap.size w w' := by
  obtain ⟨r1, r2, r3, r4, r5, r6⟩ := rok_iff.1 hok
  have CM := Lib.hid (fun W => red_may lo hi mo k l0 g0 m0 W)
  rw [hok] at CM
  have HOK := Lib.hid hok
  clear hok
  obtain ⟨D, hD⟩ : ∃ D, hi - lo = D := ⟨_, rfl⟩
  have d1 : 1 ≤ D := by omega
  have q0 : 0 ≤ at_ % D := Int.emod_nonneg _ (by omega)
  have q1 : at_ % D < D := Int.emod_lt_of_pos _ (by omega)
  have et : at_.tmod D = at_ % D := Int.tmod_eq_emod_of_nonneg i0
  obtain ⟨R, hR⟩ : ∃ R, at_ % D = R := ⟨_, rfl⟩
  rw [hR] at q0 q1 et
  clear hR
  obtain ⟨X, hX⟩ : ∃ X, lo + R = X := ⟨_, rfl⟩
  have x0 : 0 ≤ X := by omega
  have x1 : lo ≤ X := by omega
  have x2 : X < hi := by omega
  have PT := Lib.hid (fun W => red_rpart lo hi mo k X HOK.out l0 x1 x2 W)
  obtain ⟨-, -, p0, p1⟩ := rp_bd HOK.out l0 x1 x2
  have SAME := Lib.hid (fun cn => rst_same (lo := lo) (hi := hi) (mo := mo) (x := X) (cn := cn) HOK.out x0 (by omega))
  obtain ⟨-, -, v0, v1⟩ := SAME.out 0
  have SAME := Lib.hid (fun cn => (SAME.out cn).2.1 x1 x2)
  generalize rp lo hi mo X = p at *
  have hk16 : k ≤ 16 := by omega
  have A0 : At4 (w.alloc (.cells #[.int .u64 lo, .int .u64 hi, .int .u64 mo, .int .i64 k] 52)) w.heap.size lo hi mo k := At4.new w lo hi mo k _
  have HA0 := Lib.hid A0
  clear A0
  have nz : (D == 0) = false := by simp; omega
  have nz2 : ¬ D = 0 := by omega
  go_enter Try.func9, Try.ntmps9
  go_wp2_with fail
  refine (CM.out _).mono ?_
  rintro e w' ⟨rfl, rfl⟩
  go_wp2
  go_quiet (fail)
  go_wp2_with fail
  refine (PT.out _).mono ?_
  rintro e w' ⟨rfl, rfl⟩
  by_cases hp : p < 50
  · by_cases hz : p = 0
    · have pz : (p == 0) = true := by simp [hz]
      clear hz
      go_wp2_with (go_at_call 33; refine (lives18 _).mono ?_; rintro e w9 ⟨rfl, b9⟩)
      have HB9 := Lib.hid (below_onto (show Below w.heap.size w _ from by repeat' (first | exact Below.refl _ _ | refine below_drewN _ ?_ | refine Below.alloc ?_ (by simp; try omega) _)) b9 (by simp; try omega))
      clear b9
      go_wp2
      go_ret
      exact ⟨rfl, HB9.out⟩
    · have pz : (p == 0) = false := by simp [hz]
      clear hz
      go_wp2_with (go_at_call 33; refine (lives18 _).mono ?_; rintro e w9 ⟨rfl, b9⟩)
      have HB9 := Lib.hid (below_onto (show Below w.heap.size w _ from by repeat' (first | exact Below.refl _ _ | refine below_drewN _ ?_ | refine Below.alloc ?_ (by simp; try omega) _)) b9 (by simp; try omega))
      clear b9
      go_wp2
      go_ret
      exact ⟨rfl, HB9.out⟩
  · have DU := Lib.hid (fun W => divup_ref 65536 p (by decide) (by decide) p0 (by omega) W)
    have CH := Lib.hid (fun E (hE : up 65536 p = E) cn c0 c1 => count_hits (p := p) (E := E) (cn := cn) (by omega) (by omega) hE c0 c1)
    obtain ⟨b1, b2, -, -⟩ := every_bd (p := p) (by omega) (by omega)
    have UE := Lib.hid (fun cn c0 c1 => CH.out (up 65536 p) rfl cn c0 c1)
    generalize up 65536 p = E at *
    have pz : (p == 0) = false := by simp; omega
    clear CH
    go_wp2_with fail
    refine (DU.out _).mono ?_
    rintro e w3 ⟨rfl, b3⟩
    have HB3 := Lib.hid (below_onto (show Below w.heap.size w _ from by repeat' (first | exact Below.refl _ _ | refine below_drewN _ ?_ | refine Below.alloc ?_ (by simp; try omega) _)) b3 (by simp; try omega))
    have HA3 : Hid (At4 w3 w.heap.size lo hi mo k) := Lib.hid (by
      refine At4.below ?_ b3 (by simp; try omega)
      refine ⟨by simp; try omega, ?_, ?_, ?_, ?_⟩ <;> simp [go_sem])
    obtain ⟨z, a0, a1, a2, a3⟩ := HA3.out
    clear b3 DU
    go_wp2
    have HS3 := Lib.hid (show StAt (w3.alloc (.cells #[.int .u64 (X * 2 ^ k), .int .u64 0] 54)) w3.heap.size (X * 2 ^ k) 0 from heap_alloc_new _ _)
    have HB4 := Lib.hid (HB3.out.trans (show Below w.heap.size w3 (w3.alloc (.cells #[.int .u64 (X * 2 ^ k), .int .u64 0] 54)) from (below_cells w3 _).mono HB3.out.size))
    have HA4 := Lib.hid (HA3.out.below (below_cells w3 (.cells #[.int .u64 (X * 2 ^ k), .int .u64 0] 54)) z)
    have b1a : w.heap.size < w3.heap.size := z
    have b1b : w.heap.size ≤ w3.heap.size := Nat.le_of_lt z
    clear a0 a1 a2 a3 z
    generalize X * 2 ^ k = Y at *
    generalize w3.alloc (.cells #[.int .u64 Y, .int .u64 0] 54) = w4 at *
    generalize w3.heap.size = B1 at *
    go_loopw [9] (fun x wt => ∃ i cn : Int, x = .int .u64 i ∧ 1 ≤ i ∧ i ≤ 2 * E + 1 ∧ 0 ≤ cn ∧ cn < E ∧ Hid (i = cn + 1 ∨ i = E + cn + 1 ∨ (i = 2 * E + 1 ∧ cn = 0)) ∧ At4 wt w.heap.size lo hi mo k ∧ StAt wt B1 Y cn ∧ Below w.heap.size w wt) (fun x _ => (2 * E + 1 - intOf x).toNat)
    case atStart => exact ⟨1, 0, rfl, by omega, by omega, by omega, by omega, Lib.hid (Or.inl (by omega)), HA4.out, HS3.out, HB4.out⟩
    case round =>
      obtain ⟨i, cn, rfl, hi1, hi2, hc0, hc1, hJ, hA, hS, hb⟩ := hrel
      by_cases hlt : i ≤ 2 * E
      · have STEP := Lib.hid (fun W => red_step lo hi mo k Y cn X l0 g0 m0 (by omega) (by omega) v0 (by omega) hc0 (by omega) x0 (by omega) W)
        rw [SAME.out cn] at STEP
        obtain ⟨u1, u2⟩ := UE.out cn hc0 hc1
        by_cases hh : cn + 1 = E
        · rw [if_pos (by have := u1 hh; omega)] at STEP
          dsimp only at STEP
          have tm : i.tmod E = 0 := by
            rw [Int.tmod_eq_emod_of_nonneg (by omega)]
            rcases hJ.out with h | h | h
            · rw [h, hh, Int.emod_self]
            · rw [h, show E + cn + 1 = E + E by omega, Int.add_emod_right, Int.emod_self]
            · omega
          have HJ2 := Lib.hid (show (i + 1 = (0 : Int) + 1 ∨ i + 1 = E + 0 + 1 ∨ (i + 1 = 2 * E + 1 ∧ (0 : Int) = 0)) by
            rcases hJ.out with h | h | h
            · right; left; omega
            · right; right; omega
            · omega)
          have HQ := Lib.hid (show (0 : Int) ≤ 0 ∧ (0 : Int) < E by omega)
          have ez : ¬ E = 0 := by omega
          have HA := Lib.hid hA; have HSS := Lib.hid hS; have HB := Lib.hid hb
          obtain ⟨z, a0, a1, a2, a3⟩ := hA
          obtain ⟨z2, e0, e1, f0, f1⟩ := hS.at
          clear hS hb u1 u2 hJ hh
          go_wp2_with fail
          refine (STEP.out _).mono ?_
          rintro e w5 ⟨rfl, b5⟩
          have HA5 := Lib.hid (HA.out.below b5 z)
          have HS5 := Lib.hid (show StAt w5 B1 Y cn from (b5.block B1 z2).trans HSS.out)
          have HB5 := Lib.hid (below_onto HB.out b5 HB.out.size)
          have z5 := HS5.out.at.1
          obtain ⟨-, e50, e51, f50, f51⟩ := HS5.out.at
          clear b5 STEP a0 a1 a2 a3 e0 e1 f0 f1 z z2
          go_wp2
          go_roundw
          case rel =>
            have FX : Below B1 w5 (((w5.setCell ⟨B1, 0, none⟩ (.int .u64 Y)).setCell ⟨B1, 1, none⟩ (.int .u64 0)).alloc (.cells #[.int .u64 Y, .int .u64 0] 54)) := (((Below.refl _ _).setCell (Nat.le_refl B1) _).setCell (Nat.le_refl B1) _).alloc (by simp; omega) _
            exact ⟨i + 1, 0, by go_num, by omega, by omega, HQ.out.1, HQ.out.2, Lib.hid (by have h := HJ2.out; omega), HA5.out.below FX b1a, StAt.keep (st_put HS5.out Y 0) (heap_alloc_old _ _ (by simp; omega)), HB5.out.trans (FX.mono b1b)⟩
          case measure => simp [intOf] <;> omega
        · rw [if_neg (by have := (u2 (by omega)).1; omega), (u2 (by omega)).2] at STEP
          dsimp only at STEP
          obtain ⟨cm, hcm⟩ : ∃ cm, cn + 1 = cm := ⟨_, rfl⟩
          have tm : i.tmod E = cm := by
            rw [Int.tmod_eq_emod_of_nonneg (by omega)]
            rcases hJ.out with h | h | h
            · rw [h, hcm]; exact Int.emod_eq_of_lt (by omega) (by omega)
            · rw [h, show E + cn + 1 = E + cm by omega, Int.add_emod_left]; exact Int.emod_eq_of_lt (by omega) (by omega)
            · omega
          have cz : (cm == 0) = false := by simp; omega
          have HJ2 := Lib.hid (show (i + 1 = cm + 1 ∨ i + 1 = E + cm + 1 ∨ (i + 1 = 2 * E + 1 ∧ cm = 0)) by
            rcases hJ.out with h | h | h
            · left; omega
            · right; left; omega
            · omega)
          have HQ := Lib.hid (show (0 : Int) ≤ cm ∧ cm < E by omega)
          rw [hcm] at STEP
          clear hcm
          have ez : ¬ E = 0 := by omega
          have HA := Lib.hid hA; have HSS := Lib.hid hS; have HB := Lib.hid hb
          obtain ⟨z, a0, a1, a2, a3⟩ := hA
          obtain ⟨z2, e0, e1, f0, f1⟩ := hS.at
          clear hS hb u1 u2 hJ hh
          go_wp2_with fail
          refine (STEP.out _).mono ?_
          rintro e w5 ⟨rfl, b5⟩
          have HA5 := Lib.hid (HA.out.below b5 z)
          have HS5 := Lib.hid (show StAt w5 B1 Y cn from (b5.block B1 z2).trans HSS.out)
          have HB5 := Lib.hid (below_onto HB.out b5 HB.out.size)
          have z5 := HS5.out.at.1
          obtain ⟨-, e50, e51, f50, f51⟩ := HS5.out.at
          clear b5 STEP a0 a1 a2 a3 e0 e1 f0 f1 z z2
          go_wp2
          go_roundw
          case rel =>
            have FX : Below B1 w5 (((w5.setCell ⟨B1, 0, none⟩ (.int .u64 Y)).setCell ⟨B1, 1, none⟩ (.int .u64 cm)).alloc (.cells #[.int .u64 Y, .int .u64 cm] 54)) := (((Below.refl _ _).setCell (Nat.le_refl B1) _).setCell (Nat.le_refl B1) _).alloc (by simp; omega) _
            exact ⟨i + 1, cm, by go_num, by omega, by omega, HQ.out.1, HQ.out.2, Lib.hid (by have h := HJ2.out; omega), HA5.out.below FX b1a, StAt.keep (st_put HS5.out Y cm) (heap_alloc_old _ _ (by simp; omega)), HB5.out.trans (FX.mono b1b)⟩
          case measure => simp [intOf] <;> omega
      · have HB := Lib.hid hb
        clear hb hA hS hJ
        go_wp2_with fail
        refine (lives18 _).mono ?_
        rintro e w9 ⟨rfl, b9⟩
        have HB9 := Lib.hid (below_onto HB.out b9 HB.out.size)
        clear b9
        go_wp2
        go_ret
        exact ⟨rfl, HB9.out⟩

theorem even18_no (lo hi mo sw : Int) (l0 : 0 ≤ lo) (g0 : 0 ≤ hi) (m0 : 0 ≤ mo) (at_ : Int) (w : World) (hok : rok lo hi mo sw = false) :
    Calls Try.prog 9 #[.agg #[.int .u64 lo, .int .u64 hi, .int .u64 mo, .int .i64 sw], .int .u64 at_] w fun e w' => e = .returned (.bool true) ∧ Below w.heap.size w w' := by
  have CM := Lib.hid (fun W => red_may lo hi mo sw l0 g0 m0 W)
  rw [hok] at CM
  go_enter Try.func9, Try.ntmps9
  go_wp2_with fail
  refine (CM.out _).mono ?_
  rintro e w' ⟨rfl, rfl⟩
  go_wp2_with fail
  refine (lives18 _).mono ?_
  rintro e w9 ⟨rfl, b9⟩
  have HB9 := Lib.hid (below_onto (show Below w.heap.size w _ from by repeat' (first | exact Below.refl _ _ | refine Below.alloc ?_ (by simp; try omega) _)) b9 (by simp; try omega))
  clear b9
  go_wp2
  go_ret
  exact ⟨rfl, HB9.out⟩
theorem walk_redEven (lo : Int) (lo0 : 0 ≤ lo) (lo1 : lo ≤ 18446744073709551615) (hi : Int) (hi0 : 0 ≤ hi) (hi1 : hi ≤ 18446744073709551615) (mo : Int) (mo0 : 0 ≤ mo) (mo1 : mo ≤ 18446744073709551615) (sw : Int) (s0 : -9223372036854775808 ≤ sw) (s1 : sw ≤ 9223372036854775807) (at_ : Int) (i0 : 0 ≤ at_) (i1 : at_ ≤ 18446744073709551615) (w : World) :
    Calls Try.prog 9 #[.agg #[.int .u64 lo, .int .u64 hi, .int .u64 mo, .int .i64 sw], .int .u64 at_] w fun e w' => e = .returned (.bool true) ∧ Below w.heap.size w w' := by
  by_cases hok : rok lo hi mo sw = true
  · obtain ⟨k, rfl⟩ : ∃ k : Nat, sw = k := ⟨sw.toNat, by have := rok_iff.1 hok; omega⟩
    exact even18_at lo hi mo k lo0 hi0 mo0 at_ i0 i1 w hok
  · exact even18_no lo hi mo sw lo0 hi0 mo0 at_ w (by simpa using hok)
end Go.Proofs.Ytdokllignldbeaa
