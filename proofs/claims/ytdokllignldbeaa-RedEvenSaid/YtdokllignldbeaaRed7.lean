/-
  The law of layer 18 on its edges: true for any configuration and numbers. No condition.
-/
import Derived.Test.YtdokllignldbeaaRed6
namespace Go.Proofs.Ytdokllignldbeaa
set_option linter.unusedVariables false
set_option linter.unusedSimpArgs false
open Go.ChangeShapes Go.WideShapes Go.ChangeAt Go.RowKit
attribute [local go_sem] alloc_drewN setCell_drewN

theorem sl_of (k : Nat) (h : k ≤ 16) : sl (k : Int) = k := by unfold sl; omega
/-- A mean below Low stays there while what waits is below Low. -/
theorem rst_low {lo hi mo m x : Int} {k : Nat} (hok : rok lo hi mo k = true) (h1 : 1 ≤ lo) (m0 : 0 ≤ m) (m1 : m < lo * 2 ^ k) (x0 : 0 ≤ x) (x1 : x < lo) :
    ∃ m', rst lo hi mo k m 0 x = (m', 0, false) ∧ 0 ≤ m' ∧ m' < lo * 2 ^ k ∧ m' ≤ 18446744073709551615 := by
  obtain ⟨a, b, c, d, e, f⟩ := rok_iff.1 hok
  have hk : k ≤ 16 := by omega
  have p0 := pow2_pos k
  have p1 : (2 : Int) ^ k ≤ 65536 := pow2_le (k := 16) (by omega)
  have hq : m / 2 ^ k < lo := Int.ediv_lt_of_lt_mul p0 m1
  have hq0 : 0 ≤ m / 2 ^ k := Int.ediv_nonneg m0 (by omega)
  have e1 := Int.mul_ediv_add_emod m (2 ^ k)
  have e2 := Int.emod_lt_of_pos m p0
  have e0 := Int.emod_nonneg m (Int.ne_of_gt p0)
  have hb : lo * 2 ^ k ≤ 1099511627776 * 65536 := Int.mul_le_mul (by omega) p1 (by omega) (by omega)
  unfold rst
  rw [if_pos hok, sl_of k hk]
  generalize m / 2 ^ k = q at *
  generalize m % 2 ^ k = r at *
  generalize (2 : Int) ^ k = P at *
  have h3 : (P - 1) * q ≤ (P - 1) * (lo - 1) := Int.mul_le_mul_of_nonneg_left (by omega) (by omega)
  have e3 : (P - 1) * q = P * q - q := by rw [Int.sub_mul, Int.one_mul]
  have e4 : (P - 1) * (lo - 1) = lo * P - P - lo + 1 := by
    rw [Int.sub_mul, Int.mul_sub, Int.one_mul, Int.mul_one, Int.mul_comm P lo]; omega
  have hlt : m - q + x < lo * P := by omega
  have h0 : 0 ≤ m - q + x := by
    have : q ≤ P * q := by
      have := Int.mul_le_mul_of_nonneg_right (show (1 : Int) ≤ P by omega) hq0
      omega
    omega
  rw [cap_of (by omega), if_pos (Int.ediv_lt_of_lt_mul p0 hlt)]
  exact ⟨_, rfl, h0, hlt, by omega⟩
/-- Where the mean is just what waits it stays. -/
theorem rst_same {lo hi mo x cn : Int} {k : Nat} (hok : rok lo hi mo k = true) (x0 : 0 ≤ x) (x1 : x ≤ 2199023255552) :
    (hi ≤ x → rst lo hi mo k (x * 2 ^ k) cn x = (x * 2 ^ k, 0, true)) ∧ (lo ≤ x → x < hi → rst lo hi mo k (x * 2 ^ k) cn x = if 65536 ≤ cap (cap (cn + 1) * rp lo hi mo x) then (x * 2 ^ k, 0, true) else (x * 2 ^ k, cap (cn + 1), false)) ∧ 0 ≤ x * 2 ^ k ∧ x * 2 ^ k ≤ 144115188075855872 := by
  obtain ⟨a, b, c, d, e, f⟩ := rok_iff.1 hok
  have hk : k ≤ 16 := by omega
  have p0 := pow2_pos k
  have p1 : (2 : Int) ^ k ≤ 65536 := pow2_le (k := 16) (by omega)
  have h0 : 0 ≤ x * 2 ^ k := Int.mul_nonneg x0 (by omega)
  have hb : x * 2 ^ k ≤ 2199023255552 * 65536 := Int.mul_le_mul x1 p1 (by omega) (by omega)
  have hd : x * 2 ^ k / 2 ^ k = x := Int.mul_ediv_cancel _ (Int.ne_of_gt p0)
  unfold rst
  rw [if_pos hok, sl_of k hk, hd, show x * 2 ^ k - x + x = x * 2 ^ k by omega, cap_of (by omega), hd]
  refine ⟨fun h => ?_, fun h1 h2 => ?_, h0, by omega⟩
  · rw [if_neg (by omega), if_pos h]
  · rw [if_neg (by omega), if_neg (by omega)]

theorem StAt.keep {w w' : World} {b : Nat} {m k : Int} (h : StAt w b m k) (e : w'.heap[b]? = w.heap[b]?) : StAt w' b m k := e.trans h
theorem st_put {w : World} {b : Nat} {m k : Int} (h : StAt w b m k) (m' k' : Int) : StAt ((w.setCell ⟨b, 0, none⟩ (.int .u64 m')).setCell ⟨b, 1, none⟩ (.int .u64 k')) b m' k' := by
  have q1 := heap_setCell_same w b 0 _ _ (.int .u64 m') h
  show (World.heap _)[_]? = _
  simpa using heap_setCell_same _ b 1 _ _ (.int .u64 k') q1
theorem new_state {W w5 : World} {m k : Int} {t : TypeId} (h : Below (W.alloc (.cells #[.int .u64 m, .int .u64 k] t)).heap.size (W.alloc (.cells #[.int .u64 m, .int .u64 k] t)) w5) :
    w5.cell? ⟨W.heap.size, 0, none⟩ = some (.int .u64 m) ∧ w5.cell? ⟨W.heap.size, 1, none⟩ = some (.int .u64 k) ∧ w5.frozen? ⟨W.heap.size, 0, none⟩ = false ∧ w5.frozen? ⟨W.heap.size, 1, none⟩ = false := by
  have hb : w5.heap[W.heap.size]? = some (.cells #[.int .u64 m, .int .u64 k] t (0, 0)) := (h.block W.heap.size (by simp)).trans (heap_alloc_new W _)
  exact ⟨cell_of_row w5 W.heap.size 0 _ _ (0, 0) hb, cell_of_row w5 W.heap.size 1 _ _ (0, 0) hb, frozen_of_row w5 W.heap.size 0 _ _ hb, frozen_of_row w5 W.heap.size 1 _ _ hb⟩

set_option maxRecDepth 100000 in
set_option maxHeartbeats 4000000 in
theorem edges18_at (lo hi mo : Int) (k : Nat) (l0 : 0 ≤ lo) (g0 : 0 ≤ hi) (m0 : 0 ≤ mo) (a : Option Addr) (n c : Nat) (zs : List Int) (high : Int) (i0 : 0 ≤ high) (i1 : high ≤ 18446744073709551615) (w : World) (hr : Row1 .u64 w a n zs) (hn : n ≤ 300) (hok : rok lo hi mo k = true) :
    Calls Try.prog 8 #[.agg #[.int .u64 lo, .int .u64 hi, .int .u64 mo, .int .i64 k], .slice a n c, .int .u64 high] w fun e w' => e = .returned (.bool true) ∧ Below w.heap.size w w' := by
  obtain ⟨r1, r2, r3, r4, r5, r6⟩ := rok_iff.1 hok
  have HR := Lib.hid hr
  have CM := Lib.hid (fun W => red_may lo hi mo k l0 g0 m0 W)
  rw [hok] at CM
  have HOK := Lib.hid hok
  clear hr hok
  go_enter Try.func8, Try.ntmps8
  go_wp2_with fail
  refine (CM.out _).mono ?_
  rintro e w' ⟨rfl, rfl⟩
  go_wp2
  generalize hB1 : w.heap.size + 1 + 1 = B1
  have b1a : w.heap.size < B1 := by omega
  have b1b : w.heap.size ≤ B1 := by omega
  go_loopw [27] (fun x wr => ∃ (i : Nat) (m : Int), x = .int .i64 i ∧ i ≤ n ∧ (0 ≤ m ∧ m ≤ 18446744073709551615) ∧ Hid (lo = 0 ∨ m < lo * 2 ^ k) ∧
    At4 wr w.heap.size lo hi mo k ∧ StAt wr B1 m 0 ∧ Below w.heap.size w wr) (fun x _ => n - (intOf x).toNat)
  case atStart =>
    refine ⟨0, 0, rfl, Nat.zero_le _, ⟨by decide, by decide⟩, Lib.hid ?_, ?_, ?_, ?_⟩
    · by_cases h : lo = 0
      · exact Or.inl h
      · exact Or.inr (Int.mul_pos (by omega) (pow2_pos k))
    · refine ⟨by simp; omega, ?_, ?_, ?_, ?_⟩ <;> simp [go_sem]
    · subst hB1
      show (World.heap _)[_]? = _
      have := heap_alloc_new ((w.alloc (.cells #[.int .u64 lo, .int .u64 hi, .int .u64 mo, .int .i64 k] 52)).alloc (.cells #[.int .u64 lo, .int .u64 hi, .int .u64 mo, .int .i64 k] 52)) (.cells #[.int .u64 0, .int .u64 0] 54)
      simpa using this
    · repeat' (first | exact Below.refl _ _ | refine Below.alloc ?_ (by simp; try omega) _)
  case round =>
    obtain ⟨i, m, rfl, hi1, hm, hJ, hA, hS, hb⟩ := hrel
    by_cases hlt : i < n
    · obtain ⟨hzl, hzm, hzw, hzc⟩ := HR.out
      obtain ⟨b, off, rfl, hb0, hc⟩ := hzc (by omega)
      have cx := (hb.cell (p := ⟨b, off + i, none⟩) hb0).trans (hc i hlt)
      have hxw := bounds_u64 (hzw (zs.getD i 0) (by rw [List.getD_eq_getElem?_getD, List.getElem?_eq_getElem (by omega : i < zs.length)]; exact List.getElem_mem _))
      generalize zs.getD i 0 = x at *
      clear hzc hc hzw hzl hzm
      by_cases hl0 : lo = 0
      · have lz : (lo == 0) = true := by simp [hl0]
        clear hl0
        have X1 := Lib.hid (rst_same (lo := lo) (mo := mo) (x := hi + high % 1099511627776) (cn := 0) HOK.out (by omega) (by omega))
        have x0 : 0 ≤ hi + high % 1099511627776 := by omega
        have x1 : hi + high % 1099511627776 ≤ 2199023255552 := by omega
        have X2 := Lib.hid (X1.out.1 (by omega))
        obtain ⟨-, -, v0, v1⟩ := X1.out
        clear X1
        obtain ⟨X, hX⟩ : ∃ X, hi + high % 1099511627776 = X := ⟨_, rfl⟩
        rw [hX] at X2 x0 x1 v0 v1
        have wx : IntKind.u64.wrap (hi + high % 1099511627776) = X := by rw [hX, IntKind.wrap_u64]; omega
        have hk16 : k ≤ 16 := by omega
        obtain ⟨z, a0, a1, a2, a3⟩ := hA
        obtain ⟨z1, e0, e1, f0, f1⟩ := hS.at
        have HS := Lib.hid hS; have HB := Lib.hid hb; have HA := Lib.hid (show At4 wr w.heap.size lo hi mo k from ⟨z, a0, a1, a2, a3⟩)
        clear hS hb hm hJ
        go_wp2
        have HS2 := Lib.hid (st_put HS.out (X * 2 ^ k) 0)
        have FX : Below B1 wr ((wr.setCell ⟨B1, 0, none⟩ (.int .u64 (X * 2 ^ k))).setCell ⟨B1, 1, none⟩ (.int .u64 0)) := ((Below.refl _ _).setCell (Nat.le_refl B1) _).setCell (Nat.le_refl B1) _
        have HA2 := Lib.hid (HA.out.below FX b1a)
        have HB2 := Lib.hid (HB.out.trans (FX.mono b1b))
        clear FX a0 a1 a2 a3 e0 e1 f0 f1 z z1 HS HA HB
        generalize X * 2 ^ k = Y at *
        go_loopw [57] (fun x wt => ∃ t : Nat, x = .int .i64 t ∧ t ≤ 5 ∧ At4 wt w.heap.size lo hi mo k ∧ StAt wt B1 Y 0 ∧ Below w.heap.size w wt) (fun x _ => 5 - (intOf x).toNat)
        case atStart => exact ⟨0, rfl, by omega, HA2.out, HS2.out, HB2.out⟩
        case round =>
          obtain ⟨t, rfl, ht, hA, hS, hb⟩ := hrel
          by_cases hlt2 : t < 5
          · have STEP := Lib.hid (fun W => red_step lo hi mo k Y 0 X l0 g0 m0 (by omega) (by omega) v0 (by omega) (by decide) (by decide) x0 (by omega) W)
            rw [X2.out] at STEP
            dsimp only at STEP
            have HA := Lib.hid hA; have HSS := Lib.hid hS; have HB := Lib.hid hb
            obtain ⟨z, a0, a1, a2, a3⟩ := hA
            obtain ⟨z2, e0, e1, f0, f1⟩ := hS.at
            clear hS hb
            go_wp2_with fail
            refine (STEP.out _).mono ?_
            rintro e w5 ⟨rfl, b5⟩
            have HA5 := Lib.hid (HA.out.below b5 z)
            have HS5 := Lib.hid (show StAt w5 B1 Y 0 from (b5.block B1 z2).trans HSS.out)
            have HB5 := Lib.hid (below_onto HB.out b5 HB.out.size)
            have z5 := HS5.out.at.1
            obtain ⟨-, e50, e51, f50, f51⟩ := HS5.out.at
            clear b5 STEP a0 a1 a2 a3 e0 e1 f0 f1 z z2
            go_wp2
            go_roundw
            case rel =>
              have FX : Below B1 w5 (((w5.setCell ⟨B1, 0, none⟩ (.int .u64 Y)).setCell ⟨B1, 1, none⟩ (.int .u64 0)).alloc (.cells #[.int .u64 Y, .int .u64 0] 54)) := (((Below.refl _ _).setCell (Nat.le_refl B1) _).setCell (Nat.le_refl B1) _).alloc (by simp; omega) _
              exact ⟨t + 1, by go_num, by omega, HA5.out.below FX b1a, StAt.keep (st_put HS5.out Y 0) (heap_alloc_old _ _ (by simp; omega)), HB5.out.trans (FX.mono b1b)⟩
            case measure => simp [intOf] <;> omega
          · obtain rfl : t = 5 := by omega
            have HB := Lib.hid hb
            clear hb hA hS
            go_wp2_with fail
            refine (lives18 _).mono ?_
            rintro e w9 ⟨rfl, b9⟩
            have HB9 := Lib.hid (below_onto HB.out b9 HB.out.size)
            clear b9
            go_wp2
            go_ret
            exact ⟨rfl, HB9.out⟩
      · have hl1 : 1 ≤ lo := by omega
        have x0 : 0 ≤ x % lo := Int.emod_nonneg _ hl0
        have x1 : x % lo < lo := Int.emod_lt_of_pos _ (by omega)
        have lz : (lo == 0) = false := by simp [hl0]
        have et : x.tmod lo = x % lo := Int.tmod_eq_emod_of_nonneg hxw.1
        obtain ⟨m', hst, q0, q1, q2⟩ := rst_low HOK.out hl1 hm.1 (hJ.out.resolve_left hl0) x0 x1
        obtain ⟨y, hy⟩ : ∃ y, x % lo = y := ⟨_, rfl⟩
        rw [hy] at et hst x0 x1
        have STEP := Lib.hid (fun W => red_step lo hi mo k m 0 y l0 g0 m0 (by omega) (by omega) hm.1 hm.2 (by decide) (by decide) x0 (by omega) W)
        rw [hst] at STEP
        dsimp only at STEP
        have HQ := Lib.hid q1
        have HA := Lib.hid hA; have HSS := Lib.hid hS; have HB := Lib.hid hb
        obtain ⟨z, a0, a1, a2, a3⟩ := hA
        obtain ⟨z2, e0, e1, f0, f1⟩ := hS.at
        clear hS hb hst hy q1 hJ hm
        go_wp2
        have SK := Lib.hid (show ∀ v, Below wr.heap.size wr v → v.cell? ⟨w.heap.size, 0, none⟩ = some (.int .u64 lo) ∧ v.cell? ⟨w.heap.size, 1, none⟩ = some (.int .u64 hi) ∧ v.cell? ⟨w.heap.size, 2, none⟩ = some (.int .u64 mo) ∧ v.cell? ⟨w.heap.size, 3, none⟩ = some (.int .i64 k) ∧ v.cell? ⟨B1, 0, none⟩ = some (.int .u64 m) ∧ v.cell? ⟨B1, 1, none⟩ = some (.int .u64 0) from fun v hv =>
          ⟨(HA.out.below hv z).2.1, (HA.out.below hv z).2.2.1, (HA.out.below hv z).2.2.2.1, (HA.out.below hv z).2.2.2.2, (hv.cell (p := ⟨B1, 0, none⟩) z2).trans e0, (hv.cell (p := ⟨B1, 1, none⟩) z2).trans e1⟩)
        go_region_held3 (fun v => v.cell? ⟨w.heap.size, 0, none⟩ = some (.int .u64 lo) ∧ v.cell? ⟨w.heap.size, 1, none⟩ = some (.int .u64 hi) ∧ v.cell? ⟨w.heap.size, 2, none⟩ = some (.int .u64 mo) ∧ v.cell? ⟨w.heap.size, 3, none⟩ = some (.int .i64 k) ∧ v.cell? ⟨B1, 0, none⟩ = some (.int .u64 m) ∧ v.cell? ⟨B1, 1, none⟩ = some (.int .u64 0))
          ((exact SK.out _ (by repeat' (first | (with_reducible exact Below.refl _ _) | (with_reducible assumption) | (with_reducible refine Below.alloc ?_ ?_ _) | (with_reducible refine below_drewN _ ?_) | (with_reducible refine Below.drew ?_) | (with_reducible refine Below.setCell ?_ ?_ _) | (exact Below.size (by assumption)) | go_size))))
          (first
            | (go_at_call 36; refine (STEP.out _).mono ?_; rintro e w5 ⟨rfl, b5⟩; (first | (have b6 : Below (wr.alloc (.cells #[.int .u64 0, .int .u64 0] 54)).drew.heap.size (wr.alloc (.cells #[.int .u64 0, .int .u64 0] 54)).drew w5 := (by with_reducible exact b5); have y : w5.cell? ⟨wr.heap.size, 0, none⟩ = some (.int .u64 0) ∧ w5.cell? ⟨wr.heap.size, 1, none⟩ = some (.int .u64 0) ∧ w5.frozen? ⟨wr.heap.size, 0, none⟩ = false ∧ w5.frozen? ⟨wr.heap.size, 1, none⟩ = false := new_state (W := wr) (m := 0) (k := 0) (t := 54) ⟨b6.os, b6.tape, b6.output, b6.size, b6.block⟩; obtain ⟨y0, y1, y2, y3⟩ := y; clear b6) | skip); have B5 : Below wr.heap.size wr w5 := Below.trans (by repeat' (first | (with_reducible exact Below.refl _ _) | (with_reducible assumption) | (with_reducible refine Below.alloc ?_ ?_ _) | (with_reducible refine below_drewN _ ?_) | (with_reducible refine Below.drew ?_) | (with_reducible refine Below.setCell ?_ ?_ _) | (exact Below.size (by assumption)) | go_size)) (b5.mono (by go_size)); clear b5)
            | fail)
        · have HA5 := Lib.hid (HA.out.below B5 z)
          have HS5 := Lib.hid (show StAt w5 B1 m 0 from (B5.block B1 z2).trans HSS.out)
          have HB5 := Lib.hid (below_onto HB.out B5 HB.out.size)
          have HSZ := Lib.hid B5.size
          have z5 := HS5.out.at.1
          obtain ⟨-, e50, e51, f50, f51⟩ := HS5.out.at
          clear B5 STEP a0 a1 a2 a3 e0 e1 f0 f1 cx z SK
          go_wp2
          go_roundw
          case rel =>
            have hsz := HSZ.out
            have hwz := HB.out.size
            have FX : Below B1 w5 (((w5.setCell ⟨B1, 0, none⟩ (.int .u64 m')).setCell ⟨B1, 1, none⟩ (.int .u64 0)).alloc (.cells #[.int .u64 m', .int .u64 0] 54)) := (((Below.refl _ _).setCell (Nat.le_refl B1) _).setCell (Nat.le_refl B1) _).alloc (by simp; omega) _
            refine ⟨i + 1, m', by go_num, by omega, ⟨q0, q2⟩, Lib.hid (Or.inr HQ.out), HA5.out.below FX b1a, ?_, HB5.out.trans (FX.mono b1b)⟩
            exact StAt.keep (st_put HS5.out m' 0) (heap_alloc_old _ _ (by simp; omega))
          case measure => simp [intOf] <;> omega
        · have HA5 := Lib.hid (HA.out.below B5 z)
          have HS5 := Lib.hid (show StAt w5 B1 m 0 from (B5.block B1 z2).trans HSS.out)
          have HB5 := Lib.hid (below_onto HB.out B5 HB.out.size)
          have HSZ := Lib.hid B5.size
          have z5 := HS5.out.at.1
          obtain ⟨-, e50, e51, f50, f51⟩ := HS5.out.at
          clear B5 STEP a0 a1 a2 a3 e0 e1 f0 f1 cx z SK
          go_wp2
          go_roundw
          case rel =>
            have hsz := HSZ.out
            have hwz := HB.out.size
            have FX : Below B1 w5 ((((w5.setCell ⟨wr.heap.size, 0, none⟩ (.int .u64 m')).setCell ⟨wr.heap.size, 1, none⟩ (.int .u64 0)).setCell ⟨B1, 0, none⟩ (.int .u64 m')).setCell ⟨B1, 1, none⟩ (.int .u64 0)) := ((((Below.refl _ _).setCell (Nat.le_of_lt z2) _).setCell (Nat.le_of_lt z2) _).setCell (Nat.le_refl B1) _).setCell (Nat.le_refl B1) _
            refine ⟨i + 1, m', by go_num, by omega, ⟨q0, q2⟩, Lib.hid (Or.inr HQ.out), HA5.out.below FX b1a, ?_, HB5.out.trans (FX.mono b1b)⟩
            exact st_put (HS5.out.keep (w' := (w5.setCell ⟨wr.heap.size, 0, none⟩ (.int .u64 m')).setCell ⟨wr.heap.size, 1, none⟩ (.int .u64 0)) ((heap_setCell_other _ ⟨wr.heap.size, 1, none⟩ _ _ (by simp; omega)).trans (heap_setCell_other _ ⟨wr.heap.size, 0, none⟩ _ _ (by simp; omega)))) m' 0
          case measure => simp [intOf] <;> omega
    · obtain rfl : i = n := by omega
      have X1 := Lib.hid (rst_same (lo := lo) (mo := mo) (x := hi + high % 1099511627776) (cn := 0) HOK.out (by omega) (by omega))
      have x0 : 0 ≤ hi + high % 1099511627776 := by omega
      have x1 : hi + high % 1099511627776 ≤ 2199023255552 := by omega
      have X2 := Lib.hid (X1.out.1 (by omega))
      obtain ⟨-, -, v0, v1⟩ := X1.out
      clear X1
      obtain ⟨X, hX⟩ : ∃ X, hi + high % 1099511627776 = X := ⟨_, rfl⟩
      rw [hX] at X2 x0 x1 v0 v1
      have wx : IntKind.u64.wrap (hi + high % 1099511627776) = X := by rw [hX, IntKind.wrap_u64]; omega
      have hk16 : k ≤ 16 := by omega
      obtain ⟨z, a0, a1, a2, a3⟩ := hA
      obtain ⟨z1, e0, e1, f0, f1⟩ := hS.at
      have HS := Lib.hid hS; have HB := Lib.hid hb; have HA := Lib.hid (show At4 wr w.heap.size lo hi mo k from ⟨z, a0, a1, a2, a3⟩)
      clear hS hb hm hJ
      go_wp2
      have HS2 := Lib.hid (st_put HS.out (X * 2 ^ k) 0)
      have FX : Below B1 wr ((wr.setCell ⟨B1, 0, none⟩ (.int .u64 (X * 2 ^ k))).setCell ⟨B1, 1, none⟩ (.int .u64 0)) := ((Below.refl _ _).setCell (Nat.le_refl B1) _).setCell (Nat.le_refl B1) _
      have HA2 := Lib.hid (HA.out.below FX b1a)
      have HB2 := Lib.hid (HB.out.trans (FX.mono b1b))
      clear FX a0 a1 a2 a3 e0 e1 f0 f1 z z1 HS HA HB
      generalize X * 2 ^ k = Y at *
      go_loopw [57] (fun x wt => ∃ t : Nat, x = .int .i64 t ∧ t ≤ 5 ∧ At4 wt w.heap.size lo hi mo k ∧ StAt wt B1 Y 0 ∧ Below w.heap.size w wt) (fun x _ => 5 - (intOf x).toNat)
      case atStart => exact ⟨0, rfl, by omega, HA2.out, HS2.out, HB2.out⟩
      case round =>
        obtain ⟨t, rfl, ht, hA, hS, hb⟩ := hrel
        by_cases hlt2 : t < 5
        · have STEP := Lib.hid (fun W => red_step lo hi mo k Y 0 X l0 g0 m0 (by omega) (by omega) v0 (by omega) (by decide) (by decide) x0 (by omega) W)
          rw [X2.out] at STEP
          dsimp only at STEP
          have HA := Lib.hid hA; have HSS := Lib.hid hS; have HB := Lib.hid hb
          obtain ⟨z, a0, a1, a2, a3⟩ := hA
          obtain ⟨z2, e0, e1, f0, f1⟩ := hS.at
          clear hS hb
          go_wp2_with fail
          refine (STEP.out _).mono ?_
          rintro e w5 ⟨rfl, b5⟩
          have HA5 := Lib.hid (HA.out.below b5 z)
          have HS5 := Lib.hid (show StAt w5 B1 Y 0 from (b5.block B1 z2).trans HSS.out)
          have HB5 := Lib.hid (below_onto HB.out b5 HB.out.size)
          have z5 := HS5.out.at.1
          obtain ⟨-, e50, e51, f50, f51⟩ := HS5.out.at
          clear b5 STEP a0 a1 a2 a3 e0 e1 f0 f1 z z2
          go_wp2
          go_roundw
          case rel =>
            have FX : Below B1 w5 (((w5.setCell ⟨B1, 0, none⟩ (.int .u64 Y)).setCell ⟨B1, 1, none⟩ (.int .u64 0)).alloc (.cells #[.int .u64 Y, .int .u64 0] 54)) := (((Below.refl _ _).setCell (Nat.le_refl B1) _).setCell (Nat.le_refl B1) _).alloc (by simp; omega) _
            exact ⟨t + 1, by go_num, by omega, HA5.out.below FX b1a, StAt.keep (st_put HS5.out Y 0) (heap_alloc_old _ _ (by simp; omega)), HB5.out.trans (FX.mono b1b)⟩
          case measure => simp [intOf] <;> omega
        · obtain rfl : t = 5 := by omega
          have HB := Lib.hid hb
          clear hb hA hS
          go_wp2_with fail
          refine (lives18 _).mono ?_
          rintro e w9 ⟨rfl, b9⟩
          have HB9 := Lib.hid (below_onto HB.out b9 HB.out.size)
          clear b9
          go_wp2
          go_ret
          exact ⟨rfl, HB9.out⟩
set_option maxRecDepth 100000 in
theorem edges18_long (lo hi mo sw : Int) (l0 : 0 ≤ lo) (g0 : 0 ≤ hi) (m0 : 0 ≤ mo) (a : Option Addr) (n c : Nat) (high : Int) (w : World) (hm : n ≤ maxLen) (hn : 300 < n) :
    Calls Try.prog 8 #[.agg #[.int .u64 lo, .int .u64 hi, .int .u64 mo, .int .i64 sw], .slice a n c, .int .u64 high] w fun e w' => e = .returned (.bool true) ∧ Below w.heap.size w w' := by
  unfold maxLen at hm
  have h1 : (300 : Int) < n := by omega
  go_enter Try.func8, Try.ntmps8
  go_wp2_with fail
  refine (lives18 _).mono ?_
  rintro e w9 ⟨rfl, b9⟩
  have HB9 := Lib.hid (below_onto (show Below w.heap.size w _ from by repeat' (first | exact Below.refl _ _ | refine Below.alloc ?_ (by simp; try omega) _)) b9 (by simp; try omega))
  clear b9
  go_wp2
  go_ret
  exact ⟨rfl, HB9.out⟩
set_option maxRecDepth 100000 in
theorem edges18_no (lo hi mo sw : Int) (l0 : 0 ≤ lo) (g0 : 0 ≤ hi) (m0 : 0 ≤ mo) (a : Option Addr) (n c : Nat) (high : Int) (w : World) (hm : n ≤ maxLen) (hn : n ≤ 300) (hok : rok lo hi mo sw = false) :
    Calls Try.prog 8 #[.agg #[.int .u64 lo, .int .u64 hi, .int .u64 mo, .int .i64 sw], .slice a n c, .int .u64 high] w fun e w' => e = .returned (.bool true) ∧ Below w.heap.size w w' := by
  unfold maxLen at hm
  have CM := Lib.hid (fun W => red_may lo hi mo sw l0 g0 m0 W)
  rw [hok] at CM
  go_enter Try.func8, Try.ntmps8
  go_wp2_with fail
  refine (CM.out _).mono ?_
  rintro e w' ⟨rfl, rfl⟩
  go_wp2_with fail
  refine (lives18 _).mono ?_
  rintro e w9 ⟨rfl, b9⟩
  have HB9 := Lib.hid (below_onto (show Below w.heap.size w _ from by repeat' (first | exact Below.refl _ _ | refine Below.alloc ?_ (by simp; try omega) _)) b9 (by simp; try omega))
  clear b9
  go_wp2
  go_ret
  exact ⟨rfl, HB9.out⟩
theorem walk_redEdges (lo : Int) (lo0 : 0 ≤ lo) (lo1 : lo ≤ 18446744073709551615) (hi : Int) (hi0 : 0 ≤ hi) (hi1 : hi ≤ 18446744073709551615) (mo : Int) (mo0 : 0 ≤ mo) (mo1 : mo ≤ 18446744073709551615) (sw : Int) (s0 : -9223372036854775808 ≤ sw) (s1 : sw ≤ 9223372036854775807) (a : Option Addr) (n c : Nat) (zs : List Int) {w : World} (hr : Row1 .u64 w a n zs) (hc : n ≤ c) (high : Int) (i0 : 0 ≤ high) (i1 : high ≤ 18446744073709551615) :
    Calls Try.prog 8 #[.agg #[.int .u64 lo, .int .u64 hi, .int .u64 mo, .int .i64 sw], .slice a n c, .int .u64 high] w fun e w' => e = .returned (.bool true) ∧ Below w.heap.size w w' := by
  by_cases hn : n ≤ 300
  · by_cases hok : rok lo hi mo sw = true
    · obtain ⟨k, rfl⟩ : ∃ k : Nat, sw = k := ⟨sw.toNat, by have := rok_iff.1 hok; omega⟩
      exact edges18_at lo hi mo k lo0 hi0 mo0 a n c zs high i0 i1 w hr hn hok
    · exact edges18_no lo hi mo sw lo0 hi0 mo0 a n c high w hr.2.1 hn (by simpa using hok)
  · exact edges18_long lo hi mo sw lo0 hi0 mo0 a n c high w hr.2.1 (by omega)
end Go.Proofs.Ytdokllignldbeaa
