/-
  The law of layer 14 on two numbers that change places, walked: true for any row and any place. No condition.
-/
import Derived.Test.YteblhgmepfegpabInvTell
namespace Go.Proofs.Yteblhgmepfegpab
set_option linter.unusedVariables false
set_option linter.unusedSimpArgs false
open Go.ChangeShapes Go.WideShapes Go.ChangeAt Go.RowKit
attribute [local go_sem] alloc_drewN setCell_drewN

theorem NumAt.congr {w : World} {base n : Nat} {v : Value} {z z' : Nat → Int} (h : NumAt w base v z n) (hz : ∀ i, i < n → z i = z' i) : NumAt w base v z' n := by
  obtain ⟨a, c, e, hc⟩ := h
  refine ⟨a, c, e, fun i hi => ?_⟩
  obtain ⟨b, off, h1, h2, h3, h4⟩ := hc i hi
  exact ⟨b, off, h1, h2, h3, by rw [← hz i hi]; exact h4⟩
theorem swap_row (zs : List Int) (z : Nat → Int) (k : Nat) (hk : k + 1 < zs.length) (hz : ∀ i, zs.getD i 0 = z i) : ∀ i, i < zs.length → ((zs.set k (z (k + 1))).set (k + 1) (z k)).getD i 0 = swN z k i := by
  intro i hi
  rw [getD_set0 _ _ _ _ (by rw [List.length_set]; exact hk)]
  unfold swN
  by_cases h1 : i = k + 1
  · rw [if_pos h1, if_neg (by omega), if_pos h1]
  · rw [if_neg h1, getD_set0 _ _ _ _ (by omega), if_neg h1, hz]
set_option maxRecDepth 100000 in
set_option maxHeartbeats 4000000 in
theorem walk_invertSwap (a : Option Addr) (n c : Nat) (zs : List Int) {w : World} (hr : Row1 .u64 w a n zs) (hcap : n ≤ c) (x : Int) (x0 : -9223372036854775808 ≤ x) (x1 : x ≤ 9223372036854775807) :
    Calls Try.prog 5 #[.slice a n c, .int .i64 x] w fun e w' => e = .returned (.bool true) ∧ Below w.heap.size w w' := by
  obtain ⟨i0, hi0, hz0, hz1, hz2⟩ := info_parts infoU
  by_cases hbig : 400 < n ∨ n < 2
  · have hm := hr.2.1
    unfold maxLen at hm
    clear hr
    rcases hbig with hb | hb
    · go_enter Try.func5, Try.ntmps5
      go_wp2_with fail
      refine (lives14 _).mono ?_
      rintro e w5 ⟨rfl, h5⟩
      go_wp2
      go_ret
      exact ⟨rfl, h5⟩
    · have hb2 : ¬ (400 : Int) < n := by omega
      have hb3 : (n : Int) < 2 := by omega
      clear hb
      go_enter Try.func5, Try.ntmps5
      go_wp2_with fail
      refine (lives14 _).mono ?_
      rintro e w5 ⟨rfl, h5⟩
      go_wp2
      go_ret
      exact ⟨rfl, h5⟩
  have hn : n ≤ 400 := by omega
  have hn2 : 2 ≤ n := by omega
  obtain ⟨z, hzz⟩ : ∃ z : Nat → Int, z = fun i => zs.getD i 0 := ⟨_, rfl⟩
  have HN := Lib.hid (show NumAt w w.heap.size (.slice a n c) z n by rw [hzz]; exact hr.num)
  have HZ := Lib.hid (show ∀ i, zs.getD i 0 = z i from fun i => by rw [hzz])
  clear hzz
  have hlz := hr.1
  have hno : ¬ (400 : Int) < n := by omega
  have hno2 : ¬ (n : Int) < 2 := by omega
  have hb1 : Below w.heap.size w (w.alloc (.cells #[] 24)) := (Below.refl _ w).alloc (Nat.le_refl _) _
  have HB1 := Lib.hid hb1
  have HO := Lib.hid (show (w.alloc (.cells #[] 24)).ownsRow w.heap.size 24 1 (.slice (some ⟨w.heap.size, 0, none⟩) 0 0) 0 [] from World.ownsRow_lit w #[] 0 (Nat.le_refl _) (Nat.zero_le _) rfl)
  obtain ⟨b, off, rfl, hb, hc⟩ := hr.2.2.2 (by omega)
  have HC := Lib.hid (show ∀ j u, (zs.map (Value.int .u64))[j]? = some u → (w.alloc (.cells #[] 24)).cell? ((⟨b, off, none⟩ : Addr).add j) = some u from fun j u hu => by
    have hj : j < n := by
      have := (List.getElem?_eq_some_iff.1 hu).1
      simpa [hlz] using this
    rw [Go.WideShapes.add_plain]
    refine (HB1.out.cell (p := ⟨b, off + j, none⟩) hb).trans ((hc j hj).trans ?_)
    rw [← hu, List.getElem?_map, List.getD_eq_getElem?_getD, List.getElem?_eq_getElem (by omega)]; rfl)
  have HL := Lib.hid (show (zs.map (Value.int .u64)).length = n * 1 by rw [List.length_map]; omega)
  have H1 := Lib.hid (show ∀ u ∈ zs.map (Value.int .u64), u.oneCell' = true from fun u hu => by obtain ⟨x, _, rfl⟩ := List.mem_map.1 hu; rfl)
  have nw1 : IntKind.i64.wrap ((n : Int) - 1) = (n : Int) - 1 := by rw [IntKind.wrap_i64]; omega
  have nw2 : IntKind.u64.wrap ((n : Int) - 1) = (n : Int) - 1 := by rw [IntKind.wrap_u64]; omega
  have u0 : 0 ≤ IntKind.u64.wrap x := by rw [IntKind.wrap_u64]; omega
  obtain ⟨k, hk, hkm⟩ : ∃ k : Nat, wrap64 (IntKind.u64.wrap x % ((n : Int) - 1)) = (k : Int) ∧ k + 1 < n := by
    have h1 := Int.emod_nonneg (IntKind.u64.wrap x) (b := (n : Int) - 1) (by omega)
    have h2 := Int.emod_lt_of_pos (IntKind.u64.wrap x) (b := (n : Int) - 1) (by omega)
    refine ⟨((IntKind.u64.wrap x) % ((n : Int) - 1)).toNat, ?_, by omega⟩
    unfold wrap64
    omega
  have HK := Lib.hid hk
  clear hk
  have kw1 : IntKind.u64.wrap (k : Int) = (k : Int) := by rw [IntKind.wrap_u64]; omega
  have kw2 : IntKind.i64.wrap (k : Int) = (k : Int) := by rw [IntKind.wrap_i64]; omega
  have kw3 : IntKind.i64.wrap ((k : Int) + 1) = (k : Int) + 1 := by rw [IntKind.wrap_i64]; omega
  have nz : ¬ (n : Int) - 1 = 0 := by omega
  have k0 : (0 : Int) ≤ k := by omega
  have k1 : (k : Int) < n := by omega
  have k2 : (k : Int) + 1 < n := by omega
  have k3 : (0 : Int) ≤ (k : Int) + 1 := by omega
  clear hr hb1 hbig hc
  go_enter Try.func5, Try.ntmps5
  go_upto_region 4 with (fail)
  rw [HK.out]
  clear HK nz u0 nw1 nw2 x0 x1
  go_wp2_with (at_builtin; refine wpList_append_own _ rfl _ _ 22 rfl w.heap.size 24 i0 (.int .u64 0) 1 8 Try.underlying22 hi0 hz0 hz1 hz2 rfl (by decide) _ _ _ rfl HO.out ⟨b, off, none⟩ n c (zs.map (Value.int .u64)) rfl HL.out HC.out H1.out (by unfold maxLen; omega) (by omega) (by simp) ?_; intro v3 w3 ho4 hg3 hn3; clear hn3)
  have hm : U64s w3 w.heap.size v3 zs := by
    unfold U64s
    rw [hlz]
    simpa using ho4
  have hb3 : Below w.heap.size w w3 := HB1.out.grown hg3 (by simp) (fun g hg => (World.ownsRow.lt HO.out g hg).1)
  obtain ⟨am, cm, rfl, -, hmc⟩ := hm.form
  obtain ⟨g, rfl, hg0, hg, cg, fg⟩ := hmc k (by omega)
  obtain ⟨g', e', _, _, cg1, fg1⟩ := hmc (k + 1) (by omega)
  injection e' with e'; injection e' with e' _; subst e'
  rw [HZ.out] at cg cg1
  have NB := (num_grow HN.out hb3).open
  obtain ⟨b', off', e1, _, hbb, cb⟩ := NB k (by omega)
  injection e1 with e1; injection e1 with e1 e2; subst e1; subst e2
  obtain ⟨b', off', e1, _, _, cb1⟩ := NB (k + 1) (by omega)
  injection e1 with e1; injection e1 with e1 e2; subst e1; subst e2
  have hgb : ¬ g = b := fun e => by omega
  have hgb2 : ¬ b = g := fun e => hgb e.symm
  have ho5 := hm
  unfold U64s at ho5
  rw [hlz] at ho5 ⊢
  have S1 := row_put ho5 k (.int .u64 (z (k + 1)))
  have S2 := row_put S1 (k + 1) (.int .u64 (z k))
  have hlen2 : ((zs.set k (z (k + 1))).set (k + 1) (z k)).length = n := by rw [List.length_set, List.length_set]; exact hlz
  have S3 : U64s ((w3.setCell ⟨g, k, none⟩ (.int .u64 (z (k + 1)))).setCell ⟨g, k + 1, none⟩ (.int .u64 (z k))) w.heap.size (.slice (some ⟨g, 0, none⟩) n cm) ((zs.set k (z (k + 1))).set (k + 1) (z k)) := by
    unfold U64s
    rw [hlen2, List.map_set, List.map_set]
    exact S2
  have B3 := Lib.hid (below_set (below_set hb3 hg0 : Below w.heap.size w (w3.setCell ⟨g, k, none⟩ (.int .u64 (z (k + 1))))) hg0 : Below w.heap.size w ((w3.setCell ⟨g, k, none⟩ (.int .u64 (z (k + 1)))).setCell ⟨g, k + 1, none⟩ (.int .u64 (z k))))
  have N3 := Lib.hid (num_grow HN.out B3.out)
  have M3 := Lib.hid (show NumAt _ _ _ (swN z k) n from by
    have h := S3.num
    rw [hlen2] at h
    exact h.congr (fun i hi => swap_row zs z k (by omega) HZ.out i (by omega)))
  obtain ⟨d, hd⟩ : ∃ d, n = k + 2 + d := ⟨n - k - 2, by omega⟩
  have IS := inv_swap z k d
  rw [← hd] at IS
  have IB1 := invN_bound z n
  have IB2 := invN_bound (swN z k) n
  have HIS := Lib.hid IS
  have nn : n * n ≤ 160000 := Nat.mul_le_mul hn hn
  have HLIV := Lib.hid lives14
  clear S1 S2 S3 ho5 hm hb3 hmc NB ho4 hg3 hd IS
  go_region
  generalize (w3.setCell ⟨g, k, none⟩ (.int .u64 (z (k + 1)))).setCell ⟨g, k + 1, none⟩ (.int .u64 (z k)) = W at *
  have N4 := Lib.hid (num_grow N3.out ((Below.refl _ W).drew))
  have M4 := Lib.hid (num_grow M3.out ((Below.refl _ W).drew))
  have B4 := Lib.hid (show Below w.heap.size w W.drew from B3.out.drew)
  clear N3 M3 B3 cb cb1 cg cg1 fg fg1
  go_wp2_with fail
  refine (count14 hn _ _ _ N4.out).mono ?_
  rintro e w5 ⟨rfl, b5⟩
  have N5 := Lib.hid (num_grow N4.out b5)
  have M5 := Lib.hid (num_grow M4.out b5)
  have B5 := Lib.hid (B4.out.trans (b5.mono B4.out.size))
  clear b5
  go_wp2_with fail
  refine (count14 hn _ _ _ M5.out).mono ?_
  rintro e w6 ⟨rfl, b6⟩
  have N6 := Lib.hid (num_grow N5.out b6)
  have B6 := Lib.hid (B5.out.trans (b6.mono B5.out.size))
  clear b6
  have cb := N6.out.open k (by omega)
  have cb1 := N6.out.open (k + 1) (by omega)
  obtain ⟨b', off', e1, _, _, cb⟩ := cb
  injection e1 with e1; injection e1 with e1 e2; subst e1; subst e2
  obtain ⟨b', off', e1, _, _, cb1⟩ := cb1
  injection e1 with e1; injection e1 with e1 e2; subst e1; subst e2
  clear M4 M5 N4 N5 N6 HN HC
  generalize invN z n = I1 at *
  generalize invN (swN z k) n = I2 at *
  generalize z (k + 1) = z1 at *
  generalize z k = z0 at *
  have iw1 : IntKind.u64.wrap ((I1 : Int) + 1) = (I1 : Int) + 1 := by rw [IntKind.wrap_u64]; omega
  have iw2 : IntKind.u64.wrap ((I2 : Int) + 1) = (I2 : Int) + 1 := by rw [IntKind.wrap_u64]; omega
  have E0 := HIS.out
  rcases Int.lt_trichotomy z0 z1 with h | h | h
  · rw [decide_eq_true h, decide_eq_false (show ¬ z1 < z0 by omega)] at E0
    simp only [one1] at E0
    obtain rfl : I2 = I1 + 1 := by simpa using E0
    have d1 : decide (z0 < z1) = true := decide_eq_true h
    clear E0 HIS iw2
    go_wp2
    go_quiet (fail)
    have L7 := Lib.hid (HLIV.out (w6.drewN nq))
    go_wp2_with fail
    refine L7.out.mono ?_
    rintro e w7 ⟨rfl, b7⟩
    have B7 := Lib.hid (B6.out.trans ((below_drewN nq (Below.refl _ w6)).trans (b7.mono (Nat.le_refl _)) |>.mono B6.out.size))
    clear b7
    go_wp2
    go_ret
    exact ⟨rfl, B7.out⟩
  · subst h
    rw [decide_eq_false (show ¬ z0 < z0 by omega)] at E0
    obtain rfl : I2 = I1 := by simpa [one1] using E0
    clear E0 HIS
    go_wp2
    go_quiet (fail)
    go_wp2
    go_quiet (fail)
    go_wp2_with fail
    refine (HLIV.out _).mono ?_
    rintro e w7 ⟨rfl, b7⟩
    have B7 := Lib.hid (B6.out.trans ((below_drewN _ (Below.refl _ w6)).trans (b7.mono (Nat.le_refl _)) |>.mono B6.out.size))
    clear b7
    go_wp2
    go_ret
    exact ⟨rfl, B7.out⟩
  · rw [decide_eq_true h, decide_eq_false (show ¬ z0 < z1 by omega)] at E0
    simp only [one1] at E0
    obtain rfl : I1 = I2 + 1 := by simpa using E0.symm
    have d1 : decide (z0 < z1) = false := decide_eq_false (by omega)
    have d2 : decide (z1 < z0) = true := decide_eq_true h
    clear E0 HIS iw1
    go_wp2
    go_quiet (fail)
    go_wp2
    go_quiet (fail)
    go_wp2_with fail
    refine (HLIV.out _).mono ?_
    rintro e w7 ⟨rfl, b7⟩
    have B7 := Lib.hid (B6.out.trans ((below_drewN _ (Below.refl _ w6)).trans (b7.mono (Nat.le_refl _)) |>.mono B6.out.size))
    clear b7
    go_wp2
    go_ret
    exact ⟨rfl, B7.out⟩
end Go.Proofs.Yteblhgmepfegpab
