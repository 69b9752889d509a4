/-
  The document's answer for layer 3: decimal signs, units, lists of texts. What lay below the heap's end stands. No condition but that numbers are words.
-/
import Derived.Test.YtffedahmakhjeaaDoorDigBytes
import Derived.Test.YtffedahmakhjeaaDoorRows
import Derived.Deep.RegionWith
import Derived.Outline
namespace Go.Proofs.YtffedahmakhjeaaDoor
set_option linter.unusedVariables false
set_option linter.unusedSimpArgs false
open Go.ChangeShapes Go.WideShapes Go.ChangeAt Go.RowKit
attribute [-go_sem] run_index_string binOp_string_eql binOp_string_neq run_string_add_if run_slice_string_from_if run_slice_string_to_if
attribute [local go_sem] index_bt add_fits slice_from slice_to eql_str neq_str alloc_drewN setCell_drewN

theorem signs_at (d : Nat) (h : d < 10) : (⟨#[48, 49, 50, 51, 52, 53, 54, 55, 56, 57]⟩ : ByteArray).extract d (d + 1) = chrs [48 + (d : Int)] := by
  have : ∀ d : Fin 10, (⟨#[48, 49, 50, 51, 52, 53, 54, 55, 56, 57]⟩ : ByteArray).extract d.val (d.val + 1) = chrs [48 + (d.val : Int)] := by decide +kernel
  exact this ⟨d, h⟩
theorem put_one (n : Int) (n0 : 0 ≤ n) (n1 : n < 10) (w : World) :
    Calls Tryd.prog 34 #[.int .u64 n] w fun e w' => e = .returned (.string (chrs [48 + n])) ∧ Below w.heap.size w w' := by
  obtain ⟨d, rfl⟩ := Int.eq_ofNat_of_zero_le n0
  have hs := signs_at d (by omega)
  have h1 : (d : Int) ≤ (d : Int) + 1 := by omega
  have h2 : (d : Int) + 1 ≤ 10 := by omega
  have h3 : ((d : Int) % 10) = (d : Int) := by omega
  go_enter Tryd.func34, Tryd.ntmps34
  go_wp2
  go_ret
  exact ⟨rfl, Below.refl _ _⟩
theorem put_step (n : Int) (n0 : 10 ≤ n) (n1 : n ≤ 18446744073709551615) (t : ByteArray) (ht : t.size ≤ 100)
    (ih : ∀ w : World, Calls Tryd.prog 34 #[.int .u64 (n / 10)] w fun e w' => e = .returned (.string t) ∧ Below w.heap.size w w') (w : World) :
    Calls Tryd.prog 34 #[.int .u64 n] w fun e w' => e = .returned (.string (t ++ chrs [48 + n % 10])) ∧ Below w.heap.size w w' := by
  have IH := Lib.hid ih; clear ih
  obtain ⟨d, hd⟩ : ∃ d : Nat, n % 10 = (d : Int) := ⟨(n % 10).toNat, by omega⟩
  have hd9 : d < 10 := by omega
  have hs := signs_at d hd9
  have hf : Fits t (chrs [48 + (d : Int)]) := ⟨by rw [chrs_size]; simp; omega⟩
  have h1 : (d : Int) ≤ (d : Int) + 1 := by omega
  have h2 : (d : Int) + 1 ≤ 10 := by omega
  have h3 : IntKind.i64.wrap ((d : Int) + 1) = (d : Int) + 1 := by rw [IntKind.wrap_i64]; omega
  have h4 : ((d : Int) + 1).toNat = d + 1 := by omega
  have d1 : IntKind.u64.wrap (n.tdiv 10) = n / 10 := by rw [IntKind.wrap_u64, Int.tdiv_eq_ediv_of_nonneg (by omega)]; omega
  have d2 : n.tmod 10 = (d : Int) := by rw [Int.tmod_eq_emod_of_nonneg (by omega)]; exact hd
  rw [hd]
  have hl : ¬ n < 10 := by omega
  go_enter Tryd.func34, Tryd.ntmps34
  go_wp2
  go_region_with ((go_at_call 34; refine (IH.out _).mono ?_; rintro e w2 ⟨rfl, h1⟩))
  all_goals (go_wp2; go_ret; exact ⟨rfl, (Below.refl _ _).drew.trans h1⟩)
theorem put_any : ∀ (m : Nat) (n : Int), 0 ≤ n → n ≤ 18446744073709551615 → n < 10 ^ (m + 1) → m ≤ 90 → ∀ w : World,
    Calls Tryd.prog 34 #[.int .u64 n] w fun e w' => e = .returned (.string (decN m n)) ∧ Below w.heap.size w w' := by
  intro m
  induction m with
  | zero =>
    intro n n0 n1 h hm w
    exact put_one n n0 (by omega) w
  | succ m ih =>
    intro n n0 n1 h hm w
    unfold decN
    by_cases hl : n < 10
    · rw [if_pos hl]
      exact put_one n n0 hl w
    · rw [if_neg hl]
      have hp := decN_pos m (n / 10)
      refine put_step n (by omega) n1 _ (by omega) (ih (n / 10) (by omega) (by omega) ?_ (by omega)) w
      rw [Int.pow_succ] at h
      exact Int.ediv_lt_of_lt_mul (by decide) h
theorem refput_any (n : Int) (n0 : 0 ≤ n) (n1 : n ≤ 18446744073709551615) (w : World) :
    Calls Tryd.prog 34 #[.int .u64 n] w fun e w' => e = .returned (.string (dec n)) ∧ Below w.heap.size w w' :=
  put_any 19 n n0 n1 (by omega) (by omega) w
theorem nv_nonneg (s : ByteArray) : ∀ k : Nat, (∀ i : Nat, i < k → 48 ≤ bt s i ∧ bt s i ≤ 57) → 0 ≤ nv s k
  | 0, _ => Int.le_refl _
  | k + 1, h => by
    have ih := nv_nonneg s k (fun i hi => h i (by omega))
    have := h k (by omega)
    show 0 ≤ nv s k * 10 + (bt s k - 48)
    omega
set_option maxRecDepth 100000 in
set_option maxHeartbeats 1000000 in
theorem refread_any (s : ByteArray) (hs : s.size ≤ maxLen) (w : World) :
    Calls Tryd.prog 29 #[.string s] w fun e w' => e = .returned (.tuple #[.int .u64 (rd s).1, .int .i64 (rd s).2]) ∧ w = w' := by
  unfold maxLen at hs
  by_cases h0 : s.size = 0
  · have hr := rd_form s (fun h => by have := h.1; omega)
    rw [hr]
    have g : ((s.size : Int) == 0) = true := by rw [h0]; rfl
    have H0 := Lib.hid h0
    clear h0 hr
    go_enter Tryd.func29, Tryd.ntmps29
    go_wp2
    go_ret2
    exact ⟨rfl, rfl⟩
  · have g0 : ((s.size : Int) == 0) = false := by rw [beq_eq_false_iff_ne]; omega
    by_cases hz : 1 < s.size ∧ bt s 0 = 48
    · have hr := rd_form s (fun h => h.2.2 hz.1 hz.2)
      rw [hr]
      have g1 : (bt s 0 == 48) = true := by simp [hz.2]
      obtain ⟨h1, h2⟩ := hz
      clear h2 hr h0
      go_enter Tryd.func29, Tryd.ntmps29
      go_wp2
      go_ret2
      exact ⟨rfl, rfl⟩
    · have hlead : (1 < s.size → bt s 0 ≠ 48) := fun h1 h2 => hz ⟨h1, h2⟩
      have HL := Lib.hid hlead
      have hpos : 1 ≤ s.size := by omega
      have HPos := Lib.hid hpos
      have hcase : ((decide (1 < s.size)) = true ∧ (bt s 0 == 48) = false) ∨ (decide (1 < s.size)) = false := by
        by_cases h1 : 1 < s.size
        · exact Or.inl ⟨decide_eq_true h1, by rw [beq_eq_false_iff_ne]; exact hlead h1⟩
        · exact Or.inr (decide_eq_false h1)
      clear hz h0 hlead
      have key : ∀ gl : Prop, gl → gl := fun _ h => h
      have body : ∀ b1 b2 : Bool, (decide (1 < s.size)) = b1 → (b1 = true → (bt s 0 == 48) = b2) → (b1 && b2) = false →
          Calls Tryd.prog 29 #[.string s] w fun e w' => e = .returned (.tuple #[.int .u64 (rd s).1, .int .i64 (rd s).2]) ∧ w = w' := by
        intro b1 b2 hb1 hb2 hb
        obtain ⟨r1, r2, hr⟩ : ∃ r1 r2, rd s = (r1, r2) := ⟨_, _, rfl⟩
        have HR := Lib.hid hr
        rw [hr]
        clear hr
        have hb1' : decide (1 < (s.size : Int)) = b1 := by rw [← hb1]; exact decide_eq_decide.2 (by omega)
        cases b1 with
        | false =>
          clear hb2 hb hcase
          go_enter Tryd.func29, Tryd.ntmps29
          go_wp2
          go_loop [4, 5, 6] (fun x y z => ∃ (v : Int) (ov : Bool) (k : Nat), z = .int .i64 k ∧ x = .int .u64 v ∧ y = .bool ov ∧ k ≤ s.size ∧ 0 ≤ v ∧ v ≤ 18446744073709551615 ∧ (ov = false → v = nv s k) ∧ (ov = true → 18446744073709551615 < nv s k) ∧ (∀ i, i < k → 48 ≤ bt s i ∧ bt s i ≤ 57)) (fun _ _ z => s.size - (intOf z).toNat)
          case atStart => exact ⟨0, false, 0, rfl, rfl, rfl, Nat.zero_le _, by omega, by omega, fun _ => rfl, (fun h => by cases h), fun i h => by omega⟩
          case round =>
            obtain ⟨v, ov, k, rfl, rfl, rfl, hk, v0, v1, hv, hov, hall⟩ := hrel
            by_cases hlt : k < s.size
            · obtain ⟨c0, c1⟩ := bt_bd s k
              by_cases hd : 48 ≤ bt s k ∧ bt s k ≤ 57
              · have HV := Lib.hid hv; have HOV := Lib.hid hov
                have HA : Hid (∀ i, i < k + 1 → 48 ≤ bt s i ∧ bt s i ≤ 57) := Lib.hid fun i hi => by
                  by_cases h : i = k
                  · rw [h]; exact hd
                  · exact hall i (by omega)
                have hn : Hid (nv s (k + 1) = nv s k * 10 + (bt s k - 48)) := Lib.hid rfl
                have hnn : Hid (0 ≤ nv s k) := Lib.hid (nv_nonneg s k hall)
                obtain ⟨d0, d1⟩ := hd
                obtain ⟨b, hb⟩ : ∃ b, bt s k = b := ⟨_, rfl⟩
                rw [hb] at c0 c1 d0 d1 hn
                have e1 : IntKind.u8.wrap (b - 48) = b - 48 := by rw [IntKind.wrap_u8]; omega
                clear hv hov hall
                cases ov with
                | true =>
                  go_wp2
                  go_round
                  case rel =>
                    refine ⟨_, true, k + 1, by go_num, rfl, by first | rfl | (simp [*] <;> omega), by omega, ?_, ?_, (fun h => by cases h), fun _ => ?_, HA.out⟩
                    · first | (rw [IntKind.wrap_u64]; omega) | omega
                    · first | (rw [IntKind.wrap_u64]; omega) | omega
                    · have := HOV.out rfl; have h2 := hn.out; have h3 := hnn.out; omega
                  case measure => simp [intOf] <;> omega
                | false =>
                  have hv := HV.out rfl
                  by_cases h1 : 1844674407370955161 < v
                  · go_wp2
                    go_round
                    case rel =>
                      refine ⟨_, true, k + 1, by go_num, rfl, by first | rfl | (simp [*] <;> omega), by omega, ?_, ?_, (fun h => by cases h), fun _ => ?_, HA.out⟩
                      · first | (rw [IntKind.wrap_u64]; omega) | omega
                      · first | (rw [IntKind.wrap_u64]; omega) | omega
                      · have h2 := hn.out; omega
                    case measure => simp [intOf] <;> omega
                  · by_cases h2 : 18446744073709551615 - (b - 48) < v * 10
                    · go_wp2
                      go_round
                      case rel =>
                        refine ⟨_, true, k + 1, by go_num, rfl, by first | rfl | (simp [*] <;> omega), by omega, ?_, ?_, (fun h => by cases h), fun _ => ?_, HA.out⟩
                        · first | (rw [IntKind.wrap_u64]; omega) | omega
                        · first | (rw [IntKind.wrap_u64]; omega) | omega
                        · have h2 := hn.out; omega
                      case measure => simp [intOf] <;> omega
                    · go_wp2
                      go_round
                      case rel =>
                        refine ⟨v * 10 + (b - 48), false, k + 1, by go_num, by first | rfl | (congr 1; omega), by first | rfl | (simp [*] <;> omega), by omega, by omega, by omega, fun _ => ?_, (fun h => by cases h), HA.out⟩
                        have h2 := hn.out; omega
                      case measure => simp [intOf] <;> omega
              · have hr := rd_form s (fun h => hd (h.2.1 k hlt))
                have hr2 := HR.out
                rw [hr] at hr2
                obtain ⟨rfl, rfl⟩ : (0 : Int) = r1 ∧ (3 : Int) = r2 := ⟨(Prod.mk.inj hr2).1, (Prod.mk.inj hr2).2⟩
                clear hr hr2 hv hov hall
                by_cases hl : bt s k < 48
                · go_wp2
                  go_ret2
                  exact ⟨rfl, rfl⟩
                · have hg : 57 < bt s k := by omega
                  go_wp2
                  go_ret2
                  exact ⟨rfl, rfl⟩
            · have ek : k = s.size := by omega
              subst ek
              have hF : Formed s := ⟨HPos.out, hall, HL.out⟩
              have hr2 := HR.out
              cases ov with
              | true =>
                rw [rd_over s hF (hov rfl)] at hr2
                obtain ⟨rfl, rfl⟩ : (0 : Int) = r1 ∧ (5 : Int) = r2 := ⟨(Prod.mk.inj hr2).1, (Prod.mk.inj hr2).2⟩
                clear hr2 hv hov hall hF
                go_wp2
                go_ret2
                exact ⟨rfl, rfl⟩
              | false =>
                have hv := hv rfl
                rw [rd_ok s hF (by omega)] at hr2
                obtain ⟨rfl, rfl⟩ : nv s s.size = r1 ∧ (0 : Int) = r2 := ⟨(Prod.mk.inj hr2).1, (Prod.mk.inj hr2).2⟩
                have HVV := Lib.hid hv
                clear hr2 hov hall hF
                go_wp2
                go_ret2
                exact ⟨by first | rfl | (rw [← HVV.out]; rfl) | (rw [HVV.out]; rfl), rfl⟩
        | true =>
          have hb2 := hb2 rfl
          have hb2' : b2 = false := by simpa using hb
          subst hb2'
          clear hb hcase
          go_enter Tryd.func29, Tryd.ntmps29
          go_wp2
          go_loop [4, 5, 6] (fun x y z => ∃ (v : Int) (ov : Bool) (k : Nat), z = .int .i64 k ∧ x = .int .u64 v ∧ y = .bool ov ∧ k ≤ s.size ∧ 0 ≤ v ∧ v ≤ 18446744073709551615 ∧ (ov = false → v = nv s k) ∧ (ov = true → 18446744073709551615 < nv s k) ∧ (∀ i, i < k → 48 ≤ bt s i ∧ bt s i ≤ 57)) (fun _ _ z => s.size - (intOf z).toNat)
          case atStart => exact ⟨0, false, 0, rfl, rfl, rfl, Nat.zero_le _, by omega, by omega, fun _ => rfl, (fun h => by cases h), fun i h => by omega⟩
          case round =>
            obtain ⟨v, ov, k, rfl, rfl, rfl, hk, v0, v1, hv, hov, hall⟩ := hrel
            by_cases hlt : k < s.size
            · obtain ⟨c0, c1⟩ := bt_bd s k
              by_cases hd : 48 ≤ bt s k ∧ bt s k ≤ 57
              · have HV := Lib.hid hv; have HOV := Lib.hid hov
                have HA : Hid (∀ i, i < k + 1 → 48 ≤ bt s i ∧ bt s i ≤ 57) := Lib.hid fun i hi => by
                  by_cases h : i = k
                  · rw [h]; exact hd
                  · exact hall i (by omega)
                have hn : Hid (nv s (k + 1) = nv s k * 10 + (bt s k - 48)) := Lib.hid rfl
                have hnn : Hid (0 ≤ nv s k) := Lib.hid (nv_nonneg s k hall)
                obtain ⟨d0, d1⟩ := hd
                obtain ⟨b, hb⟩ : ∃ b, bt s k = b := ⟨_, rfl⟩
                rw [hb] at c0 c1 d0 d1 hn
                have e1 : IntKind.u8.wrap (b - 48) = b - 48 := by rw [IntKind.wrap_u8]; omega
                clear hv hov hall
                cases ov with
                | true =>
                  go_wp2
                  go_round
                  case rel =>
                    refine ⟨_, true, k + 1, by go_num, rfl, by first | rfl | (simp [*] <;> omega), by omega, ?_, ?_, (fun h => by cases h), fun _ => ?_, HA.out⟩
                    · first | (rw [IntKind.wrap_u64]; omega) | omega
                    · first | (rw [IntKind.wrap_u64]; omega) | omega
                    · have := HOV.out rfl; have h2 := hn.out; have h3 := hnn.out; omega
                  case measure => simp [intOf] <;> omega
                | false =>
                  have hv := HV.out rfl
                  by_cases h1 : 1844674407370955161 < v
                  · go_wp2
                    go_round
                    case rel =>
                      refine ⟨_, true, k + 1, by go_num, rfl, by first | rfl | (simp [*] <;> omega), by omega, ?_, ?_, (fun h => by cases h), fun _ => ?_, HA.out⟩
                      · first | (rw [IntKind.wrap_u64]; omega) | omega
                      · first | (rw [IntKind.wrap_u64]; omega) | omega
                      · have h2 := hn.out; omega
                    case measure => simp [intOf] <;> omega
                  · by_cases h2 : 18446744073709551615 - (b - 48) < v * 10
                    · go_wp2
                      go_round
                      case rel =>
                        refine ⟨_, true, k + 1, by go_num, rfl, by first | rfl | (simp [*] <;> omega), by omega, ?_, ?_, (fun h => by cases h), fun _ => ?_, HA.out⟩
                        · first | (rw [IntKind.wrap_u64]; omega) | omega
                        · first | (rw [IntKind.wrap_u64]; omega) | omega
                        · have h2 := hn.out; omega
                      case measure => simp [intOf] <;> omega
                    · go_wp2
                      go_round
                      case rel =>
                        refine ⟨v * 10 + (b - 48), false, k + 1, by go_num, by first | rfl | (congr 1; omega), by first | rfl | (simp [*] <;> omega), by omega, by omega, by omega, fun _ => ?_, (fun h => by cases h), HA.out⟩
                        have h2 := hn.out; omega
                      case measure => simp [intOf] <;> omega
              · have hr := rd_form s (fun h => hd (h.2.1 k hlt))
                have hr2 := HR.out
                rw [hr] at hr2
                obtain ⟨rfl, rfl⟩ : (0 : Int) = r1 ∧ (3 : Int) = r2 := ⟨(Prod.mk.inj hr2).1, (Prod.mk.inj hr2).2⟩
                clear hr hr2 hv hov hall
                by_cases hl : bt s k < 48
                · go_wp2
                  go_ret2
                  exact ⟨rfl, rfl⟩
                · have hg : 57 < bt s k := by omega
                  go_wp2
                  go_ret2
                  exact ⟨rfl, rfl⟩
            · have ek : k = s.size := by omega
              subst ek
              have hF : Formed s := ⟨HPos.out, hall, HL.out⟩
              have hr2 := HR.out
              cases ov with
              | true =>
                rw [rd_over s hF (hov rfl)] at hr2
                obtain ⟨rfl, rfl⟩ : (0 : Int) = r1 ∧ (5 : Int) = r2 := ⟨(Prod.mk.inj hr2).1, (Prod.mk.inj hr2).2⟩
                clear hr2 hv hov hall hF
                go_wp2
                go_ret2
                exact ⟨rfl, rfl⟩
              | false =>
                have hv := hv rfl
                rw [rd_ok s hF (by omega)] at hr2
                obtain ⟨rfl, rfl⟩ : nv s s.size = r1 ∧ (0 : Int) = r2 := ⟨(Prod.mk.inj hr2).1, (Prod.mk.inj hr2).2⟩
                have HVV := Lib.hid hv
                clear hr2 hov hall hF
                go_wp2
                go_ret2
                exact ⟨by first | rfl | (rw [← HVV.out]; rfl) | (rw [HVV.out]; rfl), rfl⟩
      rcases hcase with ⟨h1, h2⟩ | h1
      · exact body true false h1 (fun _ => h2) rfl
      · exact body false false h1 (fun h => by cases h) rfl
end Go.Proofs.YtffedahmakhjeaaDoor
