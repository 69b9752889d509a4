/-
  What is put as decimal is read as it was, with a unit or without; what is read is put as it stood. Plain laws on strings of digits. No Go in it.
-/
import Derived.Test.YtdeehklegeeanaaDoorDigGetU
import Derived.Test.YtdeehklegeeanaaDoorDigPutU
namespace Go.Proofs.YtdeehklegeeanaaDoor
set_option linter.unusedVariables false
set_option linter.unusedSimpArgs false
open Go.ChangeShapes Go.WideShapes Go.ChangeAt Go.RowKit

theorem nv_left (a b : ByteArray) : ∀ k : Nat, k ≤ a.size → nv (a ++ b) k = nv a k
  | 0, _ => rfl
  | k + 1, h => by
    show nv (a ++ b) k * 10 + (bt (a ++ b) k - 48) = nv a k * 10 + (bt a k - 48)
    rw [nv_left a b k (by omega), bt_append, if_pos (by omega)]
theorem nv_snoc (a : ByteArray) (c : Int) (c0 : 0 ≤ c) (c1 : c ≤ 255) : nv (a ++ chrs [c]) (a.size + 1) = nv a a.size * 10 + (c - 48) := by
  show nv (a ++ chrs [c]) a.size * 10 + (bt (a ++ chrs [c]) a.size - 48) = _
  rw [nv_left _ _ _ (Nat.le_refl _), bt_append, if_neg (by omega), Nat.sub_self, chrs_bt c c0 c1]
theorem one_size (c : Int) : (chrs [c]).size = 1 := chrs_size [c]

theorem decN_laws : ∀ (m : Nat) (n : Int), 0 ≤ n → n < 10 ^ (m + 1) →
    (∀ k : Nat, k < (decN m n).size → 48 ≤ bt (decN m n) k ∧ bt (decN m n) k ≤ 57) ∧ nv (decN m n) (decN m n).size = n ∧ (0 < n → bt (decN m n) (0 : Nat) ≠ 48) ∧ (1 < (decN m n).size → 0 < n)
  | 0, n, h0, h1 => by
    have h1 : n < 10 := h1
    have e : decN 0 n = chrs [48 + n] := rfl
    have b := chrs_bt (48 + n) (by omega) (by omega)
    rw [e, one_size]
    refine ⟨fun k hk => ?_, ?_, fun hn => ?_, fun h => by omega⟩
    · have : k = 0 := by omega
      subst this; rw [b]; omega
    · show 0 * 10 + (bt (chrs [48 + n]) (0 : Nat) - 48) = n
      rw [b]; omega
    · rw [b]; omega
  | m + 1, n, h0, h1 => by
    by_cases h : n < 10
    · have e : decN (m + 1) n = chrs [48 + n] := by unfold decN; rw [if_pos h]
      have b := chrs_bt (48 + n) (by omega) (by omega)
      rw [e, one_size]
      refine ⟨fun k hk => ?_, ?_, fun hn => ?_, fun h => by omega⟩
      · have : k = 0 := by omega
        subst this; rw [b]; omega
      · show 0 * 10 + (bt (chrs [48 + n]) (0 : Nat) - 48) = n
        rw [b]; omega
      · rw [b]; omega
    · have e : decN (m + 1) n = decN m (n / 10) ++ chrs [48 + n % 10] := by
        show (if n < 10 then _ else _) = _
        rw [if_neg h]
      have hq : n / 10 < 10 ^ (m + 1) := by
        rw [Int.pow_succ] at h1
        omega
      obtain ⟨i1, i2, i3, i4⟩ := decN_laws m (n / 10) (by omega) hq
      have hp := (decN_pos m (n / 10)).1
      generalize decN m (n / 10) = a at *
      have hs : (a ++ chrs [48 + n % 10]).size = a.size + 1 := by rw [ByteArray.size_append, one_size]
      rw [e, hs]
      refine ⟨fun k hk => ?_, ?_, fun hn => ?_, fun _ => by omega⟩
      · rw [bt_append]
        by_cases hk2 : k < a.size
        · rw [if_pos hk2]; exact i1 k hk2
        · have : k = a.size := by omega
          subst this
          rw [if_neg (by omega), Nat.sub_self, chrs_bt _ (by omega) (by omega)]
          omega
      · rw [nv_snoc _ _ (by omega) (by omega), i2]; omega
      · rw [bt_append, if_pos (by omega)]
        exact i3 (by omega)
theorem word_small : (18446744073709551615 : Int) < 10 ^ (19 + 1) := by decide
theorem dec_formed (n : Int) (n0 : 0 ≤ n) (n1 : n ≤ 18446744073709551615) : Formed (dec n) ∧ nv (dec n) (dec n).size = n := by
  obtain ⟨h1, h2, h3, h4⟩ := decN_laws 19 n n0 (Int.lt_of_le_of_lt n1 word_small)
  exact ⟨⟨(decN_pos 19 n).1, h1, fun h => h3 (h4 h)⟩, h2⟩
theorem rd_dec (n : Int) (n0 : 0 ≤ n) (n1 : n ≤ 18446744073709551615) : rd (dec n) = (n, 0) := by
  obtain ⟨h1, h2⟩ := dec_formed n n0 n1
  rw [rd_ok _ h1 (by rw [h2]; omega), h2]

theorem nv_ext (s : ByteArray) (k : Nat) (hk : k ≤ s.size) : ∀ j : Nat, j ≤ k → nv (s.extract 0 k) j = nv s j
  | 0, _ => rfl
  | j + 1, h => by
    show nv (s.extract 0 k) j * 10 + (bt (s.extract 0 k) j - 48) = nv s j * 10 + (bt s j - 48)
    rw [nv_ext s k hk j (by omega), bt_extract _ _ _ _ (by omega), Nat.zero_add]
theorem nv_lead (s : ByteArray) (h : ∀ k : Nat, k < s.size → 48 ≤ bt s k ∧ bt s k ≤ 57) (h0 : bt s (0 : Nat) ≠ 48) : ∀ k : Nat, 1 ≤ k → k ≤ s.size → 1 ≤ nv s k
  | 0, h1, _ => by omega
  | 1, _, h2 => by
    have := h 0 (by omega)
    show 1 ≤ 0 * 10 + (bt s (0 : Nat) - 48)
    omega
  | k + 2, _, h2 => by
    have ih := nv_lead s h h0 (k + 1) (by omega) (by omega)
    have := h (k + 1) (by omega)
    show 1 ≤ nv s (k + 1) * 10 + (bt s ((k + 1 : Nat) : Int) - 48)
    omega
theorem whole_ext (s : ByteArray) (k : Nat) (h : s.size = k + 1) : s.extract 0 k ++ chrs [bt s k] = s := by
  rw [← ext_one s k (by omega), ext_join s 0 k (k + 1) (by omega) (by omega) (by omega)]
  refine str_ext (by rw [size_ext _ _ _ (by omega)]; omega) fun j hj => ?_
  rw [size_ext _ _ _ (by omega)] at hj
  rw [bt_extract _ _ _ _ (by omega), Nat.zero_add]
theorem dec_nv : ∀ (m : Nat) (s : ByteArray), 1 ≤ s.size → (∀ k : Nat, k < s.size → 48 ≤ bt s k ∧ bt s k ≤ 57) → (1 < s.size → bt s (0 : Nat) ≠ 48) → nv s s.size < 10 ^ (m + 1) → decN m (nv s s.size) = s
  | m, s, h1, hd, hl, hn => by
    obtain ⟨k, hk⟩ : ∃ k, s.size = k + 1 := ⟨s.size - 1, by omega⟩
    have hw := whole_ext s k hk
    have hb := hd k (by omega)
    have hnv : nv s s.size = nv s k * 10 + (bt s k - 48) := by rw [hk]; rfl
    rcases Nat.eq_zero_or_pos k with h0 | h0
    · subst h0
      have hz : nv s 0 = 0 := rfl
      rw [hz] at hnv
      have e : chrs [48 + nv s s.size] = s := by
        rw [hnv, show (48 : Int) + (0 * 10 + (bt s (0 : Nat) - 48)) = bt s (0 : Nat) by omega]
        have he : s.extract 0 0 = ⟨#[]⟩ := str_ext (by rw [size_ext _ _ _ (by omega)]; rfl) fun j hj => by rw [size_ext _ _ _ (by omega)] at hj; omega
        rw [he] at hw
        have : (⟨#[]⟩ : ByteArray) ++ chrs [bt s (0 : Nat)] = chrs [bt s (0 : Nat)] := str_ext (by rw [ByteArray.size_append]; simp; rfl) fun j hj => by
          rw [bt_append, if_neg (by exact Nat.not_lt_zero _)]; rfl
        rw [this] at hw
        exact hw
      cases m with
      | zero => exact e
      | succ m =>
        show (if nv s s.size < 10 then chrs [48 + nv s s.size] else _) = s
        rw [if_pos (by omega)]
        exact e
    · have hlead := nv_lead s hd (hl (by omega)) k h0 (by omega)
      cases m with
      | zero =>
        have hn : nv s s.size < 10 := hn
        omega
      | succ m =>
        show (if nv s s.size < 10 then _ else decN m (nv s s.size / 10) ++ chrs [48 + nv s s.size % 10]) = s
        rw [if_neg (by omega), show nv s s.size / 10 = nv s k by omega, show 48 + nv s s.size % 10 = bt s k by omega]
        have hse : (s.extract 0 k).size = k := by rw [size_ext _ _ _ (by omega)]; omega
        have hne : nv (s.extract 0 k) (s.extract 0 k).size = nv s k := by rw [hse]; exact nv_ext s k (by omega) k (Nat.le_refl _)
        have ih := dec_nv m (s.extract 0 k) (by omega) (fun j hj => by
          rw [hse] at hj
          rw [bt_extract _ _ _ _ (by omega), Nat.zero_add]
          exact hd j (by omega)) (fun _ => by
          rw [bt_extract _ _ _ _ (by omega), Nat.zero_add]
          exact hl (by omega)) (by
          rw [hne]
          rw [Int.pow_succ] at hn
          omega)
        rw [hne] at ih
        rw [ih]
        exact hw
theorem rd_back (s : ByteArray) (n : Int) (h : rd s = (n, 0)) : dec n = s ∧ 0 ≤ n ∧ n ≤ 18446744073709551615 := by
  by_cases hF : Formed s
  · by_cases h2 : 18446744073709551615 < nv s s.size
    · rw [rd_over s hF h2] at h
      have := congrArg Prod.snd h
      simp at this
    · rw [rd_ok s hF h2] at h
      have e : nv s s.size = n := congrArg Prod.fst h
      subst e
      refine ⟨dec_nv 19 s hF.1 hF.2.1 hF.2.2 (Int.lt_of_le_of_lt (by omega) word_small), ?_, by omega⟩
      exact nv_nonneg s s.size hF.2.1
  · rw [rd_form s hF] at h
    have := congrArg Prod.snd h
    simp at this

theorem cut_unit (a : ByteArray) (c : UInt8) (h1 : 1 < uw (c.toNat : Int)) : cutS (a ++ ⟨#[c]⟩) = a ∧ cutU (a ++ ⟨#[c]⟩) = uw (c.toNat : Int) := by
  have hs : (a ++ ⟨#[c]⟩ : ByteArray).size = a.size + 1 := by rw [ByteArray.size_append]; rfl
  have hb : bt (a ++ ⟨#[c]⟩ : ByteArray) (((a ++ ⟨#[c]⟩ : ByteArray).size - 1 : Nat) : Int) = (c.toNat : Int) := by
    rw [hs, Nat.add_sub_cancel, bt_append, if_neg (by omega), Nat.sub_self]
    exact bt_one c
  have hu : cutU (a ++ ⟨#[c]⟩) = uw (c.toNat : Int) := by unfold cutU; rw [if_neg (by omega), hb]
  refine ⟨?_, hu⟩
  unfold cutS
  have hu' : (if (a ++ ⟨#[c]⟩ : ByteArray).size = 0 then 1 else uw (bt (a ++ ⟨#[c]⟩) (((a ++ ⟨#[c]⟩ : ByteArray).size - 1 : Nat) : Int))) = uw (c.toNat : Int) := hu
  rw [hu', if_pos h1, hs, Nat.add_sub_cancel]
  refine str_ext (by rw [size_ext _ _ _ (by omega)]; omega) fun j hj => ?_
  rw [size_ext _ _ _ (by omega)] at hj
  rw [bt_extract _ _ _ _ (by omega), Nat.zero_add, bt_append, if_pos (by omega)]
theorem cut_dec (n : Int) (n0 : 0 ≤ n) (n1 : n ≤ 18446744073709551615) : cutS (dec n) = dec n ∧ cutU (dec n) = 1 := by
  obtain ⟨h1, _⟩ := dec_formed n n0 n1
  have hb := h1.2.1 ((dec n).size - 1) (by have := h1.1; omega)
  have hu : cutU (dec n) = 1 := by
    unfold cutU uw
    rw [if_neg (by have := h1.1; omega), if_neg (by omega), if_neg (by omega), if_neg (by omega)]
  refine ⟨?_, hu⟩
  unfold cutS
  have hu' : (if (dec n).size = 0 then 1 else uw (bt (dec n) (((dec n).size - 1 : Nat) : Int))) = 1 := hu
  rw [hu', if_neg (by omega)]
theorem after_ok (q u : Int) (h : ¬ 18446744073709551615 / u < q) : after (q, 0) u = (q * u, 0) := by
  unfold after
  rw [if_neg (by simp), if_neg h]
theorem rdu_pu (n : Int) (n0 : 0 ≤ n) (n1 : n ≤ 18446744073709551615) : rdu (pu n) = (n, 0) := by
  unfold pu
  rw [rdu_after]
  by_cases h0 : n = 0
  · subst h0
    rw [if_pos rfl, (cut_dec 0 (by omega) (by omega)).1, (cut_dec 0 (by omega) (by omega)).2, rd_dec 0 (by omega) (by omega), after_ok _ _ (by decide)]
    rfl
  · rw [if_neg h0]
    by_cases hG : n % 1000000000 = 0
    · have u : uw ((71 : UInt8).toNat : Int) = 1000000000 := by decide +kernel
      obtain ⟨e1, e2⟩ := cut_unit (dec (n / 1000000000)) 71 (by rw [u]; omega)
      rw [if_pos hG, e1, e2, u, rd_dec _ (by omega) (by omega), after_ok _ _ (by omega)]
      congr 1; omega
    · rw [if_neg hG]
      by_cases hM : n % 1000000 = 0
      · have u : uw ((77 : UInt8).toNat : Int) = 1000000 := by decide +kernel
        obtain ⟨e1, e2⟩ := cut_unit (dec (n / 1000000)) 77 (by rw [u]; omega)
        rw [if_pos hM, e1, e2, u, rd_dec _ (by omega) (by omega), after_ok _ _ (by omega)]
        congr 1; omega
      · rw [if_neg hM]
        by_cases hK : n % 1000 = 0
        · have u : uw ((75 : UInt8).toNat : Int) = 1000 := by decide +kernel
          obtain ⟨e1, e2⟩ := cut_unit (dec (n / 1000)) 75 (by rw [u]; omega)
          rw [if_pos hK, e1, e2, u, rd_dec _ (by omega) (by omega), after_ok _ _ (by omega)]
          congr 1; omega
        · rw [if_neg hK, (cut_dec n n0 n1).1, (cut_dec n n0 n1).2, rd_dec n n0 n1, after_ok _ _ (by omega), Int.mul_one]
end Go.Proofs.YtdeehklegeeanaaDoor
