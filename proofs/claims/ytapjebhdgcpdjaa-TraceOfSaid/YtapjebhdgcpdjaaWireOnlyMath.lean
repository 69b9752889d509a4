/-
  What is taken is put as it stood: there is one way to put it. Plain laws over strings and fields of layer 4; no Go in it. No condition.
-/
import Derived.Test.YtapjebhdgcpdjaaWire2c
namespace Go.Proofs.Ytapjebhdgcpdjaa
set_option linter.unusedVariables false
set_option linter.unusedSimpArgs false
open Go.ChangeShapes Go.WideShapes Go.ChangeAt Go.RowKit

theorem ext_join (x : ByteArray) (a b c : Nat) (h1 : a ≤ b) (h2 : b ≤ c) (h3 : c ≤ x.size) : x.extract a b ++ x.extract b c = x.extract a c := by
  have s1 := size_ext x a b (by omega)
  have s2 := size_ext x b c h3
  have s3 := size_ext x a c h3
  refine str_ext (by rw [ByteArray.size_append]; omega) fun k hk => ?_
  rw [ByteArray.size_append] at hk
  rw [bt_append, bt_extract x a c k (by omega)]
  split
  · rw [bt_extract _ _ _ _ (by omega)]
  · rw [bt_extract _ _ _ _ (by omega)]
    congr 1; omega
theorem ext_one (x : ByteArray) (i : Nat) (h : i < x.size) : x.extract i (i + 1) = chrs [bt x i] := by
  have b := bt_bd x i
  refine str_ext (by rw [size_ext _ _ _ (by omega), chrs_size]; show i + 1 - i = 1; omega) fun k hk => ?_
  rw [size_ext _ _ _ (by omega)] at hk
  have : k = 0 := by omega
  subst this
  rw [bt_extract _ _ _ _ (by omega), chrs_bt _ b.1 b.2]
  rfl
theorem ext_ext (x : ByteArray) (d c : Nat) (h : d + c ≤ x.size) : (x.extract d x.size).extract 0 c = x.extract d (d + c) := by
  have s1 := size_ext x d x.size (Nat.le_refl _)
  have s2 := size_ext (x.extract d x.size) 0 c (by omega)
  have s3 := size_ext x d (d + c) h
  refine str_ext (by omega) fun k hk => ?_
  rw [s2] at hk
  rw [bt_extract _ _ _ _ (by omega), bt_extract _ _ _ _ (by omega), bt_extract _ _ _ _ (by omega)]
  congr 1; omega
theorem hib_be (x : ByteArray) : ∀ z, z ≤ x.size → hib (be x z) z = x.extract 0 z
  | 0, _ => by
    refine str_ext ?_ fun k hk => absurd hk (by show ¬ k < 0; omega)
    rw [size_ext _ _ _ (Nat.zero_le _)]; rfl
  | z + 1, h => by
    have b := bt_bd x z
    have e1 : be x (z + 1) / 256 = be x z := by show (be x z * 256 + bt x z) / 256 = _; omega
    have e2 : be x (z + 1) % 256 = bt x z := by show (be x z * 256 + bt x z) % 256 = _; omega
    show hib (be x (z + 1) / 256) z ++ chrs [be x (z + 1) % 256] = _
    rw [e1, e2, hib_be x z (by omega), ← ext_one x z (by omega)]
    exact ext_join x 0 z (z + 1) (by omega) (by omega) h
theorem fewN_one (m : Nat) (r : Int) (h : r < 128) : fewN m r = chrs [r] := by
  cases m with
  | zero => rfl
  | succ m => unfold fewN; rw [if_pos h]
theorem sv_back (x : ByteArray) (n : Int) (c : Nat) : ∀ (m i : Nat), m + 1 + i = 10 → svN x (m + 1) i = (n, c, 0) →
    ∃ r : Int, n = vl x i + 128 ^ i * r ∧ 0 ≤ r ∧ (0 < i → 0 < r) ∧ fewN m r = x.extract i c ∧ i < c ∧ c ≤ x.size := by
  intro m
  induction m with
  | zero =>
    intro i hi h
    unfold svN at h
    split at h
    · have := congrArg (fun q => q.2.2) h; simp at this
    · rename_i h1
      split at h
      · have := congrArg (fun q => q.2.2) h; simp at this
      · rename_i h2
        have b := bt_bd x i
        have hb : bt x i ≤ 1 := Classical.byContradiction fun hn => h2 (Or.inr ⟨by omega, by omega⟩)
        rw [if_pos (by omega)] at h
        have e1 := congrArg (fun q => q.1) h
        have e2 := congrArg (fun q => q.2.1) h
        simp only at e1 e2
        subst e2
        refine ⟨bt x i, ?_, b.1, fun h0 => ?_, ?_, by omega, by omega⟩
        · rw [← e1]
          show vl x i + bt x i % 128 * 128 ^ i = _
          rw [Int.emod_eq_of_lt b.1 (by omega), Int.mul_comm]
        · have : bt x i ≠ 0 := fun hz => h2 (Or.inl ⟨h0, hz⟩)
          omega
        · rw [ext_one x i (by omega)]; rfl
  | succ m ih =>
    intro i hi h
    unfold svN at h
    split at h
    · have := congrArg (fun q => q.2.2) h; simp at this
    · rename_i h1
      split at h
      · have := congrArg (fun q => q.2.2) h; simp at this
      · rename_i h2
        have b := bt_bd x i
        split at h
        · rename_i h3
          have e1 := congrArg (fun q => q.1) h
          have e2 := congrArg (fun q => q.2.1) h
          simp only at e1 e2
          subst e2
          refine ⟨bt x i, ?_, b.1, fun h0 => ?_, ?_, by omega, by omega⟩
          · rw [← e1]
            show vl x i + bt x i % 128 * 128 ^ i = _
            rw [Int.emod_eq_of_lt b.1 (by omega), Int.mul_comm]
          · have : bt x i ≠ 0 := fun hz => h2 (Or.inl ⟨h0, hz⟩)
            omega
          · rw [ext_one x i (by omega), fewN_one _ _ h3]
        · rename_i h3
          obtain ⟨r, hn, r0, rp, hf, hc1, hc2⟩ := ih (i + 1) (by omega) h
          have rp := rp (by omega)
          refine ⟨bt x i % 128 + 128 * r, ?_, by omega, fun _ => by omega, ?_, by omega, hc2⟩
          · rw [hn]
            show vl x i + bt x i % 128 * 128 ^ i + 128 ^ (i + 1) * r = _
            rw [Int.pow_succ, Int.mul_add, Int.mul_assoc, Int.mul_comm (128 ^ i) (bt x i % 128)]
            omega
          · unfold fewN
            have e1 : (128 + (bt x i % 128 + 128 * r) % 128) = bt x i := by omega
            have e2 : (bt x i % 128 + 128 * r) / 128 = r := by omega
            rw [if_neg (by omega), e1, e2, hf, ← ext_one x i (by omega)]
            exact ext_join x i (i + 1) c (by omega) (by omega) hc2
theorem sv_fw (x : ByteArray) (n : Int) (c : Nat) (h : sv x = (n, c, 0)) : fw n = x.extract 0 c ∧ c ≤ x.size := by
  obtain ⟨r, hn, _, _, hf, _, hc⟩ := sv_back x n c 9 0 rfl h
  have : n = r := by
    rw [hn]
    show (0 : Int) + 128 ^ 0 * r = r
    rw [Int.pow_zero]; omega
  rw [this]
  exact ⟨hf, hc⟩

theorem tk_back (x : ByteArray) (k : Int) (h : (tk x k).2.2 = 0) : er (tk x k).1 = 0 ∧ enc (tk x k).1 = x.extract 0 (tk x k).2.1 ∧ (tk x k).1.k = k ∧ (0 ≤ (tk x k).1.n ∧ (tk x k).1.n ≤ 18446744073709551615) ∧ (tk x k).1.s.size ≤ 65535 := by
  by_cases hk : k < 1 ∨ 6 < k
  · have e : tk x k = (⟨k, 0, ⟨#[]⟩⟩, 0, 6) := by unfold tk; rw [if_pos hk]
    rw [e] at h; simp at h
  · by_cases hk4 : k ≤ 4
    · have e : tk x k = (if x.size < wk k then (⟨k, 0, ⟨#[]⟩⟩, 0, 2) else (⟨k, be x (wk k), ⟨#[]⟩⟩, wk k, 0)) := by
        unfold tk; rw [if_neg hk, if_pos hk4]
      rw [e] at h ⊢
      by_cases hz : x.size < wk k
      · rw [if_pos hz] at h; simp at h
      · rw [if_neg hz]
        have hb := be_bd x (wk k)
        have hw : wk k ≤ 8 := by unfold wk; (repeat' split) <;> omega
        have hp : (256 : Int) ^ wk k ≤ 18446744073709551616 := by
          have : wk k = 0 ∨ wk k = 1 ∨ wk k = 2 ∨ wk k = 4 ∨ wk k = 8 := by unfold wk; (repeat' split) <;> simp
          rcases this with h | h | h | h | h <;> rw [h] <;> decide
        refine ⟨?_, ?_, rfl, ⟨hb.1, by show be x (wk k) ≤ _; omega⟩, by show (0 : Nat) ≤ 65535; omega⟩
        · unfold er
          rw [if_neg hk, if_neg (by simp; omega), if_neg (fun hn => by have := hn.2; simp only at this; omega), if_neg (by show ¬ 65535 < 0; omega)]
        · show enc ⟨k, be x (wk k), ⟨#[]⟩⟩ = _
          unfold enc
          rw [if_neg (by show ¬ k = 6; omega), if_neg (by show ¬ k = 5; omega)]
          exact hib_be x (wk k) (by omega)
    · by_cases h5 : k = 5
      · subst h5
        have e : tk x 5 = (⟨5, (sv x).1, ⟨#[]⟩⟩, (sv x).2.1, (sv x).2.2) := by
          unfold tk
          rw [if_neg (by decide), if_neg (by decide), if_pos rfl]
        rw [e] at h ⊢
        have h : (sv x).2.2 = 0 := h
        have hr := sv_range x
        have hf := sv_fw x (sv x).1 (sv x).2.1 (by rw [← h])
        refine ⟨?_, hf.1, rfl, hr.2, by show (0 : Nat) ≤ 65535; omega⟩
        unfold er
        rw [if_neg (by simp), if_neg (by simp), if_neg (by simp), if_neg (by show ¬ 65535 < 0; omega)]
      · have h6 : k = 6 := by omega
        subst h6
        rw [tk_text] at h ⊢
        have hr := sv_range x
        unfold tx at h ⊢
        by_cases h1 : (sv x).2.2 ≠ 0
        · rw [if_pos h1] at h; exact absurd h h1
        · rw [if_neg h1] at h ⊢
          have h1 : (sv x).2.2 = 0 := Classical.byContradiction h1
          by_cases h2 : 65535 < (sv x).1
          · rw [if_pos h2] at h; simp at h
          · rw [if_neg h2] at h ⊢
            by_cases h3 : ((x.size - (sv x).2.1 : Nat) : Int) < (sv x).1
            · rw [if_pos h3] at h; simp at h
            · rw [if_neg h3]
              have hf := sv_fw x (sv x).1 (sv x).2.1 (by rw [← h1])
              have hs := size_ext x (sv x).2.1 ((sv x).2.1 + (sv x).1.toNat) (by omega)
              simp only at hs ⊢
              refine ⟨?_, ?_, by first | rfl | trivial, ⟨by decide, by decide⟩, by rw [hs]; omega⟩
              · unfold er
                rw [if_neg (by simp), if_neg (by simp), if_neg (by simp), if_neg (by simp only; rw [hs]; omega)]
              · show fw ((x.extract (sv x).2.1 ((sv x).2.1 + (sv x).1.toNat)).size : Int) ++ x.extract (sv x).2.1 ((sv x).2.1 + (sv x).1.toNat) = _
                rw [hs]
                have e : (((sv x).2.1 + (sv x).1.toNat - (sv x).2.1 : Nat) : Int) = (sv x).1 := by omega
                rw [e, hf.1]
                exact ext_join x 0 _ _ (by omega) (by omega) (by omega)
end Go.Proofs.Ytapjebhdgcpdjaa
