/-
  What is put is taken as it was, whatever stands behind it; cut off ahead of its end it is too short. Plain laws over strings and one field of layer 4; no Go in it. No condition.
-/
import Derived.Test.YtapjebhdgcpdjaaWireOnlyMath
namespace Go.Proofs.Ytapjebhdgcpdjaa
set_option linter.unusedVariables false
set_option linter.unusedSimpArgs false
open Go.ChangeShapes Go.WideShapes Go.ChangeAt Go.RowKit

/-- A string begins with another one. -/
def Beg (x e : ByteArray) (i : Nat) : Prop := i + e.size ≤ x.size ∧ ∀ k, k < e.size → bt x ((i + k : Nat) : Int) = bt e k
theorem beg_append (x a b : ByteArray) (i : Nat) (h : Beg x (a ++ b) i) : Beg x a i ∧ Beg x b (i + a.size) := by
  obtain ⟨h1, h2⟩ := h
  rw [ByteArray.size_append] at h1
  refine ⟨⟨by omega, fun k hk => ?_⟩, ⟨by omega, fun k hk => ?_⟩⟩
  · have := h2 k (by rw [ByteArray.size_append]; omega)
    rw [this, bt_append, if_pos hk]
  · have := h2 (a.size + k) (by rw [ByteArray.size_append]; omega)
    rw [bt_append, if_neg (by omega)] at this
    have e : a.size + k - a.size = k := by omega
    rw [e] at this
    rw [← this]
    congr 1; omega
theorem beg_self (e r : ByteArray) : Beg (e ++ r) e 0 :=
  ⟨by rw [ByteArray.size_append]; omega, fun k hk => by rw [Nat.zero_add, bt_append, if_pos hk]⟩
theorem beg_one (x : ByteArray) (y : Int) (i : Nat) (y0 : 0 ≤ y) (y1 : y ≤ 255) (h : Beg x (chrs [y]) i) : i < x.size ∧ bt x i = y := by
  have h1 := h.1
  rw [chrs_size] at h1
  have h2 := h.2 0 (by rw [chrs_size]; simp)
  rw [chrs_bt y y0 y1] at h2
  exact ⟨by simp at h1; omega, h2⟩
theorem beg_extract (x e : ByteArray) (i : Nat) (h : Beg x e i) : x.extract i (i + e.size) = e := by
  have s := size_ext x i (i + e.size) h.1
  refine str_ext (by omega) fun k hk => ?_
  rw [bt_extract _ _ _ _ (by omega)]
  exact h.2 k (by omega)
theorem be_hib (x : ByteArray) : ∀ (z : Nat) (n : Int), 0 ≤ n → n < 256 ^ z → Beg x (hib n z) 0 → be x z = n
  | 0, n, n0, n1, _ => by
    show (0 : Int) = n
    have : (256 : Int) ^ 0 = 1 := rfl
    omega
  | z + 1, n, n0, n1, h => by
    obtain ⟨h1, h2⟩ := beg_append x _ _ 0 h
    rw [Int.pow_succ] at n1
    have ih := be_hib x z (n / 256) (by omega) (Int.ediv_lt_of_lt_mul (by decide) n1) h1
    rw [hib_size] at h2
    have hb := (beg_one x (n % 256) (0 + z) (by omega) (by omega) h2).2
    rw [Nat.zero_add] at hb
    show be x z * 256 + bt x z = n
    rw [ih, hb]
    omega
theorem sv_put (x : ByteArray) : ∀ (m i : Nat) (r : Int), m + 1 + i = 10 → 0 ≤ r → (0 < i → 0 < r) → 128 ^ i * r ≤ 18446744073709551615 → Beg x (fewN m r) i →
    svN x (m + 1) i = (vl x i + 128 ^ i * r, i + (fewN m r).size, 0) := by
  intro m
  induction m with
  | zero =>
    intro i r hi r0 rp hb h
    have hi : i = 9 := by omega
    subst hi
    have hr : r ≤ 1 := by omega
    have h' : Beg x (chrs [r]) 9 := h
    obtain ⟨h1, h2⟩ := beg_one x r 9 r0 (by omega) h'
    have rp := rp (by omega)
    unfold svN
    rw [if_neg (by omega), if_neg (by omega), if_pos (by omega)]
    have e : vl x (9 + 1) = vl x 9 + 128 ^ 9 * r := by
      show vl x 9 + bt x ((9 : Nat) : Int) % 128 * 128 ^ 9 = _
      rw [h2]; omega
    rw [e]
    have e2 : (fewN 0 r).size = 1 := chrs_size [r]
    rw [e2]
  | succ m ih =>
    intro i r hi r0 rp hb h
    by_cases hr : r < 128
    · rw [fewN_one _ _ hr] at h ⊢
      obtain ⟨h1, h2⟩ := beg_one x r i r0 (by omega) h
      unfold svN
      rw [if_neg (by omega), if_neg (by
        rintro (⟨ha, hbb⟩ | ⟨ha, hbb⟩)
        · have := rp ha; omega
        · omega), if_pos (by omega)]
      have e : vl x (i + 1) = vl x i + 128 ^ i * r := by
        show vl x i + bt x i % 128 * 128 ^ i = _
        rw [h2, Int.emod_eq_of_lt r0 hr, Int.mul_comm]
      have e2 : (chrs [r]).size = 1 := chrs_size [r]
      rw [e, e2]
    · have ef : fewN (m + 1) r = chrs [128 + r % 128] ++ fewN m (r / 128) := by
        show (if r < 128 then chrs [r] else _) = _
        rw [if_neg hr]
      rw [ef] at h ⊢
      obtain ⟨h1, h2⟩ := beg_append x _ _ i h
      obtain ⟨h3, h4⟩ := beg_one x _ i (by omega) (by omega) h1
      have e1 : (chrs [128 + r % 128]).size = 1 := chrs_size _
      rw [e1] at h2
      have hm : 128 ^ (i + 1) * (r / 128) + 128 ^ i * (r % 128) = (128 : Int) ^ i * r := by
        rw [Int.pow_succ, Int.mul_assoc, ← Int.mul_add]
        congr 1; omega
      have hp : (0 : Int) < 128 ^ i := Int.pow_pos (by decide)
      have hq : (0 : Int) ≤ 128 ^ i * (r % 128) := Int.mul_nonneg (Int.le_of_lt hp) (by omega)
      have IH := ih (i + 1) (r / 128) (by omega) (by omega) (fun _ => by omega) (by omega) h2
      unfold svN
      rw [if_neg (by omega), if_neg (by omega), if_neg (by omega), IH]
      have e : vl x (i + 1) + 128 ^ (i + 1) * (r / 128) = vl x i + 128 ^ i * r := by
        show vl x i + bt x i % 128 * 128 ^ i + _ = _
        have e3 : bt x i % 128 = r % 128 := by omega
        rw [e3, ← hm, Int.mul_comm (r % 128)]
        omega
      rw [e, ByteArray.size_append, e1]
      have e4 : i + 1 + (fewN m (r / 128)).size = i + (1 + (fewN m (r / 128)).size) := by omega
      rw [e4]
theorem sv_whole (x : ByteArray) (n : Int) (n0 : 0 ≤ n) (n1 : n ≤ 18446744073709551615) (h : Beg x (fw n) 0) : sv x = (n, (fw n).size, 0) := by
  have := sv_put x 9 0 n rfl n0 (fun h => absurd h (by omega)) (by rw [Int.pow_zero]; omega) h
  rw [Nat.zero_add] at this
  have e : vl x 0 + 128 ^ 0 * n = n := by
    show (0 : Int) + 128 ^ 0 * n = n
    rw [Int.pow_zero]; omega
  rw [e] at this
  exact this
theorem tk_put (x : ByteArray) (f : Fd) (he : er f = 0) (n0 : 0 ≤ f.n) (n1 : f.n ≤ 18446744073709551615) (h : Beg x (enc f) 0) : tk x f.k = (f, (enc f).size, 0) := by
  obtain ⟨r1, r6, rs, rn, rt, rb⟩ := er_range f he
  obtain ⟨k, n, s⟩ := f
  simp only at r1 r6 rs rn rt rb n0 n1 h ⊢
  by_cases hk4 : k ≤ 4
  · have ee : enc ⟨k, n, s⟩ = hib n (wk k) := by
      unfold enc
      rw [if_neg (by show ¬ k = 6; omega), if_neg (by show ¬ k = 5; omega)]
    have es := rt (by omega)
    subst es
    rw [ee] at h ⊢
    have hsz := h.1
    rw [hib_size] at hsz ⊢
    unfold tk
    rw [if_neg (by omega), if_pos hk4, if_neg (by omega), be_hib x (wk k) n n0 (rb hk4) h]
  · by_cases h5 : k = 5
    · subst h5
      have es := rt (by omega)
      subst es
      have h : Beg x (fw n) 0 := h
      unfold tk
      rw [if_neg (by omega), if_neg hk4, if_pos rfl, sv_whole x n n0 n1 h]
      rfl
    · have h6 : k = 6 := by omega
      subst h6
      have en0 := rn rfl
      subst en0
      have ee : enc ⟨6, 0, s⟩ = fw s.size ++ s := rfl
      rw [ee] at h ⊢
      obtain ⟨h1, h2⟩ := beg_append x _ _ 0 h
      have hv := sv_whole x (s.size : Int) (by omega) (by omega) h1
      rw [Nat.zero_add] at h2
      have hx := beg_extract x s _ h2
      have hsz := h2.1
      rw [tk_text]
      unfold tx
      rw [hv]
      simp only
      rw [if_neg (by simp), if_neg (by omega), if_neg (by omega)]
      simp only [Int.toNat_natCast]
      rw [hx, ByteArray.size_append]
end Go.Proofs.Ytapjebhdgcpdjaa
