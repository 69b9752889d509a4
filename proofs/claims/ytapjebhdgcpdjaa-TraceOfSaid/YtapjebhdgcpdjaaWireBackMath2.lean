/-
  The same for fields one behind the other: what is put is taken as it was, cut off it is too short, what is taken is put as it stood. Plain laws over strings and fields of layer 4; no Go in it. No condition.
-/
import Derived.Test.YtapjebhdgcpdjaaWireBackMath
import Derived.Test.YtapjebhdgcpdjaaWireT1
namespace Go.Proofs.Ytapjebhdgcpdjaa
set_option linter.unusedVariables false
set_option linter.unusedSimpArgs false
open Go.ChangeShapes Go.WideShapes Go.ChangeAt Go.RowKit

theorem empty_left (a : ByteArray) : ByteArray.empty ++ a = a := by
  refine str_ext (by rw [ByteArray.size_append]; show 0 + _ = _; omega) fun k hk => ?_
  rw [bt_append, if_neg (by show ¬ k < 0; omega)]; rfl
theorem empty_right (a : ByteArray) : a ++ ByteArray.empty = a := by
  refine str_ext (by rw [ByteArray.size_append]; rfl) fun k hk => ?_
  rw [ByteArray.size_append] at hk
  rw [bt_append, if_pos (by have : ByteArray.empty.size = 0 := rfl
                            omega)]
theorem cat_from (l : List ByteArray) : ∀ a, l.foldl (· ++ ·) a = a ++ cat l := by
  induction l with
  | nil => intro a; exact (empty_right a).symm
  | cons x l ih =>
    intro a
    show l.foldl (· ++ ·) (a ++ x) = a ++ l.foldl (· ++ ·) (ByteArray.empty ++ x)
    rw [ih, ih, empty_left, ByteArray.append_assoc]
theorem pb_cons (f : Fd) (fl : List Fd) : pb (f :: fl) = enc f ++ pb fl := by
  show (fl.map enc).foldl (· ++ ·) (ByteArray.empty ++ enc f) = _
  rw [cat_from, empty_left]; rfl
theorem beg_rest (x e : ByteArray) (d : Nat) (h : Beg x e d) : Beg (x.extract d x.size) e 0 := by
  have s := size_ext x d x.size (Nat.le_refl _)
  have h1 := h.1
  refine ⟨by omega, fun k hk => ?_⟩
  rw [Nat.zero_add, bt_extract _ _ _ _ (by omega)]
  exact h.2 k hk

theorem tl_put (x : ByteArray) : ∀ (fl : List Fd) (d : Nat), (∀ f ∈ fl, er f = 0 ∧ 0 ≤ f.n ∧ f.n ≤ 18446744073709551615) → Beg x (pb fl) d → tl x (fl.map Fd.k) d = (fl, d + (pb fl).size, 0)
  | [], d, _, _ => by
    show (([] : List Fd), d, (0 : Int)) = _
    have : (pb []).size = 0 := rfl
    rw [this]; rfl
  | f :: fl, d, hf, h => by
    obtain ⟨he, n0, n1⟩ := hf f (by simp)
    rw [pb_cons] at h ⊢
    obtain ⟨h1, h2⟩ := beg_append x _ _ d h
    have ht := tk_put (x.extract d x.size) f he n0 n1 (beg_rest x _ d h1)
    have ih := tl_put x fl (d + (enc f).size) (fun g hg => hf g (by simp [hg])) h2
    show tl x (f.k :: fl.map Fd.k) d = _
    unfold tl
    rw [ht]
    simp only
    rw [if_neg (by simp), ih]
    simp only
    rw [if_neg (by simp), ByteArray.size_append, Nat.add_assoc]

theorem sv_short (x : ByteArray) : ∀ (m i : Nat) (r : Int), m + 1 + i = 10 → 0 ≤ r → i ≤ x.size → x.size - i < (fewN m r).size → (∀ k, k < x.size - i → bt x ((i + k : Nat) : Int) = bt (fewN m r) k) →
    svN x (m + 1) i = (0, 0, 2) := by
  intro m
  induction m with
  | zero =>
    intro i r hi r0 hx hs h
    have e : (fewN 0 r).size = 1 := chrs_size [r]
    unfold svN
    rw [if_pos (by omega)]
  | succ m ih =>
    intro i r hi r0 hx hs h
    by_cases hc : x.size ≤ i
    · unfold svN
      rw [if_pos hc]
    · by_cases hr : r < 128
      · rw [fewN_one _ _ hr, chrs_size] at hs
        exact absurd hs (by simp; omega)
      · have ef : fewN (m + 1) r = chrs [128 + r % 128] ++ fewN m (r / 128) := by
          show (if r < 128 then chrs [r] else _) = _
          rw [if_neg hr]
        have e1 : (chrs [128 + r % 128]).size = 1 := chrs_size _
        rw [ef] at hs h
        rw [ByteArray.size_append, e1] at hs
        have hb := h 0 (by omega)
        rw [bt_append, e1, if_pos (by omega), chrs_bt _ (by omega) (by omega), Nat.add_zero] at hb
        have IH := ih (i + 1) (r / 128) (by omega) (by omega) (by omega) (by omega) (fun k hk => by
          have := h (k + 1) (by omega)
          rw [bt_append, e1, if_neg (by omega)] at this
          have e : i + (k + 1) = i + 1 + k := by omega
          have e2 : k + 1 - 1 = k := by omega
          rw [e, e2] at this
          exact this)
        unfold svN
        rw [if_neg hc, if_neg (by omega), if_neg (by omega), IH]
theorem tk_short (x : ByteArray) (f : Fd) (he : er f = 0) (hs : x.size < (enc f).size) (h : ∀ k, k < x.size → bt x k = bt (enc f) k) : (tk x f.k).2.2 = 2 := by
  obtain ⟨r1, r6, rs, rn, rt, rb⟩ := er_range f he
  have es := enc_size f r1 r6
  obtain ⟨k, n, s⟩ := f
  simp only at r1 r6 rs rn rt rb es hs h ⊢
  by_cases hk4 : k ≤ 4
  · rw [if_neg (by omega), if_neg (by omega)] at es
    unfold tk
    rw [if_neg (by omega), if_pos hk4, if_pos (by omega)]
  · by_cases h5 : k = 5
    · subst h5
      have hs : x.size < (fw n).size := hs
      have h : ∀ k, k < x.size → bt x k = bt (fw n) k := h
      have hv : sv x = (0, 0, 2) ∨ n < 0 := by
        by_cases hn : n < 0
        · exact Or.inr hn
        · exact Or.inl (sv_short x 9 0 n rfl (by omega) (Nat.zero_le _) (by rw [Nat.sub_zero]; exact hs) (fun k hk => by rw [Nat.zero_add]; exact h k (by rw [Nat.sub_zero] at hk; exact hk)))
      unfold tk
      rw [if_neg (by omega), if_neg hk4, if_pos rfl]
      rcases hv with hv | hv
      · rw [hv]
      · -- a number below nought has one byte
        have e : (fw n).size = 1 := by
          show (fewN 9 n).size = 1
          rw [fewN_one _ _ (by omega), chrs_size]; rfl
        have hz : x.size = 0 := by omega
        have : sv x = (0, 0, 2) := by
          show svN x 10 0 = _
          unfold svN
          rw [if_pos (by omega)]
        rw [this]
    · have h6 : k = 6 := by omega
      subst h6
      have en0 := rn rfl
      subst en0
      have ee : enc ⟨6, 0, s⟩ = fw s.size ++ s := rfl
      rw [ee] at hs h
      rw [ByteArray.size_append] at hs
      rw [tk_text]
      unfold tx
      by_cases hc : x.size < (fw s.size).size
      · have hv : sv x = (0, 0, 2) := sv_short x 9 0 (s.size : Int) rfl (by omega) (Nat.zero_le _) (by rw [Nat.sub_zero]; exact hc) (fun k hk => by
          rw [Nat.sub_zero] at hk
          have := h k hk
          rw [bt_append, if_pos (by omega)] at this
          rw [Nat.zero_add]
          exact this)
        rw [hv]
        simp
      · have hv := sv_whole x (s.size : Int) (by omega) (by omega) ⟨by omega, fun k hk => by
          have := h k (by omega)
          rw [bt_append, if_pos hk] at this
          rw [Nat.zero_add]
          exact this⟩
        rw [hv]
        simp only
        rw [if_neg (by simp), if_neg (by omega), if_pos (by omega)]
theorem tl_short (x : ByteArray) : ∀ (fl : List Fd) (d : Nat), (∀ f ∈ fl, er f = 0 ∧ 0 ≤ f.n ∧ f.n ≤ 18446744073709551615) → d ≤ x.size → x.size - d < (pb fl).size → (∀ k, k < x.size - d → bt x ((d + k : Nat) : Int) = bt (pb fl) k) →
    tl x (fl.map Fd.k) d = ([], 0, 2)
  | [], d, _, _, hs, _ => by
    have : (pb []).size = 0 := rfl
    omega
  | f :: fl, d, hf, hd, hs, h => by
    obtain ⟨he, n0, n1⟩ := hf f (by simp)
    rw [pb_cons] at hs h
    rw [ByteArray.size_append] at hs
    have sz := size_ext x d x.size (Nat.le_refl _)
    show tl x (f.k :: fl.map Fd.k) d = _
    by_cases hc : x.size - d < (enc f).size
    · have ht := tk_short (x.extract d x.size) f he (by omega) (fun k hk => by
        rw [bt_extract _ _ _ _ (by omega)]
        have := h k (by omega)
        rw [bt_append, if_pos (by omega)] at this
        exact this)
      unfold tl
      rw [ht]
      rfl
    · have hb : Beg x (enc f) d := ⟨by omega, fun k hk => by
        have := h k (by omega)
        rw [bt_append, if_pos hk] at this
        exact this⟩
      have ht := tk_put (x.extract d x.size) f he n0 n1 (beg_rest x _ d hb)
      have ih := tl_short x fl (d + (enc f).size) (fun g hg => hf g (by simp [hg])) (by omega) (by omega) (fun k hk => by
        have := h ((enc f).size + k) (by omega)
        rw [bt_append, if_neg (by omega)] at this
        have e : d + ((enc f).size + k) = d + (enc f).size + k := by omega
        have e2 : (enc f).size + k - (enc f).size = k := by omega
        rw [e, e2] at this
        exact this)
      unfold tl
      rw [ht]
      simp only
      rw [if_neg (by simp), ih]
      rfl
theorem tl_only (x : ByteArray) : ∀ (ks : List Int) (fl : List Fd) (d e : Nat), d ≤ x.size → tl x ks d = (fl, e, 0) →
    (∀ f ∈ fl, er f = 0 ∧ f.k ∈ ks ∧ (0 ≤ f.n ∧ f.n ≤ 18446744073709551615) ∧ f.s.size ≤ 65535) ∧ pb fl = x.extract d e ∧ d ≤ e ∧ e ≤ x.size
  | [], fl, d, e, hd, h => by
    have h1 : (([] : List Fd), d, (0 : Int)) = (fl, e, 0) := h
    have e1 := (Prod.mk.inj h1).1
    have e2 := (Prod.mk.inj (Prod.mk.inj h1).2).1
    subst e1 e2
    refine ⟨(fun f hf => by cases hf), ?_, Nat.le_refl _, hd⟩
    refine str_ext ?_ fun k hk => absurd hk (by show ¬ k < 0; omega)
    rw [size_ext _ _ _ hd]
    show 0 = _
    omega
  | k :: ks, fl, d, e, hd, h => by
    have sz := size_ext x d x.size (Nat.le_refl _)
    have hb := tk_back (x.extract d x.size) k
    have hl := tk_le (x.extract d x.size) k
    unfold tl at h
    by_cases h1 : (tk (x.extract d x.size) k).2.2 = 0
    · rw [if_neg (by simpa using h1)] at h
      obtain ⟨b1, b2, b3, b4, b5⟩ := hb h1
      have hl := hl h1
      generalize tk (x.extract d x.size) k = t at *
      obtain ⟨f, c, er1⟩ := t
      simp only at h b1 b2 b3 b4 b5 hl h1
      by_cases h2 : (tl x ks (d + c)).2.2 = 0
      · rw [if_neg (by simpa using h2)] at h
        have ih := tl_only x ks (tl x ks (d + c)).1 (d + c) (tl x ks (d + c)).2.1 (by omega) (by rw [← h2])
        obtain ⟨i1, i2, i3, i4⟩ := ih
        have e1 := (Prod.mk.inj h).1
        have e2 := (Prod.mk.inj (Prod.mk.inj h).2).1
        rw [e2] at i2 i3 i4
        subst e1
        refine ⟨fun g hg => ?_, ?_, by omega, i4⟩
        · rcases List.mem_cons.1 hg with rfl | hg
          · exact ⟨b1, by rw [b3]; simp, b4, b5⟩
          · obtain ⟨j1, j2, j3⟩ := i1 g hg
            exact ⟨j1, by simp [j2], j3⟩
        · rw [pb_cons, i2, b2, ext_ext x d c (by omega)]
          exact ext_join x d (d + c) e (by omega) i3 i4
      · rw [if_pos (by simpa using h2)] at h
        have := (Prod.mk.inj (Prod.mk.inj h).2).2
        exact absurd this h2
    · rw [if_pos (by simpa using h1)] at h
      have := (Prod.mk.inj (Prod.mk.inj h).2).2
      exact absurd this h1
theorem tl_bad (x : ByteArray) (ks : List Int) (d : Nat) (h : (tl x ks d).2.2 ≠ 0) : (tl x ks d).1 = [] ∧ (tl x ks d).2.1 = 0 := by
  cases ks with
  | nil => exact absurd rfl h
  | cons k ks =>
    unfold tl at h ⊢
    by_cases h1 : (tk (x.extract d x.size) k).2.2 ≠ 0
    · rw [if_pos h1]; exact ⟨rfl, rfl⟩
    · rw [if_neg h1] at h ⊢
      by_cases h2 : (tl x ks (d + (tk (x.extract d x.size) k).2.1)).2.2 ≠ 0
      · rw [if_pos h2]; exact ⟨rfl, rfl⟩
      · rw [if_neg h2] at h
        exact absurd rfl h
end Go.Proofs.Ytapjebhdgcpdjaa
