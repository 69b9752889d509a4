/-
  The longest row of numbers that do not fall: as the program reckons it, and as the document's answer does. No Go in it. No condition.
-/
import Derived.Test.YteblhgmepfegpabInvMath
namespace Go.Proofs.Yteblhgmepfegpab
set_option linter.unusedVariables false
set_option linter.unusedSimpArgs false

/-- How many are not above. -/
def low1 (T : List Int) (x : Int) : Nat := T.countP (fun t => decide (t ≤ x))
def stp (T : List Int) (x : Int) : List Int := if low1 T x = T.length then T ++ [x] else T.set (low1 T x) x
section
variable (z : Nat → Int)
def tls : Nat → List Int
  | 0 => []
  | n + 1 => stp (tls n) (z n)
def dpn (L : List Nat) (i : Nat) : Nat → Nat
  | 0 => 1
  | k + 1 => if z k ≤ z i ∧ dpn L i k < L.getD k 0 + 1 then L.getD k 0 + 1 else dpn L i k
def endsL : Nat → List Nat
  | 0 => []
  | i + 1 => endsL i ++ [dpn z (endsL i) i i]
def mostL : Nat → Nat
  | 0 => 0
  | i + 1 => if mostL i < dpn z (endsL z i) i i then dpn z (endsL z i) i i else mostL i
theorem endsL_length : ∀ n, (endsL z n).length = n
  | 0 => rfl
  | n + 1 => by unfold endsL; rw [List.length_append, endsL_length n]; rfl
theorem low1_le (T : List Int) (x : Int) : low1 T x ≤ T.length := List.countP_le_length
theorem low1_at {T : List Int} (hs : T.Pairwise (· ≤ ·)) (x : Int) : (∀ j (h : j < T.length), j < low1 T x → T[j] ≤ x) ∧ (∀ j (h : j < T.length), low1 T x ≤ j → x < T[j]) := by
  induction T with
  | nil => exact ⟨fun j h => absurd h (Nat.not_lt_zero _), fun j h => absurd h (Nat.not_lt_zero _)⟩
  | cons t T ih =>
    have hs' := List.pairwise_cons.1 hs
    obtain ⟨h1, h2⟩ := ih hs'.2
    by_cases ht : t ≤ x
    · have e : low1 (t :: T) x = low1 T x + 1 := by unfold low1; rw [List.countP_cons]; simp [ht]
      rw [e]
      refine ⟨fun j h hj => ?_, fun j h hj => ?_⟩
      · cases j with
        | zero => exact ht
        | succ j => exact h1 j (by simpa using h) (by omega)
      · cases j with
        | zero => omega
        | succ j => exact h2 j (by simpa using h) (by omega)
    · have e : low1 (t :: T) x = 0 := by
        unfold low1
        refine List.countP_eq_zero.2 (fun y hy => ?_)
        rcases List.mem_cons.1 hy with rfl | hy
        · simp; omega
        · have := hs'.1 y hy; simp; omega
      rw [e]
      refine ⟨fun j h hj => absurd hj (Nat.not_lt_zero _), fun j h _ => ?_⟩
      cases j with
      | zero => simp; omega
      | succ j =>
        have := hs'.1 (T[j]'(by simpa using h)) (List.getElem_mem _)
        simp only [List.getElem_cons_succ]; omega
structure Tls (T : List Int) (E : List Nat) (i : Nat) : Prop where
  srt : T.Pairwise (· ≤ ·)
  len : E.length = i
  one : ∀ k (h : k < E.length), 1 ≤ E[k] ∧ ∃ h2 : E[k] - 1 < T.length, T[E[k] - 1] ≤ z k
  som : ∀ j (h : j < T.length), ∃ k, ∃ h2 : k < E.length, E[k] = j + 1 ∧ z k = T[j]
theorem dpn_le {T : List Int} {E : List Nat} {i : Nat} (hT : Tls z T E i) : ∀ k, k ≤ i → dpn z E i k ≤ low1 T (z i) + 1
  | 0, _ => by show 1 ≤ _; omega
  | k + 1, hk => by
    unfold dpn
    have ih := dpn_le hT k (by omega)
    split
    · rename_i hc
      have hkl : k < E.length := by rw [hT.len]; omega
      obtain ⟨h1, h2, h3⟩ := hT.one k hkl
      have e : E.getD k 0 = E[k] := by rw [List.getD_eq_getElem?_getD, List.getElem?_eq_getElem hkl]; rfl
      rw [e]
      have := (low1_at hT.srt (z i)).2 (E[k] - 1) h2
      rcases Nat.lt_or_ge (E[k] - 1) (low1 T (z i)) with hh | hh
      · omega
      · have := this hh; have := hc.1; omega
    · exact ih
theorem dpn_ge (E : List Nat) (i : Nat) : ∀ k m, m < k → z m ≤ z i → E.getD m 0 + 1 ≤ dpn z E i k
  | 0, m, h, _ => absurd h (Nat.not_lt_zero _)
  | k + 1, m, h, hz => by
    unfold dpn
    by_cases e : m = k
    · subst e; split
      · exact Nat.le_refl _
      · rename_i hc
        have : ¬ dpn z E i m < E.getD m 0 + 1 := fun hh => hc ⟨hz, hh⟩
        omega
    · have := dpn_ge E i k m (by omega) hz
      split
      · rename_i hc; have := hc.2; omega
      · exact this
theorem dpn_one (E : List Nat) (i : Nat) : ∀ k, 1 ≤ dpn z E i k
  | 0 => Nat.le_refl _
  | k + 1 => by
    unfold dpn
    split
    · omega
    · exact dpn_one E i k
theorem dpn_eq {T : List Int} {E : List Nat} {i : Nat} (hT : Tls z T E i) : dpn z E i i = low1 T (z i) + 1 := by
  have h1 := dpn_le z hT i (Nat.le_refl _)
  have hle := low1_le T (z i)
  by_cases h0 : low1 T (z i) = 0
  · have := dpn_one z E i i; omega
  · obtain ⟨k, hk, he, hz⟩ := hT.som (low1 T (z i) - 1) (by omega)
    have := (low1_at hT.srt (z i)).1 (low1 T (z i) - 1) (by omega) (by omega)
    have h2 := dpn_ge z E i i k (by rw [← hT.len]; exact hk) (by omega)
    have e : E.getD k 0 = E[k] := by rw [List.getD_eq_getElem?_getD, List.getElem?_eq_getElem hk]; rfl
    rw [e, he] at h2
    omega
theorem stp_length (T : List Int) (x : Int) : (stp T x).length = if low1 T x = T.length then T.length + 1 else T.length := by
  unfold stp; split
  · rw [List.length_append]; rfl
  · rw [List.length_set]
theorem stp_at (T : List Int) (x : Int) (j : Nat) (h : j < (stp T x).length) : (stp T x)[j] = if j = low1 T x then x else T.getD j 0 := by
  have hle := low1_le T x
  have hl := stp_length T x
  unfold stp at h ⊢
  split
  · rename_i e
    simp only [List.getElem_append]
    split
    · rename_i hj
      rw [if_neg (by omega), List.getD_eq_getElem?_getD, List.getElem?_eq_getElem hj]; rfl
    · rename_i hj
      simp only [if_pos e, List.length_append, List.length_cons, List.length_nil] at h
      obtain rfl : j = T.length := by omega
      rw [if_pos e.symm]; simp
  · rename_i e
    rw [List.getElem_set]
    simp only [if_neg e, List.length_set] at h
    by_cases hj : low1 T x = j
    · rw [if_pos hj, if_pos hj.symm]
    · rw [if_neg hj, if_neg (Ne.symm hj), List.getD_eq_getElem?_getD, List.getElem?_eq_getElem h]; rfl
theorem tls_step {T : List Int} {E : List Nat} {i : Nat} (hT : Tls z T E i) : Tls z (stp T (z i)) (E ++ [dpn z E i i]) (i + 1) := by
  have hle := low1_le T (z i)
  have hlow := low1_at hT.srt (z i)
  have hL := stp_length T (z i)
  have hgd : ∀ j (h : j < T.length), T.getD j 0 = T[j] := fun j h => by rw [List.getD_eq_getElem?_getD, List.getElem?_eq_getElem h]; rfl
  have hsz : low1 T (z i) < (stp T (z i)).length := by rw [hL]; split <;> omega
  have hge : T.length ≤ (stp T (z i)).length := by rw [hL]; split <;> omega
  refine ⟨?_, by rw [List.length_append, hT.len]; rfl, fun k h => ?_, fun j h => ?_⟩
  · refine List.pairwise_iff_getElem.2 (fun a b ha hb hab => ?_)
    rw [stp_at, stp_at]
    have hb' : b ≤ T.length := by rw [hL] at hb; split at hb <;> omega
    have hbT : b ≠ low1 T (z i) → b < T.length := fun hh => by
      rw [hL] at hb; split at hb <;> omega
    have hpw := List.pairwise_iff_getElem.1 hT.srt
    by_cases ea : a = low1 T (z i)
    · rw [if_pos ea, if_neg (by omega), hgd b (hbT (by omega))]
      exact Int.le_of_lt (hlow.2 b _ (by omega))
    · rw [if_neg ea, hgd a (by omega)]
      by_cases eb : b = low1 T (z i)
      · rw [if_pos eb]; exact hlow.1 a _ (by omega)
      · rw [if_neg eb, hgd b (hbT eb)]; exact hpw a b _ _ hab
  · rw [List.length_append, List.length_singleton] at h
    by_cases ek : k < E.length
    · rw [List.getElem_append_left ek]
      obtain ⟨h1, h2, h3⟩ := hT.one k ek
      refine ⟨h1, by omega, ?_⟩
      rw [stp_at]
      split
      · rename_i e
        have := hlow.2 (E[k] - 1) h2 (by omega)
        omega
      · rw [hgd _ h2]; exact h3
    · have e : k = i := by have := hT.len; omega
      have hv : (E ++ [dpn z E i i])[k]'(by rw [List.length_append]; exact h) = low1 T (z i) + 1 := by
        rw [List.getElem_append_right (by omega)]
        simp only [List.getElem_singleton]
        exact dpn_eq z hT
      generalize (E ++ [dpn z E i i])[k]'(by rw [List.length_append]; exact h) = v at hv ⊢
      subst hv
      refine ⟨by omega, hsz, ?_⟩
      rw [stp_at, if_pos (Nat.add_sub_cancel ..), e]; exact Int.le_refl _
  · rw [stp_at]
    by_cases ej : j = low1 T (z i)
    · rw [if_pos ej]
      refine ⟨i, by rw [List.length_append, hT.len]; simp, ?_, rfl⟩
      rw [List.getElem_append_right (by rw [hT.len]; exact Nat.le_refl _)]
      simp only [List.getElem_singleton]
      rw [dpn_eq z hT, ej]
    · have hjT : j < T.length := by rw [hL] at h; split at h <;> omega
      rw [if_neg ej, hgd j hjT]
      obtain ⟨k, hk, h1, h2⟩ := hT.som j hjT
      refine ⟨k, by rw [List.length_append]; omega, ?_, h2⟩
      rw [List.getElem_append_left hk]; exact h1
theorem tls_all : ∀ n, Tls z (tls z n) (endsL z n) n
  | 0 => ⟨List.Pairwise.nil, rfl, fun k h => absurd h (Nat.not_lt_zero _), fun j h => absurd h (Nat.not_lt_zero _)⟩
  | n + 1 => tls_step z (tls_all n)
/-- The two ways tell the same. -/
theorem most_tls : ∀ n, mostL z n = (tls z n).length
  | 0 => rfl
  | n + 1 => by
    have hle := low1_le (tls z n) (z n)
    unfold mostL tls
    rw [most_tls n, dpn_eq z (tls_all z n), stp_length]
    split <;> split <;> omega
theorem tls_le : ∀ n, (tls z n).length ≤ n
  | 0 => Nat.le_refl _
  | n + 1 => by
    have := tls_le n
    unfold tls; rw [stp_length]; split <;> omega
theorem tls_full : ∀ n, (tls z n).length = n → tls z n = (List.range n).map z ∧ ∀ i, i < n → 0 < i → z (i - 1) ≤ z i
  | 0, _ => ⟨rfl, fun i h => absurd h (Nat.not_lt_zero _)⟩
  | n + 1, h => by
    have hle := tls_le z n
    have h' := h
    unfold tls at h
    rw [stp_length] at h
    have e : low1 (tls z n) (z n) = (tls z n).length := by split at h <;> omega
    have hn : (tls z n).length = n := by rw [if_pos e] at h; omega
    obtain ⟨h1, h2⟩ := tls_full n hn
    refine ⟨?_, fun i hi h0 => ?_⟩
    · unfold tls stp
      rw [if_pos e, h1, List.range_succ, List.map_append]; rfl
    · by_cases ei : i = n
      · subst ei
        have := (low1_at (tls_all z i).srt (z i)).1 (i - 1) (by omega) (by omega)
        simp only [h1, List.getElem_map, List.getElem_range] at this
        exact this
      · exact h2 i (by omega) h0
theorem tls_rises : ∀ n, (∀ i, i < n → 0 < i → z (i - 1) ≤ z i) → tls z n = (List.range n).map z
  | 0, _ => rfl
  | n + 1, h => by
    have ih := tls_rises n (fun i hi => h i (by omega))
    have mono : ∀ j, j ≤ n → z j ≤ z n := by
      intro j hj
      obtain ⟨d, hd⟩ : ∃ d, n = j + d := ⟨n - j, by omega⟩
      clear ih hj
      induction d generalizing n with
      | zero => subst hd; exact Int.le_refl _
      | succ d ihd =>
        subst hd
        have h1 := ihd (j + d) (fun i hi => h i (by omega)) rfl
        have h2 := h (j + (d + 1)) (by omega) (by omega)
        rw [show j + (d + 1) - 1 = j + d by omega] at h2
        omega
    have e : low1 (tls z n) (z n) = (tls z n).length := by
      unfold low1
      refine List.countP_eq_length.2 (fun x hx => ?_)
      rw [ih] at hx
      obtain ⟨j, hj, rfl⟩ := List.mem_map.1 hx
      have := mono j (by have := List.mem_range.1 hj; omega)
      simpa using this
    unfold tls stp
    rw [if_pos e, ih, List.range_succ, List.map_append]; rfl
theorem tls_whole (n : Nat) : (tls z n).length = n ↔ ∀ i, i < n → 0 < i → z (i - 1) ≤ z i := by
  constructor
  · exact fun h => (tls_full z n h).2
  · intro h; rw [tls_rises z n h, List.length_map, List.length_range]
end
end Go.Proofs.Yteblhgmepfegpab
