/-
  Numbers out of order: merging two rows of places, how late each one is, how many pairs are turned, the order. No Go in it. No condition.
-/
import Derived.WalkKit
namespace Go.Proofs.Yteblhgmepfegpab
set_option linter.unusedVariables false
set_option linter.unusedSimpArgs false

/-- A sum of the first so many. -/
def sumR (f : Nat → Nat) : Nat → Nat
  | 0 => 0
  | n + 1 => sumR f n + f n
def one1 (b : Bool) : Nat := if b then 1 else 0
/-- How many of the first so many. -/
def cR (p : Nat → Bool) (n : Nat) : Nat := sumR (fun i => one1 (p i)) n
theorem cR_zero (p : Nat → Bool) : cR p 0 = 0 := rfl
theorem cR_succ (p : Nat → Bool) (n : Nat) : cR p (n + 1) = cR p n + one1 (p n) := rfl
theorem sumR_congr {f g : Nat → Nat} (n : Nat) (h : ∀ i, i < n → f i = g i) : sumR f n = sumR g n := by
  induction n with
  | zero => rfl
  | succ n ih => unfold sumR; rw [ih (fun i hi => h i (by omega)), h n (by omega)]
theorem cR_congr {p q : Nat → Bool} (n : Nat) (h : ∀ i, i < n → p i = q i) : cR p n = cR q n := sumR_congr n (fun i hi => by rw [h i hi])
theorem sumR_add (f g : Nat → Nat) (n : Nat) : sumR (fun i => f i + g i) n = sumR f n + sumR g n := by
  induction n with
  | zero => rfl
  | succ n ih => simp only [sumR, ih]; omega
theorem sumR_null (n : Nat) : sumR (fun _ => 0) n = 0 := by
  induction n with
  | zero => rfl
  | succ n ih => simp only [sumR, ih]
theorem sumR_swap (g : Nat → Nat → Nat) (m n : Nat) : sumR (fun i => sumR (fun j => g i j) n) m = sumR (fun j => sumR (fun i => g i j) m) n := by
  induction m with
  | zero => simp only [sumR]; rw [sumR_null]
  | succ m ih => simp only [sumR]; rw [ih, ← sumR_add]
theorem cR_le (p : Nat → Bool) (n : Nat) : cR p n ≤ n := by
  induction n with
  | zero => exact Nat.le_refl _
  | succ n ih => rw [cR_succ]; unfold one1; split <;> omega
theorem sumR_le {f g : Nat → Nat} (n : Nat) (h : ∀ i, i < n → f i ≤ g i) : sumR f n ≤ sumR g n := by
  induction n with
  | zero => exact Nat.le_refl _
  | succ n ih => have := ih (fun i hi => h i (by omega)); have := h n (by omega); simp only [sumR]; omega
theorem cR_and_lt (q : Nat → Bool) (k n : Nat) (h : k ≤ n) : cR (fun i => decide (i < k) && q i) n = cR q k := by
  induction n with
  | zero => rw [show k = 0 by omega]; rfl
  | succ n ih =>
    rw [cR_succ]
    by_cases hk : k ≤ n
    · rw [ih hk, show decide (n < k) = false by simp; omega]; rfl
    · have e : k = n + 1 := by omega
      subst e
      rw [cR_succ, cR_congr (q := q) n (fun i hi => by rw [show decide (i < n + 1) = true by simp; omega, Bool.true_and]), show decide (n < n + 1) = true by simp, Bool.true_and]
theorem cR_pos {p : Nat → Bool} {n i : Nat} (hi : i < n) (h : p i = true) : 0 < cR p n := by
  induction n with
  | zero => omega
  | succ n ih =>
    rw [cR_succ]
    by_cases e : i = n
    · subst e; rw [h]; unfold one1; simp
    · have := ih (by omega); omega
theorem cR_none {p : Nat → Bool} {n : Nat} (h : ∀ i, i < n → p i = false) : cR p n = 0 := by
  rw [cR_congr (q := fun _ => false) n h]; exact sumR_null n
theorem cR_eq_countP (p : Nat → Bool) (n : Nat) : cR p n = (List.range n).countP p := by
  induction n with
  | zero => rfl
  | succ n ih => rw [cR_succ, List.range_succ, List.countP_append, ih, List.countP_singleton]; unfold one1; rfl

section
variable (z : Nat → Int)
/-- How many stand ahead of a place with a greater number. -/
def lateN (i : Nat) : Nat := cR (fun k => decide (z i < z k)) i
/-- How many pairs of the first so many are turned. -/
def invN (n : Nat) : Nat := sumR (lateN z) n
/-- How many pairs behind a place are turned with it. -/
def aftN (n i : Nat) : Nat := cR (fun k => decide (i < k) && decide (z k < z i)) n
theorem aft_sum (n : Nat) : sumR (aftN z n) n = invN z n := by
  have h1 : sumR (aftN z n) n = sumR (fun k => sumR (fun i => one1 (decide (i < k) && decide (z k < z i))) n) n := by
    rw [← sumR_swap]; rfl
  rw [h1]
  exact sumR_congr n (fun k hk => by
    show cR (fun i => decide (i < k) && decide (z k < z i)) n = lateN z k
    rw [cR_and_lt (fun i => decide (z k < z i)) k n (by omega)]; rfl)
theorem lateN_le (i : Nat) : lateN z i ≤ i := cR_le _ _
theorem invN_bound (n : Nat) : invN z n ≤ n * n := by
  unfold invN
  induction n with
  | zero => exact Nat.le_refl _
  | succ n ih => simp only [sumR]; have := lateN_le z n; rw [Nat.succ_mul, Nat.mul_succ]; omega
/-- None is turned just where numbers do not fall. -/
theorem invN_zero (n : Nat) : invN z n = 0 ↔ ∀ i, i < n → 0 < i → z (i - 1) ≤ z i := by
  constructor
  · intro h i hi h0
    have hl : lateN z i = 0 := by
      unfold invN at h
      induction n with
      | zero => omega
      | succ n ih =>
        simp only [sumR] at h
        by_cases e : i = n
        · subst e; omega
        · exact ih (by omega) (by omega)
    refine Int.not_lt.1 (fun hlt => ?_)
    have := cR_pos (p := fun k => decide (z i < z k)) (n := i) (i := i - 1) (by omega) (by simpa using hlt)
    unfold lateN at hl
    omega
  · intro h
    have mono : ∀ i j, i ≤ j → j < n → z i ≤ z j := by
      intro i j hij
      induction j with
      | zero => intro _; rw [show i = 0 by omega]; exact Int.le_refl _
      | succ j ih =>
        intro hj
        by_cases e : i = j + 1
        · rw [e]; exact Int.le_refl _
        · have h1 := ih (by omega) (by omega)
          have h2 := h (j + 1) hj (by omega)
          simp only [Nat.add_sub_cancel] at h2
          omega
    unfold invN
    rw [sumR_congr (g := fun _ => 0) n (fun i hi => ?_)]
    · exact sumR_null n
    · exact cR_none (fun k hk => decide_eq_false (by have := mono k i (by omega) hi; omega))

/-- Ahead of: the lesser number, of one number the lesser place. -/
def Ahd (i j : Nat) : Prop := z i < z j ∨ z i = z j ∧ i < j
def mrg : List Nat → List Nat → List Nat
  | [], B => B
  | a :: A, [] => a :: A
  | a :: A, b :: B => if z a ≤ z b then a :: mrg A (b :: B) else b :: mrg (a :: A) B
termination_by A B => A.length + B.length
/-- How late those of the second row are. -/
def mgl : List Nat → List Nat → List Int → List Int
  | [], _, t => t
  | _ :: _, [], t => t
  | a :: A, b :: B, t => if z a ≤ z b then mgl A (b :: B) t else mgl (a :: A) B (t.set b (t.getD b 0 + (A.length + 1 : Nat)))
termination_by A B => A.length + B.length
theorem mrg_nil (B : List Nat) : mrg z [] B = B := by rw [mrg]
theorem mrg_nil2 : ∀ A : List Nat, mrg z A [] = A
  | [] => by rw [mrg]
  | a :: A => by rw [mrg]
theorem mgl_nil2 : ∀ (A : List Nat) (t : List Int), mgl z A [] t = t
  | [], t => by rw [mgl]
  | a :: A, t => by rw [mgl]
theorem mrg_perm : ∀ A B : List Nat, (mrg z A B).Perm (A ++ B)
  | [], B => by rw [mrg]; exact List.Perm.refl _
  | a :: A, [] => by rw [mrg, List.append_nil]
  | a :: A, b :: B => by
    rw [mrg]
    split
    · exact (mrg_perm A (b :: B)).cons a
    · exact ((mrg_perm (a :: A) B).cons b).trans (List.perm_middle (l₁ := a :: A)).symm
termination_by A B => A.length + B.length
theorem mrg_length (A B : List Nat) : (mrg z A B).length = A.length + B.length := by rw [(mrg_perm z A B).length_eq, List.length_append]
theorem mgl_length : ∀ (A B : List Nat) (t : List Int), (mgl z A B t).length = t.length
  | [], B, t => by rw [mgl]
  | a :: A, [], t => by rw [mgl]
  | a :: A, b :: B, t => by
    rw [mgl]
    split
    · exact mgl_length A (b :: B) t
    · rw [mgl_length (a :: A) B _, List.length_set]
termination_by A B => A.length + B.length
theorem mrg_sorted : ∀ A B : List Nat, A.Pairwise (Ahd z) → B.Pairwise (Ahd z) → (∀ a ∈ A, ∀ b ∈ B, a < b) → (mrg z A B).Pairwise (Ahd z)
  | [], B, _, h, _ => by rw [mrg]; exact h
  | a :: A, [], h, _, _ => by rw [mrg]; exact h
  | a :: A, b :: B, ha, hb, hab => by
    have ha' := List.pairwise_cons.1 ha
    have hb' := List.pairwise_cons.1 hb
    have h0 := hab a (by simp) b (by simp)
    rw [mrg]
    split
    · rename_i hz
      refine List.pairwise_cons.2 ⟨fun x hx => ?_, mrg_sorted A (b :: B) ha'.2 hb (fun x hx y hy => hab x (by simp [hx]) y hy)⟩
      rcases List.mem_append.1 ((mrg_perm z A (b :: B)).mem_iff.1 hx) with hx | hx
      · exact ha'.1 x hx
      · have hax := hab a (by simp) x hx
        rcases List.mem_cons.1 hx with rfl | hx
        · unfold Ahd; omega
        · have := hb'.1 x hx; unfold Ahd at this ⊢; omega
    · rename_i hz
      refine List.pairwise_cons.2 ⟨fun x hx => ?_, mrg_sorted (a :: A) B ha hb'.2 (fun x hx y hy => hab x hx y (by simp [hy]))⟩
      rcases List.mem_append.1 ((mrg_perm z (a :: A) B).mem_iff.1 hx) with hx | hx
      · rcases List.mem_cons.1 hx with rfl | hx
        · unfold Ahd; omega
        · have := ha'.1 x hx; unfold Ahd at this ⊢; omega
      · exact hb'.1 x hx
termination_by A B => A.length + B.length
theorem Ahd_le {i j : Nat} (h : Ahd z i j) : z i ≤ z j := by unfold Ahd at h; omega
theorem Ahd_ne {i j : Nat} (h : Ahd z i j) : i ≠ j := by
  rintro rfl; unfold Ahd at h; omega
theorem getD_set0 (t : List Int) (i j : Nat) (x : Int) (hi : i < t.length) : (t.set i x).getD j 0 = if j = i then x else t.getD j 0 := by
  rw [List.getD_eq_getElem?_getD, List.getElem?_set, List.getD_eq_getElem?_getD]
  by_cases h : i = j
  · subst h; simp [hi]
  · rw [if_neg h, if_neg (Ne.symm h)]
theorem mgl_at : ∀ (A B : List Nat) (t : List Int), A.Pairwise (Ahd z) → B.Pairwise (Ahd z) → (∀ b ∈ B, b < t.length) → ∀ i, (mgl z A B t).getD i 0 = t.getD i 0 + (if i ∈ B then (A.countP (fun a => decide (z i < z a)) : Nat) else 0 : Nat)
  | [], B, t, _, _, _, i => by rw [mgl]; simp
  | a :: A, [], t, _, _, _, i => by rw [mgl]; simp
  | a :: A, b :: B, t, ha, hb, ht, i => by
    have ha' := List.pairwise_cons.1 ha
    have hb' := List.pairwise_cons.1 hb
    rw [mgl]
    split
    · rename_i hz
      rw [mgl_at A (b :: B) t ha'.2 hb ht i]
      congr 2
      by_cases hi : i ∈ b :: B
      · rw [if_pos hi, if_pos hi, List.countP_cons]
        have : z a ≤ z i := by
          rcases List.mem_cons.1 hi with rfl | hi
          · exact hz
          · have := Ahd_le z (hb'.1 i hi); omega
        rw [show decide (z i < z a) = false by simp; omega]
        simp
      · rw [if_neg hi, if_neg hi]
    · rename_i hz
      have hbl := ht b (by simp)
      rw [mgl_at (a :: A) B _ ha hb'.2 (fun x hx => by rw [List.length_set]; exact ht x (by simp [hx])) i, getD_set0 _ _ _ _ hbl]
      by_cases hi : i = b
      · subst hi
        have hn : i ∉ B := fun h => Ahd_ne z (hb'.1 i h) rfl
        rw [if_pos rfl, if_neg hn, if_pos (by simp)]
        have hc : (a :: A).countP (fun a => decide (z i < z a)) = (a :: A).length := List.countP_eq_length.2 (fun x hx => by
          rcases List.mem_cons.1 hx with rfl | hx
          · simp; omega
          · have := Ahd_le z (ha'.1 x hx); simp; omega)
        rw [hc, List.length_cons]; omega
      · rw [if_neg hi]
        congr 2
        by_cases hiB : i ∈ B
        · rw [if_pos hiB, if_pos (by simp [hiB])]
        · rw [if_neg hiB, if_neg (by simp [hiB, hi])]
termination_by A B => A.length + B.length

def ms : Nat → List Nat → List Nat
  | 0, xs => xs
  | k + 1, xs => if xs.length < 2 then xs else mrg z (ms k (xs.take (xs.length / 2))) (ms k (xs.drop (xs.length / 2)))
def msl : Nat → List Nat → List Int → List Int
  | 0, _, t => t
  | k + 1, xs, t => if xs.length < 2 then t else mgl z (ms z k (xs.take (xs.length / 2))) (ms z k (xs.drop (xs.length / 2))) (msl k (xs.drop (xs.length / 2)) (msl k (xs.take (xs.length / 2)) t))
theorem ms_perm : ∀ (k : Nat) (xs : List Nat), (ms z k xs).Perm xs
  | 0, xs => List.Perm.refl _
  | k + 1, xs => by
    unfold ms
    split
    · exact List.Perm.refl _
    · refine (mrg_perm z _ _).trans ?_
      have := (ms_perm k (xs.take (xs.length / 2))).append (ms_perm k (xs.drop (xs.length / 2)))
      rwa [List.take_append_drop] at this
theorem ms_length (k : Nat) (xs : List Nat) : (ms z k xs).length = xs.length := (ms_perm z k xs).length_eq
theorem msl_length : ∀ (k : Nat) (xs : List Nat) (t : List Int), (msl z k xs t).length = t.length
  | 0, xs, t => rfl
  | k + 1, xs, t => by
    unfold msl
    split
    · rfl
    · rw [mgl_length, msl_length, msl_length]
theorem split_lt {xs : List Nat} (h : xs.Pairwise (· < ·)) (m : Nat) : (xs.take m).Pairwise (· < ·) ∧ (xs.drop m).Pairwise (· < ·) ∧ ∀ a ∈ xs.take m, ∀ b ∈ xs.drop m, a < b := by
  rw [← List.take_append_drop m xs] at h
  have := List.pairwise_append.1 h
  exact ⟨this.1, this.2.1, this.2.2⟩
theorem ms_sorted : ∀ (k : Nat) (xs : List Nat), xs.length ≤ 2 ^ k → xs.Pairwise (· < ·) → (ms z k xs).Pairwise (Ahd z)
  | 0, xs, h, _ => by
    match xs, h with
    | [], _ => exact List.Pairwise.nil
    | [x], _ => exact List.pairwise_singleton _ _
    | x :: y :: l, h => simp at h
  | k + 1, xs, h, hx => by
    unfold ms
    split
    · rename_i h2
      match xs, h2 with
      | [], _ => exact List.Pairwise.nil
      | [x], _ => exact List.pairwise_singleton _ _
      | x :: y :: l, h2 => simp at h2; omega
    · obtain ⟨h1, h2, h3⟩ := split_lt hx (xs.length / 2)
      rw [Nat.pow_succ] at h
      refine mrg_sorted z _ _ (ms_sorted k _ (by rw [List.length_take]; omega) h1) (ms_sorted k _ (by rw [List.length_drop]; omega) h2) (fun a ha b hb => h3 a ((ms_perm z k _).mem_iff.1 ha) b ((ms_perm z k _).mem_iff.1 hb))
theorem msl_at : ∀ (k : Nat) (xs : List Nat) (t : List Int), xs.length ≤ 2 ^ k → xs.Pairwise (· < ·) → (∀ x ∈ xs, x < t.length) → ∀ i, (msl z k xs t).getD i 0 = t.getD i 0 + (if i ∈ xs then xs.countP (fun j => decide (j < i) && decide (z i < z j)) else 0 : Nat)
  | 0, xs, t, h, _, _, i => by
    show t.getD i 0 = _
    match xs, h with
    | [], _ => simp
    | [x], _ =>
      by_cases e : i = x
      · subst e; simp
      · simp [e]
    | x :: y :: l, h => simp at h
  | k + 1, xs, t, h, hx, ht, i => by
    unfold msl
    split
    · rename_i h2
      match xs, h2 with
      | [], _ => simp
      | [x], _ =>
        by_cases e : i = x
        · subst e; simp
        · simp [e]
      | x :: y :: l, h2 => simp at h2; omega
    · obtain ⟨h1, h2, h3⟩ := split_lt hx (xs.length / 2)
      rw [Nat.pow_succ] at h
      have l1 : (xs.take (xs.length / 2)).length ≤ 2 ^ k := by rw [List.length_take]; omega
      have l2 : (xs.drop (xs.length / 2)).length ≤ 2 ^ k := by rw [List.length_drop]; omega
      have m1 : ∀ x ∈ xs.take (xs.length / 2), x < t.length := fun x hx => ht x (List.mem_of_mem_take hx)
      have m2 : ∀ x ∈ xs.drop (xs.length / 2), x < (msl z k (xs.take (xs.length / 2)) t).length := fun x hx => by rw [msl_length]; exact ht x (List.mem_of_mem_drop hx)
      rw [mgl_at z _ _ _ (ms_sorted z k _ l1 h1) (ms_sorted z k _ l2 h2) (fun b hb => by rw [msl_length]; exact m2 b ((ms_perm z k _).mem_iff.1 hb)) i,
        msl_at k _ _ l2 h2 m2 i, msl_at k _ _ l1 h1 m1 i]
      have hmem : i ∈ ms z k (xs.drop (xs.length / 2)) ↔ i ∈ xs.drop (xs.length / 2) := (ms_perm z k _).mem_iff
      have hsp : i ∈ xs ↔ i ∈ xs.take (xs.length / 2) ∨ i ∈ xs.drop (xs.length / 2) := by
        conv => lhs; rw [← List.take_append_drop (xs.length / 2) xs]
        exact List.mem_append
      have hcs : ∀ p : Nat → Bool, xs.countP p = (xs.take (xs.length / 2)).countP p + (xs.drop (xs.length / 2)).countP p := fun p => by
        conv => lhs; rw [← List.take_append_drop (xs.length / 2) xs]
        exact List.countP_append
      rw [(ms_perm z k (xs.take (xs.length / 2))).countP_eq]
      by_cases hd : i ∈ xs.drop (xs.length / 2)
      · have ht' : i ∉ xs.take (xs.length / 2) := fun hh => absurd (h3 i hh i hd) (Nat.lt_irrefl _)
        rw [if_pos (hmem.2 hd), if_pos hd, if_neg ht', if_pos (hsp.2 (Or.inr hd)), hcs]
        have e : (xs.take (xs.length / 2)).countP (fun a => decide (z i < z a)) = (xs.take (xs.length / 2)).countP (fun j => decide (j < i) && decide (z i < z j)) := List.countP_congr (fun a ha => by
          have := h3 a ha i hd
          simp [this])
        rw [e]; omega
      · rw [if_neg (fun hh => hd (hmem.1 hh)), if_neg hd]
        by_cases ht' : i ∈ xs.take (xs.length / 2)
        · rw [if_pos ht', if_pos (hsp.2 (Or.inl ht')), hcs]
          have e : (xs.drop (xs.length / 2)).countP (fun j => decide (j < i) && decide (z i < z j)) = 0 := List.countP_eq_zero.2 (fun a ha => by
            have := h3 i ht' a ha
            simp; omega)
          rw [e]; omega
        · rw [if_neg ht', if_neg (fun hh => (hsp.1 hh).elim ht' hd)]; omega

/-- The order of the first so many. -/
def ordN (n : Nat) : List Nat := ms z n (List.range n)
def latN (n : Nat) : List Int := msl z n (List.range n) (List.replicate n 0)
theorem range_pow (n : Nat) : (List.range n).length ≤ 2 ^ n := by rw [List.length_range]; exact Nat.le_of_lt Nat.lt_two_pow_self
theorem range_lt (n : Nat) : (List.range n).Pairwise (· < ·) := List.pairwise_lt_range
theorem ordN_perm (n : Nat) : (ordN z n).Perm (List.range n) := ms_perm z n _
theorem ordN_length (n : Nat) : (ordN z n).length = n := by rw [(ordN_perm z n).length_eq, List.length_range]
theorem ordN_sorted (n : Nat) : (ordN z n).Pairwise (Ahd z) := ms_sorted z n _ (range_pow n) (range_lt n)
theorem ordN_lt (n : Nat) : ∀ x ∈ ordN z n, x < n := fun x hx => List.mem_range.1 ((ordN_perm z n).mem_iff.1 hx)
theorem latN_length (n : Nat) : (latN z n).length = n := by unfold latN; rw [msl_length, List.length_replicate]
theorem latN_at (n i : Nat) (hi : i < n) : (latN z n).getD i 0 = lateN z i := by
  unfold latN
  rw [msl_at z n _ _ (range_pow n) (range_lt n) (fun x hx => by rw [List.length_replicate]; exact List.mem_range.1 hx) i, if_pos (List.mem_range.2 hi), ← cR_eq_countP, cR_and_lt (fun j => decide (z i < z j)) i n (by omega)]
  rw [List.getD_eq_getElem?_getD, List.getElem?_replicate, if_pos hi]
  show (0 : Int) + _ = _
  unfold lateN
  omega
theorem latN_eq (n : Nat) : latN z n = (List.range n).map (fun i => (lateN z i : Int)) := by
  apply List.ext_getElem
  · rw [latN_length, List.length_map, List.length_range]
  · intro i h1 h2
    rw [latN_length] at h1
    have := latN_at z n i h1
    rw [List.getD_eq_getElem?_getD, List.getElem?_eq_getElem (by rw [latN_length]; exact h1)] at this
    simpa using this
/-- How many stand ahead of a place in the order. -/
def rkN (n i : Nat) : Nat := cR (fun k => decide (z k < z i) || decide (z k = z i) && decide (k < i)) n
theorem rkN_at (n p : Nat) (hp : p < n) : rkN z n ((ordN z n).getD p 0) = p := by
  have hl := ordN_length z n
  have hs := ordN_sorted z n
  have hpl : p < (ordN z n).length := by omega
  have e0 : (ordN z n).getD p 0 = (ordN z n)[p] := by rw [List.getD_eq_getElem?_getD, List.getElem?_eq_getElem hpl]; rfl
  rw [e0]
  unfold rkN
  rw [cR_eq_countP, ← (ordN_perm z n).countP_eq]
  have hpw := List.pairwise_iff_getElem.1 hs
  have hcs : ∀ q : Nat → Bool, (ordN z n).countP q = ((ordN z n).take p).countP q + ((ordN z n).drop p).countP q := fun q => by
    conv => lhs; rw [← List.take_append_drop p (ordN z n)]
    exact List.countP_append
  rw [hcs]
  have c1 : ((ordN z n).take p).countP (fun k => decide (z k < z (ordN z n)[p]) || decide (z k = z (ordN z n)[p]) && decide (k < (ordN z n)[p])) = ((ordN z n).take p).length := List.countP_eq_length.2 (fun x hx => by
    obtain ⟨q, hq, rfl⟩ := List.getElem_of_mem hx
    rw [List.length_take] at hq
    rw [List.getElem_take]
    have := hpw q p (by omega) hpl (by omega)
    unfold Ahd at this
    simpa using this)
  have c2 : ((ordN z n).drop p).countP (fun k => decide (z k < z (ordN z n)[p]) || decide (z k = z (ordN z n)[p]) && decide (k < (ordN z n)[p])) = 0 := List.countP_eq_zero.2 (fun x hx => by
    obtain ⟨q, hq, rfl⟩ := List.getElem_of_mem hx
    rw [List.length_drop] at hq
    rw [List.getElem_drop]
    by_cases e : q = 0
    · subst e; simp
    · have := hpw p (p + q) hpl (by omega) (by omega)
      unfold Ahd at this
      simp
      omega)
  rw [c1, c2, List.length_take]; omega
theorem ordN_surj (n i : Nat) (hi : i < n) : ∃ p, p < n ∧ (ordN z n).getD p 0 = i := by
  have : i ∈ ordN z n := (ordN_perm z n).mem_iff.2 (List.mem_range.2 hi)
  obtain ⟨p, hp, he⟩ := List.getElem_of_mem this
  refine ⟨p, by rw [ordN_length] at hp; exact hp, ?_⟩
  rw [List.getD_eq_getElem?_getD, List.getElem?_eq_getElem hp]; exact he
theorem rkN_lt (n i : Nat) (hi : i < n) : rkN z n i < n := by
  obtain ⟨p, hp, rfl⟩ := ordN_surj z n i hi
  rw [rkN_at z n p hp]; exact hp
theorem rkN_inj (n i j : Nat) (hi : i < n) (hj : j < n) (h : rkN z n i = rkN z n j) : i = j := by
  obtain ⟨p, hp, rfl⟩ := ordN_surj z n i hi
  obtain ⟨q, hq, rfl⟩ := ordN_surj z n j hj
  rw [rkN_at z n p hp, rkN_at z n q hq] at h
  rw [h]
/-- The order as the document's answer writes it: each place where it belongs. -/
theorem order_eq (n : Nat) (out : List Int) (hl : out.length = n) (h : ∀ i, i < n → out.getD (rkN z n i) 0 = (i : Int)) : out = (ordN z n).map (fun i : Nat => (i : Int)) := by
  apply List.ext_getElem
  · rw [List.length_map, ordN_length, hl]
  · intro p h1 h2
    rw [hl] at h1
    have hpl : p < (ordN z n).length := by rw [ordN_length]; exact h1
    have e0 : (ordN z n).getD p 0 = (ordN z n)[p] := by rw [List.getD_eq_getElem?_getD, List.getElem?_eq_getElem hpl]; rfl
    have h3 := h ((ordN z n).getD p 0) (ordN_lt z n _ (by rw [e0]; exact List.getElem_mem _))
    rw [rkN_at z n p h1, List.getD_eq_getElem?_getD, List.getElem?_eq_getElem (by omega)] at h3
    rw [List.getElem_map, ← e0]
    exact h3
theorem order_keep (n k : Nat) (out : List Int) (hk : k < n) (hl : out.length = n) (h : ∀ i, i < k → out.getD (rkN z n i) 0 = (i : Int)) : ∀ i, i < k + 1 → (out.set (rkN z n k) (k : Int)).getD (rkN z n i) 0 = (i : Int) := by
  intro i hi
  rw [getD_set0 _ _ _ _ (by rw [hl]; exact rkN_lt z n k hk)]
  split
  · rename_i e
    rw [rkN_inj z n i k (by omega) hk e]
  · rename_i e
    have : i ≠ k := fun he => e (by rw [he])
    exact h i (by omega)
/-- The numbers as the order puts them do not fall. -/
theorem ordN_rises (n p : Nat) (hp : p < n) (h0 : 0 < p) : z ((ordN z n).getD (p - 1) 0) ≤ z ((ordN z n).getD p 0) := by
  have hl := ordN_length z n
  have := List.pairwise_iff_getElem.1 (ordN_sorted z n) (p - 1) p (by omega) (by omega) (by omega)
  have e : ∀ q (h : q < (ordN z n).length), (ordN z n).getD q 0 = (ordN z n)[q] := fun q h => by rw [List.getD_eq_getElem?_getD, List.getElem?_eq_getElem h]; rfl
  rw [e _ (by omega), e _ (by omega)]
  exact Ahd_le z this
end
end Go.Proofs.Yteblhgmepfegpab
