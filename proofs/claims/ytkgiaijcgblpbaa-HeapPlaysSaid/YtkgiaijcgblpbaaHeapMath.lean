/-
  Items in a heap: what rising and sinking keep; the first one is the least; a sorted list with the same items. No Go in it. No condition.
-/
import Derived.WalkKit
namespace Go.Proofs.Ytkgiaijcgblpbaa
set_option linter.unusedVariables false
set_option linter.unusedSimpArgs false

/-- An item: its rank, its element, how many came ahead of it. -/
structure Ent (α : Type) where
  rk : Int
  x : α
  tn : Int
section
variable {α : Type}
def Ent.lt (a b : Ent α) : Prop := a.rk < b.rk ∨ (a.rk = b.rk ∧ a.tn < b.tn)
instance (a b : Ent α) : Decidable (a.lt b) := by unfold Ent.lt; exact inferInstance
theorem Ent.le_trans {a b c : Ent α} (h : ¬ b.lt a) (k : ¬ c.lt b) : ¬ c.lt a := by unfold Ent.lt at *; omega
theorem Ent.lt_le {a b : Ent α} (h : a.lt b) : ¬ b.lt a := by unfold Ent.lt at *; omega
theorem Ent.lt_trans {a b c : Ent α} (h : a.lt b) (k : b.lt c) : a.lt c := by unfold Ent.lt at *; omega
theorem Ent.lt_of_lt_le {a b c : Ent α} (h : a.lt b) (k : ¬ c.lt b) : a.lt c := by unfold Ent.lt at *; omega
theorem Ent.lt_of_le_lt {a b c : Ent α} (h : ¬ b.lt a) (k : b.lt c) : a.lt c := by unfold Ent.lt at *; omega
theorem Ent.lt_irrefl (a : Ent α) : ¬ a.lt a := by unfold Ent.lt; omega
/-- Which one is ahead, as a number. -/
def Ent.cmp (a b : Ent α) : Int := if a.rk < b.rk then -1 else if b.rk < a.rk then 1 else if a.tn < b.tn then -1 else if b.tn < a.tn then 1 else 0
theorem Ent.cmp_neg (a b : Ent α) : decide (a.cmp b < 0) = decide (a.lt b) := by
  rw [decide_eq_decide]
  unfold Ent.cmp Ent.lt
  split
  · omega
  · split
    · omega
    · split
      · omega
      · split <;> omega
/-- Two places changed. -/
def swapL (es : List (Ent α)) (i j : Nat) : List (Ent α) := match es[i]?, es[j]? with
  | some a, some b => (es.set i b).set j a
  | _, _ => es
theorem swapL_eq (es : List (Ent α)) (i j : Nat) (hi : i < es.length) (hj : j < es.length) : swapL es i j = (es.set i es[j]).set j es[i] := by
  unfold swapL
  rw [List.getElem?_eq_getElem hi, List.getElem?_eq_getElem hj]
theorem swapL_length (es : List (Ent α)) (i j : Nat) : (swapL es i j).length = es.length := by
  unfold swapL
  split <;> simp
theorem swapL_perm (es : List (Ent α)) (i j : Nat) : (swapL es i j).Perm es := by
  by_cases hi : i < es.length
  · by_cases hj : j < es.length
    · rw [swapL_eq es i j hi hj]
      have h := Array.swap_perm (xs := es.toArray) (i := i) (j := j) (by simpa using hi) (by simpa using hj)
      have h2 := Array.perm_iff_toList_perm.1 h
      simpa [Array.swap] using h2
    · unfold swapL
      rw [List.getElem?_eq_none (show es.length ≤ j by omega)]
      split
      · rename_i h1 h2; cases h2
      · exact List.Perm.refl _
  · unfold swapL
    rw [List.getElem?_eq_none (show es.length ≤ i by omega)]

/-- The items of a list, by their places. -/
def fn [Inhabited α] (es : List (Ent α)) (k : Nat) : Ent α := (es[k]?).getD ⟨0, default, 0⟩
theorem fn_at [Inhabited α] (es : List (Ent α)) (k : Nat) (hk : k < es.length) : fn es k = es[k] := by unfold fn; rw [List.getElem?_eq_getElem hk]; rfl
/-- Two places changed. -/
def sw (f : Nat → Ent α) (i j : Nat) : Nat → Ent α := fun k => if k = j then f i else if k = i then f j else f k
theorem sw_r (f : Nat → Ent α) (i j : Nat) : sw f i j j = f i := by unfold sw; rw [if_pos rfl]
theorem sw_l (f : Nat → Ent α) {i j : Nat} (h : i ≠ j) : sw f i j i = f j := by unfold sw; rw [if_neg h, if_pos rfl]
theorem sw_o (f : Nat → Ent α) {i j k : Nat} (h : k ≠ i) (h2 : k ≠ j) : sw f i j k = f k := by unfold sw; rw [if_neg h2, if_neg h]
theorem fn_swap [Inhabited α] (es : List (Ent α)) (i j : Nat) (hi : i < es.length) (hj : j < es.length) : fn (swapL es i j) = sw (fn es) i j := by
  funext k
  rw [swapL_eq es i j hi hj]
  unfold fn sw
  rw [List.getElem?_set, List.length_set]
  by_cases h1 : j = k
  · subst h1
    rw [if_pos rfl, if_pos hj, if_pos rfl]; simp only [List.getElem?_eq_getElem hi, Option.getD_some]
  · rw [if_neg h1, if_neg (Ne.symm h1), List.getElem?_set]
    by_cases h2 : i = k
    · subst h2
      rw [if_pos rfl, if_pos hi, if_pos rfl]; simp only [List.getElem?_eq_getElem hj, Option.getD_some]
    · rw [if_neg h2, if_neg (Ne.symm h2)]
theorem fn_push [Inhabited α] (es : List (Ent α)) (e : Ent α) : (∀ k, k < es.length → fn (es ++ [e]) k = fn es k) ∧ fn (es ++ [e]) es.length = e := by
  constructor
  · intro k hk
    unfold fn
    rw [List.getElem?_append_left hk]
  · unfold fn
    rw [List.getElem?_append_right (Nat.le_refl _)]
    simp
/-- The list behind the leaving of place i: the last one comes there. -/
def dropL [Inhabited α] (es : List (Ent α)) (i : Nat) : List (Ent α) := (es.set i (fn es (es.length - 1))).take (es.length - 1)
theorem dropL_length [Inhabited α] (es : List (Ent α)) (i : Nat) : (dropL es i).length = es.length - 1 := by unfold dropL; simp
theorem fn_drop [Inhabited α] (es : List (Ent α)) (i : Nat) : (∀ k, k < es.length - 1 → k ≠ i → fn (dropL es i) k = fn es k) ∧ (i < es.length - 1 → fn (dropL es i) i = fn es (es.length - 1)) := by
  constructor
  · intro k hk hi
    unfold dropL
    conv => lhs; unfold fn
    rw [List.getElem?_take_of_lt hk, List.getElem?_set_ne (Ne.symm hi)]
    rfl
  · intro hi
    unfold dropL
    conv => lhs; unfold fn
    rw [List.getElem?_take_of_lt hi, List.getElem?_set_self (by omega)]
    rfl
/-- None is ahead of its parent. -/
def Hp (f : Nat → Ent α) (n : Nat) : Prop := ∀ k, k < n → 0 < k → ¬ (f k).lt (f ((k - 1) / 2))
/-- But for what stands at i, which may be ahead of its parent. -/
def HpUp (f : Nat → Ent α) (n i : Nat) : Prop :=
  (∀ k, k < n → 0 < k → k ≠ i → ¬ (f k).lt (f ((k - 1) / 2))) ∧ (∀ k, k < n → 0 < k → (k - 1) / 2 = i → 0 < i → ¬ (f k).lt (f ((i - 1) / 2)))
/-- But for what stands at i, which may be behind its children. -/
def HpDn (f : Nat → Ent α) (n i : Nat) : Prop :=
  (∀ k, k < n → 0 < k → (k - 1) / 2 ≠ i → ¬ (f k).lt (f ((k - 1) / 2))) ∧ (∀ k, k < n → 0 < k → (k - 1) / 2 = i → 0 < i → ¬ (f k).lt (f ((i - 1) / 2)))
theorem HpUp.done {f : Nat → Ent α} {n i : Nat} (h : HpUp f n i) (hs : 0 < i → ¬ (f i).lt (f ((i - 1) / 2))) : Hp f n := fun k hk h0 => by
  by_cases hki : k = i
  · subst hki; exact hs h0
  · exact h.1 k hk h0 hki
theorem HpUp.step {f : Nat → Ent α} {n i : Nat} (h : HpUp f n i) (hi : i < n) (h0 : 0 < i) (hl : (f i).lt (f ((i - 1) / 2))) : HpUp (sw f i ((i - 1) / 2)) n ((i - 1) / 2) := by
  have hip : i ≠ (i - 1) / 2 := by omega
  refine ⟨fun k hk hk0 hkp => ?_, fun k hk hk0 hkp hp0 => ?_⟩
  · by_cases hki : k = i
    · subst hki
      rw [sw_l f hip, sw_r]
      exact Ent.lt_le hl
    · rw [sw_o f hki hkp]
      by_cases hq : (k - 1) / 2 = (i - 1) / 2
      · have := h.1 k hk hk0 hki
        rw [hq] at this
        rw [hq, sw_r]
        exact fun hx => this (Ent.lt_trans hx hl)
      · by_cases hq2 : (k - 1) / 2 = i
        · rw [hq2, sw_l f hip]
          exact h.2 k hk hk0 hq2 h0
        · rw [sw_o f hq2 hq]
          exact h.1 k hk hk0 hki
  · rw [sw_o f (show ((i - 1) / 2 - 1) / 2 ≠ i by omega) (show ((i - 1) / 2 - 1) / 2 ≠ (i - 1) / 2 by omega)]
    have hpp := h.1 ((i - 1) / 2) (by omega) hp0 (by omega)
    by_cases hki : k = i
    · subst hki
      rw [sw_l f hip]
      exact hpp
    · rw [sw_o f hki (by omega)]
      have := h.1 k hk hk0 hki
      rw [hkp] at this
      exact Ent.le_trans hpp this
theorem HpUp.push {f f' : Nat → Ent α} {n : Nat} (h : Hp f n) (hf : ∀ k, k < n → f' k = f k) : HpUp f' (n + 1) n := by
  refine ⟨fun k hk h0 hne => ?_, fun k hk h0 hkp hp => by omega⟩
  rw [hf k (by omega), hf _ (by omega)]
  exact h k (by omega) h0
theorem HpDn.done {f : Nat → Ent α} {n i : Nat} (h : HpDn f n i) (hs : ∀ k, k < n → 0 < k → (k - 1) / 2 = i → ¬ (f k).lt (f i)) : Hp f n := fun k hk h0 => by
  by_cases hki : (k - 1) / 2 = i
  · rw [hki]; exact hs k hk h0 hki
  · exact h.1 k hk h0 hki
theorem HpDn.step {f : Nat → Ent α} {n i t : Nat} (h : HpDn f n i) (hf : t < n) (hf0 : 0 < t) (hp : (t - 1) / 2 = i) (hl : (f t).lt (f i)) (hs : ∀ k, k < n → 0 < k → (k - 1) / 2 = i → ¬ (f k).lt (f t)) : HpDn (sw f i t) n t := by
  have hit : i ≠ t := by omega
  refine ⟨fun k hk hk0 hkf => ?_, fun k hk hk0 hkf _ => ?_⟩
  · by_cases h1 : k = t
    · subst h1
      rw [sw_r, hp, sw_l f hit]
      exact Ent.lt_le hl
    · by_cases h2 : k = i
      · subst h2
        rw [sw_l f hit, sw_o f (show (k - 1) / 2 ≠ k by omega) hkf]
        exact h.2 t hf hf0 hp hk0
      · rw [sw_o f h2 h1]
        by_cases h3 : (k - 1) / 2 = i
        · rw [h3, sw_l f hit]; exact hs k hk hk0 h3
        · rw [sw_o f h3 hkf]; exact h.1 k hk hk0 h3
  · rw [hp, sw_l f hit, sw_o f (show k ≠ i by omega) (show k ≠ t by omega)]
    have := h.1 k hk hk0 (by omega)
    rw [hkf] at this
    exact this
theorem Hp.first {f : Nat → Ent α} {n : Nat} (h : Hp f n) : ∀ k, k < n → ¬ (f k).lt (f 0)
  | 0, _ => Ent.lt_irrefl _
  | k + 1, hk => Ent.le_trans (Hp.first h ((k + 1 - 1) / 2) (by omega)) (h (k + 1) hk (by omega))
termination_by k => k
decreasing_by omega
theorem Hp.popped {f f' : Nat → Ent α} {n : Nat} (h : Hp f (n + 1)) (hf : ∀ k, k < n → k ≠ 0 → f' k = f k) : HpDn f' n 0 := by
  refine ⟨fun k hk hk0 hkp => ?_, fun k hk hk0 hkp hp => absurd hp (Nat.lt_irrefl _)⟩
  rw [hf k hk (by omega), hf _ (by omega) hkp]
  exact h k (by omega) hk0
theorem dropL_perm [Inhabited α] (es : List (Ent α)) (i : Nat) (hi : i < es.length) : (es[i] :: dropL es i).Perm es := by
  unfold dropL
  obtain ⟨m, b, rfl⟩ : ∃ m b, es = m ++ [b] := by
    rcases List.eq_nil_or_concat es with rfl | ⟨m, b, h⟩
    · exact absurd hi (Nat.not_lt_zero _)
    · exact ⟨m, b, by simpa using h⟩
  have e1 : (m ++ [b]).length - 1 = m.length := by simp
  have e2 : fn (m ++ [b]) m.length = b := (fn_push m b).2
  rw [e1, e2]
  by_cases h : i < m.length
  · rw [List.set_append_left _ _ h, List.take_left' (by simp), List.getElem_append_left h]
    obtain ⟨A, C, hA, hl⟩ : ∃ A C, m = A ++ m[i] :: C ∧ A.length = i := ⟨m.take i, m.drop (i + 1), by rw [← List.drop_eq_getElem_cons h, List.take_append_drop], by simp; omega⟩
    generalize m[i] = x at *
    subst hA hl
    rw [List.set_append_right _ _ (Nat.le_refl _)]
    simp only [Nat.sub_self, List.set_cons_zero]
    refine (List.Perm.cons x (List.perm_middle (a := b) (l₁ := A) (l₂ := C))).trans ?_
    refine (List.Perm.swap b x (A ++ C)).trans ?_
    refine (List.Perm.cons b (List.perm_middle (a := x) (l₁ := A) (l₂ := C)).symm).trans ?_
    exact List.perm_append_comm (l₁ := [b])
  · have hi' : i = m.length := by simp at hi; omega
    subst hi'
    rw [List.set_append_right _ _ (Nat.le_refl _)]
    simp only [Nat.sub_self, List.set_cons_zero]
    rw [List.take_left' rfl, List.getElem_append_right (Nat.le_refl _)]
    simp only [Nat.sub_self, List.getElem_cons_zero]
    exact List.perm_append_comm (l₁ := [b])

/-- A list in order. -/
def Srt (ms : List (Ent α)) : Prop := ms.Pairwise Ent.lt
theorem Srt.uniq : ∀ {a b : List (Ent α)}, Srt a → Srt b → a.Perm b → a = b
  | [], b, _, _, h => (List.nil_perm.1 h).symm
  | x :: a, [], _, _, h => by exact absurd (List.perm_nil.1 h) (by simp)
  | x :: a, y :: b, ha, hb, h => by
    have ha' := List.pairwise_cons.1 ha
    have hb' := List.pairwise_cons.1 hb
    have hxy : x = y := by
      rcases List.mem_cons.1 (h.mem_iff.1 (List.mem_cons_self (a := x) (l := a))) with e | hx
      · exact e
      · rcases List.mem_cons.1 (h.mem_iff.2 (List.mem_cons_self (a := y) (l := b))) with e | hy
        · exact e.symm
        · exact absurd (Ent.lt_trans (ha'.1 y hy) (hb'.1 x hx)) (Ent.lt_irrefl _)
    subst hxy
    rw [Srt.uniq ha'.2 hb'.2 (List.Perm.cons_inv h)]
/-- Behind all of no greater rank. -/
def insR : List (Ent α) → Ent α → List (Ent α)
  | [], e => [e]
  | m :: ms, e => if e.rk < m.rk then e :: m :: ms else m :: insR ms e
theorem insR_perm (e : Ent α) : ∀ (ms : List (Ent α)), (insR ms e).Perm (e :: ms)
  | [] => List.Perm.refl _
  | m :: ms => by
    unfold insR
    split
    · exact List.Perm.refl _
    · exact (List.Perm.cons m (insR_perm e ms)).trans (List.Perm.swap e m ms)
theorem insR_srt (e : Ent α) : ∀ (ms : List (Ent α)), Srt ms → (∀ m ∈ ms, m.tn < e.tn) → Srt (insR ms e)
  | [], _, _ => List.pairwise_singleton _ _
  | m :: ms, h, ht => by
    have h' := List.pairwise_cons.1 h
    unfold insR
    split
    · rename_i hr
      refine List.pairwise_cons.2 ⟨fun y hy => ?_, h⟩
      rcases List.mem_cons.1 hy with rfl | hy
      · exact Or.inl hr
      · exact Ent.lt_trans (Or.inl hr) (h'.1 y hy)
    · rename_i hr
      refine List.pairwise_cons.2 ⟨fun y hy => ?_, insR_srt e ms h'.2 (fun m hm => ht m (List.mem_cons_of_mem _ hm))⟩
      rcases List.mem_cons.1 ((insR_perm e ms).mem_iff.1 hy) with rfl | hy
      · have := ht m (List.mem_cons_self ..)
        unfold Ent.lt
        omega
      · exact h'.1 y hy
theorem insR_length (ms : List (Ent α)) (e : Ent α) : (insR ms e).length = ms.length + 1 := (insR_perm e ms).length_eq
end
end Go.Proofs.Ytkgiaijcgblpbaa
