/-
  Words and lines: a line's words, joined, are its words again; blanks more turn nothing. Plain laws on strings. No Go in it.
-/
import Derived.Test.YtdeehklegeeanaaDoorDigRef3
namespace Go.Proofs.YtdeehklegeeanaaDoor
set_option linter.unusedVariables false
set_option linter.unusedSimpArgs false
open Go.ChangeShapes Go.WideShapes Go.ChangeAt Go.RowKit

/-- What is done, and what is begun, behind a byte more. -/
def wstep (st : List ByteArray × ByteArray) (c : Int) : List ByteArray × ByteArray :=
  if Blank c then (if st.2 = ⟨#[]⟩ then st.1 else st.1 ++ [st.2], ⟨#[]⟩) else (st.1, st.2 ++ chrs [c])
/-- The same behind the first bytes of a string. -/
def wrun (st : List ByteArray × ByteArray) (s : ByteArray) : Nat → List ByteArray × ByteArray
  | 0 => st
  | k + 1 => wstep (wrun st s k) (bt s k)
/-- What is begun is done. -/
def wfin (st : List ByteArray × ByteArray) : List ByteArray := if st.2 = ⟨#[]⟩ then st.1 else st.1 ++ [st.2]
theorem ws_run (s : ByteArray) : ∀ k, ws s k = wrun ([], ⟨#[]⟩) s k
  | 0 => rfl
  | k + 1 => by
    show (if Blank (bt s k) then _ else _) = wstep (wrun _ s k) (bt s k)
    rw [← ws_run s k]
    rfl
theorem wl_fin (s : ByteArray) : wl s = wfin (wrun ([], ⟨#[]⟩) s s.size) := by
  rw [← ws_run]; rfl
theorem run_left (st : List ByteArray × ByteArray) (a b : ByteArray) : ∀ k : Nat, k ≤ a.size → wrun st (a ++ b) k = wrun st a k
  | 0, _ => rfl
  | k + 1, h => by
    show wstep (wrun st (a ++ b) k) (bt (a ++ b) k) = wstep (wrun st a k) (bt a k)
    rw [run_left st a b k (by omega), bt_append, if_pos (by omega)]
theorem run_append (st : List ByteArray × ByteArray) (a b : ByteArray) : ∀ k : Nat, wrun st (a ++ b) (a.size + k) = wrun (wrun st a a.size) b k
  | 0 => run_left st a b a.size (Nat.le_refl _)
  | k + 1 => by
    show wstep (wrun st (a ++ b) (a.size + k)) (bt (a ++ b) ((a.size + k : Nat) : Int)) = wstep (wrun _ b k) (bt b k)
    rw [run_append st a b k, bt_append, if_neg (by omega), Nat.add_sub_cancel_left]
theorem run_all (st : List ByteArray × ByteArray) (a b : ByteArray) : wrun st (a ++ b) (a ++ b).size = wrun (wrun st a a.size) b b.size := by
  rw [ByteArray.size_append, run_append]
/-- What was done ahead stands ahead. -/
theorem run_ahead (d : List ByteArray) (s : ByteArray) : ∀ k : Nat, wrun (d, ⟨#[]⟩) s k = (d ++ (wrun ([], ⟨#[]⟩) s k).1, (wrun ([], ⟨#[]⟩) s k).2)
  | 0 => by show (d, _) = (d ++ [], _); rw [List.append_nil]; rfl
  | k + 1 => by
    show wstep (wrun (d, ⟨#[]⟩) s k) (bt s k) = (d ++ (wstep (wrun ([], ⟨#[]⟩) s k) (bt s k)).1, (wstep (wrun ([], ⟨#[]⟩) s k) (bt s k)).2)
    rw [run_ahead d s k]
    generalize wrun ([], ⟨#[]⟩) s k = st
    obtain ⟨x, y⟩ := st
    unfold wstep
    by_cases hb : Blank (bt s k)
    · rw [if_pos hb, if_pos hb]
      by_cases hy : y = ⟨#[]⟩
      · simp [hy]
      · simp [hy]
    · rw [if_neg hb, if_neg hb]
theorem empty_append (x : ByteArray) : (⟨#[]⟩ : ByteArray) ++ x = x := str_ext (by rw [ByteArray.size_append]; exact Nat.zero_add _) fun j _ => by
  rw [bt_append, if_neg (by exact Nat.not_lt_zero _)]; rfl
/-- A word: it has a byte, and no blank. -/
def Word (x : ByteArray) : Prop := 1 ≤ x.size ∧ ∀ k : Nat, k < x.size → ¬ Blank (bt x k)
theorem Word.ne {x : ByteArray} (h : Word x) : x ≠ ⟨#[]⟩ := fun e => by
  have := h.1
  rw [e] at this
  exact absurd this (by decide)
theorem ext_zero (x : ByteArray) : x.extract 0 0 = ⟨#[]⟩ := str_ext (by rw [size_ext _ _ _ (Nat.zero_le _)]; rfl) fun j hj => by rw [size_ext _ _ _ (Nat.zero_le _)] at hj; omega
theorem ext_whole (x : ByteArray) : x.extract 0 x.size = x := str_ext (by rw [size_ext _ _ _ (Nat.le_refl _)]; omega) fun j hj => by
  rw [size_ext _ _ _ (Nat.le_refl _)] at hj
  rw [bt_extract _ _ _ _ (by omega), Nat.zero_add]
theorem run_word (d : List ByteArray) (x : ByteArray) (h : ∀ k : Nat, k < x.size → ¬ Blank (bt x k)) : ∀ k : Nat, k ≤ x.size → wrun (d, ⟨#[]⟩) x k = (d, x.extract 0 k)
  | 0, _ => by rw [ext_zero]; rfl
  | k + 1, hk => by
    show wstep (wrun (d, ⟨#[]⟩) x k) (bt x k) = _
    rw [run_word d x h k (by omega)]
    unfold wstep
    rw [if_neg (h k (by omega)), ← ext_one x k (by omega), ext_join x 0 k (k + 1) (by omega) (by omega) (by omega)]
/-- All that is done are words; what is begun has no blank; so many bytes are used. -/
theorem run_words (s : ByteArray) : ∀ k : Nat, (∀ x ∈ (wrun ([], ⟨#[]⟩) s k).1, Word x) ∧ (∀ j : Nat, j < (wrun ([], ⟨#[]⟩) s k).2.size → ¬ Blank (bt (wrun ([], ⟨#[]⟩) s k).2 j))
  | 0 => ⟨fun x hx => (by cases hx), fun j hj => absurd hj (Nat.not_lt_zero _)⟩
  | k + 1 => by
    obtain ⟨h1, h2⟩ := run_words s k
    show (∀ x ∈ (wstep (wrun ([], ⟨#[]⟩) s k) (bt s k)).1, Word x) ∧ (∀ j : Nat, j < (wstep (wrun ([], ⟨#[]⟩) s k) (bt s k)).2.size → ¬ Blank (bt (wstep (wrun ([], ⟨#[]⟩) s k) (bt s k)).2 j))
    generalize wrun ([], ⟨#[]⟩) s k = st at *
    obtain ⟨x, y⟩ := st
    unfold wstep
    by_cases hb : Blank (bt s k)
    · simp only [if_pos hb]
      refine ⟨?_, fun j hj => by exact absurd hj (Nat.not_lt_zero _)⟩
      by_cases hy : y = ⟨#[]⟩
      · rw [if_pos hy]; exact h1
      · rw [if_neg hy]
        intro z hz
        rcases List.mem_append.1 hz with hz | hz
        · exact h1 z hz
        · have hz : z = y := by simpa using hz
          subst hz
          refine ⟨?_, h2⟩
          rcases Nat.eq_zero_or_pos z.size with h0 | h0
          · exfalso; apply hy
            exact str_ext (by rw [h0]; rfl) fun j hj => by omega
          · exact h0
    · simp only [if_neg hb]
      refine ⟨h1, fun j hj => ?_⟩
      rw [ByteArray.size_append, chrs_size] at hj
      have hj : j < y.size + 1 := hj
      rw [bt_append]
      by_cases hjy : j < y.size
      · rw [if_pos hjy]; exact h2 j hjy
      · have : j = y.size := by omega
        subst this
        have b := bt_bd s k
        rw [if_neg (by omega), Nat.sub_self, chrs_bt _ b.1 b.2]
        exact hb
theorem wl_words (s : ByteArray) : ∀ x ∈ wl s, Word x := by
  rw [wl_fin]
  obtain ⟨h1, h2⟩ := run_words s s.size
  generalize wrun ([], ⟨#[]⟩) s s.size = st at *
  obtain ⟨x, y⟩ := st
  unfold wfin
  by_cases hy : y = ⟨#[]⟩
  · rw [if_pos hy]; exact h1
  · rw [if_neg hy]
    intro z hz
    rcases List.mem_append.1 hz with hz | hz
    · exact h1 z hz
    · have hz : z = y := by simpa using hz
      subst hz
      refine ⟨?_, h2⟩
      rcases Nat.eq_zero_or_pos z.size with h0 | h0
      · exfalso; apply hy
        exact str_ext (by rw [h0]; rfl) fun j hj => by omega
      · exact h0

/-- A blank behind. -/
theorem run_blank (st : List ByteArray × ByteArray) : wrun st ⟨#[32]⟩ (⟨#[32]⟩ : ByteArray).size = (wfin st, ⟨#[]⟩) := by
  show wstep st (bt ⟨#[32]⟩ (0 : Nat)) = _
  have hb : Blank (bt ⟨#[32]⟩ (0 : Nat)) := by left; exact bt_one 32
  unfold wstep
  rw [if_pos hb]
  rfl
theorem fin_closed (d : List ByteArray) : wfin (d, ⟨#[]⟩) = d := by unfold wfin; rw [if_pos rfl]
theorem run_ahead2 : wrun ([], ⟨#[]⟩) ⟨#[32, 9]⟩ (⟨#[32, 9]⟩ : ByteArray).size = ([], ⟨#[]⟩) := by decide +kernel
theorem run_between (st : List ByteArray × ByteArray) : wrun st ⟨#[9, 32, 32]⟩ (⟨#[9, 32, 32]⟩ : ByteArray).size = (wfin st, ⟨#[]⟩) := by
  have b0 : Blank (bt ⟨#[9, 32, 32]⟩ (0 : Nat)) := by decide +kernel
  have b1 : Blank (bt ⟨#[9, 32, 32]⟩ (1 : Nat)) := by decide +kernel
  have b2 : Blank (bt ⟨#[9, 32, 32]⟩ (2 : Nat)) := by decide +kernel
  show wstep (wstep (wstep st (bt ⟨#[9, 32, 32]⟩ (0 : Nat))) (bt ⟨#[9, 32, 32]⟩ (1 : Nat))) (bt ⟨#[9, 32, 32]⟩ (2 : Nat)) = _
  have e : ∀ (u : List ByteArray × ByteArray) (c : Int), Blank c → wstep u c = (wfin u, ⟨#[]⟩) := fun u c h => by unfold wstep wfin; rw [if_pos h]
  rw [e _ _ b2, e _ _ b1, e _ _ b0, fin_closed, fin_closed]
theorem wl_between (s t : ByteArray) : wl ((((⟨#[32, 9]⟩ ++ s) ++ ⟨#[9, 32, 32]⟩) ++ t) ++ ⟨#[32]⟩) = wl s ++ wl t := by
  rw [wl_fin, run_all, run_all, run_all, run_all, run_ahead2, run_between, run_blank, run_ahead, fin_closed, wl_fin s, wl_fin t]
  generalize wrun ([], ⟨#[]⟩) t t.size = st
  obtain ⟨x, y⟩ := st
  show wfin (_ ++ x, y) = _ ++ wfin (x, y)
  unfold wfin
  by_cases hy : y = ⟨#[]⟩
  · simp [hy]
  · simp [hy]
theorem run_jn (l : List ByteArray) (h : ∀ x ∈ l, Word x) : ∀ k : Nat, k + 1 ≤ l.length → wrun ([], ⟨#[]⟩) (jn l (k + 1)) (jn l (k + 1)).size = (l.take k, l.getD k ByteArray.empty)
  | 0, hk => by
    have hw := h (l.getD 0 ByteArray.empty) (by rw [List.getD_eq_getElem?_getD, List.getElem?_eq_getElem (by omega)]; exact List.getElem_mem _)
    have e : jn l 1 = l.getD 0 ByteArray.empty := by
      show (⟨#[]⟩ : ByteArray) ++ l.getD 0 ByteArray.empty = _
      exact empty_append _
    rw [e, run_word [] _ hw.2 _ (Nat.le_refl _), ext_whole]
    rfl
  | k + 1, hk => by
    have ih := run_jn l h k (by omega)
    have hw := h (l.getD (k + 1) ByteArray.empty) (by rw [List.getD_eq_getElem?_getD, List.getElem?_eq_getElem (by omega)]; exact List.getElem_mem _)
    have hw0 := h (l.getD k ByteArray.empty) (by rw [List.getD_eq_getElem?_getD, List.getElem?_eq_getElem (by omega)]; exact List.getElem_mem _)
    have e : jn l (k + 1 + 1) = (jn l (k + 1) ++ ⟨#[32]⟩) ++ l.getD (k + 1) ByteArray.empty := by
      show (if 0 < k + 1 then _ else _) ++ _ = _
      rw [if_pos (by omega)]
    rw [e, run_all, run_all, ih, run_blank]
    have ef : wfin (l.take k, l.getD k ByteArray.empty) = l.take (k + 1) := by
      unfold wfin
      rw [if_neg hw0.ne, List.take_succ_eq_append_getElem (by omega), List.getD_eq_getElem?_getD, List.getElem?_eq_getElem (by omega)]
      rfl
    rw [ef, run_word _ _ hw.2 _ (Nat.le_refl _), ext_whole]
theorem wl_jn (l : List ByteArray) (h : ∀ x ∈ l, Word x) : wl (jn l l.length) = l := by
  rw [wl_fin]
  rcases Nat.eq_zero_or_pos l.length with h0 | h0
  · have : l = [] := List.eq_nil_of_length_eq_zero h0
    subst this
    rfl
  · obtain ⟨k, hk⟩ : ∃ k, l.length = k + 1 := ⟨l.length - 1, by omega⟩
    have hw0 := h (l.getD k ByteArray.empty) (by rw [List.getD_eq_getElem?_getD, List.getElem?_eq_getElem (by omega)]; exact List.getElem_mem _)
    rw [hk, run_jn l h k (by omega)]
    unfold wfin
    rw [if_neg hw0.ne]
    have e := List.take_succ_eq_append_getElem (l := l) (i := k) (by omega)
    rw [List.getD_eq_getElem?_getD, List.getElem?_eq_getElem (by omega)]
    show l.take k ++ [l[k]] = l
    rw [← e, List.take_of_length_le (by omega)]
theorem ln_left (a b : List ByteArray) : ∀ k, k ≤ a.length → ln (a ++ b) k = ln a k
  | 0, _ => rfl
  | k + 1, h => by
    show ln (a ++ b) k + ((a ++ b).getD k ByteArray.empty).size + 1 = ln a k + (a.getD k ByteArray.empty).size + 1
    rw [ln_left a b k (by omega), List.getD_eq_getElem?_getD, List.getD_eq_getElem?_getD, List.getElem?_append_left (by omega)]
theorem ln_snoc (a : List ByteArray) (x : ByteArray) : ln (a ++ [x]) (a ++ [x]).length = ln a a.length + x.size + 1 := by
  have e : (a ++ [x]).length = a.length + 1 := by simp
  rw [e]
  show ln (a ++ [x]) a.length + ((a ++ [x]).getD a.length ByteArray.empty).size + 1 = _
  rw [ln_left a [x] a.length (Nat.le_refl _), List.getD_eq_getElem?_getD, List.getElem?_append_right (Nat.le_refl _)]
  simp
theorem run_ln (s : ByteArray) : ∀ k : Nat, ln (wrun ([], ⟨#[]⟩) s k).1 (wrun ([], ⟨#[]⟩) s k).1.length + (wrun ([], ⟨#[]⟩) s k).2.size ≤ k ∧ (wrun ([], ⟨#[]⟩) s k).1.length ≤ k
  | 0 => ⟨Nat.le_refl _, Nat.le_refl _⟩
  | k + 1 => by
    obtain ⟨h1, h2⟩ := run_ln s k
    show ln (wstep (wrun ([], ⟨#[]⟩) s k) (bt s k)).1 (wstep (wrun ([], ⟨#[]⟩) s k) (bt s k)).1.length + (wstep (wrun ([], ⟨#[]⟩) s k) (bt s k)).2.size ≤ k + 1 ∧ (wstep (wrun ([], ⟨#[]⟩) s k) (bt s k)).1.length ≤ k + 1
    generalize wrun ([], ⟨#[]⟩) s k = st at *
    obtain ⟨x, y⟩ := st
    have h1 : ln x x.length + y.size ≤ k := h1
    have h2 : x.length ≤ k := h2
    have hz : (⟨#[]⟩ : ByteArray).size = 0 := rfl
    unfold wstep
    by_cases hb : Blank (bt s k)
    · simp only [if_pos hb]
      by_cases hy : y = ⟨#[]⟩
      · rw [if_pos hy, hz]; omega
      · rw [if_neg hy, ln_snoc, hz, List.length_append]; simp; omega
    · simp only [if_neg hb]
      rw [ByteArray.size_append, chrs_size]; simp; omega
theorem wl_ln (s : ByteArray) : ln (wl s) (wl s).length ≤ s.size + 1 ∧ (wl s).length ≤ s.size + 1 := by
  rw [wl_fin]
  obtain ⟨h1, h2⟩ := run_ln s s.size
  generalize wrun ([], ⟨#[]⟩) s s.size = st at *
  obtain ⟨x, y⟩ := st
  have h1 : ln x x.length + y.size ≤ s.size := h1
  have h2 : x.length ≤ s.size := h2
  unfold wfin
  by_cases hy : y = ⟨#[]⟩
  · rw [if_pos hy]; show ln x x.length ≤ _ ∧ x.length ≤ _; omega
  · rw [if_neg hy]
    show ln (x ++ [y]) (x ++ [y]).length ≤ _ ∧ (x ++ [y]).length ≤ _
    rw [ln_snoc, List.length_append]; simp; omega
end Go.Proofs.YtdeehklegeeanaaDoor
