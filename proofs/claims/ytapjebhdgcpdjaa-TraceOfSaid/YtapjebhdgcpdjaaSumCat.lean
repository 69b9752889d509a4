/-
  Strings one behind the other, and what is opened that was not sealed so: plain laws over strings for layer 5. No condition.
-/
import Derived.Test.YtapjebhdgcpdjaaSum3
namespace Go.Proofs.Ytapjebhdgcpdjaa
set_option linter.unusedVariables false
set_option linter.unusedSimpArgs false
open Go.ChangeShapes Go.WideShapes Go.ChangeAt Go.RowKit

/-- Strings, one behind the other. -/
def cat (ss : List ByteArray) : ByteArray := ss.foldl (· ++ ·) ByteArray.empty
theorem cat_take (ss : List ByteArray) (k : Nat) (h : k < ss.length) : cat (ss.take k) ++ ss.getD k ByteArray.empty = cat (ss.take (k + 1)) := by
  unfold cat
  rw [List.take_add_one, List.foldl_append, List.getD_eq_getElem?_getD, List.getElem?_eq_getElem h]
  rfl
theorem mor_cat (ss : List ByteArray) : morL ss = mor 1 (cat ss) := by
  have key : ∀ (l : List ByteArray) (a : ByteArray), l.foldl mor (mor 1 a) = mor 1 (l.foldl (· ++ ·) a) := by
    intro l
    induction l with
    | nil => intro a; rfl
    | cons x l ih =>
      intro a
      show l.foldl mor (mor (mor 1 a) x) = mor 1 (l.foldl (· ++ ·) (a ++ x))
      rw [mor_append, ih]
  have := key ss ByteArray.empty
  rw [mor_one_empty ByteArray.empty rfl] at this
  exact this
theorem ext_left (t f : ByteArray) : (t ++ f).extract 0 t.size = t := by
  have e : ((t ++ f).extract 0 t.size).size = t.size := by rw [size_ext _ _ _ (by rw [ByteArray.size_append]; omega)]; omega
  refine str_ext e fun k hk => ?_
  rw [e] at hk
  rw [bt_extract _ _ _ _ (by omega), Nat.zero_add, bt_append, if_pos hk]
theorem ext_right (t f : ByteArray) : (t ++ f).extract t.size (t ++ f).size = f := by
  have e0 : (t ++ f).size = t.size + f.size := ByteArray.size_append
  have e : ((t ++ f).extract t.size (t ++ f).size).size = f.size := by rw [size_ext _ _ _ (Nat.le_refl _)]; omega
  refine str_ext e fun k hk => ?_
  rw [e] at hk
  rw [bt_extract _ _ _ _ (by omega), bt_append, if_neg (by omega)]
  congr 1; omega
theorem append_inj (t f g : ByteArray) (h : t ++ f = t ++ g) : f = g := by
  have h1 := ext_right t f
  have h2 := ext_right t g
  rw [h] at h1
  exact h1.symm.trans h2
theorem open_apart (s t : ByteArray) (h : mor 1 t ≠ mor 1 s) : ¬ (4 ≤ (t ++ four (mor 1 s)).size ∧ seal4 ((t ++ four (mor 1 s)).extract 0 ((t ++ four (mor 1 s)).size - 4)) = t ++ four (mor 1 s)) := by
  rintro ⟨_, h2⟩
  have e : (t ++ four (mor 1 s)).size - 4 = t.size := by rw [ByteArray.size_append, four_size]; omega
  rw [e, ext_left] at h2
  have h3 := append_inj t _ _ h2
  obtain ⟨a0, a1⟩ := mor_bd 1 t
  obtain ⟨b0, b1⟩ := mor_bd 1 s
  exact h (four_inj _ _ a0 a1 b0 b1 h3)
theorem wth_same (s : ByteArray) (k : Nat) (c : UInt8) (hk : k < s.size) (h : wth s k c ≠ s) : bt (wth s k c) k ≠ bt s k := by
  intro e
  apply h
  refine str_ext (wth_size s k c hk) fun i hi => ?_
  by_cases h2 : i = k
  · rw [h2]; exact e
  · rw [wth_bt s k c hk, if_neg h2]
theorem wth_apart (s : ByteArray) (k : Nat) (c : UInt8) (hk : k < s.size) (h : wth s k c ≠ s) : mor 1 (wth s k c) ≠ mor 1 s :=
  mor_apart 1 s (wth s k c) k (wth_size s k c hk) hk (fun i hi => by rw [wth_bt s k c hk, if_neg hi]) (wth_same s k c hk h)
end Go.Proofs.Ytapjebhdgcpdjaa
