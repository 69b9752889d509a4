/-
  Strings as the walks of this seat see them: a byte of a string by its place, pieces, sums of strings, strings with one byte changed. No Go in it. No condition.
-/
import Derived.Test.YtapjebhdgcpdjaaBase
import Derived.Laws.Strings
import Derived.Laws.Strings2
import Derived.Laws.Strings3
import Derived.Laws.Concat
namespace Go.Proofs.Ytapjebhdgcpdjaa
set_option linter.unusedVariables false
set_option linter.unusedSimpArgs false
open Go.ChangeShapes Go.WideShapes Go.ChangeAt Go.RowKit

/-- The byte at a place; 0 where there is none. -/
def bt (s : ByteArray) (i : Int) : Int := if 0 ≤ i then ((s.data.toList.getD i.toNat 0).toNat : Int) else 0

theorem bt_bd (s : ByteArray) (i : Int) : 0 ≤ bt s i ∧ bt s i ≤ 255 := by
  unfold bt
  split
  · have := (s.data.toList.getD i.toNat 0).toNat_lt
    omega
  · omega
theorem bt_nat (s : ByteArray) (k : Nat) : bt s k = ((s.data.toList.getD k 0).toNat : Int) := by
  unfold bt; rw [if_pos (by omega)]; rfl
theorem len_data (s : ByteArray) : s.data.toList.length = s.size := by cases s; rfl
theorem bt_out (s : ByteArray) (k : Nat) (h : s.size ≤ k) : bt s k = 0 := by
  rw [bt_nat, List.getD_eq_getElem?_getD, List.getElem?_eq_none (by rw [len_data]; exact h)]; rfl
theorem bt_ix (s : ByteArray) (i : Int) (h : 0 ≤ i ∧ i < s.size) (h' : i.toNat < s.size) : ((s[i.toNat]'h').toNat : Int) = bt s i := by
  unfold bt
  rw [if_pos h.1]
  have hl : i.toNat < s.data.toList.length := by rw [len_data]; exact h'
  rw [List.getD_eq_getElem?_getD, List.getElem?_eq_getElem hl]
  rfl
theorem bt_append (a b : ByteArray) (k : Nat) : bt (a ++ b) k = if k < a.size then bt a k else bt b ((k - a.size : Nat) : Int) := by
  rw [bt_nat, bt_nat, bt_nat]
  have e : (a ++ b).data.toList = a.data.toList ++ b.data.toList := by rw [ByteArray.data_append, Array.toList_append]
  rw [e, List.getD_eq_getElem?_getD, List.getD_eq_getElem?_getD, List.getD_eq_getElem?_getD]
  split
  · rw [List.getElem?_append_left (by rw [len_data]; omega)]
  · rw [List.getElem?_append_right (by rw [len_data]; omega), len_data]
theorem data_extract_list (s : ByteArray) (i j : Nat) : (s.extract i j).data.toList = (s.data.toList.drop i).take (j - i) := by
  rw [ByteArray.data_extract, Array.toList_extract]

theorem size_ext (s : ByteArray) (i j : Nat) (h : j ≤ s.size) : (s.extract i j).size = j - i := by
  rw [ByteArray.size_extract]; omega
theorem bt_extract (s : ByteArray) (i j k : Nat) (h : k < j - i) : bt (s.extract i j) k = bt s ((i + k : Nat) : Int) := by
  rw [bt_nat, bt_nat, data_extract_list, List.getD_eq_getElem?_getD, List.getD_eq_getElem?_getD, List.getElem?_take, if_pos h, List.getElem?_drop]
theorem bt_extract_out (s : ByteArray) (i j k : Nat) (h : ¬ k < j - i) : bt (s.extract i j) k = 0 := by
  apply bt_out
  rw [ByteArray.size_extract]; omega
theorem bt_one (c : UInt8) : bt ⟨#[c]⟩ 0 = (c.toNat : Int) := by
  have := bt_nat ⟨#[c]⟩ 0
  simpa using this
theorem str_ext {a b : ByteArray} (hs : a.size = b.size) (h : ∀ k : Nat, k < a.size → bt a k = bt b k) : a = b := by
  apply ByteArray.ext
  apply Array.toList_inj.1
  apply List.ext_getElem?
  intro k
  by_cases hk : k < a.size
  · have := h k hk
    rw [bt_nat, bt_nat, List.getD_eq_getElem?_getD, List.getD_eq_getElem?_getD] at this
    have h1 : k < a.data.toList.length := by rw [len_data]; exact hk
    have h2 : k < b.data.toList.length := by rw [len_data]; omega
    rw [List.getElem?_eq_getElem h1, List.getElem?_eq_getElem h2] at this ⊢
    have e : (a.data.toList[k]).toNat = (b.data.toList[k]).toNat := Int.ofNat.inj this
    rw [UInt8.toNat_inj.1 e]
  · rw [List.getElem?_eq_none (by rw [len_data]; omega), List.getElem?_eq_none (by rw [len_data]; omega)]
theorem str_eq (a b : ByteArray) : (a.toList == b.toList) = decide (a = b) := by
  rw [ByteArray.toList_eq, ByteArray.toList_eq, Bool.eq_iff_iff]
  simp only [beq_iff_eq, decide_eq_true_eq]
  constructor
  · intro h; exact ByteArray.ext (Array.toList_inj.1 h)
  · rintro rfl; rfl

/-- A string with the byte at a place another one. -/
def wth (s : ByteArray) (k : Nat) (c : UInt8) : ByteArray := s.extract 0 k ++ ⟨#[c]⟩ ++ s.extract (k + 1) s.size
theorem wth_size (s : ByteArray) (k : Nat) (c : UInt8) (h : k < s.size) : (wth s k c).size = s.size := by
  unfold wth
  rw [ByteArray.size_append, ByteArray.size_append, size_ext _ _ _ (by omega), size_ext _ _ _ (by omega)]
  show k - 0 + 1 + _ = _
  omega
theorem wth_bt (s : ByteArray) (k : Nat) (c : UInt8) (h : k < s.size) (i : Nat) : bt (wth s k c) i = if i = k then (c.toNat : Int) else bt s i := by
  have e0 : (s.extract 0 k).size = k := by rw [size_ext _ _ _ (by omega)]; rfl
  have e1 : (s.extract 0 k ++ ⟨#[c]⟩).size = k + 1 := by rw [ByteArray.size_append, e0]; rfl
  unfold wth
  rw [bt_append, bt_append, e0, e1]
  by_cases h1 : i < k
  · rw [if_pos (by omega), if_pos h1, if_neg (by omega), bt_extract _ _ _ _ (by omega)]
    congr 1; omega
  · by_cases h2 : i = k
    · subst h2
      rw [if_pos (by omega), if_neg (by omega), if_pos rfl, Nat.sub_self]
      exact bt_one c
    · rw [if_neg (by omega), if_neg h2]
      by_cases h3 : i < s.size
      · rw [bt_extract _ _ _ _ (by omega)]
        congr 1; omega
      · rw [bt_extract_out _ _ _ _ (by omega), bt_out _ _ (by omega)]

section
variable {P : Program} (w : World)
theorem index_bt (t : TypeId) (s : ByteArray) (k : IntKind) (i : Int) (h : P.underlying t = some .string) :
    (Instr.index t (.string s) (.int k i)).run P w = if 0 ≤ i ∧ i < s.size then .ok (.int .u8 (bt s i)) w else (boundsPanic k i s.size .index).run P w := by
  rw [run_index_string w t s k i h]
  by_cases hi : 0 ≤ i ∧ i < s.size
  · rw [dif_pos hi, if_pos hi, bt_ix s i hi (by omega)]
  · rw [dif_neg hi, if_neg hi]
/-- Two strings whose sum is no longer than a string can be. -/
structure Fits (a b : ByteArray) : Prop where
  le : a.size + b.size ≤ 9223372036854775807
theorem add_fits (a b : ByteArray) (h : Fits a b) : (Op.stringOp .add a b).run P w = .ok (.string (a ++ b)) w := run_string_add_sum w a b h.le
/-- A place within a string, or at its end. -/
structure InS (s : ByteArray) (i : Int) : Prop where
  le : 0 ≤ i ∧ i ≤ (s.size : Int)
/-- A place within a string, of a byte. -/
structure AtS (s : ByteArray) (i : Int) : Prop where
  le : 0 ≤ i ∧ i < (s.size : Int)
theorem index_at (t : TypeId) (s : ByteArray) (k : IntKind) (i : Int) (h : P.underlying t = some .string) (hi : AtS s i) :
    (Instr.index t (.string s) (.int k i)).run P w = .ok (.int .u8 (bt s i)) w := by
  rw [index_bt w t s k i h, if_pos hi.le]
theorem slice_from (t : TypeId) (s : ByteArray) (k : IntKind) (i : Int) (h : P.underlying t = some .string) (hi : InS s i) :
    (Instr.slice t (.string s) (some (.int k i)) none none).run P w = .ok (.string (s.extract i.toNat s.size)) w := by
  rw [run_slice_string_from_if w t s k i h, if_pos hi.le]
theorem slice_to (t : TypeId) (s : ByteArray) (k : IntKind) (i : Int) (h : P.underlying t = some .string) (hi : InS s i) :
    (Instr.slice t (.string s) none (some (.int k i)) none).run P w = .ok (.string (s.extract 0 i.toNat)) w := by
  rw [run_slice_string_to_if w t s k i h, if_pos hi.le]
end
/-- A slice of strings that came in: its elements. -/
def RowS (w : World) (a : Option Addr) (n : Nat) (ss : List ByteArray) : Prop :=
  ss.length = n ∧ n ≤ maxLen ∧ (∀ x ∈ ss, x.size ≤ maxLen) ∧ (0 < n → ∃ b off, a = some ⟨b, off, none⟩ ∧ b < w.heap.size ∧ ∀ i, i < n → w.cell? ⟨b, off + i, none⟩ = some (.string (ss.getD i ByteArray.empty)))

theorem eql_str (t : TypeId) (a b : ByteArray) : binOp .eql t (.string a) (.string b) = pure (.bool (decide (a = b))) := by rw [binOp_string_eql, str_eq]
theorem neq_str (t : TypeId) (a b : ByteArray) : binOp .neq t (.string a) (.string b) = pure (.bool !(decide (a = b))) := by rw [binOp_string_neq, str_eq]
end Go.Proofs.Ytapjebhdgcpdjaa
