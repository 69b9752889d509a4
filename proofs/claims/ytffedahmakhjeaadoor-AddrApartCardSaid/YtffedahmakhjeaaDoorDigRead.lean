/-
  Whether a text is formed as a number, by package digits; plain laws on lists of bytes. What lay below the heap's end stands. No condition but that texts are no longer than they can be.
-/
import Derived.Test.YtffedahmakhjeaaDoorDigRef3
import Derived.Test.YtffedahmakhjeaaDoorShelf
import Derived.Shelf.Strings.SlTrimAscii
import Derived.Lib.SlTrimSet
import Derived.Lib.ParseIntB
namespace Go.Proofs.YtffedahmakhjeaaDoor
set_option linter.unusedVariables false
set_option linter.unusedSimpArgs false
open Go.ChangeShapes Go.WideShapes Go.ChangeAt Go.RowKit
attribute [-go_sem] run_index_string binOp_string_eql binOp_string_neq run_string_add_if run_slice_string_from_if run_slice_string_to_if
attribute [local go_sem] index_bt add_fits slice_from slice_to eql_str neq_str alloc_drewN setCell_drewN

theorem dropWhile_all {α : Type} (p : α → Bool) : ∀ l : List α, l.dropWhile p = [] ↔ ∀ x ∈ l, p x = true
  | [] => by simp
  | a :: l => by
    have ih := dropWhile_all p l
    rw [List.dropWhile_cons]
    by_cases h : p a = true
    · rw [if_pos h, ih]; simp [h]
    · rw [if_neg h]; simp [h]
theorem dropWhile_head {α : Type} (p : α → Bool) : ∀ (l : List α) (a : α) (r : List α), l.dropWhile p = a :: r → p a = false
  | [], a, r, h => by simp at h
  | b :: l, a, r, h => by
    rw [List.dropWhile_cons] at h
    by_cases hb : p b = true
    · rw [if_pos hb] at h; exact dropWhile_head p l a r h
    · rw [if_neg hb] at h
      have := (List.cons.inj h).1
      rw [← this]
      simpa using hb
theorem trimS_nil (l cs : List UInt8) : Lib.trimS l cs = [] ↔ ∀ b ∈ l, cs.contains b = true := by
  have h1 : Lib.trimRightS l cs = [] ↔ ∀ b ∈ l, cs.contains b = true := by
    unfold Lib.trimRightS
    rw [List.reverse_eq_nil_iff, dropWhile_all]
    simp
  rw [← h1]
  unfold Lib.trimS Lib.trimLeftS
  constructor
  · intro h
    rw [dropWhile_all] at h
    cases hr : l.reverse.dropWhile (cs.contains ·) with
    | nil => unfold Lib.trimRightS; rw [hr]; rfl
    | cons a r =>
      have h2 := dropWhile_head _ _ _ _ hr
      have h3 := h a (by unfold Lib.trimRightS; rw [hr]; simp)
      rw [h3] at h2
      cases h2
  · intro h; rw [h]; rfl
theorem digit_in (b : UInt8) : ([48, 49, 50, 51, 52, 53, 54, 55, 56, 57] : List UInt8).contains b = decide (48 ≤ b.toNat ∧ b.toNat ≤ 57) := by
  have h : ∀ n : Fin 256, ([48, 49, 50, 51, 52, 53, 54, 55, 56, 57] : List UInt8).contains (UInt8.ofNat n.val) = decide (48 ≤ (UInt8.ofNat n.val).toNat ∧ (UInt8.ofNat n.val).toNat ≤ 57) := by decide +kernel
  have := h ⟨b.toNat, b.toNat_lt⟩
  rw [UInt8.ofNat_toNat] at this
  exact this
theorem digits_all (s : ByteArray) : (∀ b ∈ s.data.toList, ([48, 49, 50, 51, 52, 53, 54, 55, 56, 57] : List UInt8).contains b = true) ↔ ∀ k : Nat, k < s.size → 48 ≤ bt s k ∧ bt s k ≤ 57 := by
  constructor
  · intro h k hk
    have hl : k < s.data.toList.length := by rw [len_data]; exact hk
    have := h (s.data.toList[k]) (List.getElem_mem _)
    rw [digit_in, decide_eq_true_eq] at this
    rw [bt_nat, List.getD_eq_getElem?_getD, List.getElem?_eq_getElem hl]
    show 48 ≤ ((s.data.toList[k]).toNat : Int) ∧ ((s.data.toList[k]).toNat : Int) ≤ 57
    omega
  · intro h b hb
    obtain ⟨k, hk, rfl⟩ := List.getElem_of_mem hb
    have hk' : k < s.size := by rw [← len_data]; exact hk
    have := h k hk'
    rw [bt_nat, List.getD_eq_getElem?_getD, List.getElem?_eq_getElem hk] at this
    have this : 48 ≤ ((s.data.toList[k]).toNat : Int) ∧ ((s.data.toList[k]).toNat : Int) ≤ 57 := this
    rw [digit_in, decide_eq_true_eq]
    omega

theorem trim_any (s : ByteArray) (hs : s.size ≤ 9223372036854775807) (w : World) :
    Calls Tryd.prog 58 #[.string s, .string ⟨#[48, 49, 50, 51, 52, 53, 54, 55, 56, 57]⟩] w fun e w' => e = .returned (.string ⟨(Lib.trimS s.data.toList [48, 49, 50, 51, 52, 53, 54, 55, 56, 57]).toArray⟩) ∧ Below w.heap.size w w' :=
  Go.Proofs.Any.strings_Trim_laid Tryd.lays160 (by kernel_rfl) s ⟨#[48, 49, 50, 51, 52, 53, 54, 55, 56, 57]⟩ w hs (by decide) (Go.Proofs.ascii_of_all (by decide))
theorem trimmed (s : ByteArray) : decide ((⟨(Lib.trimS s.data.toList [48, 49, 50, 51, 52, 53, 54, 55, 56, 57]).toArray⟩ : ByteArray) = ⟨#[]⟩) = true ↔ ∀ k : Nat, k < s.size → 48 ≤ bt s k ∧ bt s k ≤ 57 := by
  rw [decide_eq_true_eq, ← digits_all, ← trimS_nil]
  constructor
  · intro h
    have := congrArg (fun a : ByteArray => a.data.toList) h
    simpa using this
  · intro h; rw [h]
end Go.Proofs.YtffedahmakhjeaaDoor
