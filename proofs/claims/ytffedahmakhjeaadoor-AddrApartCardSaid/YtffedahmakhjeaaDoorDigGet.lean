/-
  The number of a decimal, by package digits. What lay below the heap's end stands. No condition but that texts are short, and that the library's error of the range is one.
-/
import Derived.Test.YtffedahmakhjeaaDoorDigForm
namespace Go.Proofs.YtffedahmakhjeaaDoor
set_option linter.unusedVariables false
set_option linter.unusedSimpArgs false
open Go.ChangeShapes Go.WideShapes Go.ChangeAt Go.RowKit
attribute [-go_sem] run_index_string binOp_string_eql binOp_string_neq run_string_add_if run_slice_string_from_if run_slice_string_to_if
attribute [local go_sem] index_bt add_fits slice_from slice_to eql_str neq_str alloc_drewN setCell_drewN

theorem nv_rises (s : ByteArray) (h : ∀ k : Nat, k < s.size → 48 ≤ bt s k ∧ bt s k ≤ 57) (k : Nat) : ∀ d : Nat, k + d ≤ s.size → nv s k ≤ nv s (k + d)
  | 0, _ => Int.le_refl _
  | d + 1, hd => by
    have ih := nv_rises s h k d (by omega)
    have h0 := nv_nonneg s (k + d) (fun i hi => h i (by omega))
    have hb := h (k + d) (by omega)
    show nv s k ≤ nv s (k + d) * 10 + (bt s ((k + d : Nat) : Int) - 48)
    omega
theorem pu_from (s : ByteArray) (h : ∀ k : Nat, k < s.size → 48 ≤ bt s k ∧ bt s k ≤ 57) : ∀ (d k : Nat), k + d = s.size → nv s k ≤ 18446744073709551615 →
    Lib.parseUintM 18446744073709551615 (nv s k).toNat (s.data.toList.drop k) = if 18446744073709551615 < nv s s.size then .range else .ok (nv s s.size).toNat
  | 0, k, hk, hm => by
    have hk : k = s.size := by omega
    subst hk
    rw [List.drop_of_length_le (by rw [len_data]; exact Nat.le_refl _), if_neg (by omega)]
    rfl
  | d + 1, k, hk, hm => by
    have hl : k < s.data.toList.length := by rw [len_data]; omega
    have h0 := nv_nonneg s k (fun i hi => h i (by omega))
    have hb := h k (by omega)
    have hr := nv_rises s h (k + 1) d (by omega)
    rw [show k + 1 + d = s.size from by omega] at hr
    have hn : nv s (k + 1) = nv s k * 10 + (bt s k - 48) := rfl
    have eb : bt s k = ((s.data.toList[k]).toNat : Int) := by
      rw [bt_nat, List.getD_eq_getElem?_getD, List.getElem?_eq_getElem hl]; rfl
    rw [List.drop_eq_getElem_cons hl]
    unfold Lib.parseUintM
    rw [if_pos (by omega)]
    by_cases c1 : 1844674407370955162 ≤ (nv s k).toNat
    · rw [if_pos c1, if_pos (by omega)]
    · rw [if_neg c1]
      by_cases c2 : 18446744073709551615 < (nv s k).toNat * 10 + ((s.data.toList[k]).toNat - 48)
      · rw [if_pos c2, if_pos (by omega)]
      · rw [if_neg c2]
        have e : (nv s k).toNat * 10 + ((s.data.toList[k]).toNat - 48) = (nv s (k + 1)).toNat := by omega
        rw [e]
        exact pu_from s h d (k + 1) (by omega) (by omega)
theorem pu_all (s : ByteArray) (h : Formed s) : Lib.parseUintB 64 s.data.toList = if 18446744073709551615 < nv s s.size then .range else .ok (nv s s.size).toNat := by
  have hl : s.data.toList ≠ [] := fun e => by
    have := congrArg List.length e
    rw [len_data] at this
    have e0 : s.size = 0 := this
    have h1 := h.1
    omega
  unfold Lib.parseUintB
  rw [if_neg hl]
  have := pu_from s h.2.1 s.size 0 (by omega) (by show (0 : Int) ≤ _; omega)
  exact this

theorem read_any (s : ByteArray) (hs : s.size ≤ 1000000) (te : TypeId) (pe : Value) (w : World) (hE : w.cell? ⟨5, 0, none⟩ = some (.iface te pe)) (hw : 5 < w.heap.size) :
    Calls Tryd.prog 40 #[.string s] w fun e w' => e = .returned (.tuple #[.int .u64 (rd s).1, .int .i64 (rd s).2]) ∧ Below w.heap.size w w' := by
  by_cases hF : Formed s
  · have FA := Lib.hid (formed_any s hs true (by simp [hF]) w)
    by_cases ho : 18446744073709551615 < nv s s.size
    · have hp := pu_all s hF
      rw [if_pos ho] at hp
      rw [rd_over s hF ho]
      have HP := Lib.hid hp
      have HE := Lib.hid hE
      have HW := Lib.hid hw
      clear hp hF ho hE hw
      go_enter Tryd.func40, Tryd.ntmps40
      go_wp2_with fail
      refine FA.out.mono ?_
      rintro e1 w1 ⟨rfl, b1⟩
      have hE1 : w1.cell? ⟨5, 0, none⟩ = some (.iface te pe) := by rw [b1.cell (p := ⟨5, 0, none⟩) HW.out]; exact HE.out
      have HE1 := Lib.hid hE1
      clear hE1
      go_wp2_with fail
      refine (Tryd.strconv_ParseUint_10_at64_range s (by omega) HP.out (.iface te pe) w1 HE1.out (Or.inr ⟨te, pe, rfl⟩)).mono ?_
      rintro e2 w2 ⟨N, rfl, hN, hc, b2⟩
      go_wp2
      go_ret2
      exact ⟨rfl, Below.go b1 b2⟩
    · have hp := pu_all s hF
      rw [if_neg ho] at hp
      rw [rd_ok s hF ho]
      have h0 := nv_nonneg s s.size hF.2.1
      obtain ⟨u, hu⟩ : ∃ u : Nat, nv s s.size = (u : Int) := ⟨(nv s s.size).toNat, by omega⟩
      rw [hu] at hp ⊢
      have hp : Lib.parseUintB 64 s.data.toList = .ok u := hp
      have HP := Lib.hid hp
      clear hp hF ho hE hw hu h0
      go_enter Tryd.func40, Tryd.ntmps40
      go_wp2_with fail
      refine FA.out.mono ?_
      rintro e1 w1 ⟨rfl, b1⟩
      go_wp2_with fail
      refine (Tryd.strconv_ParseUint_10_at64_ok s (by omega) u HP.out w1).mono ?_
      rintro e2 w2 ⟨rfl, h2⟩
      have b2 : Below w1.heap.size w1 w2 := by
        rcases h2 with rfl | rfl
        · exact Below.refl _ _
        · exact Lib.bytesWorld_below _ _ _
      clear h2
      go_wp2
      go_ret2
      exact ⟨rfl, Below.go b1 b2⟩
  · have FA := Lib.hid (formed_any s hs false (by simp [hF]) w)
    rw [rd_form s hF]
    clear hF hE hw
    go_enter Tryd.func40, Tryd.ntmps40
    go_wp2_with fail
    refine FA.out.mono ?_
    rintro e1 w1 ⟨rfl, b1⟩
    go_wp2
    go_ret2
    exact ⟨rfl, b1⟩
end Go.Proofs.YtffedahmakhjeaaDoor
