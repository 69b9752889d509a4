/-
  The answer of layer 15, walked: an entry set, taken out. What lay below the heap's end stands. No condition.
-/
import Derived.Test.YtcieggckmpabnaaR15
import Derived.RegionTactic
import Derived.Deep.RegionWith
namespace Go.Proofs.Ytcieggckmpabnaa
set_option linter.unusedVariables false
set_option linter.unusedSimpArgs false
open Go.ChangeShapes Go.WideShapes Go.ChangeAt Go.RowKit
attribute [local go_sem] alloc_drewN setCell_drewN

theorem its15_one (xs : List (Int × Int)) : ∀ u ∈ xs.flatMap itc15, u.oneCell' = true := fun u hu => by
  obtain ⟨y, _, hy⟩ := List.mem_flatMap.1 hu
  simp [itc15] at hy
  rcases hy with rfl | rfl <;> rfl
theorem its15_set (xs : List (Int × Int)) (h : Nat) (x : Int) (hh : h < xs.length) : (xs.flatMap itc15).set (h * 2 + 1) (.int .i64 x) = (xs.set h ((xs[h]).1, x)).flatMap itc15 := by
  apply List.ext_getElem?
  intro j
  rcases Nat.lt_or_ge j (xs.length * 2) with hj | hj
  · obtain ⟨q, r, rfl, hr⟩ : ∃ q r, j = q * 2 + r ∧ r < 2 := ⟨j / 2, j % 2, by omega, Nat.mod_lt _ (by omega)⟩
    have hq : q < xs.length := by omega
    rw [its15_at (xs.set h _) q r (by rw [List.length_set]; exact hq) hr]
    by_cases hqh : h = q
    · subst hqh
      have hL := its15_len xs
      simp only [List.getElem?_set, List.length_set, hL, List.getElem_set_self]
      match r, hr with
      | 0, _ => rw [if_neg (by omega), its15_at xs h 0 hh (by omega)]; rfl
      | 1, _ => rw [if_pos rfl, if_pos (by omega)]; rfl
    · rw [List.getElem?_set_ne (by omega), its15_at xs q r hq hr, List.getElem_set_ne hqh]
  · rw [List.getElem?_eq_none (by rw [List.length_set, its15_len]; omega), List.getElem?_eq_none (by rw [its15_len, List.length_set]; omega)]
theorem put15_there (base : Nat) (v : Value) (xs : List (Int × Int)) (e1 e2 room : Int) (hn : xs.length ≤ 100000) (w : World) (h : Its15 w base v xs) (hyes : ∃ m ∈ xs, m.1 = e1) :
    Calls Try.prog 70 #[v, .int .i64 room, .int .u32 e1, .int .i64 e2] w fun e w' => e = .returned (.tuple #[v, .int .i64 8]) ∧ w' = w := by
  have FH := Lib.hid (find15 h hn e1)
  have HY := Lib.hid hyes
  clear h hyes
  go_enter Try.func70, Try.ntmps70
  go_wp2_with fail
  refine FH.out.mono ?_
  rintro e w' ⟨r, rfl, hf, rfl⟩
  have h0 : (0 : Int) ≤ r := by
    rcases hf with ⟨k, hk, rfl, _⟩ | ⟨_, hno⟩
    · omega
    · obtain ⟨m, hm, he⟩ := HY.out
      exact absurd he (hno m hm)
  clear hf
  go_wp2
  go_ret2
  exact ⟨rfl, rfl⟩
theorem put15_full (base : Nat) (v : Value) (xs : List (Int × Int)) (e1 e2 room : Int) (hn : xs.length ≤ 100000) (w : World) (h : Its15 w base v xs) (hno : ∀ m ∈ xs, m.1 ≠ e1) (hr : room ≤ (xs.length : Int)) :
    Calls Try.prog 70 #[v, .int .i64 room, .int .u32 e1, .int .i64 e2] w fun e w' => e = .returned (.tuple #[v, .int .i64 20]) ∧ w' = w := by
  have FH := Lib.hid (find15 h hn e1)
  have HN := Lib.hid hno
  obtain ⟨a, c, rfl, _, _⟩ := h.form
  clear h hno
  go_enter Try.func70, Try.ntmps70
  go_wp2_with fail
  refine FH.out.mono ?_
  rintro e w' ⟨r, rfl, hf, rfl⟩
  obtain rfl : r = -1 := by
    rcases hf with ⟨k, hk, rfl, he⟩ | ⟨h1, _⟩
    · exact absurd he (HN.out _ (List.getElem_mem _))
    · exact h1
  clear hf
  go_wp2
  go_ret2
  exact ⟨rfl, rfl⟩
theorem set15_no (base : Nat) (v : Value) (xs : List (Int × Int)) (e1 e2 : Int) (hn : xs.length ≤ 100000) (w : World) (h : Its15 w base v xs) (hno : ∀ m ∈ xs, m.1 ≠ e1) :
    Calls Try.prog 72 #[v, .int .u32 e1, .int .i64 e2] w fun e w' => e = .returned (.tuple #[v, .bool false]) ∧ w' = w := by
  have FH := Lib.hid (find15 h hn e1)
  have HN := Lib.hid hno
  clear h hno
  go_enter Try.func72, Try.ntmps72
  go_wp2_with fail
  refine FH.out.mono ?_
  rintro e w' ⟨r, rfl, hf, rfl⟩
  obtain rfl : r = -1 := by
    rcases hf with ⟨k, hk, rfl, he⟩ | ⟨h1, _⟩
    · exact absurd he (HN.out _ (List.getElem_mem _))
    · exact h1
  clear hf
  go_wp2
  go_ret2
  exact ⟨rfl, rfl⟩
set_option maxRecDepth 100000 in
set_option maxHeartbeats 1000000 in
theorem set15_at (base : Nat) (v : Value) (xs : List (Int × Int)) (e1 e2 : Int) (hn : xs.length ≤ 100000) (w : World) (h : Its15 w base v xs) (hyes : ∃ m ∈ xs, m.1 = e1) :
    Calls Try.prog 72 #[v, .int .u32 e1, .int .i64 e2] w fun e w' => ∃ k, ∃ hk : k < xs.length, (xs[k]).1 = e1 ∧ ∃ v', e = .returned (.tuple #[v', .bool true]) ∧ Its15 w' w.heap.size v' (xs.set k (e1, e2)) ∧ Below w.heap.size w w' := by
  obtain ⟨i0, hi, hz0, hz1, hz2⟩ := info_parts infoEnt15
  have FH := Lib.hid (find15 h hn e1)
  have HY := Lib.hid hyes
  have h' := h
  unfold Its15 at h'
  have hpos : 0 < xs.length := by
    obtain ⟨m, hm, _⟩ := hyes
    exact List.length_pos_of_mem hm
  obtain ⟨g, cap, rfl, _, _⟩ := h'.form hpos
  have HC := Lib.hid (h'.cells (g := g) rfl)
  have HL := Lib.hid (its15_len xs)
  have H1 := Lib.hid (its15_one xs)
  clear h h' hyes
  go_enter Try.func72, Try.ntmps72
  go_wp2_with fail
  refine FH.out.mono ?_
  rintro e w' ⟨r, rfl, hf, rfl⟩
  obtain ⟨k, hk, rfl, he⟩ : ∃ k : Nat, ∃ h : k < xs.length, r = k ∧ (xs[k]).1 = e1 := by
    rcases hf with hf | ⟨_, hno⟩
    · exact hf
    · obtain ⟨m, hm, he⟩ := HY.out
      exact absurd he (hno m hm)
  have HE := Lib.hid he
  clear hf he FH HY
  have q0 : (0 : Int) ≤ k := by omega
  have q1 : (k : Int) < xs.length := by omega
  have q2 : ¬ (k : Int) < 0 := by omega
  go_wp2_with (at_builtin; refine wpList_append_own _ rfl _ _ 28 rfl w'.heap.size 39 i0 (.agg #[.int .u32 0, .int .i64 0]) 2 16 Try.underlying28 hi hz0 hz1 hz2 rfl (by decide) (.slice none 0 0) 0 [] rfl (World.ownsRow_nil _ _ _ _) ⟨g, 0, none⟩ xs.length cap (xs.flatMap itc15) rfl HL.out HC.out H1.out (by unfold maxLen; omega) (by omega) (by simp) ?_; intro v1 w1 ho1 hg1 hn1; clear hn1; have hs1 := hg1.size; rw [Nat.zero_add, List.nil_append] at ho1; obtain ⟨g1, cap1, rfl, _, _⟩ := ho1.form hpos; have B1 := Lib.hid (show Below w'.heap.size w' w1 from (Below.refl _ _).grown hg1 (Nat.le_refl _) (fun g hg => by simp [Value.ownBlock] at hg)); have hgl := (ho1.lt g1 rfl).1; have HO1 := Lib.hid ho1; have hst := ho1.frozenAt (k * 2 + 1); have hcl := ho1.cellAt (k * 2 + 1) (by omega); rw [its15_at xs k 1 hk (by omega)] at hcl; clear ho1 hg1)
  have fin : Its15 (w1.setCell ⟨g1, k * 2 + 1, none⟩ (.int .i64 e2)) w'.heap.size (.slice (some ⟨g1, 0, none⟩) xs.length cap1) (xs.set k (e1, e2)) := by
    have := (HO1.out.stored (k * 2 + 1) (.int .i64 e2)).1
    rw [its15_set xs k e2 hk, HE.out] at this
    unfold Its15
    rw [List.length_set]
    exact this
  go_ret2
  exact ⟨k, hk, HE.out, _, rfl, fin, B1.out.setCell (p := ⟨g1, k * 2 + 1, none⟩) hgl _⟩
theorem drop15_no (base : Nat) (v : Value) (xs : List (Int × Int)) (e1 : Int) (hn : xs.length ≤ 100000) (w : World) (h : Its15 w base v xs) (hno : ∀ m ∈ xs, m.1 ≠ e1) :
    Calls Try.prog 74 #[v, .int .u32 e1] w fun e w' => e = .returned (.tuple #[v, .int .i64 0, .bool false]) ∧ w' = w := by
  have FH := Lib.hid (find15 h hn e1)
  have HN := Lib.hid hno
  clear h hno
  go_enter Try.func74, Try.ntmps74
  go_wp2_with fail
  refine FH.out.mono ?_
  rintro e w' ⟨r, rfl, hf, rfl⟩
  obtain rfl : r = -1 := by
    rcases hf with ⟨k, hk, rfl, he⟩ | ⟨h1, _⟩
    · exact absurd he (HN.out _ (List.getElem_mem _))
    · exact h1
  clear hf
  go_wp2
  go_ret3
  exact ⟨rfl, rfl⟩
end Go.Proofs.Ytcieggckmpabnaa
