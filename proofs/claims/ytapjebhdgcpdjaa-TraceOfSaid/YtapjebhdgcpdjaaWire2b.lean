/-
  What a string begins with, of any kind, by package wire. What lay below the heap's end stands.
-/
import Derived.Test.YtapjebhdgcpdjaaWire2
namespace Go.Proofs.Ytapjebhdgcpdjaa
set_option linter.unusedVariables false
set_option linter.unusedSimpArgs false
open Go.ChangeShapes Go.WideShapes Go.ChangeAt Go.RowKit
attribute [-go_sem] run_index_string binOp_string_eql binOp_string_neq run_string_add_if run_slice_string_from_if run_slice_string_to_if
attribute [local go_sem] index_bt add_fits slice_from slice_to eql_str neq_str alloc_drewN setCell_drewN

theorem svN_range (s : ByteArray) : ∀ (m i : Nat), m + i = 10 → (((svN s m i).2.2 = 0 ∧ 1 ≤ (svN s m i).2.1 ∧ (svN s m i).2.1 ≤ s.size ∧ (svN s m i).2.1 ≤ 10) ∨ ((svN s m i).1 = 0 ∧ (svN s m i).2.1 = 0 ∧ ((svN s m i).2.2 = 2 ∨ (svN s m i).2.2 = 3))) ∧ 0 ≤ (svN s m i).1 ∧ (svN s m i).1 ≤ 18446744073709551615
  | 0, i, _ => ⟨Or.inr ⟨rfl, rfl, Or.inl rfl⟩, Int.le_refl _, by show (0 : Int) ≤ 18446744073709551615; decide⟩
  | m + 1, i, h => by
    unfold svN
    split
    · exact ⟨Or.inr ⟨rfl, rfl, Or.inl rfl⟩, by decide, by decide⟩
    · split
      · exact ⟨Or.inr ⟨rfl, rfl, Or.inr rfl⟩, by decide, by decide⟩
      · rename_i h1 h2
        split
        · refine ⟨Or.inl ⟨rfl, by show 1 ≤ i + 1; omega, by show i + 1 ≤ s.size; omega, by show i + 1 ≤ 10; omega⟩, (vl_bd s (i + 1)).1, ?_⟩
          have hv := vl_bd s i
          have hb := bt_bd s i
          have := (or_var i (by omega) (vl s i) (bt s i % 128) hv.1 hv.2 (by omega) (by omega) (fun h9 => by
            have : ¬ 1 < bt s i := fun hn => h2 (Or.inr ⟨h9, hn⟩)
            omega)).2.2.2
          exact this
        · exact svN_range s m (i + 1) (by omega)
theorem sv_range (s : ByteArray) : (((sv s).2.2 = 0 ∧ 1 ≤ (sv s).2.1 ∧ (sv s).2.1 ≤ s.size ∧ (sv s).2.1 ≤ 10) ∨ ((sv s).1 = 0 ∧ (sv s).2.1 = 0 ∧ ((sv s).2.2 = 2 ∨ (sv s).2.2 = 3))) ∧ 0 ≤ (sv s).1 ∧ (sv s).1 ≤ 18446744073709551615 :=
  svN_range s 10 0 rfl

/-- A text that a string begins with. -/
def tx (s : ByteArray) : ByteArray × Nat × Int :=
  if (sv s).2.2 ≠ 0 then (⟨#[]⟩, 0, (sv s).2.2) else if 65535 < (sv s).1 then (⟨#[]⟩, 0, 4)
  else if ((s.size - (sv s).2.1 : Nat) : Int) < (sv s).1 then (⟨#[]⟩, 0, 2)
  else (s.extract (sv s).2.1 ((sv s).2.1 + (sv s).1.toNat), (sv s).2.1 + (sv s).1.toNat, 0)

theorem takeText_any (s : ByteArray) (hs : s.size ≤ 140737488355328) (w : World) :
    Calls Try.prog 128 #[.string s] w fun e w' => e = .returned (.tuple #[.string (tx s).1, .int .i64 ((tx s).2.1 : Nat), .int .i64 (tx s).2.2]) ∧ w = w' := by
  have hr := sv_range s
  have TV := Lib.hid (fun w => takeVar_any s (by unfold maxLen; omega) w)
  obtain ⟨r, hx⟩ : ∃ r, tx s = r := ⟨_, rfl⟩
  rw [hx]
  unfold tx at hx
  generalize sv s = q at *
  obtain ⟨n, c, x⟩ := q
  simp only at hr hx TV
  obtain ⟨hr, n0, n1⟩ := hr
  by_cases hx0 : x = 0
  · subst hx0
    rw [if_neg (by simp)] at hx
    have hc : 1 ≤ c ∧ c ≤ s.size ∧ c ≤ 10 := by rcases hr with h | h <;> omega
    clear hr
    by_cases hl : 65535 < n
    · rw [if_pos hl] at hx
      subst hx
      go_enter Try.func128, Try.ntmps128
      go_wp2_with fail
      refine (TV.out _).mono ?_
      rintro e w' ⟨rfl, rfl⟩
      go_wp2
      go_ret3
      exact ⟨rfl, rfl⟩
    · rw [if_neg hl] at hx
      by_cases ht : ((s.size - c : Nat) : Int) < n
      · rw [if_pos ht] at hx
        subst hx
        go_enter Try.func128, Try.ntmps128
        go_wp2_with fail
        refine (TV.out _).mono ?_
        rintro e w' ⟨rfl, rfl⟩
        go_wp2
        go_ret3
        exact ⟨rfl, rfl⟩
      · rw [if_neg ht] at hx
        subst hx
        obtain ⟨z, rfl⟩ := Int.eq_ofNat_of_zero_le n0
        have hz : c + z ≤ s.size := by omega
        have hz1 : (c : Int) + (z : Int) ≤ (s.size : Int) := by omega
        have hz2 : (c : Int) ≤ (c : Int) + (z : Int) := by omega
        have hz3 : ((c : Int) + (z : Int)).toNat = c + z := by omega
        have g : ((c + (z : Int).toNat : Nat) : Int) = (c : Int) + (z : Int) := by omega
        have g3 : (z : Int).toNat = z := by omega
        simp only [g3] at g ⊢
        rw [g]
        go_enter Try.func128, Try.ntmps128
        go_wp2_with fail
        refine (TV.out _).mono ?_
        rintro e w' ⟨rfl, rfl⟩
        go_wp2
        go_ret3
        exact ⟨rfl, rfl⟩
  · rw [if_pos hx0] at hx
    subst hx
    have g : (x != 0) = true := by simp [hx0]
    clear hx0 hr
    go_enter Try.func128, Try.ntmps128
    go_wp2_with fail
    refine (TV.out _).mono ?_
    rintro e w' ⟨rfl, rfl⟩
    go_wp2
    go_ret3
    exact ⟨rfl, rfl⟩
end Go.Proofs.Ytapjebhdgcpdjaa
