/-
  Layer 14: two numbers side by side that change places; the example, walked. No condition.
-/
import Derived.Test.YteblhgmepfegpabInvR2
import Derived.Test.YteblhgmepfegpabInvLg
namespace Go.Proofs.Yteblhgmepfegpab
set_option linter.unusedVariables false
set_option linter.unusedSimpArgs false
open Go.ChangeShapes Go.WideShapes Go.ChangeAt Go.RowKit
attribute [local go_sem] alloc_drewN setCell_drewN

def swN (z : Nat → Int) (k i : Nat) : Int := if i = k then z (k + 1) else if i = k + 1 then z k else z i
theorem swN_lo (z : Nat → Int) (k i : Nat) (h : i < k) : swN z k i = z i := by unfold swN; rw [if_neg (by omega), if_neg (by omega)]
theorem swN_hi (z : Nat → Int) (k i : Nat) (h : k + 1 < i) : swN z k i = z i := by unfold swN; rw [if_neg (by omega), if_neg (by omega)]
theorem swN_k (z : Nat → Int) (k : Nat) : swN z k k = z (k + 1) := by unfold swN; rw [if_pos rfl]
theorem swN_k1 (z : Nat → Int) (k : Nat) : swN z k (k + 1) = z k := by unfold swN; rw [if_neg (by omega), if_pos rfl]
theorem cR_swap (p : Int → Bool) (z : Nat → Int) (k : Nat) : ∀ d, cR (fun j => p (swN z k j)) (k + 2 + d) = cR (fun j => p (z j)) (k + 2 + d)
  | 0 => by
    show cR _ (k + 1 + 1) = cR _ (k + 1 + 1)
    rw [cR_succ, cR_succ, cR_succ, cR_succ, cR_congr (q := fun j => p (z j)) k (fun i hi => by rw [swN_lo z k i hi])]
    simp only [swN_k, swN_k1]
    omega
  | d + 1 => by
    show cR _ (k + 2 + d + 1) = cR _ (k + 2 + d + 1)
    rw [cR_succ, cR_succ, cR_swap p z k d]
    simp only [swN_hi z k (k + 2 + d) (by omega)]
theorem late_swap (z : Nat → Int) (k i : Nat) (h : k + 1 < i) : lateN (swN z k) i = lateN z i := by
  obtain ⟨d, rfl⟩ : ∃ d, i = k + 2 + d := ⟨i - k - 2, by omega⟩
  unfold lateN
  rw [swN_hi z k _ (by omega)]
  exact cR_swap (fun x => decide (z (k + 2 + d) < x)) z k d
theorem inv_swap (z : Nat → Int) (k : Nat) : ∀ d, invN (swN z k) (k + 2 + d) + one1 (decide (z (k + 1) < z k)) = invN z (k + 2 + d) + one1 (decide (z k < z (k + 1)))
  | 0 => by
    show sumR (lateN (swN z k)) (k + 1 + 1) + _ = sumR (lateN z) (k + 1 + 1) + _
    simp only [sumR]
    have e0 : sumR (lateN (swN z k)) k = sumR (lateN z) k := sumR_congr k (fun i hi => by
      unfold lateN
      rw [swN_lo z k i hi]
      exact cR_congr i (fun j hj => by rw [swN_lo z k j (by omega)]))
    have e1 : lateN (swN z k) k = cR (fun j => decide (z (k + 1) < z j)) k := by
      unfold lateN
      rw [swN_k]
      exact cR_congr k (fun j hj => by rw [swN_lo z k j hj])
    have e2 : lateN (swN z k) (k + 1) = cR (fun j => decide (z k < z j)) k + one1 (decide (z k < z (k + 1))) := by
      unfold lateN
      rw [swN_k1, cR_succ, swN_k, cR_congr (q := fun j => decide (z k < z j)) k (fun j hj => by rw [swN_lo z k j hj])]
    have e3 : lateN z (k + 1) = cR (fun j => decide (z (k + 1) < z j)) k + one1 (decide (z (k + 1) < z k)) := rfl
    have e4 : lateN z k = cR (fun j => decide (z k < z j)) k := rfl
    rw [e0, e1, e2, e3, e4]
    omega
  | d + 1 => by
    have ih := inv_swap z k d
    have hl := late_swap z k (k + 2 + d) (by omega)
    unfold invN at *
    show sumR (lateN (swN z k)) (k + 2 + d + 1) + _ = sumR (lateN z) (k + 2 + d + 1) + _
    simp only [sumR]
    omega
theorem num_of_cells {w : World} {b off n c : Nat} {z : Nat → Int} (hb : b < w.heap.size) (h : ∀ i, i < n → w.cell? ⟨b, off + i, none⟩ = some (.int .u64 (z i))) : NumAt w w.heap.size (.slice (some ⟨b, off, none⟩) n c) z n :=
  ⟨_, _, rfl, fun i hi => ⟨b, off, rfl, hb, hb, h i hi⟩⟩
theorem num_grow {w w' : World} {v : Value} {z : Nat → Int} {n : Nat} (h : NumAt w w.heap.size v z n) (hb : Below w.heap.size w w') : NumAt w' w'.heap.size v z n := by
  obtain ⟨a, c, rfl, hc⟩ := h
  refine ⟨a, c, rfl, fun i hi => ?_⟩
  obtain ⟨b, off, e, h1, h2, h3⟩ := hc i hi
  exact ⟨b, off, e, Nat.lt_of_lt_of_le h1 hb.size, Nat.lt_of_lt_of_le h2 hb.size, (World.cell?_of_block (hb.block b h1)).trans h3⟩
theorem U64s.num {w : World} {base : Nat} {v : Value} {xs : List Int} (h : U64s w base v xs) : NumAt w w.heap.size v (fun i => xs.getD i 0) xs.length := by
  obtain ⟨a, c, rfl, _, hc⟩ := h.form
  refine ⟨a, c, rfl, fun i hi => ?_⟩
  obtain ⟨g, rfl, h1, h2, h3, _⟩ := hc i hi
  exact ⟨g, 0, rfl, h2, h2, by rw [Nat.zero_add]; exact h3⟩
def z5 (i : Nat) : Int := [5, 3, 3, 9, 4].getD i 0
theorem inv5 : invN z5 5 = 4 := by decide
theorem lat5 : latN z5 5 = [0, 1, 1, 0, 2] := by rw [latN_eq]; decide
theorem tls5 : (tls z5 5).length = 3 := by decide
theorem ord5 : (ordN z5 5).map (fun i : Nat => (i : Int)) = [1, 2, 4, 0, 3] := (order_eq z5 5 [1, 2, 4, 0, 3] rfl (by decide)).symm
theorem lit5 (w : World) (base : Nat) (a b c d e : Int) (hb : base ≤ w.heap.size) : Ints (w.alloc (.cells #[.int .i64 a, .int .i64 b, .int .i64 c, .int .i64 d, .int .i64 e] 3)) base (.slice (some ⟨w.heap.size, 0, none⟩) 5 5) [a, b, c, d, e] :=
  World.ownsRow_lit w #[.int .i64 a, .int .i64 b, .int .i64 c, .int .i64 d, .int .i64 e] 5 hb (by unfold maxLen; omega) rfl
theorem lives14 (w : World) :
    Calls Try.prog 6 #[] w fun e w' => e = .returned (.bool true) ∧ Below w.heap.size w w' := by
  have B0 := Lib.hid (((Below.refl _ w)).alloc (Nat.le_refl _) (.cells #[.int .u64 5, .int .u64 3, .int .u64 3, .int .u64 9, .int .u64 4] 24))
  have N0 : NumAt (w.alloc (.cells #[.int .u64 5, .int .u64 3, .int .u64 3, .int .u64 9, .int .u64 4] 24)) (w.alloc (.cells #[.int .u64 5, .int .u64 3, .int .u64 3, .int .u64 9, .int .u64 4] 24)).heap.size (.slice (some ⟨w.heap.size, 0, none⟩) 5 5) z5 5 := num_of_cells (by simp) (fun i hi => by
    have hc : i = 0 ∨ i = 1 ∨ i = 2 ∨ i = 3 ∨ i = 4 := by omega
    rcases hc with rfl | rfl | rfl | rfl | rfl <;> simp [go_sem, z5])
  have HN := Lib.hid N0
  clear N0
  go_enter Try.func6, Try.ntmps6
  go_wp2_with fail
  refine (count14 (z := z5) (n := 5) (by omega) _ _ _ HN.out).mono ?_
  rintro e w1 ⟨rfl, b1⟩
  rw [inv5]
  have N1 := Lib.hid (num_grow HN.out b1)
  have B1 := Lib.hid (B0.out.trans (b1.mono B0.out.size))
  clear b1
  go_wp2_with fail
  refine (order14 (z := z5) (n := 5) (by omega) _ _ _ N1.out).mono ?_
  rintro e w2 ⟨v2, rfl, i2, b2⟩
  rw [ord5] at i2
  have I2 := Lib.hid i2
  have N2 := Lib.hid (num_grow N1.out b2)
  have B2 := Lib.hid (B1.out.trans (b2.mono B1.out.size))
  clear b2 i2
  go_wp2_with fail
  refine (same6 _ w2.heap.size v2 _ [1, 2, 4, 0, 3] (by decide) _ (I2.out.below ((Below.refl _ w2).alloc (Nat.le_refl _) _)) (lit5 w2 w2.heap.size 1 2 4 0 3 (Nat.le_refl _))).mono ?_
  rintro e w3 ⟨rfl, b3⟩
  have b3' : Below w2.heap.size w2 w3 := Below.trans ((Below.refl _ w2).alloc (Nat.le_refl _) _) (b3.mono (by simp))
  have N3 := Lib.hid (num_grow N2.out b3')
  have B3 := Lib.hid (B2.out.trans (b3'.mono B2.out.size))
  clear b3 b3'
  go_wp2_with fail
  refine (late14 (z := z5) (n := 5) (by omega) _ _ _ N3.out).mono ?_
  rintro e w4 ⟨v4, rfl, i4, b4⟩
  rw [lat5] at i4
  have I4 := Lib.hid i4
  have N4 := Lib.hid (num_grow N3.out b4)
  have B4 := Lib.hid (B3.out.trans (b4.mono B3.out.size))
  clear b4 i4
  go_wp2_with fail
  refine (same6 _ w4.heap.size v4 _ [0, 1, 1, 0, 2] (by decide) _ (I4.out.below ((Below.refl _ w4).alloc (Nat.le_refl _) _)) (lit5 w4 w4.heap.size 0 1 1 0 2 (Nat.le_refl _))).mono ?_
  rintro e w5 ⟨rfl, b5⟩
  have b5' : Below w4.heap.size w4 w5 := Below.trans ((Below.refl _ w4).alloc (Nat.le_refl _) _) (b5.mono (by simp))
  have N5 := Lib.hid (num_grow N4.out b5')
  have B5 := Lib.hid (B4.out.trans (b5'.mono B4.out.size))
  clear b5 b5'
  go_wp2_with fail
  refine (longest14 (z := z5) (n := 5) (by omega) _ _ _ N5.out).mono ?_
  rintro e w6 ⟨rfl, b6⟩
  rw [tls5]
  have B6 := Lib.hid (B5.out.trans (b6.mono B5.out.size))
  clear b6
  go_wp2
  go_ret
  exact ⟨rfl, B6.out⟩
end Go.Proofs.Yteblhgmepfegpab
