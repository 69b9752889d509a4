/-
  Layer 22, tick by tick: a row of ticks out of slots, and when a class is open for so many ticks. Plain laws on numbers. No condition but that the plan may be.
-/
import Derived.Test.YtmkgadndfiiacaaGt18
namespace Go.Proofs.Ytmkgadndfiiacaa
set_option linter.unusedVariables false
set_option linter.unusedSimpArgs false

/-- The ticks of so many slots. -/
def tk22 (fs : List Slot22) : Nat → List Int
  | 0 => []
  | i + 1 => tk22 fs i ++ List.replicate (slotN fs i).s.toNat (slotN fs i).o
theorem tk22_len {fs : List Slot22} {n : Nat} (h : ∀ i, i < n → (slotN fs i).good) : ∀ i, i ≤ n → ((tk22 fs i).length : Int) = spans fs i
  | 0, _ => rfl
  | i + 1, hi => by
    have h1 := tk22_len h i (by omega)
    have h2 := (h i (by omega)).1
    simp only [tk22, spans, List.length_append, List.length_replicate]
    omega
theorem tk22_at {fs : List Slot22} {n : Nat} (h : ∀ i, i < n → (slotN fs i).good) {x : Int} (x0 : 0 ≤ x) {k : Nat} : ∀ i, i ≤ n → k < i → spans fs k ≤ x → x < spans fs (k + 1) → (tk22 fs i).getD x.toNat 0 = (slotN fs k).o
  | 0, _, hk, _, _ => absurd hk (Nat.not_lt_zero _)
  | i + 1, hi, hk, h1, h2 => by
    have hl := tk22_len h i (by omega)
    by_cases e : k < i
    · have ih := tk22_at h x0 i (by omega) e h1 h2
      have hm := spans_mono h (i := k + 1) (j := i) (by omega) (by omega)
      rw [List.getD_eq_getElem?_getD] at ih ⊢
      simp only [tk22]
      rw [List.getElem?_append_left (by omega)]
      exact ih
    · obtain rfl : k = i := by omega
      rw [List.getD_eq_getElem?_getD]
      simp only [tk22]
      have h3 := (h k (by omega)).1
      simp only [spans] at h2
      rw [List.getElem?_append_right (by omega), List.getElem?_replicate, if_pos (by omega)]
      rfl
section
variable {fs : List Slot22} {n k0 : Nat} {t : Int} {cl : Nat}
/-- Whether a class is open at a tick. -/
def OpAt (fs : List Slot22) (n cl : Nat) (x : Int) (b : Bool) : Prop := ∃ k, InSlot fs n (x % spans fs n) k ∧ opn fs cl k = b
theorem OpAt.one (hok : PlanOk fs n) {x : Int} {b c : Bool} (h : OpAt fs n cl x b) (g : OpAt fs n cl x c) : b = c := by
  obtain ⟨k, h1, h2⟩ := h
  obtain ⟨q, g1, g2⟩ := g
  rw [← h2, ← g2, slot_one hok.2 h1 g1]
theorem OpAt.ex (hok : PlanOk fs n) (x : Int) : ∃ b, OpAt fs n cl x b := by
  obtain ⟨r0, r1⟩ := round_pos hok
  obtain ⟨k, hk⟩ := slot_is (fs := fs) (t := x % spans fs n) (Int.emod_nonneg _ (by omega)) (n := n) (Int.emod_lt_of_pos _ (by omega))
  exact ⟨_, k, hk, rfl⟩
theorem op_at (hok : PlanOk fs n) (hk : InSlot fs n (t % spans fs n) k0) (i : Nat) {d : Int} (d0 : pos22 fs n k0 (t % spans fs n) i ≤ d) (d1 : d < pos22 fs n k0 (t % spans fs n) (i + 1)) : OpAt fs n cl (t + d) (opj fs n k0 (t % spans fs n) cl i) := by
  obtain ⟨r0, r1⟩ := round_pos hok
  have m0 : 0 ≤ t % spans fs n := Int.emod_nonneg _ (by omega)
  obtain ⟨⟨h1, h2, h3⟩, h4, -⟩ := cyc hok hk m0 i
  have hp : pos22 fs n k0 (t % spans fs n) (i + 1) = pos22 fs n k0 (t % spans fs n) i + wid fs n k0 (t % spans fs n) i := rfl
  have hm := spans_mono hok.2 (i := (k0 + i) % n + 1) (j := n) (by omega) (Nat.le_refl _)
  have hn := (spans_nn hok.2 ((k0 + i) % n) (by omega)).1
  refine ⟨(k0 + i) % n, ?_, (opj_is hk.1 i).symm⟩
  have e : (t + d) % spans fs n = (t % spans fs n + pos22 fs n k0 (t % spans fs n) i) % spans fs n + (d - pos22 fs n k0 (t % spans fs n) i) := by
    rw [show t + d = (t + pos22 fs n k0 (t % spans fs n) i) + (d - pos22 fs n k0 (t % spans fs n) i) by omega, ← Int.emod_add_emod, show (t + pos22 fs n k0 (t % spans fs n) i) % spans fs n = (t % spans fs n + pos22 fs n k0 (t % spans fs n) i) % spans fs n by rw [Int.emod_add_emod]]
    exact Int.emod_eq_of_lt (by omega) (by omega)
  rw [e]
  exact ⟨h1, by omega, by omega⟩
theorem slot_of (hok : PlanOk fs n) (hk : InSlot fs n (t % spans fs n) k0) {d : Int} (d0 : 0 ≤ d) : ∃ i, pos22 fs n k0 (t % spans fs n) i ≤ d ∧ d < pos22 fs n k0 (t % spans fs n) (i + 1) := by
  have key : ∀ m : Nat, (∃ i, pos22 fs n k0 (t % spans fs n) i ≤ d ∧ d < pos22 fs n k0 (t % spans fs n) (i + 1)) ∨ pos22 fs n k0 (t % spans fs n) m ≤ d := by
    intro m
    induction m with
    | zero => exact Or.inr (by simpa [pos22] using d0)
    | succ m ih =>
      rcases ih with h | h
      · exact Or.inl h
      · by_cases e : d < pos22 fs n k0 (t % spans fs n) (m + 1)
        · exact Or.inl ⟨m, h, e⟩
        · exact Or.inr (by omega)
  rcases key (d.toNat + 1) with h | h
  · exact h
  · have := (pos_ge hok hk (d.toNat + 1)).1
    omega
/-- A class is open for so many ticks from one on; it isn't. -/
def OpFor (fs : List Slot22) (n cl : Nat) (N x : Int) : Prop := ∀ k : Int, 0 ≤ k → k < N → OpAt fs n cl (x + k) true
def NoFor (fs : List Slot22) (n cl : Nat) (N x : Int) : Prop := ∃ k : Int, 0 ≤ k ∧ k < N ∧ OpAt fs n cl (x + k) false
theorem pos_idx (hok : PlanOk fs n) (hk : InSlot fs n t k0) {i j : Nat} {d : Int} (h1 : pos22 fs n k0 t i ≤ d) (h2 : d < pos22 fs n k0 t j) : i < j := by
  apply Classical.byContradiction
  intro hc
  have := pos_mono hok hk (i := j) (j := i) (by omega)
  omega
theorem no_for (hok : PlanOk fs n) (hk : InSlot fs n (t % spans fs n) k0) {N y : Int} (hN : 1 ≤ N) {i c : Nat} (y0 : pos22 fs n k0 (t % spans fs n) i ≤ y) (y1 : y < pos22 fs n k0 (t % spans fs n) (i + 1)) (hw : Wit fs n k0 (t % spans fs n) cl i c) (hs : pos22 fs n k0 (t % spans fs n) c - pos22 fs n k0 (t % spans fs n) i < N) : NoFor fs n cl N (t + y) := by
  obtain ⟨h1, h2, h3⟩ := hw
  have hwc := (wid_pos hok hk c).1
  by_cases e : c = i
  · subst e
    refine ⟨0, by omega, by omega, ?_⟩
    have := op_at (cl := cl) hok hk c y0 y1
    rw [h2] at this
    rwa [Int.add_zero]
  · have hm := pos_mono hok hk (i := i + 1) (j := c) (by omega)
    refine ⟨pos22 fs n k0 (t % spans fs n) c - y, by omega, by omega, ?_⟩
    have := op_at (cl := cl) hok hk c (d := pos22 fs n k0 (t % spans fs n) c) (Int.le_refl _) (by show _ < pos22 fs n k0 (t % spans fs n) c + wid fs n k0 (t % spans fs n) c; omega)
    rw [h2] at this
    rwa [show t + y + (pos22 fs n k0 (t % spans fs n) c - y) = t + pos22 fs n k0 (t % spans fs n) c by omega]
/-- What Next tells, tick by tick. -/
theorem next_ticks (hok : PlanOk fs n) (hk : InSlot fs n (t % spans fs n) k0) {N : Int} (hN : 1 ≤ N) {j : Nat} {b : Bool} {g : Int} (h : NextIs fs n k0 (t % spans fs n) cl (spans fs n) (min N (spans fs n)) j b g) :
    (b = true ∧ 0 ≤ g ∧ g < spans fs n ∧ OpFor fs n cl N (t + g) ∧ ∀ y, 0 ≤ y → y < g → NoFor fs n cl N (t + y)) ∨ (b = false ∧ ∀ y, 0 ≤ y → NoFor fs n cl N (t + y)) := by
  obtain ⟨r0, r1⟩ := round_pos hok
  by_cases hao : AllOpen fs n cl
  · have hall : ∀ x, OpAt fs n cl x true := fun x => by
      obtain ⟨b, k, h1, h2⟩ := OpAt.ex (cl := cl) hok x
      exact ⟨k, h1, hao k h1.1⟩
    obtain ⟨h1, h2⟩ := h
    rcases h2 with ⟨g1, g2, g3, g4⟩ | ⟨g1, g2, -, -⟩
    · rw [st_all hk hao] at g4
      subst g4
      exact Or.inl ⟨g3, by omega, by omega, fun k _ _ => hall _, fun y h0 h1 => by omega⟩
    · rw [st_all hk hao] at g2; omega
  · have hgR : b = true → g < spans fs n := fun hb => by
      obtain ⟨h1, h2⟩ := h
      rcases h2 with ⟨g1, g2, g3, g4⟩ | ⟨g1, g2, g3, -⟩
      · rw [g4]; exact (st_lt (R := spans fs n) (E := min N (spans fs n)) (by omega) (by omega) j h1).1
      · rw [hb] at g3; cases g3
    rcases next_ref hok hk hao hN h with ⟨hb, a, c, ha, hg, hw, hle, hbef⟩ | ⟨hb, hall⟩
    · refine Or.inl ⟨hb, ?_, hgR hb, fun k k1 k2 => ?_, fun y y0 y1 => ?_⟩
      · rw [hg]; have := (pos_ge hok hk a).1; omega
      · have hp := (pos_ge hok hk a).1
        obtain ⟨i, i1, i2⟩ := slot_of hok hk (d := g + k) (by omega)
        have hi1 : a < i + 1 := pos_idx hok hk (d := g + k) (by omega) i2
        have hi2 : i < c := pos_idx hok hk (d := g + k) i1 (by omega)
        have := op_at (cl := cl) hok hk i i1 i2
        rw [hw.2.2 i (by omega) hi2] at this
        rwa [Int.add_assoc]
      · obtain ⟨i, i1, i2⟩ := slot_of hok hk (d := y) y0
        have hia : i < a := pos_idx hok hk i1 (by omega)
        obtain ⟨c', hw', hs'⟩ := hbef i hia
        exact no_for hok hk hN i1 i2 hw' hs'
    · refine Or.inr ⟨hb, fun y y0 => ?_⟩
      have hm0 : 0 ≤ y % spans fs n := Int.emod_nonneg _ (by omega)
      have hm1 : y % spans fs n < spans fs n := Int.emod_lt_of_pos _ (by omega)
      obtain ⟨i, i1, i2⟩ := slot_of hok hk (d := y % spans fs n) hm0
      have hin : i < n + 1 := pos_idx hok hk i1 (by rw [pos_n1 hok hk]; have := (pos_ge hok hk 1).1; omega)
      obtain ⟨c, hw, hs⟩ := hall i (by omega)
      obtain ⟨k, k1, k2, q, q1, q2⟩ := no_for hok hk hN i1 i2 hw hs
      refine ⟨k, k1, k2, q, ?_, q2⟩
      rw [show t + y % spans fs n + k = (t + k) + y % spans fs n by omega, Int.add_emod_emod] at q1
      rwa [show t + y + k = t + k + y by omega]
/-- What Stays tells, tick by tick. -/
theorem stays_ticks (hok : PlanOk fs n) (hk : InSlot fs n (t % spans fs n) k0) {j : Nat} {v : Int} (h : StaysIs fs n k0 (t % spans fs n) cl (spans fs n) j v true) :
    0 ≤ v ∧ v < spans fs n ∧ OpAt fs n cl (t + v) false ∧ ∀ y, 0 ≤ y → y < v → OpAt fs n cl (t + y) true := by
  obtain ⟨r0, r1⟩ := round_pos hok
  obtain ⟨h1, ⟨h2, h3, -⟩ | ⟨-, -, -, h⟩⟩ := h
  · have hp := (pos_ge hok hk j).1
    have hvR : v < spans fs n := by
      rw [h3]
      cases j with
      | zero => simp only [pos22]; omega
      | succ j => exact (h1 j (by omega)).2
    refine ⟨by omega, hvR, ?_, fun y y0 y1 => ?_⟩
    · have hwc := (wid_pos hok hk j).1
      have := op_at (cl := cl) hok hk j (d := v) (by omega) (by show _ < pos22 fs n k0 (t % spans fs n) j + wid fs n k0 (t % spans fs n) j; omega)
      rwa [h2] at this
    · obtain ⟨i, i1, i2⟩ := slot_of hok hk (d := y) y0
      have hi : i < j := pos_idx hok hk i1 (by omega)
      have := op_at (cl := cl) hok hk i i1 i2
      rwa [(h1 i hi).1] at this
  · cases h
end
end Go.Proofs.Ytmkgadndfiiacaa
