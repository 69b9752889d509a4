/-
  Layer 22: slots round after round, when a class is open next, and the document's own search for it. Plain laws on numbers. No condition but that the plan may be.
-/
import Derived.Test.YtmkgadndfiiacaaGt7
namespace Go.Proofs.Ytmkgadndfiiacaa
set_option linter.unusedVariables false
set_option linter.unusedSimpArgs false

section
variable {fs : List Slot22} {n k0 : Nat} {t : Int} {cl : Nat}
theorem wid_succ (i : Nat) : wid fs n k0 t (i + 1) = (slotN fs ((k0 + (i + 1)) % n)).s := by
  unfold wid seq22
  rw [if_neg (by omega)]
theorem wid_zero : wid fs n k0 t 0 = spans fs (k0 + 1) - t := by
  unfold wid seq22
  rw [if_pos rfl]
theorem opj_is (hk : k0 < n) (i : Nat) : opj fs n k0 t cl i = opn fs cl ((k0 + i) % n) := by
  unfold opj opn seq22
  by_cases h : i = 0
  · rw [if_pos h, h, Nat.mod_eq_of_lt (show k0 + 0 < n from hk)]
    rfl
  · rw [if_neg h]
theorem cyc (hok : PlanOk fs n) (hk : InSlot fs n t k0) (t0 : 0 ≤ t) : ∀ i, InSlot fs n ((t + pos22 fs n k0 t i) % spans fs n) ((k0 + i) % n) ∧ spans fs ((k0 + i) % n + 1) - (t + pos22 fs n k0 t i) % spans fs n = wid fs n k0 t i ∧ (1 ≤ i → (t + pos22 fs n k0 t i) % spans fs n = spans fs ((k0 + i) % n))
  | 0 => by
    obtain ⟨h1, h2, h3⟩ := hk
    have hm := spans_mono hok.2 (i := k0 + 1) (j := n) (by omega) (Nat.le_refl _)
    have e : (t + pos22 fs n k0 t 0) % spans fs n = t := by
      simp only [pos22, Int.add_zero]
      exact Int.emod_eq_of_lt t0 (by omega)
    rw [e, Nat.add_zero, Nat.mod_eq_of_lt h1, wid_zero]
    exact ⟨⟨h1, h2, h3⟩, rfl, fun h => absurd h (by omega)⟩
  | i + 1 => by
    obtain ⟨⟨h1, h2, h3⟩, h4, -⟩ := cyc hok hk t0 i
    obtain ⟨r0, r1⟩ := round_pos hok
    have hn : 0 < n := by have := hok.1.1; omega
    have e : (t + pos22 fs n k0 t (i + 1)) % spans fs n = spans fs ((k0 + (i + 1)) % n) := by
      have e1 : t + pos22 fs n k0 t (i + 1) = (t + pos22 fs n k0 t i) + wid fs n k0 t i := by simp only [pos22]; omega
      rw [e1, ← Int.emod_add_emod, ← h4, show (t + pos22 fs n k0 t i) % spans fs n + (spans fs ((k0 + i) % n + 1) - (t + pos22 fs n k0 t i) % spans fs n) = spans fs ((k0 + i) % n + 1) by omega]
      obtain ⟨k, hkk⟩ : ∃ k, (k0 + i) % n = k := ⟨_, rfl⟩
      rw [hkk] at h1 ⊢
      have e2 : (k0 + (i + 1)) % n = (k + 1) % n := by rw [← hkk, ← Nat.add_assoc, Nat.mod_add_mod]
      rw [e2]
      by_cases hl : k + 1 < n
      · rw [Nat.mod_eq_of_lt hl]
        have m1 := spans_mono hok.2 (i := k + 2) (j := n) (by omega) (Nat.le_refl _)
        have m2 : spans fs (k + 2) = spans fs (k + 1) + (slotN fs (k + 1)).s := rfl
        have m3 := (hok.2 (k + 1) hl).1
        have m4 := (spans_nn hok.2 (k + 1) (by omega)).1
        exact Int.emod_eq_of_lt (by omega) (by omega)
      · obtain rfl : k + 1 = n := by omega
        rw [Nat.mod_self, Int.emod_self]
        rfl
    have hk1 : (k0 + (i + 1)) % n < n := Nat.mod_lt _ hn
    have hs := (hok.2 _ hk1).1
    have e3 : spans fs ((k0 + (i + 1)) % n + 1) = spans fs ((k0 + (i + 1)) % n) + (slotN fs ((k0 + (i + 1)) % n)).s := rfl
    rw [e, wid_succ]
    refine ⟨⟨hk1, Int.le_refl _, by omega⟩, by omega, fun _ => rfl⟩
theorem seq_shift (hok : PlanOk fs n) (hk : InSlot fs n t k0) (t0 : 0 ≤ t) (i m : Nat) : seq22 fs n ((k0 + i) % n) ((t + pos22 fs n k0 t i) % spans fs n) m = seq22 fs n k0 t (i + m) := by
  obtain ⟨⟨h1, h2, h3⟩, h4, h5⟩ := cyc hok hk t0 i
  by_cases hm : m = 0
  · subst hm
    have e : seq22 fs n ((k0 + i) % n) ((t + pos22 fs n k0 t i) % spans fs n) 0 = ⟨(slotN fs ((k0 + i) % n)).o, spans fs ((k0 + i) % n + 1) - (t + pos22 fs n k0 t i) % spans fs n⟩ := by unfold seq22; rw [if_pos rfl]
    rw [e]
    show _ = seq22 fs n k0 t i
    unfold seq22
    by_cases hi : i = 0
    · subst hi
      rw [h4, if_pos rfl, Nat.add_zero, Nat.mod_eq_of_lt hk.1, wid_zero]
    · rw [if_neg hi, h5 (by omega)]
      have e3 : spans fs ((k0 + i) % n + 1) = spans fs ((k0 + i) % n) + (slotN fs ((k0 + i) % n)).s := rfl
      rw [e3, show spans fs ((k0 + i) % n) + (slotN fs ((k0 + i) % n)).s - spans fs ((k0 + i) % n) = (slotN fs ((k0 + i) % n)).s by omega]
  · unfold seq22
    rw [if_neg hm, if_neg (by omega), Nat.mod_add_mod, Nat.add_assoc]
theorem wid_shift (hok : PlanOk fs n) (hk : InSlot fs n t k0) (t0 : 0 ≤ t) (i m : Nat) : wid fs n ((k0 + i) % n) ((t + pos22 fs n k0 t i) % spans fs n) m = wid fs n k0 t (i + m) := by
  unfold wid; rw [seq_shift hok hk t0]
theorem opj_shift (hok : PlanOk fs n) (hk : InSlot fs n t k0) (t0 : 0 ≤ t) (i m : Nat) : opj fs n ((k0 + i) % n) ((t + pos22 fs n k0 t i) % spans fs n) cl m = opj fs n k0 t cl (i + m) := by
  unfold opj; rw [seq_shift hok hk t0]
theorem pos_shift (hok : PlanOk fs n) (hk : InSlot fs n t k0) (t0 : 0 ≤ t) (i : Nat) : ∀ m : Nat, pos22 fs n ((k0 + i) % n) ((t + pos22 fs n k0 t i) % spans fs n) m = pos22 fs n k0 t (i + m) - pos22 fs n k0 t i
  | 0 => by simp only [pos22, Nat.add_zero]; omega
  | m + 1 => by
    have h := pos_shift hok hk t0 i m
    have e : pos22 fs n k0 t (i + (m + 1)) = pos22 fs n k0 t (i + m) + wid fs n k0 t (i + m) := rfl
    have e2 : pos22 fs n ((k0 + i) % n) ((t + pos22 fs n k0 t i) % spans fs n) (m + 1) = pos22 fs n ((k0 + i) % n) ((t + pos22 fs n k0 t i) % spans fs n) m + wid fs n ((k0 + i) % n) ((t + pos22 fs n k0 t i) % spans fs n) m := rfl
    rw [e, e2, h, wid_shift hok hk t0]
    omega
theorem pos_le (hok : PlanOk fs n) (hk : InSlot fs n t k0) (i : Nat) : ∀ m : Nat, pos22 fs n k0 t i + m ≤ pos22 fs n k0 t (i + m)
  | 0 => by simp
  | m + 1 => by
    have h := pos_le hok hk i m
    have e : pos22 fs n k0 t (i + (m + 1)) = pos22 fs n k0 t (i + m) + wid fs n k0 t (i + m) := rfl
    have := (wid_pos hok hk (i + m)).1
    rw [e]
    omega
theorem pos_mono (hok : PlanOk fs n) (hk : InSlot fs n t k0) {i j : Nat} (h : i ≤ j) : pos22 fs n k0 t i + ((j - i : Nat) : Int) ≤ pos22 fs n k0 t j := by
  have := pos_le hok hk i (j - i)
  rwa [show i + (j - i) = j by omega] at this
theorem lin1 (hok : PlanOk fs n) (hk : InSlot fs n t k0) : ∀ i, k0 + (i + 1) ≤ n → t + pos22 fs n k0 t (i + 1) = spans fs (k0 + (i + 1))
  | 0, h => by
    show t + pos22 fs n k0 t 1 = spans fs (k0 + 1)
    simp only [pos22, wid_zero]
    omega
  | i + 1, h => by
    have h1 := lin1 hok hk i (by omega)
    have e : pos22 fs n k0 t (i + 1 + 1) = pos22 fs n k0 t (i + 1) + wid fs n k0 t (i + 1) := rfl
    have e2 : spans fs (k0 + (i + 1 + 1)) = spans fs (k0 + (i + 1)) + (slotN fs (k0 + (i + 1))).s := rfl
    rw [e, e2, wid_succ, Nat.mod_eq_of_lt (by omega)]
    omega
theorem lin2 (hok : PlanOk fs n) (hk : InSlot fs n t k0) : ∀ m, m ≤ n → t + pos22 fs n k0 t (n - k0 + m) = spans fs n + spans fs m
  | 0, _ => by
    have h1 := hk.1
    have h := lin1 hok hk (n - k0 - 1) (by omega)
    rw [show n - k0 - 1 + 1 = n - k0 by omega, show k0 + (n - k0) = n by omega] at h
    rw [Nat.add_zero, h]
    simp [spans]
  | m + 1, hm => by
    have h1 := hk.1
    have h := lin2 hok hk m (by omega)
    have e : pos22 fs n k0 t (n - k0 + (m + 1)) = pos22 fs n k0 t (n - k0 + m) + wid fs n k0 t (n - k0 + m) := rfl
    have e2 : spans fs (m + 1) = spans fs m + (slotN fs m).s := rfl
    have e3 : wid fs n k0 t (n - k0 + m) = (slotN fs m).s := by
      rw [show n - k0 + m = (n - k0 + m - 1) + 1 by omega, wid_succ, show k0 + (n - k0 + m - 1 + 1) = n + m by omega, Nat.add_mod_left, Nat.mod_eq_of_lt (by omega)]
    rw [e, e2, e3]
    omega
theorem pos_n (hok : PlanOk fs n) (hk : InSlot fs n t k0) : pos22 fs n k0 t n = spans fs n - (t - spans fs k0) := by
  have h := lin2 hok hk k0 (by have := hk.1; omega)
  rw [show n - k0 + k0 = n by have := hk.1; omega] at h
  omega
theorem pos_n1 (hok : PlanOk fs n) (hk : InSlot fs n t k0) : pos22 fs n k0 t (n + 1) = spans fs n + pos22 fs n k0 t 1 := by
  have h := lin2 hok hk (k0 + 1) (by have := hk.1; omega)
  rw [show n - k0 + (k0 + 1) = n + 1 by have := hk.1; omega] at h
  have e : pos22 fs n k0 t 1 = spans fs (k0 + 1) - t := by simp only [pos22, wid_zero]; omega
  omega
theorem pos_per1 (hok : PlanOk fs n) (hk : InSlot fs n t k0) : ∀ i, pos22 fs n k0 t (i + 1 + n) = spans fs n + pos22 fs n k0 t (i + 1)
  | 0 => by rw [show 0 + 1 + n = n + 1 by omega]; exact pos_n1 hok hk
  | i + 1 => by
    have h := pos_per1 hok hk i
    have e : pos22 fs n k0 t (i + 1 + 1) = pos22 fs n k0 t (i + 1) + wid fs n k0 t (i + 1) := rfl
    have e2 : pos22 fs n k0 t (i + 1 + 1 + n) = pos22 fs n k0 t (i + 1 + n) + wid fs n k0 t (i + 1 + n) := by rw [show i + 1 + 1 + n = (i + 1 + n) + 1 by omega]; rfl
    have e3 : wid fs n k0 t (i + 1 + n) = wid fs n k0 t (i + 1) := by
      rw [show i + 1 + n = (i + n) + 1 by omega, wid_succ, wid_succ, show k0 + (i + n + 1) = k0 + (i + 1) + n by omega, Nat.add_mod_right]
    omega
theorem pos_per (hok : PlanOk fs n) (hk : InSlot fs n t k0) (i : Nat) : pos22 fs n k0 t (i + n) ≤ spans fs n + pos22 fs n k0 t i := by
  cases i with
  | zero =>
    rw [Nat.zero_add, pos_n hok hk]
    have := hk.2.1
    simp only [pos22]
    omega
  | succ i => exact Int.le_of_eq (pos_per1 hok hk i)
/-- A class that isn't open in all slots is not open for a round. -/
theorem run_lt (hok : PlanOk fs n) (hk : InSlot fs n t k0) (hno : ¬ AllOpen fs n cl) {a x : Nat} (hax : a ≤ x) (h : ∀ y, a ≤ y → y < x → opj fs n k0 t cl y = true) : pos22 fs n k0 t x - pos22 fs n k0 t a < spans fs n := by
  have hn := hok.1.1
  have hlt : x < a + n := by
    apply Classical.byContradiction
    intro hc
    apply hno
    intro q hq
    have hr : (k0 + a) % n < n := Nat.mod_lt _ (by omega)
    obtain ⟨r, hr2⟩ : ∃ r, (k0 + a) % n = r := ⟨_, rfl⟩
    obtain ⟨d, hd, hdn⟩ : ∃ d, d < n ∧ (r + d) % n = q := by
      by_cases e : r ≤ q
      · exact ⟨q - r, by omega, by rw [show r + (q - r) = q by omega]; exact Nat.mod_eq_of_lt hq⟩
      · exact ⟨n + q - r, by omega, by rw [show r + (n + q - r) = n + q by omega, Nat.add_mod_left]; exact Nat.mod_eq_of_lt hq⟩
    have h1 := h (a + d) (by omega) (by omega)
    rw [opj_is hk.1, ← Nat.add_assoc, ← Nat.mod_add_mod, hr2, hdn] at h1
    exact h1
  have h1 := pos_per hok hk a
  have h2 := pos_mono hok hk (i := x) (j := a + n) (by omega)
  omega
/-- The first slot from one on in which the class is not open. -/
def Wit (fs : List Slot22) (n k0 : Nat) (t : Int) (cl i c : Nat) : Prop := i ≤ c ∧ opj fs n k0 t cl c = false ∧ ∀ x, i ≤ x → x < c → opj fs n k0 t cl x = true
theorem wit_ex (hok : PlanOk fs n) (hk : InSlot fs n t k0) (hno : ¬ AllOpen fs n cl) (a : Nat) : ∃ c, Wit fs n k0 t cl a c := by
  have key : ∀ m : Nat, (∃ c, Wit fs n k0 t cl a c) ∨ ∀ x, a ≤ x → x < a + m → opj fs n k0 t cl x = true := by
    intro m
    induction m with
    | zero => exact Or.inr (fun x h1 h2 => absurd h2 (by omega))
    | succ m ih =>
      rcases ih with h | h
      · exact Or.inl h
      · cases ho : opj fs n k0 t cl (a + m) with
        | false => exact Or.inl ⟨a + m, by omega, ho, h⟩
        | true => exact Or.inr (fun x h1 h2 => by
            by_cases e : x = a + m
            · rw [e]; exact ho
            · exact h x h1 (by omega))
  rcases key ((spans fs n).toNat + 1) with h | h
  · exact h
  · have h1 := run_lt hok hk hno (by omega : a ≤ a + ((spans fs n).toNat + 1)) h
    have h2 := pos_le hok hk a ((spans fs n).toNat + 1)
    omega
theorem Wit.stays (hok : PlanOk fs n) (hk : InSlot fs n t k0) (t0 : 0 ≤ t) (hno : ¬ AllOpen fs n cl) {i c : Nat} (h : Wit fs n k0 t cl i c) :
    StaysIs fs n ((k0 + i) % n) ((t + pos22 fs n k0 t i) % spans fs n) cl (spans fs n) (c - i) (pos22 fs n k0 t c - pos22 fs n k0 t i) true := by
  obtain ⟨h1, h2, h3⟩ := h
  have hr := run_lt hok hk hno h1 h3
  refine ⟨fun m hm => ⟨?_, ?_⟩, Or.inl ⟨?_, ?_, rfl⟩⟩
  · rw [opj_shift hok hk t0]
    exact h3 _ (by omega) (by omega)
  · rw [pos_shift hok hk t0]
    have := pos_mono hok hk (i := i + (m + 1)) (j := c) (by omega)
    omega
  · rw [opj_shift hok hk t0, show i + (c - i) = c by omega]
    exact h2
  · rw [pos_shift hok hk t0, show i + (c - i) = c by omega]
/-- Where the search stands: the last beginning, and that none before it was long enough. -/
theorem st_inv {R E : Int} (hok : PlanOk fs n) (hk : InSlot fs n t k0) (hR : 0 < R) (hE : 0 < E) : ∀ m : Nat, (∀ i, i < m → GoN fs n k0 t cl R E i) →
    ∃ a, a ≤ m ∧ st22 fs n k0 t cl m = (pos22 fs n k0 t a, pos22 fs n k0 t m - pos22 fs n k0 t a) ∧ (∀ x, a ≤ x → x < m → opj fs n k0 t cl x = true) ∧
      ∀ i, i < a → ∃ c, c < a ∧ Wit fs n k0 t cl i c ∧ pos22 fs n k0 t c - pos22 fs n k0 t i < E
  | 0, _ => ⟨0, Nat.le_refl _, by simp [st22, pos22], fun x h1 h2 => absurd h2 (Nat.not_lt_zero _), fun i h => absurd h (Nat.not_lt_zero _)⟩
  | m + 1, h => by
    have hm := fun i (hi : i < m) => h i (by omega)
    obtain ⟨a, h1, h2, h3, h4⟩ := st_inv hok hk hR hE m hm
    have hst := st_lt hR hE m hm
    rw [h2] at hst
    cases ho : opj fs n k0 t cl m with
    | true =>
      refine ⟨a, by omega, ?_, fun x g1 g2 => ?_, h4⟩
      · simp only [st22, h2, ho, if_true, pos22]
        congr 1
        omega
      · by_cases e : x = m
        · rw [e]; exact ho
        · exact h3 x g1 (by omega)
    | false =>
      refine ⟨m + 1, Nat.le_refl _, ?_, fun x g1 g2 => absurd g2 (by omega), fun i hi => ?_⟩
      · simp only [st22, h2, ho, pos22]
        rw [if_neg (by simp)]
        congr 1 <;> omega
      · by_cases e : i < a
        · obtain ⟨c, c1, c2, c3⟩ := h4 i e
          exact ⟨c, by omega, c2, c3⟩
        · refine ⟨m, by omega, ⟨by omega, ho, fun x g1 g2 => h3 x (by omega) g2⟩, ?_⟩
          have := pos_mono hok hk (i := a) (j := i) (by omega)
          have := hst.2
          dsimp only at this
          omega
theorem wit_n (hok : PlanOk fs n) (hk : InSlot fs n t k0) (ht : t = spans fs k0) {c : Nat} (h : Wit fs n k0 t cl 0 c) : Wit fs n k0 t cl n (c + n) ∧ pos22 fs n k0 t (c + n) - pos22 fs n k0 t n = pos22 fs n k0 t c - pos22 fs n k0 t 0 := by
  obtain ⟨h1, h2, h3⟩ := h
  have e : ∀ x, opj fs n k0 t cl (x + n) = opj fs n k0 t cl x := fun x => by rw [opj_is hk.1, opj_is hk.1, ← Nat.add_assoc, Nat.add_mod_right]
  refine ⟨⟨by omega, by rw [e]; exact h2, fun x g1 g2 => ?_⟩, ?_⟩
  · rw [show x = (x - n) + n by omega, e]
    exact h3 _ (by omega) (by omega)
  · have p := pos_n hok hk
    cases c with
    | zero => simp only [Nat.zero_add]; omega
    | succ c =>
      rw [pos_per1 hok hk, p, ht]
      simp only [pos22]
      omega
/-- The search of the program, and the document's. -/
theorem next_ref (hok : PlanOk fs n) (hk : InSlot fs n t k0) (hno : ¬ AllOpen fs n cl) {N : Int} (hN : 1 ≤ N) {j : Nat} {b : Bool} {g : Int} (h : NextIs fs n k0 t cl (spans fs n) (min N (spans fs n)) j b g) :
    (b = true ∧ ∃ a c, a ≤ n ∧ g = pos22 fs n k0 t a ∧ Wit fs n k0 t cl a c ∧ N ≤ pos22 fs n k0 t c - pos22 fs n k0 t a ∧ ∀ i, i < a → ∃ c, Wit fs n k0 t cl i c ∧ pos22 fs n k0 t c - pos22 fs n k0 t i < N) ∨
    (b = false ∧ ∀ i, i ≤ n → ∃ c, Wit fs n k0 t cl i c ∧ pos22 fs n k0 t c - pos22 fs n k0 t i < N) := by
  obtain ⟨r0, r1⟩ := round_pos hok
  obtain ⟨hgo, hend⟩ := h
  rcases hend with ⟨h1, h2, h3, h4⟩ | ⟨h1, h2, h3, h4⟩
  · obtain ⟨a, a1, a2, a3, a4⟩ := st_inv hok hk (by omega) (by omega) j hgo
    rw [a2] at h2 h4
    dsimp only at h2 h4
    have hlt := (st_lt (R := spans fs n) (E := min N (spans fs n)) (by omega) (by omega) j hgo).1
    rw [a2] at hlt
    dsimp only at hlt
    have hrun : ∀ y, a ≤ y → y < j + 1 → opj fs n k0 t cl y = true := fun y g1 g2 => by
      by_cases e : y = j
      · rw [e]; exact h1
      · exact a3 y g1 (by omega)
    have hr := run_lt hok hk hno (by omega : a ≤ j + 1) hrun
    have hp : pos22 fs n k0 t (j + 1) = pos22 fs n k0 t j + wid fs n k0 t j := rfl
    obtain ⟨c, hc⟩ := wit_ex hok hk hno a
    have hcj : j + 1 ≤ c := by
      apply Classical.byContradiction
      intro hh
      have := hrun c hc.1 (by omega)
      rw [hc.2.1] at this
      cases this
    have hpc := pos_mono hok hk hcj
    have han : a ≤ n := by
      apply Classical.byContradiction
      intro hh
      have q1 := pos_mono hok hk (i := n + 1) (j := a) (by omega)
      rw [pos_n1 hok hk] at q1
      have q2 := (pos_ge hok hk 1).1
      omega
    refine Or.inl ⟨h3, a, c, han, h4, hc, by omega, fun i hi => ?_⟩
    obtain ⟨c', -, g2, g3⟩ := a4 i hi
    exact ⟨c', g2, by omega⟩
  · have hgo2 : ∀ i, i < j + 1 → (opj fs n k0 t cl i = true → (st22 fs n k0 t cl i).2 + wid fs n k0 t i < min N (spans fs n)) := fun i hi => by
      by_cases e : i = j
      · rw [e]; exact h1
      · exact (hgo i (by omega)).1
    obtain ⟨a, a1, a2, a3, a4⟩ := st_inv hok hk (R := spans fs n) (E := min N (spans fs n)) (by omega) (by omega) j hgo
    have hst := st_lt (R := spans fs n) (E := min N (spans fs n)) (by omega) (by omega) j hgo
    rw [a2] at hst
    dsimp only at hst
    cases ho : opj fs n k0 t cl j with
    | true =>
      exfalso
      simp only [st22, ho, if_true, a2] at h2
      omega
    | false =>
      have e : (st22 fs n k0 t cl (j + 1)).1 = pos22 fs n k0 t (j + 1) := by
        simp only [st22, ho, a2, pos22]
        rw [if_neg (by simp)]
        dsimp only
        omega
      rw [e] at h2
      have hw : ∀ i, i < j + 1 → ∃ c, Wit fs n k0 t cl i c ∧ pos22 fs n k0 t c - pos22 fs n k0 t i < N := fun i hi => by
        by_cases e : i < a
        · obtain ⟨c, -, c2, c3⟩ := a4 i e
          exact ⟨c, c2, by omega⟩
        · refine ⟨j, ⟨by omega, ho, fun x g1 g2 => a3 x (by omega) g2⟩, ?_⟩
          have := pos_mono hok hk (i := a) (j := i) (by omega)
          omega
      have hp := pos_n hok hk
      have hk2 := hk.2.1
      refine Or.inr ⟨h3, fun i hi => ?_⟩
      by_cases hin : i < j + 1
      · exact hw i hin
      · have hjn : j + 1 ≤ n := by omega
        have q := pos_mono hok hk hjn
        have e1 : j + 1 = n := by omega
        have e2 : i = n := by omega
        have e3 : t = spans fs k0 := by rw [e1] at h2; omega
        obtain ⟨c, c1, c2⟩ := hw 0 (by omega)
        obtain ⟨d1, d2⟩ := wit_n hok hk e3 c1
        rw [e2]
        exact ⟨c + n, d1, by omega⟩
end
end Go.Proofs.Ytmkgadndfiiacaa
