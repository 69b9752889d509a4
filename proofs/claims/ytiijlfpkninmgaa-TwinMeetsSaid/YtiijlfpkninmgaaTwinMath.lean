/-
  Items in a heap whose levels are low and high by turns: what rising and sinking keep; where the first and the last one stand. No Go in it. No condition.
-/
import Derived.Test.YtiijlfpkninmgaaHeapMath
namespace Go.Proofs.Ytiijlfpkninmgaa
set_option linter.unusedVariables false
set_option linter.unusedSimpArgs false

/-- Is a place on a low level? -/
def lowB : Nat → Bool
  | 0 => true
  | i + 1 => !lowB (i / 2)
termination_by i => i
decreasing_by omega
def par (k : Nat) : Nat := (k - 1) / 2
def gp (k : Nat) : Nat := ((k - 1) / 2 - 1) / 2
theorem lowB_par {k : Nat} (h : 0 < k) : lowB (par k) = !lowB k := by
  rcases k with _ | k
  · omega
  · rw [lowB, Bool.not_not]; unfold par; rw [Nat.add_sub_cancel]
theorem gp_par (k : Nat) : gp k = par (par k) := rfl
theorem lowB_gp {k : Nat} (h : 2 < k) : lowB (gp k) = lowB k := by
  rw [gp_par, lowB_par (by unfold par; omega), lowB_par (by omega), Bool.not_not]
theorem lowB_0 : lowB 0 = true := by rw [lowB]
theorem lowB_1 : lowB 1 = false := by rw [lowB, show 0 / 2 = 0 from rfl, lowB_0]; rfl
theorem lowB_2 : lowB 2 = false := by rw [lowB, show 1 / 2 = 0 from rfl, lowB_0]; rfl

section
variable {α : Type}
/-- Which one belongs above the other: on low levels the one ahead. -/
def ltB (b : Bool) (x y : Ent α) : Prop := if b then x.lt y else y.lt x
instance (b : Bool) (x y : Ent α) : Decidable (ltB b x y) := by unfold ltB; exact inferInstance
def leB (b : Bool) (x y : Ent α) : Prop := ¬ ltB b y x
theorem leB_refl (b : Bool) (x : Ent α) : leB b x x := by unfold leB ltB; cases b <;> exact Ent.lt_irrefl x
theorem leB_trans {b : Bool} {x y z : Ent α} (h : leB b x y) (k : leB b y z) : leB b x z := by
  unfold leB ltB at *
  cases b
  · exact Ent.le_trans k h
  · exact Ent.le_trans h k
theorem leB_lt {b : Bool} {x y : Ent α} (h : ltB b x y) : leB b x y := by
  unfold leB; unfold ltB at *
  cases b <;> exact Ent.lt_le h
theorem leB_not {b : Bool} {x y : Ent α} : leB (!b) x y ↔ leB b y x := by
  unfold leB ltB
  cases b <;> exact Iff.rfl
theorem ltB_not {b : Bool} {x y : Ent α} : ltB (!b) x y ↔ ltB b y x := by
  unfold ltB
  cases b <;> exact Iff.rfl
/-- On low levels none is behind its parent, nor ahead of its parent's parent; on high ones the other way round. -/
structure MM (f : Nat → Ent α) (n : Nat) : Prop where
  p : ∀ k, 0 < k → k < n → leB (lowB k) (f k) (f (par k))
  g : ∀ k, 2 < k → k < n → leB (lowB k) (f (gp k)) (f k)
/-- But for what stands at i, which may belong above its parent's parent. -/
structure RU (f : Nat → Ent α) (n i : Nat) : Prop where
  p : ∀ k, 0 < k → k < n → leB (lowB k) (f k) (f (par k))
  g : ∀ k, 2 < k → k < n → k ≠ i → leB (lowB k) (f (gp k)) (f k)
  c : ∀ k, 0 < k → k < n → 2 < i → (par k = i ∨ (2 < k ∧ gp k = i)) → leB (lowB i) (f (gp i)) (f k)
theorem RU.done {f : Nat → Ent α} {n i : Nat} (h : RU f n i) (hs : 2 < i → i < n → ¬ ltB (lowB i) (f i) (f (gp i))) : MM f n := ⟨h.p, fun k h0 h1 => by
  by_cases e : k = i
  · subst e; exact hs h0 h1
  · exact h.g k h0 h1 e⟩
theorem RU.step {f : Nat → Ent α} {n i : Nat} (h : RU f n i) (hi : i < n) (h2 : 2 < i) (hl : ltB (lowB i) (f i) (f (gp i))) : RU (sw f i (gp i)) n (gp i) := by
  have hgi : gp i ≠ i := by unfold gp; omega
  have hpi : par i ≠ i ∧ par i ≠ gp i := by unfold par gp; omega
  have lg : lowB (gp i) = lowB i := lowB_gp h2
  have lp : lowB (par i) = !lowB i := lowB_par (by omega)
  refine ⟨fun k h0 h1 => ?_, fun k h0 h1 hk => ?_, fun k h0 h1 hg2 hk => ?_⟩
  · by_cases e1 : k = gp i
    · subst e1
      rw [sw_r, sw_o f (by unfold par gp; omega) (by unfold par gp at *; omega), lg]
      have := h.p (gp i) h0 h1
      rw [lg] at this
      exact leB_trans (leB_lt hl) this
    · by_cases e2 : k = i
      · subst e2
        rw [sw_l f (Ne.symm hgi), sw_o f hpi.1 hpi.2]
        have := h.p (par k) (by unfold par; omega) (by unfold par; omega)
        rw [lp, leB_not] at this
        exact this
      · rw [sw_o f e2 e1]
        by_cases e3 : par k = gp i
        · rw [e3, sw_r]
          have := h.p k h0 h1
          have lk : lowB k = !lowB i := by rw [← lg, ← e3, lowB_par h0, Bool.not_not]
          rw [e3, lk, leB_not] at this
          rw [lk, leB_not]
          exact leB_trans (leB_lt hl) this
        · by_cases e4 : par k = i
          · have lk : lowB k = !lowB i := by rw [← e4, lowB_par h0, Bool.not_not]
            rw [e4, sw_l f (Ne.symm hgi), lk, leB_not]
            exact h.c k h0 h1 h2 (Or.inl e4)
          · rw [sw_o f e4 e3]; exact h.p k h0 h1
  · by_cases e2 : k = i
    · subst e2
      rw [sw_r, sw_l f (Ne.symm hgi)]
      exact leB_lt hl
    · rw [sw_o f e2 hk]
      by_cases e3 : gp k = gp i
      · rw [e3, sw_r]
        have := h.g k h0 h1 e2
        have lk : lowB k = lowB i := by rw [← lg, ← e3, lowB_gp h0]
        rw [e3, lk] at this
        rw [lk]
        exact leB_trans (leB_lt hl) this
      · by_cases e4 : gp k = i
        · have lk : lowB k = lowB i := by rw [← e4, lowB_gp h0]
          rw [e4, sw_l f (Ne.symm hgi), lk]
          exact h.c k (by omega) h1 h2 (Or.inr ⟨h0, e4⟩)
        · rw [sw_o f e4 e3]; exact h.g k h0 h1 e2
  · rw [lg, sw_o f (show gp (gp i) ≠ i by unfold gp; omega) (show gp (gp i) ≠ gp i by unfold gp at *; omega)]
    have hgg := h.g (gp i) hg2 (by unfold gp at *; omega) hgi
    rw [lg] at hgg
    by_cases e2 : k = i
    · subst e2; rw [sw_l f (Ne.symm hgi)]; exact hgg
    · rw [sw_o f e2 (show k ≠ gp i by unfold par gp at *; omega)]
      refine leB_trans hgg ?_
      rcases hk with e | ⟨h3, e⟩
      · have := h.p k h0 h1
        have lk : lowB k = !lowB i := by rw [← lg, ← e, lowB_par h0, Bool.not_not]
        rw [e, lk, leB_not] at this
        exact this
      · have := h.g k h3 h1 e2
        have lk : lowB k = lowB i := by rw [← lg, ← e, lowB_gp h3]
        rw [e, lk] at this
        exact this
/-- One more behind: it stays on its side of its parent. -/
theorem MM.push {f f' : Nat → Ent α} {n : Nat} (h : MM f n) (hf : ∀ k, k < n → f' k = f k) (hs : 0 < n → ¬ ltB (!lowB n) (f' n) (f' (par n))) : RU f' (n + 1) n := by
  refine ⟨fun k h0 h1 => ?_, fun k h0 h1 hk => ?_, fun k h0 h1 h2 hk => ?_⟩
  · by_cases e : k = n
    · subst e
      have := hs h0
      rw [ltB_not] at this
      exact this
    · rw [hf k (by omega), hf (par k) (by unfold par; omega)]; exact h.p k h0 (by omega)
  · rw [hf k (by omega), hf (gp k) (by unfold gp; omega)]; exact h.g k h0 (by omega)
  · exfalso
    unfold par gp at hk
    omega
/-- One more behind: it goes to the other side. -/
theorem MM.pushUp {f f' : Nat → Ent α} {n : Nat} (h : MM f n) (hf : ∀ k, k < n → f' k = f k) (h0 : 0 < n) (hs : ltB (!lowB n) (f' n) (f' (par n))) : RU (sw f' n (par n)) (n + 1) (par n) := by
  have hp : par n < n := by unfold par; omega
  have hnp : n ≠ par n := by omega
  have lp := lowB_par h0
  have hs' := hs
  rw [ltB_not] at hs'
  refine ⟨fun k k0 k1 => ?_, fun k k0 k1 hk => ?_, fun k k0 k1 k2 hk => ?_⟩
  · by_cases e : k = n
    · subst e
      rw [sw_l f' hnp, sw_r]
      exact leB_lt hs'
    · have hkn : k < n := by omega
      by_cases e2 : k = par n
      · subst e2
        have hq : par (par n) < n := by unfold par at *; omega
        rw [sw_r, sw_o f' (by omega) (by unfold par at *; omega), hf _ hq, lp]
        have := h.p (par n) k0 hkn
        rw [lp] at this
        have t : ltB (!lowB n) (f' n) (f (par n)) := by rw [← hf _ hp]; exact hs
        exact leB_trans (leB_lt t) this
      · rw [sw_o f' e e2]
        by_cases e3 : par k = par n
        · rw [e3, sw_r, hf k hkn]
          have lk : lowB k = lowB n := by
            have h1 := lowB_par k0
            rw [e3, lp] at h1
            cases h5 : lowB k <;> cases h6 : lowB n <;> simp [h5, h6] at h1 <;> rfl
          have := h.p k k0 hkn
          rw [e3, lk] at this
          rw [lk]
          have t : ltB (lowB n) (f (par n)) (f' n) := by rw [← hf _ hp]; exact hs'
          exact leB_trans this (leB_lt t)
        · rw [sw_o f' (show par k ≠ n by unfold par; omega) e3, hf k hkn, hf (par k) (by unfold par; omega)]
          exact h.p k k0 hkn
  · have hgn : gp k ≠ par n := by unfold gp par at *; omega
    by_cases e : k = n
    · subst e
      have hq : gp k < k := by unfold gp; omega
      rw [sw_l f' hnp, sw_o f' (by unfold gp; omega) hgn, hf _ hq, hf _ hp]
      have := h.p (par k) (by unfold par; omega) hp
      rw [lp, leB_not] at this
      exact this
    · have hkn : k < n := by omega
      rw [sw_o f' e hk, sw_o f' (by unfold gp; omega) hgn, hf k hkn, hf (gp k) (by unfold gp; omega)]
      exact h.g k k0 hkn
  · have e : par k = par n := by
      rcases hk with e | ⟨h3, e⟩
      · exact e
      · unfold gp par at *; omega
    have hq : gp (par n) < n := by unfold gp par; omega
    have hG := h.g (par n) k2 hp
    rw [lp] at hG
    rw [lp, sw_o f' (show gp (par n) ≠ n by omega) (show gp (par n) ≠ par n by unfold gp par at *; omega), hf _ hq]
    by_cases e2 : k = n
    · subst e2
      rw [sw_l f' hnp, hf _ hp]
      exact hG
    · have hkn : k < n := by omega
      rw [sw_o f' e2 (show k ≠ par n by unfold par at *; omega), hf k hkn]
      have := h.p k k0 hkn
      have lk : lowB k = lowB n := by
        have h1 := lowB_par k0
        rw [e, lp] at h1
        cases h5 : lowB k <;> cases h6 : lowB n <;> simp [h5, h6] at h1 <;> rfl
      rw [e, lk] at this
      exact leB_trans hG (leB_not.2 this)
/-- But for what stands at i, which may belong below. -/
structure SD (f : Nat → Ent α) (n i : Nat) : Prop where
  p : ∀ k, 0 < k → k < n → par k ≠ i → leB (lowB k) (f k) (f (par k))
  g : ∀ k, 2 < k → k < n → gp k ≠ i → leB (lowB k) (f (gp k)) (f k)
  d : ∀ k, 0 < k → k < n → (par k = i ∨ (2 < k ∧ gp k = i)) → (0 < i → leB (lowB i) (f k) (f (par i))) ∧ (2 < i → leB (lowB i) (f (gp i)) (f k))
theorem SD.done {f : Nat → Ent α} {n i : Nat} (h : SD f n i) (hs : ∀ k, 0 < k → k < n → (par k = i ∨ (2 < k ∧ gp k = i)) → leB (lowB i) (f i) (f k)) : MM f n := by
  refine ⟨fun k h0 h1 => ?_, fun k h0 h1 => ?_⟩
  · by_cases e : par k = i
    · have lk : lowB k = !lowB i := by rw [← e, lowB_par h0, Bool.not_not]
      rw [e, lk, leB_not]; exact hs k h0 h1 (Or.inl e)
    · exact h.p k h0 h1 e
  · by_cases e : gp k = i
    · have lk : lowB k = lowB i := by rw [← e, lowB_gp h0]
      rw [e, lk]; exact hs k (by omega) h1 (Or.inr ⟨h0, e⟩)
    · exact h.g k h0 h1 e
/-- A child that belongs above the others, and has nothing below it. -/
theorem SD.child {f : Nat → Ent α} {n i t : Nat} (h : SD f n i) (hi : i < n) (ht0 : 0 < t) (ht : t < n) (hp : par t = i) (hl : ltB (lowB i) (f t) (f i)) (hb : ∀ k, 0 < k → k < n → (par k = i ∨ (2 < k ∧ gp k = i)) → leB (lowB i) (f t) (f k)) (hn : ∀ k, 0 < k → k < n → par k ≠ t) : MM (sw f i t) n := by
  have hit : i ≠ t := by rw [← hp]; unfold par; omega
  have lt : lowB t = !lowB i := by rw [← hp, lowB_par ht0, Bool.not_not]
  obtain ⟨d1, d2⟩ := h.d t ht0 ht (Or.inl hp)
  refine ⟨fun k h0 h1 => ?_, fun k h0 h1 => ?_⟩
  · by_cases e1 : k = t
    · subst e1
      rw [sw_r, hp, sw_l f hit, lt, leB_not]; exact leB_lt hl
    · by_cases e2 : k = i
      · subst e2
        rw [sw_l f hit, sw_o f (show par k ≠ k by unfold par; omega) (show par k ≠ t by unfold par at *; omega)]
        exact d1 h0
      · rw [sw_o f e2 e1]
        by_cases e3 : par k = i
        · have lk : lowB k = !lowB i := by rw [← e3, lowB_par h0, Bool.not_not]
          rw [e3, sw_l f hit, lk, leB_not]; exact hb k h0 h1 (Or.inl e3)
        · rw [sw_o f e3 (hn k h0 h1)]; exact h.p k h0 h1 e3
  · have hgt : gp k ≠ t := by
      intro e
      exact hn (par k) (by unfold par; omega) (by unfold par; omega) (by rw [← e]; rfl)
    by_cases e1 : k = t
    · subst e1
      have hgi : gp k ≠ i := by rw [← hp]; unfold gp par; omega
      have hki : k ≠ gp k := by unfold gp; omega
      have hi0 : 0 < i := by rw [← hp]; unfold par; omega
      rw [sw_r, sw_o f hgi hgt]
      have e : gp k = par i := by rw [← hp]; rfl
      have := h.p i hi0 hi (by unfold par; omega)
      rw [e, lt, leB_not]
      exact this
    · by_cases e2 : k = i
      · subst e2
        rw [sw_l f hit, sw_o f (show gp k ≠ k by unfold gp; omega) hgt]
        exact d2 h0
      · rw [sw_o f e2 e1]
        by_cases e3 : gp k = i
        · have lk : lowB k = lowB i := by rw [← e3, lowB_gp h0]
          rw [e3, sw_l f hit, lk]; exact hb k (by omega) h1 (Or.inr ⟨h0, e3⟩)
        · rw [sw_o f e3 hgt]; exact h.g k h0 h1 e3
/-- A grandchild that belongs above the others; what came to its place stays on its side of the parent there. -/
theorem SD.grand {f : Nat → Ent α} {n i t : Nat} (h : SD f n i) (hi : i < n) (ht0 : 2 < t) (ht : t < n) (hg : gp t = i) (hl : ltB (lowB i) (f t) (f i)) (hb : ∀ k, 0 < k → k < n → (par k = i ∨ (2 < k ∧ gp k = i)) → leB (lowB i) (f t) (f k)) (hs : ¬ ltB (!lowB i) (f i) (f (par t))) : SD (sw f i t) n t := by
  have hit : i ≠ t := by rw [← hg]; unfold gp; omega
  have lt : lowB t = lowB i := by rw [← hg, lowB_gp ht0]
  have lpt : lowB (par t) = !lowB i := by rw [lowB_par (by omega), lt]
  have hpt : par t ≠ i ∧ par t ≠ t ∧ 0 < par t ∧ par t < n ∧ par (par t) = i := ⟨by rw [← hg]; unfold gp par; omega, by unfold par; omega, by unfold par; omega, by unfold par; omega, by rw [← hg]; rfl⟩
  rw [ltB_not] at hs
  obtain ⟨d1, d2⟩ := h.d t (by omega) ht (Or.inr ⟨ht0, hg⟩)
  refine ⟨fun k h0 h1 hk => ?_, fun k h0 h1 hk => ?_, fun k h0 h1 hk => ⟨fun _ => ?_, fun _ => ?_⟩⟩
  · by_cases e1 : k = t
    · subst e1
      rw [sw_r, sw_o f hpt.1 hpt.2.1, lt]; exact hs
    · by_cases e2 : k = i
      · subst e2
        rw [sw_l f hit, sw_o f (show par k ≠ k by unfold par; omega) hk]
        exact d1 h0
      · rw [sw_o f e2 e1]
        by_cases e3 : par k = i
        · have lk : lowB k = !lowB i := by rw [← e3, lowB_par h0, Bool.not_not]
          rw [e3, sw_l f hit, lk, leB_not]; exact hb k h0 h1 (Or.inl e3)
        · rw [sw_o f e3 hk]; exact h.p k h0 h1 e3
  · by_cases e1 : k = t
    · subst e1
      rw [hg, sw_r, sw_l f hit, lt]; exact leB_lt hl
    · by_cases e2 : k = i
      · subst e2
        rw [sw_l f hit, sw_o f (show gp k ≠ k by unfold gp; omega) hk]
        exact d2 h0
      · rw [sw_o f e2 e1]
        by_cases e3 : gp k = i
        · have lk : lowB k = lowB i := by rw [← e3, lowB_gp h0]
          rw [e3, sw_l f hit, lk]; exact hb k (by omega) h1 (Or.inr ⟨h0, e3⟩)
        · rw [sw_o f e3 hk]; exact h.g k h0 h1 e3
  · have hkt : k ≠ t ∧ k ≠ i := by unfold par gp at *; omega
    rw [sw_o f hkt.2 hkt.1, sw_o f hpt.1 hpt.2.1, lt]
    rcases hk with e | ⟨h3, e⟩
    · have := h.g k (by unfold par at *; omega) h1 (by rw [gp_par, e]; exact hpt.1)
      have lk : lowB k = !lowB i := by rw [← lt, ← e, lowB_par h0, Bool.not_not]
      rw [gp_par, e, lk, leB_not] at this
      exact this
    · have hpk : par (par k) = t := e
      have q0 : 0 < par k := by unfold par; omega
      have q2 : 2 < par k := by unfold par gp at *; omega
      have q1 : par k < n := by unfold par; omega
      have h4 := h.p k h0 h1 (by intro e5; rw [e5] at hpk; rw [← hg, gp_par] at hpk; unfold par at hpk; omega)
      have h5 := h.g (par k) q2 q1 (by rw [gp_par, hpk]; exact hpt.1)
      have lk : lowB k = lowB i := by rw [← lt, ← e, lowB_gp h3]
      have lpk : lowB (par k) = !lowB i := by rw [lowB_par h0, lk]
      rw [lk] at h4
      rw [gp_par, hpk, lpk, leB_not] at h5
      exact leB_trans h4 h5
  · have hkt : k ≠ t ∧ k ≠ i := by unfold par gp at *; omega
    rw [sw_o f hkt.2 hkt.1, hg, sw_l f hit, lt]
    rcases hk with e | ⟨h3, e⟩
    · have := h.p k h0 h1 (by rw [e]; exact Ne.symm hit)
      have lk : lowB k = !lowB i := by rw [← lt, ← e, lowB_par h0, Bool.not_not]
      rw [e, lk, leB_not] at this
      exact this
    · have := h.g k h3 h1 (by rw [e]; exact Ne.symm hit)
      have lk : lowB k = lowB i := by rw [← lt, ← e, lowB_gp h3]
      rw [e, lk] at this
      exact this
/-- A grandchild that belongs above the others; what came to its place goes to the other side. -/
theorem SD.grandUp {f : Nat → Ent α} {n i t : Nat} (h : SD f n i) (hi : i < n) (ht0 : 2 < t) (ht : t < n) (hg : gp t = i) (hl : ltB (lowB i) (f t) (f i)) (hb : ∀ k, 0 < k → k < n → (par k = i ∨ (2 < k ∧ gp k = i)) → leB (lowB i) (f t) (f k)) (hs : ltB (!lowB i) (f i) (f (par t))) : SD (sw (sw f i t) t (par t)) n t := by
  have hit : i ≠ t := by rw [← hg]; unfold gp; omega
  have lt : lowB t = lowB i := by rw [← hg, lowB_gp ht0]
  have lpt : lowB (par t) = !lowB i := by rw [lowB_par (by omega), lt]
  have hpt : par t ≠ i ∧ par t ≠ t ∧ 0 < par t ∧ par t < n ∧ par (par t) = i := ⟨by rw [← hg]; unfold gp par; omega, by unfold par; omega, by unfold par; omega, by unfold par; omega, by rw [← hg]; rfl⟩
  rw [ltB_not] at hs
  obtain ⟨d1, d2⟩ := h.d t (by omega) ht (Or.inr ⟨ht0, hg⟩)
  have E1 : sw (sw f i t) t (par t) (par t) = f i := by rw [sw_r, sw_r]
  have E2 : sw (sw f i t) t (par t) t = f (par t) := by rw [sw_l _ (Ne.symm hpt.2.1), sw_o f hpt.1 hpt.2.1]
  have E3 : sw (sw f i t) t (par t) i = f t := by rw [sw_o _ hit (Ne.symm hpt.1), sw_l f hit]
  have E4 : ∀ k, k ≠ i → k ≠ t → k ≠ par t → sw (sw f i t) t (par t) k = f k := fun k h1 h2 h3 => by rw [sw_o _ h2 h3, sw_o f h1 h2]
  have hpb := hb (par t) hpt.2.2.1 hpt.2.2.2.1 (Or.inl hpt.2.2.2.2)
  refine ⟨fun k h0 h1 hk => ?_, fun k h0 h1 hk => ?_, fun k h0 h1 hk => ⟨fun _ => ?_, fun _ => ?_⟩⟩
  · by_cases e1 : k = t
    · subst e1
      rw [E2, E1, lt]; exact leB_lt hs
    · by_cases e2 : k = i
      · subst e2
        rw [E3, E4 _ (show par k ≠ k by unfold par; omega) hk (show par k ≠ par t by unfold par gp at *; omega)]
        exact d1 h0
      · by_cases e3 : k = par t
        · subst e3
          rw [E1, hpt.2.2.2.2, E3, lpt, leB_not]; exact leB_lt hl
        · rw [E4 k e2 e1 e3]
          by_cases e4 : par k = i
          · have lk : lowB k = !lowB i := by rw [← e4, lowB_par h0, Bool.not_not]
            rw [e4, E3, lk, leB_not]; exact hb k h0 h1 (Or.inl e4)
          · by_cases e5 : par k = par t
            · have lk : lowB k = lowB i := by
                have h6 := lowB_par h0
                rw [e5, lpt] at h6
                cases h7 : lowB k <;> cases h8 : lowB i <;> simp [h7, h8] at h6 <;> rfl
              rw [e5, E1, lk]
              have := h.p k h0 h1 e4
              rw [e5, lk] at this
              exact leB_trans this (leB_lt hs)
            · rw [E4 _ e4 hk e5]; exact h.p k h0 h1 e4
  · by_cases e1 : k = t
    · subst e1
      rw [hg, E3, E2, lt]; exact hpb
    · by_cases e2 : k = i
      · subst e2
        rw [E3, E4 _ (show gp k ≠ k by unfold gp; omega) hk (show gp k ≠ par t by unfold par gp at *; omega)]
        exact d2 h0
      · by_cases e3 : k = par t
        · subst e3
          have hi0 : 0 < i := by rw [← hpt.2.2.2.2]; unfold par at *; omega
          have e6 : gp (par t) = par i := by rw [gp_par, hpt.2.2.2.2]
          rw [E1, e6, E4 _ (show par i ≠ i by unfold par; omega) (show par i ≠ t by unfold par gp at *; omega) (show par i ≠ par t by unfold par gp at *; omega), lpt, leB_not]
          exact h.p i hi0 hi (by unfold par; omega)
        · rw [E4 k e2 e1 e3]
          by_cases e4 : gp k = i
          · have lk : lowB k = lowB i := by rw [← e4, lowB_gp h0]
            rw [e4, E3, lk]; exact hb k (by omega) h1 (Or.inr ⟨h0, e4⟩)
          · by_cases e5 : gp k = par t
            · have lk : lowB k = !lowB i := by rw [← lpt, ← e5, lowB_gp h0]
              rw [e5, E1, lk, leB_not]
              have := h.g k h0 h1 e4
              rw [e5, lk, leB_not] at this
              exact leB_trans this (leB_lt hs)
            · rw [E4 _ e4 hk e5]; exact h.g k h0 h1 e4
  · have hkt : k ≠ t ∧ k ≠ i ∧ k ≠ par t := by unfold par gp at *; omega
    rw [E4 k hkt.2.1 hkt.1 hkt.2.2, E1, lt]
    refine leB_trans ?_ (leB_lt hs)
    rcases hk with e | ⟨h3, e⟩
    · have := h.g k (by unfold par at *; omega) h1 (by rw [gp_par, e]; exact hpt.1)
      have lk : lowB k = !lowB i := by rw [← lt, ← e, lowB_par h0, Bool.not_not]
      rw [gp_par, e, lk, leB_not] at this
      exact this
    · have hpk : par (par k) = t := e
      have q2 : 2 < par k := by unfold par gp at *; omega
      have q1 : par k < n := by unfold par; omega
      have h4 := h.p k h0 h1 (by intro e5; rw [e5] at hpk; rw [← hg, gp_par] at hpk; unfold par at hpk; omega)
      have h5 := h.g (par k) q2 q1 (by rw [gp_par, hpk]; exact hpt.1)
      have lk : lowB k = lowB i := by rw [← lt, ← e, lowB_gp h3]
      have lpk : lowB (par k) = !lowB i := by rw [lowB_par h0, lk]
      rw [lk] at h4
      rw [gp_par, hpk, lpk, leB_not] at h5
      exact leB_trans h4 h5
  · have hkt : k ≠ t ∧ k ≠ i ∧ k ≠ par t := by unfold par gp at *; omega
    rw [E4 k hkt.2.1 hkt.1 hkt.2.2, hg, E3, lt]
    rcases hk with e | ⟨h3, e⟩
    · have := h.p k h0 h1 (by rw [e]; exact Ne.symm hit)
      have lk : lowB k = !lowB i := by rw [← lt, ← e, lowB_par h0, Bool.not_not]
      rw [e, lk, leB_not] at this
      exact this
    · have := h.g k h3 h1 (by rw [e]; exact Ne.symm hit)
      have lk : lowB k = lowB i := by rw [← lt, ← e, lowB_gp h3]
      rw [e, lk] at this
      exact this
/-- The first one stands at the root. -/
theorem MM.first {f : Nat → Ent α} {n : Nat} (h : MM f n) : ∀ k, k < n → ¬ (f k).lt (f 0)
  | 0, _ => Ent.lt_irrefl _
  | k + 1, hk => by
    cases hl : lowB (k + 1) with
    | false =>
      have := h.p (k + 1) (by omega) hk
      rw [hl] at this
      exact Ent.le_trans (MM.first h (par (k + 1)) (by unfold par; omega)) this
    | true =>
      have h2 : 2 < k + 1 := by
        rcases k with _ | _ | k
        · rw [lowB_1] at hl; cases hl
        · rw [lowB_2] at hl; cases hl
        · omega
      have := h.g (k + 1) h2 hk
      rw [hl] at this
      exact Ent.le_trans (MM.first h (gp (k + 1)) (by unfold gp; omega)) this
termination_by k => k
decreasing_by all_goals (first | (unfold par; omega) | (unfold gp; omega))
/-- The last one stands below the root, if anything does. -/
theorem MM.last {f : Nat → Ent α} {n : Nat} (h : MM f n) (hn : 1 < n) : ∀ k, k < n → ∃ m, (m = 1 ∨ m = 2) ∧ m < n ∧ ¬ (f m).lt (f k)
  | 0, _ => ⟨1, Or.inl rfl, hn, MM.first h 1 hn⟩
  | k + 1, hk => by
    by_cases h3 : k + 1 = 1 ∨ k + 1 = 2
    · exact ⟨k + 1, h3, hk, Ent.lt_irrefl _⟩
    · cases hl : lowB (k + 1) with
      | false =>
        obtain ⟨m, h4, h5, h6⟩ := MM.last h hn (gp (k + 1)) (by unfold gp; omega)
        have := h.g (k + 1) (by omega) hk
        rw [hl] at this
        exact ⟨m, h4, h5, Ent.le_trans this h6⟩
      | true =>
        obtain ⟨m, h4, h5, h6⟩ := MM.last h hn (par (k + 1)) (by unfold par; omega)
        have := h.p (k + 1) (by omega) hk
        rw [hl] at this
        exact ⟨m, h4, h5, Ent.le_trans this h6⟩
termination_by k => k
decreasing_by all_goals (first | (unfold par; omega) | (unfold gp; omega))
/-- What stood at an end is gone, the one behind all others came to its place. -/
theorem MM.drop {f f' : Nat → Ent α} {n i : Nat} (h : MM f (n + 1)) (hi : i ≤ 2) (hin : i ≤ n) (hf : ∀ k, k < n → k ≠ i → f' k = f k) (he : i < n → f' i = f n) : SD f' n i := by
  refine ⟨fun k h0 h1 hk => ?_, fun k h0 h1 hk => ?_, fun k h0 h1 hk => ⟨fun hi0 => ?_, fun hi2 => by omega⟩⟩
  · rw [hf (par k) (by unfold par; omega) hk]
    by_cases e : k = i
    · subst e
      have ep : par k = 0 := by unfold par; omega
      have lk : lowB k = false := by
        rcases (show k = 1 ∨ k = 2 by omega) with rfl | rfl
        · exact lowB_1
        · exact lowB_2
      rw [ep, he h1, lk]
      exact h.first n (by omega)
    · rw [hf k h1 e]; exact h.p k h0 (by omega)
  · rw [hf (gp k) (by unfold gp; omega) hk, hf k h1 (by omega)]; exact h.g k h0 (by omega)
  · have ep : par i = 0 := by unfold par; omega
    have lk : lowB i = false := by
      rcases (show i = 1 ∨ i = 2 by omega) with rfl | rfl
      · exact lowB_1
      · exact lowB_2
    rw [ep, lk, hf k h1 (by unfold par gp at *; omega), hf 0 (by omega) (by omega)]
    exact h.first k (by omega)
end
end Go.Proofs.Ytiijlfpkninmgaa
