/-
  Trees of prefixes: what an address finds as a prefix goes that does not have it; how many elements there are. Plain words on trees. No condition.
-/
import Derived.Test.YtfjhcmihjffknaaTrW
namespace Go.Proofs.Ytfjhcmihjffknaa
set_option linter.unusedVariables false
set_option linter.unusedSimpArgs false
open Go.RowKit

theorem inn_shr {b m i : Int} (hp : RtP b m) {t : Tr} (hi : Inn b m i t) (hw : Wf t) : Inn b m i (tshr t) := by
  cases t with
  | nil => exact hi
  | nd c k th y l r =>
    obtain ⟨w1, w2, w3, w4, w5, w6⟩ := hw
    obtain ⟨i1, i2, i3⟩ := hi
    have down : ∀ (j : Int) (s : Tr), Inn c k j s → Wf s → Inn b m i s := fun j s hs hws => by
      cases s with
      | nil => trivial
      | nd c2 k2 th2 y2 l2 r2 =>
        obtain ⟨s1, s2, s3⟩ := hs
        refine ⟨⟨s1.1, by omega, has_more i1 s1.2.2⟩, by omega, ?_⟩
        rw [brn_has s1.2.2 w2.1 hws.2.1.1 hp.1.1 i2, i3]
    simp only [tshr]
    split
    · exact ⟨i1, i2, i3⟩
    · split
      · exact down 0 l w3 w5
      · exact down 1 r w4 w6
theorem wf_shr {t : Tr} (hw : Wf t) : Wf (tshr t) := by
  cases t with
  | nil => exact hw
  | nd c k th y l r =>
    simp only [tshr]
    split
    · exact hw
    · split
      · exact hw.2.2.2.2.1
      · exact hw.2.2.2.2.2
theorem find_shr {q : Int} (hq : 0 ≤ q) {t : Tr} (hw : Wf t) : tfind q (tshr t) = tfind q t := by
  cases t with
  | nil => rfl
  | nd c k th y l r =>
    obtain ⟨w1, w2, w3, w4, w5, w6⟩ := hw
    simp only [tshr]
    split
    · rfl
    · rename_i hk
      cases th with
      | true => simp at hk
      | false =>
        rw [find_skip]
        split
        · rename_i hl
          have hr : r = .nil := by
            cases r with
            | nil => rfl
            | nd _ _ _ _ _ _ =>
              rw [hl] at hk
              exact absurd rfl hk
          subst hr
          by_cases h1 : HsP c k q
          · rw [if_pos h1]
            by_cases h2 : brn k q = 0
            · rw [if_pos h2]
            · rw [if_neg h2, tfind_out hq w1 w3 w5 (fun h => h2 h.2)]
              rfl
          · rw [if_neg h1, tfind_out hq w1 w3 w5 (fun h => h1 h.1)]
        · rename_i hl
          have hl' : l = .nil := by
            cases l with
            | nil => rfl
            | nd _ _ _ _ _ _ => simp [Tr.isNil] at hl
          subst hl'
          by_cases h1 : HsP c k q
          · rw [if_pos h1]
            by_cases h2 : brn k q = 0
            · rw [if_pos h2, tfind_out hq w1 w4 w6 (fun h => by omega)]
              rfl
            · rw [if_neg h2]
          · rw [if_neg h1, tfind_out hq w1 w4 w6 (fun h => h1 h.1)]
theorem inn_drop {b m i a n : Int} {t : Tr} (hi : Inn b m i t) : Inn b m i (tdrop a n t) := by
  cases t with
  | nil => exact hi
  | nd c k th y l r =>
    unfold tdrop
    split
    · exact hi
    · split <;> exact hi
theorem wf_drop (a n : Int) : ∀ {t : Tr}, Wf t → Wf (tdrop a n t)
  | .nil, hw => hw
  | .nd b m th y l r, hw => by
    obtain ⟨w1, w2, w3, w4, w5, w6⟩ := hw
    unfold tdrop
    split
    · exact ⟨w1, w2, w3, w4, w5, w6⟩
    · split
      · exact ⟨w1, w2, inn_shr w1 (inn_drop w3) (wf_drop a n w5), w4, wf_shr (wf_drop a n w5), w6⟩
      · exact ⟨w1, w2, w3, inn_shr w1 (inn_drop w4) (wf_drop a n w6), w5, wf_shr (wf_drop a n w6)⟩
theorem find_drop {a n q : Int} (hq : 0 ≤ q) (hn : ¬ HsP a n q) : ∀ {t : Tr}, Wf t → tfind q (tdrop a n t) = tfind q t
  | .nil, hw => rfl
  | .nd b m th y l r, hw => by
    obtain ⟨w1, w2, w3, w4, w5, w6⟩ := hw
    unfold tdrop
    by_cases he : b = a ∧ m = n
    · rw [if_pos he]
      obtain ⟨rfl, rfl⟩ := he
      rw [tfind, tfind, if_neg hn, if_neg hn]
    · rw [if_neg he]
      split
      · rw [tfind, tfind, find_shr hq (wf_drop a n w5), find_drop hq hn w5]
      · rw [tfind, tfind, find_shr hq (wf_drop a n w6), find_drop hq hn w6]
/-- How many elements there are. -/
def tsz : Tr → Int
  | .nil => 0
  | .nd _ _ th _ l r => (if th then 1 else 0) + tsz l + tsz r
theorem tsz_nn : ∀ t : Tr, 0 ≤ tsz t
  | .nil => Int.le_refl 0
  | .nd _ _ th _ l r => by
    have h1 := tsz_nn l
    have h2 := tsz_nn r
    unfold tsz
    split <;> omega
theorem tsz_shr (t : Tr) : tsz (tshr t) = tsz t := by
  cases t with
  | nil => rfl
  | nd c k th y l r =>
    simp only [tshr]
    split
    · rfl
    · rename_i hk
      cases th with
      | true => simp at hk
      | false =>
        split
        · rename_i hl
          have hr : r = .nil := by
            cases r with
            | nil => rfl
            | nd _ _ _ _ _ _ =>
              rw [hl] at hk
              exact absurd rfl hk
          subst hr
          simp [tsz]
        · rename_i hl
          have hl' : l = .nil := by
            cases l with
            | nil => rfl
            | nd _ _ _ _ _ _ => simp [Tr.isNil] at hl
          subst hl'
          simp [tsz]
theorem tsz_drop {a n z : Int} : ∀ {t : Tr}, tget a n t = some z → tsz (tdrop a n t) = tsz t - 1
  | .nil, h => by cases h
  | .nd b m th y l r, h => by
    unfold tget tat at h
    unfold tdrop
    by_cases hc : CvP b m a n
    · rw [if_pos hc] at h
      by_cases he : b = a ∧ m = n
      · rw [if_pos he] at h
        rw [if_pos he]
        cases th with
        | false => cases h
        | true => simp [tsz]; omega
      · rw [if_neg he] at h
        rw [if_neg he]
        by_cases h0 : brn m a = 0
        · rw [if_pos h0] at h
          rw [if_pos h0]
          have ih := tsz_drop (t := l) h
          rw [tsz, tsz, tsz_shr, ih]
          omega
        · rw [if_neg h0] at h
          rw [if_neg h0]
          have ih := tsz_drop (t := r) h
          rw [tsz, tsz, tsz_shr, ih]
          omega
    · rw [if_neg hc] at h
      cases h
theorem tsz_put {a n x : Int} (hr : RtP a n) : ∀ {t : Tr}, tget a n t = none → tsz (tputF a n x t) = tsz t + 1
  | .nil, h => rfl
  | .nd b m th y l r, h => by
    unfold tget tat at h
    unfold tputF
    by_cases he : b = a ∧ m = n
    · rw [if_pos he]
      obtain ⟨rfl, rfl⟩ := he
      have hc : CvP b m b m := ⟨hr, Int.le_refl _, hr, rfl⟩
      rw [if_pos hc, if_pos ⟨rfl, rfl⟩] at h
      cases th with
      | true => cases h
      | false => simp [tsz]; omega
    · rw [if_neg he]
      by_cases hc : CvP b m a n
      · rw [if_pos hc, if_neg he] at h
        rw [if_pos hc]
        by_cases h0 : brn m a = 0
        · rw [if_pos h0] at h
          rw [if_pos h0, tsz, tsz, tsz_put hr (t := l) h]
          omega
        · rw [if_neg h0] at h
          rw [if_neg h0, tsz, tsz, tsz_put hr (t := r) h]
          omega
      · rw [if_neg hc]
        unfold forkT
        split
        · split
          · simp [tsz]; omega
          · simp [tsz]; omega
        · split
          · simp [tsz]
          · simp [tsz]; omega
theorem tsz_pos {a n z : Int} {t : Tr} (h : tget a n t = some z) : 1 ≤ tsz t := by
  have h1 := tsz_drop h
  have h2 := tsz_nn (tdrop a n t)
  omega
end Go.Proofs.Ytfjhcmihjffknaa
