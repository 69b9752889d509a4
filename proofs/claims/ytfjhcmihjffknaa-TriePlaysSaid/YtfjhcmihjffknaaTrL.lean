/-
  Trees of prefixes as rows in order: what a row holds as a thing comes or goes; the longest that has an address. Plain words on trees and rows. No condition.
-/
import Derived.Test.YtfjhcmihjffknaaTrD
import Derived.Test.YtfjhcmihjffknaaTr17
namespace Go.Proofs.Ytfjhcmihjffknaa
set_option linter.unusedVariables false
set_option linter.unusedSimpArgs false
open Go.RowKit

/-- One prefix stands ahead of another one. -/
def ah (a n b m : Int) : Prop := a < b ∨ a = b ∧ n < m
instance (a n b m : Int) : Decidable (ah a n b m) := by unfold ah; infer_instance
def lt32 (e f : Int × Int × Int) : Prop := ah e.1 e.2.1 f.1 f.2.1
/-- The things of a tree, in order. -/
def tlist : Tr → List (Int × Int × Int)
  | .nil => []
  | .nd b m th x l r => (if th then [(b, m, x)] else []) ++ (tlist l ++ tlist r)
theorem mem_nd {b m x : Int} {th : Bool} {l r : Tr} {e : Int × Int × Int} : e ∈ tlist (.nd b m th x l r) ↔ (th = true ∧ e = (b, m, x)) ∨ e ∈ tlist l ∨ e ∈ tlist r := by
  rw [tlist, List.mem_append, List.mem_append]
  cases th <;> simp
theorem cov_self {b m : Int} (h : RtP b m) : CvP b m b m := ⟨h, Int.le_refl m, has_low h⟩
theorem inn_mem : ∀ {t : Tr} {b m i : Int}, RtP b m → Inn b m i t → Wf t → ∀ e ∈ tlist t, (CvP b m e.1 e.2.1 ∧ m < e.2.1 ∧ brn m e.1 = i) ∧ (0 ≤ e.1 ∧ e.1 ≤ 4294967295)
  | .nil, b, m, i, _, _, _, e, he => by cases he
  | .nd c k th x l r, b, m, i, hp, hi, hw, e, he => by
    obtain ⟨w1, w2, w3, w4, w5, w6⟩ := hw
    obtain ⟨i1, i2, i3⟩ := hi
    have down : ((CvP c k e.1 e.2.1 ∧ k < e.2.1) ∧ (0 ≤ e.1 ∧ e.1 ≤ 4294967295)) → (CvP b m e.1 e.2.1 ∧ m < e.2.1 ∧ brn m e.1 = i) ∧ (0 ≤ e.1 ∧ e.1 ≤ 4294967295) := by
      intro ⟨⟨h1, h2⟩, h3⟩
      exact ⟨⟨⟨h1.1, by omega, has_more i1 h1.2.2⟩, by omega, by rw [brn_has h1.2.2 w2.1 h3.1 hp.1.1 i2, i3]⟩, h3⟩
    rcases mem_nd.1 he with ⟨-, rfl⟩ | he | he
    · exact ⟨⟨i1, i2, i3⟩, w2⟩
    · obtain ⟨⟨h1, h2, -⟩, h3⟩ := inn_mem w1 w3 w5 e he
      exact down ⟨⟨h1, h2⟩, h3⟩
    · obtain ⟨⟨h1, h2, -⟩, h3⟩ := inn_mem w1 w4 w6 e he
      exact down ⟨⟨h1, h2⟩, h3⟩
theorem wf_mem {t : Tr} (hw : Wf t) : ∀ e ∈ tlist t, RtP e.1 e.2.1 ∧ (0 ≤ e.1 ∧ e.1 ≤ 4294967295) := by
  intro e he
  cases t with
  | nil => cases he
  | nd b m th x l r =>
    obtain ⟨w1, w2, w3, w4, w5, w6⟩ := hw
    rcases mem_nd.1 he with ⟨-, rfl⟩ | he | he
    · exact ⟨w1, w2⟩
    · have h := inn_mem w1 w3 w5 e he
      exact ⟨h.1.1.1, h.2⟩
    · have h := inn_mem w1 w4 w6 e he
      exact ⟨h.1.1.1, h.2⟩
theorem low_le {b m a : Int} (h : HsP b m a) (a0 : 0 ≤ a) : b ≤ a := by
  obtain ⟨⟨-, h1⟩, h2⟩ := h
  have hp := pw_pos m
  have e1 := mul_of_mod h1
  rw [e1, h2]
  exact Int.mul_ediv_self_le (Int.ne_of_gt hp)
theorem tlist_sorted : ∀ {t : Tr}, Wf t → (tlist t).Pairwise lt32
  | .nil, _ => List.Pairwise.nil
  | .nd b m th x l r, hw => by
    obtain ⟨w1, w2, w3, w4, w5, w6⟩ := hw
    rw [tlist, List.pairwise_append, List.pairwise_append]
    refine ⟨by cases th <;> simp, ⟨tlist_sorted w5, tlist_sorted w6, ?_⟩, ?_⟩
    · intro e he f hf
      obtain ⟨⟨h1, h2, h3⟩, h4⟩ := inn_mem w1 w3 w5 e he
      obtain ⟨⟨g1, g2, g3⟩, g4⟩ := inn_mem w1 w4 w6 f hf
      have hm : m ≤ 31 := by have := h1.1.1.2; omega
      rw [brn_def w1.1.1 hm h4.1] at h3
      rw [brn_def w1.1.1 hm g4.1] at g3
      have hq : e.1 / (pw m : Int) = f.1 / (pw m : Int) := h1.2.2.2.symm.trans g1.2.2.2
      rw [pw_step w1.1.1 hm, ← Int.ediv_ediv_of_nonneg (Int.le_of_lt (pw_pos _)), ← Int.ediv_ediv_of_nonneg (Int.le_of_lt (pw_pos _))] at hq
      refine Or.inl ?_
      have hp := pw_pos (m + 1)
      by_cases hlt : e.1 < f.1
      · exact hlt
      · have := Int.ediv_le_ediv hp (show f.1 ≤ e.1 by omega)
        omega
    · intro e he f hf
      cases th with
      | false => cases he
      | true =>
        obtain rfl : e = (b, m, x) := by simpa using he
        have key : ∀ i s, Inn b m i s → Wf s → f ∈ tlist s → lt32 (b, m, x) f := by
          intro i s hs hws hm
          obtain ⟨⟨h1, h2, h3⟩, h4⟩ := inn_mem w1 hs hws f hm
          have := low_le h1.2.2 h4.1
          show b < f.1 ∨ b = f.1 ∧ m < f.2.1
          omega
        rcases List.mem_append.1 hf with hf | hf
        · exact key 0 l w3 w5 hf
        · exact key 1 r w4 w6 hf
theorem sorted_eq : ∀ {L M : List (Int × Int × Int)}, L.Pairwise lt32 → M.Pairwise lt32 → (∀ e, e ∈ L ↔ e ∈ M) → L = M
  | [], [], _, _, _ => rfl
  | [], y :: M, _, _, h => absurd ((h y).2 (by simp)) (by simp)
  | x :: L, [], _, _, h => absurd ((h x).1 (by simp)) (by simp)
  | x :: L, y :: M, hL, hM, h => by
    rw [List.pairwise_cons] at hL hM
    have hxy : x = y := by
      rcases List.mem_cons.1 ((h x).1 (by simp)) with e | e
      · exact e
      · rcases List.mem_cons.1 ((h y).2 (by simp)) with e2 | e2
        · exact e2.symm
        · have h1 := hM.1 x e
          have h2 := hL.1 y e2
          simp only [lt32, ah] at h1 h2
          omega
    subst hxy
    rw [sorted_eq hL.2 hM.2 ?_]
    intro e
    have irr : ∀ e, lt32 x e → e ≠ x := by
      intro e he hx
      subst hx
      simp only [lt32, ah] at he
      omega
    constructor
    · intro he
      exact (List.mem_cons.1 ((h e).1 (List.mem_cons_of_mem _ he))).resolve_left (irr e (hL.1 e he))
    · intro he
      exact (List.mem_cons.1 ((h e).2 (List.mem_cons_of_mem _ he))).resolve_left (irr e (hM.1 e he))
theorem sorted_key {L : List (Int × Int × Int)} (h : L.Pairwise lt32) {a n x y : Int} (hx : (a, n, x) ∈ L) (hy : (a, n, y) ∈ L) : x = y := by
  induction L with
  | nil => cases hx
  | cons e L ih =>
    rw [List.pairwise_cons] at h
    have no : ∀ {u v : Int}, e = (a, n, u) → (a, n, v) ∈ L → False := by
      intro u v he hv
      have := h.1 _ hv
      subst he
      simp only [lt32, ah] at this
      omega
    rcases List.mem_cons.1 hx with hx | hx <;> rcases List.mem_cons.1 hy with hy | hy
    · rw [← hx] at hy
      simp only [Prod.mk.injEq] at hy
      exact hy.2.2.symm
    · exact (no hx.symm hy).elim
    · exact (no hy.symm hx).elim
    · exact ih h.2 hx hy
/-- A prefix's thing is what stands in the row. -/
theorem mem_tat {a n x : Int} : ∀ {t : Tr}, Wf t → ((a, n, x) ∈ tlist t ↔ tat a n t = some (true, x))
  | .nil, _ => by simp [tlist, tat]
  | .nd b m th y l r, hw => by
    obtain ⟨w1, w2, w3, w4, w5, w6⟩ := hw
    have inl : (a, n, x) ∈ tlist l → CvP b m a n ∧ m < n ∧ brn m a = 0 := fun h => (inn_mem w1 w3 w5 _ h).1
    have inr : (a, n, x) ∈ tlist r → CvP b m a n ∧ m < n ∧ brn m a = 1 := fun h => (inn_mem w1 w4 w6 _ h).1
    rw [mem_nd]
    unfold tat
    by_cases hc : CvP b m a n
    · rw [if_pos hc]
      by_cases he : b = a ∧ m = n
      · rw [if_pos he]
        obtain ⟨rfl, rfl⟩ := he
        constructor
        · rintro (⟨rfl, h⟩ | h | h)
          · simp only [Prod.mk.injEq] at h
            rw [h.2.2]
          · have := (inl h).2.1; omega
          · have := (inr h).2.1; omega
        · intro h
          simp only [Option.some.injEq, Prod.mk.injEq] at h
          exact Or.inl ⟨h.1, by rw [h.2]⟩
      · rw [if_neg he]
        have nr : ¬ (th = true ∧ (a, n, x) = (b, m, y)) := by
          rintro ⟨-, h⟩
          simp only [Prod.mk.injEq] at h
          exact he ⟨h.1.symm, h.2.1.symm⟩
        rcases brn_bit m a with h0 | h0
        · rw [if_pos h0, ← mem_tat w5]
          constructor
          · rintro (h | h | h)
            · exact absurd h nr
            · exact h
            · have := (inr h).2.2; omega
          · exact fun h => Or.inr (Or.inl h)
        · rw [if_neg (by omega), ← mem_tat w6]
          constructor
          · rintro (h | h | h)
            · exact absurd h nr
            · have := (inl h).2.2; omega
            · exact h
          · exact fun h => Or.inr (Or.inr h)
    · rw [if_neg hc]
      constructor
      · rintro (⟨-, h⟩ | h | h)
        · simp only [Prod.mk.injEq] at h
          obtain ⟨rfl, rfl, -⟩ := h
          exact absurd (cov_self w1) hc
        · exact absurd (inl h).1 hc
        · exact absurd (inr h).1 hc
      · intro h
        cases h
theorem mem_put {a n x : Int} {e : Int × Int × Int} : ∀ {t : Tr}, (∀ y, (a, n, y) ∉ tlist t) → (e ∈ tlist (tputF a n x t) ↔ e = (a, n, x) ∨ e ∈ tlist t)
  | .nil, _ => by simp [tputF, tlist]
  | .nd b m th y l r, hn => by
    have hl : ∀ y, (a, n, y) ∉ tlist l := fun y h => hn y (mem_nd.2 (Or.inr (Or.inl h)))
    have hr : ∀ y, (a, n, y) ∉ tlist r := fun y h => hn y (mem_nd.2 (Or.inr (Or.inr h)))
    unfold tputF
    by_cases he : b = a ∧ m = n
    · rw [if_pos he]
      obtain ⟨rfl, rfl⟩ := he
      have ht : th ≠ true := fun h => hn y (mem_nd.2 (Or.inl ⟨h, rfl⟩))
      rw [mem_nd, mem_nd]
      simp [ht]
    · rw [if_neg he]
      by_cases hc : CvP b m a n
      · rw [if_pos hc]
        split
        · rw [mem_nd, mem_nd, mem_put hl]
          constructor
          · rintro (h | (h | h) | h)
            · exact Or.inr (Or.inl h)
            · exact Or.inl h
            · exact Or.inr (Or.inr (Or.inl h))
            · exact Or.inr (Or.inr (Or.inr h))
          · rintro (h | h | h | h)
            · exact Or.inr (Or.inl (Or.inl h))
            · exact Or.inl h
            · exact Or.inr (Or.inl (Or.inr h))
            · exact Or.inr (Or.inr h)
        · rw [mem_nd, mem_nd, mem_put hr]
          constructor
          · rintro (h | h | (h | h))
            · exact Or.inr (Or.inl h)
            · exact Or.inr (Or.inr (Or.inl h))
            · exact Or.inl h
            · exact Or.inr (Or.inr (Or.inr h))
          · rintro (h | h | h | h)
            · exact Or.inr (Or.inr (Or.inl h))
            · exact Or.inl h
            · exact Or.inr (Or.inl h)
            · exact Or.inr (Or.inr (Or.inr h))
      · rw [if_neg hc]
        generalize hT : Tr.nd b m th y l r = T
        unfold forkT
        split
        · split <;> rw [mem_nd] <;> simp [tlist]
        · split <;> rw [mem_nd] <;> simp [tlist, or_comm]
theorem tlist_shr (t : Tr) : tlist (tshr t) = tlist t := by
  cases t with
  | nil => rfl
  | nd c k th y l r =>
    simp only [tshr]
    split
    · rfl
    · rename_i hk
      cases th with
      | true => simp at hk
      | false =>
        split
        · rename_i hl
          have hr : r = .nil := by
            cases r with
            | nil => rfl
            | nd _ _ _ _ _ _ =>
              rw [hl] at hk
              exact absurd rfl hk
          subst hr
          simp [tlist]
        · rename_i hl
          have hl' : l = .nil := by
            cases l with
            | nil => rfl
            | nd _ _ _ _ _ _ => simp [Tr.isNil] at hl
          subst hl'
          simp [tlist]
theorem mem_drop {a n x : Int} {e : Int × Int × Int} : ∀ {t : Tr}, Wf t → (a, n, x) ∈ tlist t → (e ∈ tlist (tdrop a n t) ↔ e ∈ tlist t ∧ ¬ (e.1 = a ∧ e.2.1 = n))
  | .nil, _, h => by cases h
  | .nd b m th y l r, hw, h => by
    obtain ⟨w1, w2, w3, w4, w5, w6⟩ := hw
    have inl : ∀ {f : Int × Int × Int}, f ∈ tlist l → m < f.2.1 ∧ brn m f.1 = 0 := fun h => (inn_mem w1 w3 w5 _ h).1.2
    have inr : ∀ {f : Int × Int × Int}, f ∈ tlist r → m < f.2.1 ∧ brn m f.1 = 1 := fun h => (inn_mem w1 w4 w6 _ h).1.2
    unfold tdrop
    by_cases he : b = a ∧ m = n
    · rw [if_pos he]
      obtain ⟨rfl, rfl⟩ := he
      rw [mem_nd, mem_nd]
      constructor
      · rintro (h | h | h)
        · exact absurd h.1 (by simp)
        · exact ⟨Or.inr (Or.inl h), fun g => by have := (inl h).1; omega⟩
        · exact ⟨Or.inr (Or.inr h), fun g => by have := (inr h).1; omega⟩
      · rintro ⟨⟨-, rfl⟩ | h, hn⟩
        · exact absurd ⟨rfl, rfl⟩ hn
        · exact Or.inr h
    · rw [if_neg he]
      have rt : ∀ {z : Int}, e = (b, m, z) → ¬ (e.1 = a ∧ e.2.1 = n) := by
        rintro z rfl
        exact he
      rcases mem_nd.1 h with ⟨-, h⟩ | h | h
      · simp only [Prod.mk.injEq] at h
        exact absurd ⟨h.1.symm, h.2.1.symm⟩ he
      · have hb : brn m a = 0 := (inl h).2
        rw [if_pos hb, mem_nd, mem_nd, tlist_shr, mem_drop w5 h]
        constructor
        · rintro (g | g | g)
          · exact ⟨Or.inl g, rt g.2⟩
          · exact ⟨Or.inr (Or.inl g.1), g.2⟩
          · exact ⟨Or.inr (Or.inr g), fun k => by have := (inr g).2; rw [k.1] at this; omega⟩
        · rintro ⟨g | g | g, k⟩
          · exact Or.inl g
          · exact Or.inr (Or.inl ⟨g, k⟩)
          · exact Or.inr (Or.inr g)
      · have hb : brn m a = 1 := (inr h).2
        rw [if_neg (by omega), mem_nd, mem_nd, tlist_shr, mem_drop w6 h]
        constructor
        · rintro (g | g | g)
          · exact ⟨Or.inl g, rt g.2⟩
          · exact ⟨Or.inr (Or.inl g), fun k => by have := (inl g).2; rw [k.1] at this; omega⟩
          · exact ⟨Or.inr (Or.inr g.1), g.2⟩
        · rintro ⟨g | g | g, k⟩
          · exact Or.inl g
          · exact Or.inr (Or.inl g)
          · exact Or.inr (Or.inr ⟨g, k⟩)
theorem tlist_len : ∀ t : Tr, ((tlist t).length : Int) = tsz t
  | .nil => rfl
  | .nd b m th x l r => by
    have h1 := tlist_len l
    have h2 := tlist_len r
    rw [tlist, tsz, List.length_append, List.length_append]
    cases th <;> simp <;> omega
theorem tfind_mem {q : Int} : ∀ {t : Tr} {z : Int × Int × Int}, tfind q t = some z → z ∈ tlist t
  | .nil, z, h => by cases h
  | .nd b m th y l r, z, h => by
    rw [tfind] at h
    rw [mem_nd]
    by_cases hc : HsP b m q
    · rw [if_pos hc] at h
      by_cases hb : brn m q = 0
      · rw [if_pos hb] at h
        cases ho : tfind q l with
        | some u =>
          rw [ho] at h
          simp only [Option.some.injEq] at h
          exact Or.inr (Or.inl (tfind_mem (by rw [ho, h])))
        | none =>
          rw [ho] at h
          cases th
          · cases h
          · simp only [if_true, Option.some.injEq] at h
            exact Or.inl ⟨rfl, h.symm⟩
      · rw [if_neg hb] at h
        cases ho : tfind q r with
        | some u =>
          rw [ho] at h
          simp only [Option.some.injEq] at h
          exact Or.inr (Or.inr (tfind_mem (by rw [ho, h])))
        | none =>
          rw [ho] at h
          cases th
          · cases h
          · simp only [if_true, Option.some.injEq] at h
            exact Or.inl ⟨rfl, h.symm⟩
    · rw [if_neg hc] at h
      cases h
theorem tfind_best {q : Int} (hq : 0 ≤ q) : ∀ {t : Tr}, Wf t → ∀ e ∈ tlist t, HsP e.1 e.2.1 q → ∃ z, tfind q t = some z ∧ e.2.1 ≤ z.2.1
  | .nil, _, e, he, _ => by cases he
  | .nd b m th y l r, hw, e, he, hs => by
    obtain ⟨w1, w2, w3, w4, w5, w6⟩ := hw
    rw [tfind]
    rcases mem_nd.1 he with ⟨rfl, rfl⟩ | he | he
    · rw [if_pos hs]
      have key : ∀ i s, Inn b m i s → Wf s → ∃ z, (match tfind q s with | some z => some z | none => if true = true then some (b, m, y) else none) = some z ∧ m ≤ z.2.1 := by
        intro i s hi hws
        cases ho : tfind q s with
        | none => exact ⟨_, rfl, Int.le_refl m⟩
        | some u =>
          have := (inn_mem w1 hi hws u (tfind_mem ho)).1.2.1
          exact ⟨u, rfl, by omega⟩
      by_cases hb : brn m q = 0
      · rw [if_pos hb]
        exact key 0 l w3 w5
      · rw [if_neg hb]
        exact key 1 r w4 w6
    · obtain ⟨⟨h1, h2, h3⟩, h4⟩ := inn_mem w1 w3 w5 e he
      rw [if_pos (has_more h1 hs), if_pos (by rw [brn_has hs h4.1 hq w1.1.1 h2, h3])]
      obtain ⟨z, hz, hz2⟩ := tfind_best hq w5 e he hs
      rw [hz]
      exact ⟨z, rfl, hz2⟩
    · obtain ⟨⟨h1, h2, h3⟩, h4⟩ := inn_mem w1 w4 w6 e he
      rw [if_pos (has_more h1 hs), if_neg (by rw [brn_has hs h4.1 hq w1.1.1 h2, h3]; omega)]
      obtain ⟨z, hz, hz2⟩ := tfind_best hq w6 e he hs
      rw [hz]
      exact ⟨z, rfl, hz2⟩
/-- Two prefixes of one length that have an address are one. -/
theorem has_same {a b n q : Int} (h1 : HsP a n q) (h2 : HsP b n q) : a = b := right_same h1.1 h2.1 (h1.2.trans h2.2.symm)
/-- A prefix with its thing, put into a row in order. -/
def ins32 (a n x : Int) : List (Int × Int × Int) → List (Int × Int × Int)
  | [] => [(a, n, x)]
  | e :: L => if ah a n e.1 e.2.1 then (a, n, x) :: e :: L else e :: ins32 a n x L
theorem mem_ins {a n x : Int} {e : Int × Int × Int} : ∀ {L : List (Int × Int × Int)}, e ∈ ins32 a n x L ↔ e = (a, n, x) ∨ e ∈ L
  | [] => by simp [ins32]
  | f :: L => by
    unfold ins32
    split
    · simp
    · rw [List.mem_cons, mem_ins, List.mem_cons]
      constructor
      · rintro (h | h | h)
        · exact Or.inr (Or.inl h)
        · exact Or.inl h
        · exact Or.inr (Or.inr h)
      · rintro (h | h | h)
        · exact Or.inr (Or.inl h)
        · exact Or.inl h
        · exact Or.inr (Or.inr h)
theorem ins_sorted {a n x : Int} : ∀ {L : List (Int × Int × Int)}, L.Pairwise lt32 → (∀ y, (a, n, y) ∉ L) → (ins32 a n x L).Pairwise lt32
  | [], _, _ => by simp [ins32]
  | f :: L, h, hn => by
    unfold ins32
    have h' := h
    rw [List.pairwise_cons] at h'
    split
    · rename_i hk
      rw [List.pairwise_cons]
      refine ⟨?_, h⟩
      intro e he
      rcases List.mem_cons.1 he with rfl | he
      · exact hk
      · have := h'.1 e he
        simp only [lt32, ah] at this hk ⊢
        omega
    · rename_i hk
      rw [List.pairwise_cons]
      refine ⟨?_, ins_sorted h'.2 (fun y hy => hn y (List.mem_cons_of_mem _ hy))⟩
      intro e he
      rcases mem_ins.1 he with rfl | he
      · have hne : ¬ (f.1 = a ∧ f.2.1 = n) := by
          rintro ⟨rfl, rfl⟩
          exact hn f.2.2 (by simp)
        simp only [lt32, ah] at hk ⊢
        omega
      · exact h'.1 e he
theorem put_list {a n x : Int} {t : Tr} (hw : Wf t) (hw2 : Wf (tputF a n x t)) (hn : ∀ y, (a, n, y) ∉ tlist t) : tlist (tputF a n x t) = ins32 a n x (tlist t) :=
  sorted_eq (tlist_sorted hw2) (ins_sorted (tlist_sorted hw) hn) (fun e => (mem_put hn).trans mem_ins.symm)
theorem drop_list {a n x : Int} {t : Tr} (hw : Wf t) {k : Nat} (hk : (tlist t)[k]? = some (a, n, x)) : tlist (tdrop a n t) = (tlist t).take k ++ (tlist t).drop (k + 1) := by
  have hs := tlist_sorted hw
  have hm := List.mem_of_getElem? hk
  obtain ⟨hlt, hg⟩ := List.getElem?_eq_some_iff.1 hk
  have hL : tlist t = (tlist t).take k ++ (a, n, x) :: (tlist t).drop (k + 1) := by
    conv => lhs; rw [← List.take_append_drop k (tlist t), List.drop_eq_getElem_cons hlt, hg]
  generalize hA : (tlist t).take k = A at *
  generalize hB : (tlist t).drop (k + 1) = B at *
  have hs2 := hs
  rw [hL, List.pairwise_append, List.pairwise_cons] at hs2
  obtain ⟨s1, ⟨s2, s3⟩, s4⟩ := hs2
  refine sorted_eq (tlist_sorted (wf_drop a n hw)) ?_ (fun e => (mem_drop hw hm).trans ?_)
  · rw [List.pairwise_append]
    exact ⟨s1, s3, fun e he f hf => s4 e he f (List.mem_cons_of_mem _ hf)⟩
  · rw [hL, List.mem_append, List.mem_cons, List.mem_append]
    constructor
    · rintro ⟨h | rfl | h, g⟩
      · exact Or.inl h
      · exact absurd ⟨rfl, rfl⟩ g
      · exact Or.inr h
    · rintro (h | h)
      · refine ⟨Or.inl h, fun g => ?_⟩
        have := s4 e h _ (List.mem_cons_self ..)
        simp only [lt32, ah] at this
        omega
      · refine ⟨Or.inr (Or.inr h), fun g => ?_⟩
        have := s2 e h
        simp only [lt32, ah] at this
        omega
end Go.Proofs.Ytfjhcmihjffknaa
