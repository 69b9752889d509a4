/-
  Layer 7: the pool's lists and the document's answer's say the same through all that is done. Plain lists. No condition.
-/
import Derived.Test.YtmkgadndfiiacaaR7e
namespace Go.Proofs.Ytmkgadndfiiacaa
set_option linter.unusedVariables false
set_option linter.unusedSimpArgs false

theorem map_fst7 (l : List (Int × Int)) (j : Nat) (h : j < l.length) : (l.map (·.1))[j]? = some (fst7 l j) := by
  rw [List.getElem?_map, List.getElem?_eq_getElem h]
  unfold fst7
  rw [List.getD_eq_getElem?_getD, List.getElem?_eq_getElem h]
  rfl
theorem map_snd7 (l : List (Int × Int)) (j : Nat) (h : j < l.length) : (l.map (·.2))[j]? = some (snd7 l j) := by
  rw [List.getElem?_map, List.getElem?_eq_getElem h]
  unfold snd7
  rw [List.getD_eq_getElem?_getD, List.getElem?_eq_getElem h]
  rfl
/-- The first place of a number, or none. -/
theorem first7 (l : List Int) (f : Nat → Int) (hf : ∀ j, j < l.length → l[j]? = some (f j)) (y : Int) : (y ∈ l ∧ ∃ k, k < l.length ∧ f k = y ∧ ∀ j, j < k → f j ≠ y) ∨ (y ∉ l ∧ ∀ j, j < l.length → f j ≠ y) := by
  have key : ∀ m, m ≤ l.length → (∃ k, k < m ∧ f k = y ∧ ∀ j, j < k → f j ≠ y) ∨ ∀ j, j < m → f j ≠ y := by
    intro m
    induction m with
    | zero => exact fun _ => Or.inr (fun j hj => absurd hj (Nat.not_lt_zero _))
    | succ m ih =>
      intro hm
      rcases ih (by omega) with ⟨k, h1, h2, h3⟩ | h
      · exact Or.inl ⟨k, by omega, h2, h3⟩
      · by_cases e : f m = y
        · exact Or.inl ⟨m, by omega, e, h⟩
        · exact Or.inr (fun j hj => by
            by_cases e2 : j = m
            · rw [e2]; exact e
            · exact h j (by omega))
  rcases key l.length (Nat.le_refl _) with ⟨k, h1, h2, h3⟩ | h
  · exact Or.inl ⟨List.mem_of_getElem? ((hf k h1).trans (by rw [h2])), k, h1, h2, h3⟩
  · refine Or.inr ⟨fun hm => ?_, h⟩
    obtain ⟨j, hj, e⟩ := List.getElem_of_mem hm
    have h2 := hf j hj
    rw [List.getElem?_eq_getElem hj, e] at h2
    injection h2 with h2
    exact h j hj h2.symm
theorem mem_erase7 : ∀ (l : List Int) (k : Nat) (y : Int), l.Nodup → l[k]? = some y → ∀ z, z ∈ l.eraseIdx k ↔ z ∈ l ∧ z ≠ y
  | [], k, y, _, h, z => by simp at h
  | x :: l, 0, y, hn, h, z => by
    simp at h
    subst h
    have := (List.nodup_cons.1 hn).1
    simp only [List.eraseIdx_cons_zero, List.mem_cons]
    constructor
    · exact fun hz => ⟨Or.inr hz, fun e => this (e ▸ hz)⟩
    · rintro ⟨h1 | h1, h2⟩
      · exact absurd h1 h2
      · exact h1
  | x :: l, k + 1, y, hn, h, z => by
    simp at h
    obtain ⟨h1, h2⟩ := List.nodup_cons.1 hn
    have ih := mem_erase7 l k y h2 h z
    have hy : y ∈ l := List.mem_of_getElem? h
    simp only [List.eraseIdx_cons_succ, List.mem_cons, ih]
    constructor
    · rintro (h3 | h3)
      · exact ⟨Or.inl h3, fun e => h1 (by rw [← h3, e]; exact hy)⟩
      · exact ⟨Or.inr h3.1, h3.2⟩
    · rintro ⟨h3 | h3, h4⟩
      · exact Or.inl h3
      · exact Or.inr ⟨h3, h4⟩
theorem map_erase7 {α : Type} (f : Int × Int → α) : ∀ (l : List (Int × Int)) (k : Nat), (l.eraseIdx k).map f = (l.map f).eraseIdx k
  | [], k => rfl
  | x :: l, 0 => rfl
  | x :: l, k + 1 => by simp [map_erase7 f l k]
theorem nodup_erase7 {α : Type} (l : List α) (k : Nat) (h : l.Nodup) : (l.eraseIdx k).Nodup := h.sublist (List.eraseIdx_sublist l k)
theorem qf7_snoc (l : List (Int × Int)) (q y q' : Int) : qf7 (l ++ [(q, y)]) q' = if q' = q then qf7 l q' ++ [y] else qf7 l q' := by
  unfold qf7
  rw [List.filter_append, List.map_append]
  by_cases h : q' = q
  · subst h; simp
  · rw [if_neg h]
    have : ¬ q = q' := fun e => h e.symm
    simp [this]
theorem qf7_cons (p : Int × Int) (l : List (Int × Int)) (q : Int) : qf7 (p :: l) q = if p.1 = q then p.2 :: qf7 l q else qf7 l q := by
  unfold qf7
  rw [List.filter_cons]
  by_cases h : p.1 = q
  · simp [h]
  · simp [h]
theorem qf7_mem (l : List (Int × Int)) (q y : Int) : y ∈ qf7 l q ↔ (q, y) ∈ l := by
  unfold qf7
  constructor
  · intro h
    obtain ⟨p, hp, e⟩ := List.mem_map.1 h
    obtain ⟨h1, h2⟩ := List.mem_filter.1 hp
    simp at h2
    obtain ⟨a, b⟩ := p
    simp at h2 e
    subst h2 e
    exact h1
  · intro h
    exact List.mem_map.2 ⟨(q, y), List.mem_filter.2 ⟨h, by simp⟩, rfl⟩
theorem qf7_erase : ∀ (l : List (Int × Int)) (k : Nat) (q y : Int), (l.map (·.2)).Nodup → l[k]? = some (q, y) → ∀ q', qf7 (l.eraseIdx k) q' = if q' = q then (qf7 l q').erase y else qf7 l q'
  | [], k, q, y, _, h, q' => by simp at h
  | p :: l, 0, q, y, hn, h, q' => by
    simp at h
    subst h
    rw [List.eraseIdx_cons_zero, qf7_cons]
    by_cases e : q' = q
    · subst e; simp
    · have : ¬ q = q' := fun e2 => e e2.symm
      simp [e, this]
  | p :: l, k + 1, q, y, hn, h, q' => by
    simp at h
    rw [List.map_cons] at hn
    obtain ⟨h1, h2⟩ := List.nodup_cons.1 hn
    have ih := qf7_erase l k q y h2 h q'
    have hy : y ∈ l.map (·.2) := List.mem_map.2 ⟨(q, y), List.mem_of_getElem? h, rfl⟩
    have hne : p.2 ≠ y := fun e => h1 (e ▸ hy)
    rw [List.eraseIdx_cons_succ, qf7_cons, qf7_cons, ih]
    by_cases e : q' = q
    · subst e
      by_cases e2 : p.1 = q'
      · simp [e2, List.erase_cons_tail, hne]
      · simp [e2]
    · simp [e]
/-- The pool's lists and the answer's. -/
structure Rl7 (es : List EntI) (fr : List Int) (Ls : List (List Int)) (its ins : List (Int × Int)) (back : List Int) (nev : Int) : Prop where
  bk : back = fr
  nv : nev = es.length
  il : its.length + fr.length = es.length
  ik : (its.map (·.1)).Nodup
  im : ∀ y : Int, y ∈ its.map (·.1) ↔ tkOfI es y = true
  ix : ∀ p ∈ its, p.2 = xOf es p.1
  iq : ∀ q : Int, qf7 ins q = inQ Ls q
  inn : (ins.map (·.2)).Nodup
  if_ : ∀ y : Int, y ∈ ins.map (·.2) ↔ y ∈ Ls.flatten
section
variable {es es' : List EntI} {fr fr' : List Int} {qs : List (Int × Int × Int)} {Ls : List (List Int)} {its ins : List (Int × Int)} {back : List Int} {nev : Int}
theorem Rl7.start (m : Nat) : Rl7 [] [] (List.replicate m []) [] [] [] 0 := by
  have hf : (List.replicate m ([] : List Int)).flatten = [] := by
    induction m with
    | zero => rfl
    | succ m ih => rw [List.replicate_succ, List.flatten_cons, ih]; rfl
  refine ⟨rfl, rfl, rfl, List.nodup_nil, fun y => ?_, (fun p hp => by cases hp), fun q => ?_, List.nodup_nil, fun y => by rw [hf]; simp⟩
  · constructor
    · intro h; cases h
    · intro h
      rw [tkOf_outI _ y (by rcases Int.lt_or_le y 0 with h0 | h0; exact Or.inl h0; exact Or.inr (by simpa using h0))] at h
      cases h
  · unfold inQ qf7
    split
    · rw [List.getD_eq_getElem?_getD, List.getElem?_replicate]
      split <;> rfl
    · rfl
theorem Rl7.tk (h : Rl7 es fr Ls its ins back nev) (hp : PInv es fr qs Ls) {x : Int} {k : Nat} (t : Took es fr x k es' fr') : Rl7 es' fr' Ls (its ++ [((k : Int), x)]) ins fr' (es'.length) ∧ ((fr = [] ∧ (k : Int) = nev ∧ fr' = [] ∧ (es'.length : Int) = nev + 1) ∨ (fr = fr' ++ [(k : Int)] ∧ (es'.length : Int) = nev)) := by
  obtain ⟨t1, t2, t3⟩ := t.tells hp
  have hnk : (k : Int) ∉ its.map (·.1) := fun hm => by rw [(h.im k).1 hm] at t1; cases t1
  have hlen : its.length + 1 + fr'.length = es'.length := by
    have := h.il
    rcases t with ⟨e1, e2, e3, e4⟩ | ⟨e1, e2⟩
    · rw [e3, e4, List.length_append]
      rw [e1] at this
      simp at this ⊢
      omega
    · rw [e2, List.length_set]
      rw [e1, List.length_append] at this
      simp at this
      omega
  refine ⟨⟨rfl, rfl, by rw [List.length_append]; exact hlen, ?_, fun y => ?_, fun p hpm => ?_, h.iq, h.inn, h.if_⟩, ?_⟩
  · rw [List.map_append, List.nodup_append]
    exact ⟨h.ik, by simp, fun a ha b hb => by
      simp at hb
      intro e
      exact hnk (by rw [← hb, ← e]; exact ha)⟩
  · rw [List.map_append, List.mem_append, h.im y, t2 y]
    by_cases e : y = (k : Int)
    · simp [e]
    · simp [e]
  · rw [t3]
    rcases List.mem_append.1 hpm with hpm | hpm
    · have hne : ¬ p.1 = (k : Int) := fun e => hnk (e ▸ List.mem_map.2 ⟨p, hpm, rfl⟩)
      rw [if_neg hne]
      exact h.ix p hpm
    · simp at hpm
      subst hpm
      simp
  · have hv := h.nv
    rcases t with ⟨e1, e2, e3, e4⟩ | ⟨e1, e2⟩
    · exact Or.inl ⟨e1, by rw [e2, hv], e4, by rw [e3, hv]; simp⟩
    · exact Or.inr ⟨e1, by rw [e2, hv]; simp⟩
theorem Rl7.give (h : Rl7 es fr Ls its ins back nev) {k : Nat} (hk : k < es.length) (ht : tkOfI es k = true) {j : Nat} (hj : j < its.length) (hjk : fst7 its j = k) : Rl7 (es.set k ⟨0, false, false, 0⟩) (fr ++ [(k : Int)]) Ls (its.eraseIdx j) ins (fr ++ [(k : Int)]) nev := by
  have hidx := map_fst7 its j hj
  rw [hjk] at hidx
  refine ⟨rfl, by rw [List.length_set]; exact h.nv, ?_, ?_, fun y => ?_, fun p hp => ?_, h.iq, h.inn, h.if_⟩
  · rw [List.length_eraseIdx_of_lt hj, List.length_append, List.length_set]
    have := h.il
    simp
    omega
  · rw [map_erase7]
    exact nodup_erase7 _ _ h.ik
  · rw [map_erase7, mem_erase7 _ _ _ h.ik hidx, h.im, tkOf_set es k _ hk]
    by_cases e : y = (k : Int)
    · simp [e]
    · simp [e]
  · have hp' : p.1 ∈ (its.eraseIdx j).map (·.1) := List.mem_map.2 ⟨p, hp, rfl⟩
    rw [map_erase7, mem_erase7 _ _ _ h.ik hidx] at hp'
    rw [xOf_set es k _ hk, if_neg hp'.2]
    exact h.ix p (List.mem_of_mem_eraseIdx hp)
theorem Rl7.turn (h : Rl7 es fr Ls its ins back nev) (hl : es'.length = es.length) (htk : ∀ y : Int, tkOfI es' y = tkOfI es y) (hx : ∀ y : Int, xOf es' y = xOf es y) {Ls' : List (List Int)} {ins' : List (Int × Int)} (iq : ∀ q : Int, qf7 ins' q = inQ Ls' q) (inn : (ins'.map (·.2)).Nodup) (if_ : ∀ y : Int, y ∈ ins'.map (·.2) ↔ y ∈ Ls'.flatten) : Rl7 es' fr Ls' its ins' back nev :=
  ⟨h.bk, by rw [hl]; exact h.nv, by rw [hl]; exact h.il, h.ik, fun y => by rw [htk]; exact h.im y, fun p hp => by rw [hx]; exact h.ix p hp, iq, inn, if_⟩
end
theorem inQ_set (Ls : List (List Int)) (j : Nat) (hj : j < Ls.length) (L : List Int) (q : Int) : inQ (Ls.set j L) q = if q = (j : Int) then L else inQ Ls q := by
  unfold inQ
  by_cases h0 : 0 ≤ q
  · rw [if_pos h0, if_pos h0, List.getD_eq_getElem?_getD, List.getD_eq_getElem?_getD]
    by_cases e : q = (j : Int)
    · subst e
      rw [if_pos rfl, Int.toNat_natCast, List.getElem?_set_self hj]
      rfl
    · rw [if_neg e, List.getElem?_set_ne (by omega)]
  · rw [if_neg h0, if_neg h0, if_neg (by omega)]
theorem same_tk {es es' : List EntI} (hl : es'.length = es.length) (hh : ∀ i (hi : i < es.length) (hi' : i < es'.length), (es'[i]).x = (es[i]).x ∧ (es'[i]).tk = (es[i]).tk) : (∀ y : Int, tkOfI es' y = tkOfI es y) ∧ ∀ y : Int, xOf es' y = xOf es y := by
  constructor
  · intro y
    by_cases h : 0 ≤ y ∧ y < es.length
    · obtain ⟨k, rfl⟩ := Int.eq_ofNat_of_zero_le h.1
      rw [tkOf_inI _ k (by omega), tkOf_inI _ k (by omega)]
      exact (hh k (by omega) (by omega)).2
    · rw [tkOf_outI es' y (by omega), tkOf_outI es y (by omega)]
  · intro y
    by_cases h : 0 ≤ y ∧ y < es.length
    · obtain ⟨k, rfl⟩ := Int.eq_ofNat_of_zero_le h.1
      rw [xOf_in _ k (by omega), xOf_in _ k (by omega)]
      exact (hh k (by omega) (by omega)).1
    · unfold xOf
      by_cases h0 : 0 ≤ y
      · rw [if_pos h0, if_pos h0, List.getElem?_eq_none (by omega), List.getElem?_eq_none (by omega)]
      · rw [if_neg h0, if_neg h0]
section
variable {es es' : List EntI} {fr fr' : List Int} {qs : List (Int × Int × Int)} {Ls : List (List Int)} {its ins : List (Int × Int)} {back : List Int} {nev : Int}
theorem Rl7.app (h : Rl7 es fr Ls its ins back nev) {j : Nat} (hj : j < Ls.length) {y : Int} (hy : y ∉ Ls.flatten) (hl : es'.length = es.length) (hh : ∀ i (hi : i < es.length) (hi' : i < es'.length), (es'[i]).x = (es[i]).x ∧ (es'[i]).tk = (es[i]).tk) : Rl7 es' fr (Ls.set j (Ls[j] ++ [y])) its (ins ++ [((j : Int), y)]) back nev := by
  obtain ⟨h1, h2⟩ := same_tk hl hh
  refine h.turn hl h1 h2 (fun q => ?_) ?_ (fun z => ?_)
  · rw [qf7_snoc, inQ_set Ls j hj]
    by_cases e : q = (j : Int)
    · rw [if_pos e, if_pos e, h.iq, e]
      unfold inQ
      rw [if_pos (by omega), Int.toNat_natCast, List.getD_eq_getElem?_getD, List.getElem?_eq_getElem hj]
      rfl
    · rw [if_neg e, if_neg e, h.iq]
  · rw [List.map_append, List.nodup_append]
    exact ⟨h.inn, by simp, fun a ha b hb => by
      simp at hb
      intro e
      exact hy ((h.if_ y).1 (by rw [← hb, ← e]; exact ha))⟩
  · rw [List.map_append, List.mem_append, h.if_ z]
    constructor
    · rintro (h3 | h3)
      · obtain ⟨L, hL, hz⟩ := List.mem_flatten.1 h3
        obtain ⟨i, hi, e⟩ := List.getElem_of_mem hL
        by_cases ej : j = i
        · subst ej
          exact List.mem_flatten.2 ⟨Ls[j] ++ [y], List.mem_set hj _, List.mem_append.2 (Or.inl (e ▸ hz))⟩
        · refine List.mem_flatten.2 ⟨L, ?_, hz⟩
          rw [← e]
          exact List.mem_iff_getElem.2 ⟨i, by rw [List.length_set]; exact hi, List.getElem_set_ne ej _⟩
      · simp at h3
        subst h3
        exact List.mem_flatten.2 ⟨Ls[j] ++ [z], List.mem_set hj _, by simp⟩
    · intro h3
      obtain ⟨L, hL, hz⟩ := List.mem_flatten.1 h3
      rcases List.mem_or_eq_of_mem_set hL with h4 | h4
      · exact Or.inl (List.mem_flatten.2 ⟨L, h4, hz⟩)
      · rw [h4] at hz
        rcases List.mem_append.1 hz with h5 | h5
        · exact Or.inl (List.mem_flatten.2 ⟨Ls[j], List.getElem_mem hj, h5⟩)
        · exact Or.inr (by simpa using h5)
/-- The first of a queue stands where its handle does. -/
theorem Rl7.head (h : Rl7 es fr Ls its ins back nev) {q y : Int} (hy : y ∈ qf7 ins q) {m : Nat} (hm : m < ins.length) (hmy : snd7 ins m = y) : ins[m]? = some (q, y) := by
  rw [qf7_mem] at hy
  obtain ⟨i, hi, e⟩ := List.getElem_of_mem hy
  have h1 := map_snd7 ins m hm
  have h2 : (ins.map (·.2))[i]? = some y := by rw [List.getElem?_map, List.getElem?_eq_getElem hi, e]; rfl
  rw [hmy] at h1
  have : m = i := (List.getElem?_inj (by rw [List.length_map]; exact hm) h.inn).1 (h1.trans h2.symm)
  subst this
  rw [List.getElem?_eq_getElem hi, e]
theorem Rl7.pop (h : Rl7 es fr Ls its ins back nev) (hp : PInv es fr qs Ls) {j : Nat} (hj : j < Ls.length) {k : Nat} {rest : List Int} (hL : Ls[j] = (k : Int) :: rest) {m : Nat} (hm : ins[m]? = some ((j : Int), (k : Int))) (hl : es'.length = es.length) (hh : ∀ i (hi : i < es.length) (hi' : i < es'.length), (es'[i]).x = (es[i]).x ∧ (es'[i]).tk = (es[i]).tk) : Rl7 es' fr (Ls.set j rest) its (ins.eraseIdx m) back nev := by
  obtain ⟨h1, h2⟩ := same_tk hl hh
  have hmi : (ins.map (·.2))[m]? = some (k : Int) := by rw [List.getElem?_map, hm]; rfl
  refine h.turn hl h1 h2 (fun q => ?_) ?_ (fun z => ?_)
  · rw [qf7_erase ins m j k h.inn hm, inQ_set Ls j hj, h.iq]
    by_cases e : q = (j : Int)
    · rw [if_pos e, if_pos e, e]
      unfold inQ
      rw [if_pos (by omega), Int.toNat_natCast, List.getD_eq_getElem?_getD, List.getElem?_eq_getElem hj, Option.getD_some, hL]
      simp
    · rw [if_neg e, if_neg e]
  · rw [map_erase7]
    exact nodup_erase7 _ _ h.inn
  · rw [map_erase7, mem_erase7 _ _ _ h.inn hmi, h.if_ z]
    obtain ⟨A, C, hLs, hA, hset⟩ := flat_split Ls j hj
    have hn := hp.qn
    have hfl : Ls.flatten = A.flatten ++ ((k : Int) :: rest ++ C.flatten) := by
      conv => lhs; rw [hLs]
      rw [hL]; simp
    have hfs : (Ls.set j rest).flatten = A.flatten ++ (rest ++ C.flatten) := by
      rw [hset rest]; simp
    rw [hfl] at hn
    rw [hfl, hfs]
    rw [List.nodup_append] at hn
    obtain ⟨n1, n2, n3⟩ := hn
    rw [List.cons_append] at n2 n3
    obtain ⟨n4, n5⟩ := List.nodup_cons.1 n2
    constructor
    · rintro ⟨h3, h4⟩
      rcases List.mem_append.1 h3 with h5 | h5
      · exact List.mem_append.2 (Or.inl h5)
      · rw [List.cons_append] at h5
        rcases List.mem_cons.1 h5 with h6 | h6
        · exact absurd h6 h4
        · exact List.mem_append.2 (Or.inr h6)
    · intro h3
      rcases List.mem_append.1 h3 with h5 | h5
      · exact ⟨List.mem_append.2 (Or.inl h5), fun e => n3 z h5 (k : Int) List.mem_cons_self e⟩
      · exact ⟨List.mem_append.2 (Or.inr (by rw [List.cons_append]; exact List.mem_cons_of_mem _ h5)), fun e => n4 (e ▸ h5)⟩
end
end Go.Proofs.Ytmkgadndfiiacaa
