/-
  What holds of a pool's lists through all that is done with it: handles given back stand once and are not taken; a queue's chain is a list; no handle stands twice. No Go in it. No condition.
-/
import Derived.Test.YtmkgadndfiiacaaPoolQ2
namespace Go.Proofs.Ytmkgadndfiiacaa
set_option linter.unusedVariables false
set_option linter.unusedSimpArgs false

theorem nodup_bound : ∀ (n : Nat) (l : List Int), l.Nodup → (∀ x ∈ l, 0 ≤ x ∧ x < (n : Int)) → l.length ≤ n
  | 0, [], _, _ => Nat.le_refl _
  | 0, x :: l, _, h => by have := h x (by simp); omega
  | n + 1, l, hd, h => by
    by_cases hn : (n : Int) ∈ l
    · have h1 := nodup_bound n (l.erase (n : Int)) (hd.erase _) (fun x hx => by
        have h2 := h x (List.mem_of_mem_erase hx)
        have h3 : x ≠ (n : Int) := fun e => (hd.not_mem_erase) (e ▸ hx)
        omega)
      rw [List.length_erase_of_mem hn] at h1
      omega
    · have h1 := nodup_bound n l hd (fun x hx => by
        have h2 := h x hx
        have h3 : x ≠ (n : Int) := fun e => hn (e ▸ hx)
        omega)
      omega
/-- The handle behind one. -/
def nxI (es : List EntI) (x : Int) : Int := ((es[x.toNat]?).map EntI.nx).getD 0
theorem chainI_succ (es : List EntI) (h : Int) (n : Nat) : chainI es h (n + 1) = h :: chainI es (nxI es h) n := rfl
theorem chain_congr (es es' : List EntI) : ∀ (n : Nat) (h : Int), (∀ x ∈ chainI es h n, nxI es' x = nxI es x) → chainI es' h n = chainI es h n
  | 0, _, _ => rfl
  | n + 1, h, hx => by
    rw [chainI_succ, chainI_succ] at *
    rw [hx h (by simp), chain_congr es es' n _ (fun x hm => hx x (by simp [hm]))]
theorem chain_snoc (es es' : List EntI) (l k : Int) (hk : nxI es' l = k) : ∀ (n : Nat) (h : Int), (∀ x ∈ chainI es h (n + 1), x ≠ l → nxI es' x = nxI es x) → (chainI es h (n + 1)).getLast? = some l → (chainI es h (n + 1)).Nodup → chainI es' h (n + 2) = chainI es h (n + 1) ++ [k]
  | 0, h, _, hl, _ => by
    have : h = l := by simpa [chainI] using hl
    subst this
    rw [chainI_succ, chainI_succ, hk]; rfl
  | n + 1, h, hx, hl, hd => by
    rw [chainI_succ] at hx hl hd
    have hl2 : (chainI es (nxI es h) (n + 1)).getLast? = some l := by
      rw [chainI_succ] at hl ⊢
      simpa [List.getLast?_cons_cons] using hl
    have hm : l ∈ chainI es (nxI es h) (n + 1) := List.mem_of_getLast? hl2
    have hne : h ≠ l := fun e => (List.nodup_cons.1 hd).1 (e ▸ hm)
    have ih := chain_snoc es es' l k hk n (nxI es h) (fun x hx' hn => hx x (by simp [hx']) hn) hl2 (List.nodup_cons.1 hd).2
    rw [chainI_succ es' h (n + 2), hx h (by simp) hne, ih, chainI_succ es h (n + 1)]
    simp
theorem nxI_append (es : List EntI) (e : EntI) (x : Int) (h : x < (es.length : Int)) (h0 : 0 ≤ x) : nxI (es ++ [e]) x = nxI es x := by
  unfold nxI
  rw [List.getElem?_append_left (by omega)]
theorem nxI_set (es : List EntI) (i : Nat) (e : EntI) (x : Int) (h0 : 0 ≤ x) (hx : x ≠ (i : Int)) : nxI (es.set i e) x = nxI es x := by
  unfold nxI
  rw [List.getElem?_set_ne (by omega)]
theorem nxI_set_same (es : List EntI) (i : Nat) (e : EntI) (hi : i < es.length) : nxI (es.set i e) (i : Int) = e.nx := by
  unfold nxI
  rw [Int.toNat_natCast, List.getElem?_set_self hi]; rfl
theorem nxI_at (es : List EntI) (i : Nat) (hi : i < es.length) : nxI es (i : Int) = (es[i]).nx := by
  unfold nxI
  rw [Int.toNat_natCast, List.getElem?_eq_getElem hi]; rfl

/-- What holds of a pool's lists; Ls: what stands in each queue. -/
structure PInv (es : List EntI) (fr : List Int) (qs : List (Int × Int × Int)) (Ls : List (List Int)) : Prop where
  ll : Ls.length = qs.length
  fn : fr.Nodup
  fb : ∀ x ∈ fr, 0 ≤ x ∧ x < (es.length : Int)
  fm : ∀ i (hi : i < es.length), ((i : Int) ∈ fr ↔ (es[i]).tk = false)
  qn : Ls.flatten.Nodup
  qm : ∀ i (hi : i < es.length), ((es[i]).qd = true ↔ (i : Int) ∈ Ls.flatten)
  qt : ∀ x ∈ Ls.flatten, ∃ i : Nat, x = i ∧ ∃ hi : i < es.length, (es[i]).tk = true
  qc : ∀ j (hj : j < qs.length) (hj' : j < Ls.length), (qs[j]).2.2 = (Ls[j]).length ∧ Ls[j] = chainI es (qs[j]).1 (Ls[j]).length ∧ (Ls[j] ≠ [] → (Ls[j]).getLast? = some (qs[j]).2.1)
theorem PInv.free_lt {es : List EntI} {fr : List Int} {qs : List (Int × Int × Int)} {Ls : List (List Int)} (h : PInv es fr qs Ls) (k : Nat) (hk : k < es.length) (ht : (es[k]).tk = true) : fr.length < es.length := by
  have hn : (k : Int) ∉ fr := fun hm => by rw [(h.fm k hk).1 hm] at ht; cases ht
  have := nodup_bound es.length ((k : Int) :: fr) (List.nodup_cons.2 ⟨hn, h.fn⟩) (fun x hx => by
    rcases List.mem_cons.1 hx with rfl | hx
    · omega
    · exact h.fb x hx)
  rw [List.length_cons] at this
  omega
theorem PInv.start (m : Nat) : PInv [] [] (List.replicate m (0, 0, 0)) (List.replicate m []) := by
  have hf : (List.replicate m ([] : List Int)).flatten = [] := by
    induction m with
    | zero => rfl
    | succ m ih => rw [List.replicate_succ, List.flatten_cons, ih]; rfl
  refine ⟨by simp, List.nodup_nil, (fun x hx => by cases hx), fun i hi => absurd hi (Nat.not_lt_zero _), (by rw [hf]; exact List.nodup_nil), fun i hi => absurd hi (Nat.not_lt_zero _), (fun x hx => by rw [hf] at hx; cases hx), fun j hj hj' => ?_⟩
  rw [List.getElem_replicate, List.getElem_replicate]
  exact ⟨rfl, rfl, fun e => absurd rfl e⟩
theorem PInv.mem_flat {es : List EntI} {fr : List Int} {qs : List (Int × Int × Int)} {Ls : List (List Int)} (h : PInv es fr qs Ls) {j : Nat} (hj : j < Ls.length) {x : Int} (hx : x ∈ Ls[j]) : x ∈ Ls.flatten := List.mem_flatten.2 ⟨Ls[j], List.getElem_mem hj, hx⟩
/-- A handle is taken that was never taken. -/
theorem PInv.takeNew {es : List EntI} {qs : List (Int × Int × Int)} {Ls : List (List Int)} (h : PInv es [] qs Ls) (x : Int) : PInv (es ++ [⟨x, true, false, 0⟩]) [] qs Ls := by
  have hin : ∀ y ∈ Ls.flatten, 0 ≤ y ∧ y < (es.length : Int) := fun y hy => by obtain ⟨i, rfl, hi, _⟩ := h.qt y hy; omega
  refine ⟨h.ll, List.nodup_nil, (fun y hy => by cases hy), fun i hi => ?_, h.qn, fun i hi => ?_, fun y hy => ?_, fun j hj hj' => ?_⟩
  · rcases Nat.lt_or_ge i es.length with h1 | h1
    · rw [List.getElem_append_left h1]; exact h.fm i h1
    · have : i = es.length := by simp at hi; omega
      subst this
      simp
  · rcases Nat.lt_or_ge i es.length with h1 | h1
    · rw [List.getElem_append_left h1]; exact h.qm i h1
    · have : i = es.length := by simp at hi; omega
      subst this
      simp only [List.getElem_append_right (Nat.le_refl _), Nat.sub_self, List.getElem_cons_zero]
      exact ⟨(fun e => by cases e), (fun hm => by have := hin _ hm; omega)⟩
  · obtain ⟨i, rfl, hi, ht⟩ := h.qt y hy
    exact ⟨i, rfl, by simp; omega, by rw [List.getElem_append_left hi]; exact ht⟩
  · obtain ⟨c1, c2, c3⟩ := h.qc j hj hj'
    refine ⟨c1, ?_, c3⟩
    rw [chain_congr es _ _ _ (fun y hy => by
      rw [← c2] at hy
      have := hin y (h.mem_flat hj' hy)
      exact nxI_append es _ y this.2 this.1)]
    exact c2
/-- What is kept of a handle that stands in no queue turns, its place in no queue. -/
theorem PInv.putEnt {es : List EntI} {fr fr' : List Int} {qs : List (Int × Int × Int)} {Ls : List (List Int)} (h : PInv es fr qs Ls) (k : Nat) (hk : k < es.length) (e : EntI) (hq : (k : Int) ∉ Ls.flatten) (he : e.qd = false)
    (f1 : fr'.Nodup) (f2 : ∀ x ∈ fr', 0 ≤ x ∧ x < (es.length : Int)) (f3 : (k : Int) ∈ fr' ↔ e.tk = false) (f4 : ∀ x, x ≠ (k : Int) → (x ∈ fr' ↔ x ∈ fr)) : PInv (es.set k e) fr' qs Ls := by
  refine ⟨h.ll, f1, by rw [List.length_set]; exact f2, fun i hi => ?_, h.qn, fun i hi => ?_, fun y hy => ?_, fun j hj hj' => ?_⟩
  · rw [List.length_set] at hi
    by_cases hik : k = i
    · subst hik; rw [List.getElem_set_self]; exact f3
    · rw [List.getElem_set_ne hik, f4 _ (by omega)]; exact h.fm i hi
  · rw [List.length_set] at hi
    by_cases hik : k = i
    · subst hik; rw [List.getElem_set_self, he]; exact ⟨(fun e => by cases e), fun hm => absurd hm hq⟩
    · rw [List.getElem_set_ne hik]; exact h.qm i hi
  · obtain ⟨i, rfl, hi, ht⟩ := h.qt y hy
    have hik : k ≠ i := fun e => hq (e ▸ hy)
    exact ⟨i, rfl, by rw [List.length_set]; exact hi, by rw [List.getElem_set_ne hik]; exact ht⟩
  · obtain ⟨c1, c2, c3⟩ := h.qc j hj hj'
    refine ⟨c1, ?_, c3⟩
    rw [chain_congr es _ _ _ (fun y hy => by
      rw [← c2] at hy
      have hm := h.mem_flat hj' hy
      obtain ⟨i, rfl, hi, ht⟩ := h.qt y hm
      exact nxI_set es k e _ (by omega) (fun e => hq (e ▸ hm)))]
    exact c2
theorem PInv.takeFree {es : List EntI} {fs : List Int} {k : Nat} {qs : List (Int × Int × Int)} {Ls : List (List Int)} (h : PInv es (fs ++ [(k : Int)]) qs Ls) (x : Int) : PInv (es.set k ⟨x, true, false, 0⟩) fs qs Ls := by
  have hk : k < es.length := by have := (h.fb (k : Int) (by simp)).2; omega
  have hn := h.fn
  rw [List.nodup_append] at hn
  have hkf : (k : Int) ∉ fs := fun hm => hn.2.2 _ hm _ (by simp) rfl
  refine h.putEnt k hk _ (fun hm => ?_) rfl hn.1 (fun y hy => h.fb y (by simp [hy])) ?_ (fun y hy => ?_)
  · obtain ⟨i, hi1, hi, ht⟩ := h.qt _ hm
    have : i = k := by omega
    subst this
    have := (h.fm i hk).1 (by simp)
    rw [this] at ht; cases ht
  · exact ⟨fun hm => absurd hm hkf, (fun e => by cases e)⟩
  · simp [hy]
theorem PInv.give {es : List EntI} {fr : List Int} {k : Nat} {qs : List (Int × Int × Int)} {Ls : List (List Int)} (h : PInv es fr qs Ls) (hk : k < es.length) (ht : (es[k]).tk = true) (hq : (es[k]).qd = false) : PInv (es.set k ⟨0, false, false, 0⟩) (fr ++ [(k : Int)]) qs Ls := by
  have hkf : (k : Int) ∉ fr := fun hm => by rw [(h.fm k hk).1 hm] at ht; cases ht
  refine h.putEnt k hk _ (fun hm => ?_) rfl ?_ (fun y hy => ?_) ?_ (fun y hy => ?_)
  · rw [(h.qm k hk).2 hm] at hq; cases hq
  · rw [List.nodup_append]
    exact ⟨h.fn, by simp, fun a ha b hb e => by
      have : b = (k : Int) := by simpa using hb
      exact hkf (by rw [← this, ← e]; exact ha)⟩
  · rcases List.mem_append.1 hy with hy | hy
    · exact h.fb y hy
    · have : y = (k : Int) := by simpa using hy
      omega
  · simp
  · simp [hy]
theorem flat_split (Ls : List (List Int)) (j : Nat) (hj : j < Ls.length) : ∃ A C : List (List Int), Ls = A ++ Ls[j] :: C ∧ A.length = j ∧ ∀ L', Ls.set j L' = A ++ L' :: C := by
  refine ⟨Ls.take j, Ls.drop (j + 1), ?_, by rw [List.length_take]; omega, fun L' => ?_⟩
  · rw [← List.drop_eq_getElem_cons hj, List.take_append_drop]
  · rw [List.set_eq_take_append_cons_drop, if_pos hj]
/-- One queue turns. -/
theorem PInv.turnQ {es es' : List EntI} {fr : List Int} {qs : List (Int × Int × Int)} {Ls : List (List Int)} (h : PInv es fr qs Ls) (j : Nat) (hj : j < qs.length) (q' : Int × Int × Int) (L' : List Int)
    (e1 : es'.length = es.length) (e2 : ∀ i (hi : i < es.length) (hi' : i < es'.length), (es'[i]).tk = (es[i]).tk)
    (e3 : ∀ i (hi' : i < es'.length), ((es'[i]).qd = true ↔ (i : Int) ∈ (Ls.set j L').flatten)) (e4 : (Ls.set j L').flatten.Nodup)
    (e5 : ∀ x ∈ (Ls.set j L').flatten, ∃ i : Nat, x = i ∧ ∃ hi : i < es.length, (es[i]).tk = true)
    (e6 : ∀ p (hp : p < Ls.length), p ≠ j → ∀ x ∈ Ls[p], nxI es' x = nxI es x)
    (e7 : q'.2.2 = L'.length) (e8 : L' = chainI es' q'.1 L'.length) (e9 : L' ≠ [] → L'.getLast? = some q'.2.1) : PInv es' fr (qs.set j q') (Ls.set j L') := by
  refine ⟨by rw [List.length_set, List.length_set]; exact h.ll, h.fn, by rw [e1]; exact h.fb, fun i hi => ?_, e4, e3, fun x hx => ?_, fun p hp hp' => ?_⟩
  · rw [e2 i (by omega) hi]; exact h.fm i (by omega)
  · obtain ⟨i, rfl, hi, ht⟩ := e5 x hx
    exact ⟨i, rfl, by omega, by rw [e2 i hi (by omega)]; exact ht⟩
  · rw [List.length_set] at hp hp'
    by_cases hpj : j = p
    · subst hpj
      rw [List.getElem_set_self, List.getElem_set_self]
      exact ⟨e7, e8, e9⟩
    · rw [List.getElem_set_ne hpj, List.getElem_set_ne hpj]
      obtain ⟨c1, c2, c3⟩ := h.qc p hp hp'
      refine ⟨c1, ?_, c3⟩
      rw [chain_congr es es' _ _ (fun y hy => by rw [← c2] at hy; exact e6 p hp' (Ne.symm hpj) y hy)]
      exact c2
theorem PInv.pop {es : List EntI} {fr : List Int} {qs : List (Int × Int × Int)} {Ls : List (List Int)} (h : PInv es fr qs Ls) (j : Nat) (hj : j < qs.length) (hj' : j < Ls.length) (k : Nat) (hk : k < es.length) (rest : List Int) (hL : Ls[j] = (k : Int) :: rest) :
    PInv (es.set k ⟨(es[k]).x, (es[k]).tk, false, (es[k]).nx⟩) fr (qs.set j ((es[k]).nx, (qs[j]).2.1, (qs[j]).2.2 - 1)) (Ls.set j rest) := by
  obtain ⟨A, C, hLs, hA, hset⟩ := flat_split Ls j hj'
  rw [hL] at hLs
  have hfl : Ls.flatten = A.flatten ++ ((k : Int) :: rest ++ C.flatten) := by rw [hLs]; simp
  have hfs : (Ls.set j rest).flatten = A.flatten ++ (rest ++ C.flatten) := by rw [hset]; simp
  have hnx : ∀ x : Int, 0 ≤ x → nxI (es.set k ⟨(es[k]).x, (es[k]).tk, false, (es[k]).nx⟩) x = nxI es x := fun x h0 => by
    by_cases hx : x = (k : Int)
    · subst hx; rw [nxI_set_same es k _ hk, nxI_at es k hk]
    · exact nxI_set es k _ x h0 hx
  have hmem : ∀ x : Int, x ∈ Ls.flatten ↔ x = (k : Int) ∨ x ∈ (Ls.set j rest).flatten := fun x => by
    rw [hfl, hfs]; simp only [List.mem_append, List.mem_cons]
    constructor
    · rintro (h1 | (h1 | h1) | h1)
      · exact Or.inr (Or.inl h1)
      · exact Or.inl h1
      · exact Or.inr (Or.inr (Or.inl h1))
      · exact Or.inr (Or.inr (Or.inr h1))
    · rintro (h1 | h1 | h1 | h1)
      · exact Or.inr (Or.inl (Or.inl h1))
      · exact Or.inl h1
      · exact Or.inr (Or.inl (Or.inr h1))
      · exact Or.inr (Or.inr h1)
  have hp0 : ((k : Int) :: (A.flatten ++ (rest ++ C.flatten))).Nodup := by
    have := h.qn
    rw [hfl] at this
    exact (List.Perm.nodup_iff (List.perm_middle (a := (k : Int)) (l₁ := A.flatten) (l₂ := rest ++ C.flatten))).1 this
  have hkn : (k : Int) ∉ (Ls.set j rest).flatten := by rw [hfs]; exact (List.nodup_cons.1 hp0).1
  obtain ⟨c1, c2, c3⟩ := h.qc j hj hj'
  rw [hL] at c1 c2 c3
  rw [List.length_cons] at c1 c2
  rw [chainI_succ] at c2
  injection c2 with c4 c5
  refine h.turnQ j hj _ rest (by rw [List.length_set]) (fun i hi hi' => ?_) (fun i hi => ?_) (by rw [hfs]; exact (List.nodup_cons.1 hp0).2) (fun x hx => h.qt x ((hmem x).2 (Or.inr hx))) (fun p hp hpj x hx => ?_) ?_ ?_ (fun hne => ?_)
  · by_cases hik : k = i
    · subst hik; rw [List.getElem_set_self]
    · rw [List.getElem_set_ne hik]
  · rw [List.length_set] at hi
    by_cases hik : k = i
    · subst hik; rw [List.getElem_set_self]; exact ⟨(fun e => by cases e), fun hm => absurd hm hkn⟩
    · rw [List.getElem_set_ne hik, h.qm i hi, hmem]
      exact ⟨fun hh => hh.resolve_left (by omega), Or.inr⟩
  · obtain ⟨i, rfl, _⟩ := h.qt x (h.mem_flat hp hx)
    exact hnx _ (by omega)
  · show (qs[j]).2.2 - 1 = _
    rw [c1]; omega
  · show rest = chainI _ (es[k]).nx _
    rw [chain_congr es _ _ _ (fun y hy => by
      rw [← c4, nxI_at es k hk] at c5
      rw [← c5] at hy
      obtain ⟨i, rfl, _⟩ := h.qt y ((hmem y).2 (Or.inr (by rw [hfs]; simp [hy])))
      exact hnx _ (by omega))]
    rw [← c4, nxI_at es k hk] at c5
    exact c5
  · show rest.getLast? = some (qs[j]).2.1
    rw [← c3 (by simp)]
    cases rest with
    | nil => exact absurd rfl hne
    | cons a l => rw [List.getLast?_cons_cons]
theorem PInv.flat_app {es : List EntI} {fr : List Int} {qs : List (Int × Int × Int)} {Ls : List (List Int)} (h : PInv es fr qs Ls) (j : Nat) (hj' : j < Ls.length) (k : Nat) (hk : k < es.length) (hq : (es[k]).qd = false) :
    (∀ x : Int, x ∈ (Ls.set j (Ls[j] ++ [(k : Int)])).flatten ↔ x = (k : Int) ∨ x ∈ Ls.flatten) ∧ (Ls.set j (Ls[j] ++ [(k : Int)])).flatten.Nodup ∧ (k : Int) ∉ Ls.flatten := by
  obtain ⟨A, C, hLs, hA, hset⟩ := flat_split Ls j hj'
  generalize hL : Ls[j] = L at *
  have hfl : Ls.flatten = A.flatten ++ (L ++ C.flatten) := by rw [hLs]; simp
  have hfs : (Ls.set j (L ++ [(k : Int)])).flatten = (A.flatten ++ L) ++ ((k : Int) :: C.flatten) := by rw [hset]; simp
  have hkn : (k : Int) ∉ Ls.flatten := fun hm => by rw [(h.qm k hk).2 hm] at hq; cases hq
  refine ⟨fun x => ?_, ?_, hkn⟩
  · rw [hfl, hfs]; simp only [List.mem_append, List.mem_cons]
    constructor
    · rintro ((h1 | h1) | h1 | h1)
      · exact Or.inr (Or.inl h1)
      · exact Or.inr (Or.inr (Or.inl h1))
      · exact Or.inl h1
      · exact Or.inr (Or.inr (Or.inr h1))
    · rintro (h1 | h1 | h1 | h1)
      · exact Or.inr (Or.inl h1)
      · exact Or.inl (Or.inl h1)
      · exact Or.inl (Or.inr h1)
      · exact Or.inr (Or.inr h1)
  · rw [hfs, List.Perm.nodup_iff (List.perm_middle (a := (k : Int)) (l₁ := A.flatten ++ L) (l₂ := C.flatten)), List.append_assoc, ← hfl]
    exact List.nodup_cons.2 ⟨hkn, h.qn⟩
theorem PInv.appFirst {es : List EntI} {fr : List Int} {qs : List (Int × Int × Int)} {Ls : List (List Int)} (h : PInv es fr qs Ls) (j : Nat) (hj : j < qs.length) (hj' : j < Ls.length) (k : Nat) (hk : k < es.length) (ht : (es[k]).tk = true) (hq : (es[k]).qd = false) (hL : Ls[j] = []) :
    PInv (es.set k ⟨(es[k]).x, (es[k]).tk, true, (es[k]).nx⟩) fr (qs.set j ((k : Int), (k : Int), 1)) (Ls.set j [(k : Int)]) := by
  have hf := h.flat_app j hj' k hk hq
  rw [hL, List.nil_append] at hf
  obtain ⟨hmem, hnd, hkn⟩ := hf
  have hnx : ∀ x : Int, 0 ≤ x → nxI (es.set k ⟨(es[k]).x, (es[k]).tk, true, (es[k]).nx⟩) x = nxI es x := fun x h0 => by
    by_cases hx : x = (k : Int)
    · subst hx; rw [nxI_set_same es k _ hk, nxI_at es k hk]
    · exact nxI_set es k _ x h0 hx
  refine h.turnQ j hj _ [(k : Int)] (by rw [List.length_set]) (fun i hi hi' => ?_) (fun i hi => ?_) hnd (fun x hx => ?_) (fun p hp hpj x hx => ?_) rfl rfl (fun _ => rfl)
  · by_cases hik : k = i
    · subst hik; rw [List.getElem_set_self]
    · rw [List.getElem_set_ne hik]
  · rw [List.length_set] at hi
    by_cases hik : k = i
    · subst hik; rw [List.getElem_set_self]; exact ⟨fun _ => (hmem _).2 (Or.inl rfl), fun _ => rfl⟩
    · rw [List.getElem_set_ne hik, h.qm i hi, hmem]
      exact ⟨Or.inr, fun hh => hh.resolve_left (by omega)⟩
  · rcases (hmem x).1 hx with rfl | hx
    · exact ⟨k, rfl, hk, ht⟩
    · exact h.qt x hx
  · obtain ⟨i, rfl, _⟩ := h.qt x (h.mem_flat hp hx)
    exact hnx _ (by omega)
theorem PInv.appNext {es : List EntI} {fr : List Int} {qs : List (Int × Int × Int)} {Ls : List (List Int)} (h : PInv es fr qs Ls) (j : Nat) (hj : j < qs.length) (hj' : j < Ls.length) (k : Nat) (hk : k < es.length) (ht : (es[k]).tk = true) (hq : (es[k]).qd = false) (l : Nat) (hl : l < es.length) (hlk : l ≠ k) (hL : (Ls[j]).getLast? = some (l : Int)) :
    PInv ((es.set l ⟨(es[l]).x, (es[l]).tk, (es[l]).qd, (k : Int)⟩).set k ⟨(es[k]).x, (es[k]).tk, true, (es[k]).nx⟩) fr (qs.set j ((qs[j]).1, (k : Int), (qs[j]).2.2 + 1)) (Ls.set j (Ls[j] ++ [(k : Int)])) := by
  obtain ⟨hmem, hnd, hkn⟩ := h.flat_app j hj' k hk hq
  have hk2 : k < (es.set l ⟨(es[l]).x, (es[l]).tk, (es[l]).qd, (k : Int)⟩).length := by rw [List.length_set]; exact hk
  have hnx : ∀ x : Int, 0 ≤ x → x ≠ (l : Int) → nxI ((es.set l ⟨(es[l]).x, (es[l]).tk, (es[l]).qd, (k : Int)⟩).set k ⟨(es[k]).x, (es[k]).tk, true, (es[k]).nx⟩) x = nxI es x := fun x h0 hx0 => by
    by_cases hx : x = (k : Int)
    · subst hx; rw [nxI_set_same _ k _ hk2, nxI_at es k hk]
    · rw [nxI_set _ k _ x h0 hx, nxI_set es l _ x h0 hx0]
  have hnl : nxI ((es.set l ⟨(es[l]).x, (es[l]).tk, (es[l]).qd, (k : Int)⟩).set k ⟨(es[k]).x, (es[k]).tk, true, (es[k]).nx⟩) (l : Int) = k := by
    rw [nxI_set _ k _ _ (by omega) (by omega), nxI_set_same es l _ hl]
  obtain ⟨A, C, hLs, hA, hset⟩ := flat_split Ls j hj'
  have hfl : Ls.flatten = A.flatten ++ (Ls[j] ++ C.flatten) := by
    conv => lhs; rw [hLs]
    simp
  have hnj : (Ls[j]).Nodup := by
    have := h.qn
    rw [hfl, List.nodup_append] at this
    exact (List.nodup_append.1 this.2.1).1
  have hlj : (l : Int) ∈ Ls[j] := List.mem_of_getLast? hL
  obtain ⟨c1, c2, c3⟩ := h.qc j hj hj'
  obtain ⟨n, hn⟩ : ∃ n, (Ls[j]).length = n + 1 := ⟨(Ls[j]).length - 1, by have := List.length_pos_of_mem hlj; omega⟩
  rw [hn] at c1 c2
  refine h.turnQ j hj _ (Ls[j] ++ [(k : Int)]) (by rw [List.length_set, List.length_set]) (fun i hi hi' => ?_) (fun i hi => ?_) hnd (fun x hx => ?_) (fun p hp hpj x hx => ?_) ?_ ?_ (fun _ => by simp)
  · by_cases hik : k = i
    · subst hik; rw [List.getElem_set_self]
    · rw [List.getElem_set_ne hik]
      by_cases hil : l = i
      · subst hil; rw [List.getElem_set_self]
      · rw [List.getElem_set_ne hil]
  · rw [List.length_set, List.length_set] at hi
    by_cases hik : k = i
    · subst hik; rw [List.getElem_set_self]; exact ⟨fun _ => (hmem _).2 (Or.inl rfl), fun _ => rfl⟩
    · rw [List.getElem_set_ne hik]
      have hh : ∀ (e : (es.set l ⟨(es[l]).x, (es[l]).tk, (es[l]).qd, (k : Int)⟩).length > i), ((es.set l ⟨(es[l]).x, (es[l]).tk, (es[l]).qd, (k : Int)⟩)[i]).qd = (es[i]).qd := fun e => by
        by_cases hil : l = i
        · subst hil; rw [List.getElem_set_self]
        · rw [List.getElem_set_ne hil]
      rw [hh, h.qm i hi, hmem]
      exact ⟨Or.inr, fun hh => hh.resolve_left (by omega)⟩
  · rcases (hmem x).1 hx with rfl | hx
    · exact ⟨k, rfl, hk, ht⟩
    · exact h.qt x hx
  · obtain ⟨i, rfl, _⟩ := h.qt x (h.mem_flat hp hx)
    refine hnx _ (by omega) (fun e => ?_)
    rw [e] at hx
    -- l in two queues
    have hne : p ≠ j := hpj
    obtain ⟨A2, C2, hLs2, hA2, hset2⟩ := flat_split Ls p hp
    have hf2 : Ls.flatten = A2.flatten ++ (Ls[p] ++ C2.flatten) := by
      conv => lhs; rw [hLs2]
      simp
    have hq2 := h.qn
    rw [hf2, List.nodup_append] at hq2
    have hjj : Ls[j] ∈ A2 ∨ Ls[j] ∈ C2 := by
      rcases Nat.lt_or_ge j p with hjp | hjp
      · left
        have : Ls[j] = A2[j]'(by omega) := by
          have := List.getElem_of_eq hLs2 hj'
          rw [this, List.getElem_append_left (by omega)]
        rw [this]; exact List.getElem_mem _
      · right
        have hg := List.getElem_of_eq hLs2 hj'
        rw [List.getElem_append_right (by omega)] at hg
        obtain ⟨d, hd⟩ : ∃ d, j - A2.length = d + 1 := ⟨j - A2.length - 1, by omega⟩
        simp only [hd, List.getElem_cons_succ] at hg
        rw [hg]; exact List.getElem_mem _
    rcases hjj with hjj | hjj
    · exact hq2.2.2 _ (List.mem_flatten.2 ⟨_, hjj, hlj⟩) _ (List.mem_append.2 (Or.inl hx)) rfl
    · exact (List.nodup_append.1 hq2.2.1).2.2 _ hx _ (List.mem_flatten.2 ⟨_, hjj, hlj⟩) rfl
  · show (qs[j]).2.2 + 1 = _
    rw [c1, List.length_append, hn]; simp
  · show _ = chainI _ (qs[j]).1 _
    rw [List.length_append, hn, List.length_singleton]
    rw [c2] at hL hnj
    rw [chain_snoc es _ (l : Int) (k : Int) hnl n (qs[j]).1 (fun x hx hxl => by
      rw [← c2] at hx
      obtain ⟨i, rfl, _⟩ := h.qt x (h.mem_flat hj' hx)
      exact hnx _ (by omega) hxl) hL hnj, ← c2]
end Go.Proofs.Ytmkgadndfiiacaa
