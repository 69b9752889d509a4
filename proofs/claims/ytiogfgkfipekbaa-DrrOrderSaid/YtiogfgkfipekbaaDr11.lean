/-
  Layer 29: items of one class leave in the order in which they came: what is kept from one act to the next. Plain laws on lists, no condition.
-/
import Derived.Test.YtiogfgkfipekbaaDr8
namespace Go.Proofs.Ytiogfgkfipekbaa
set_option linter.unusedVariables false
set_option linter.unusedSimpArgs false
open Go.ChangeShapes Go.WideShapes Go.ChangeAt Go.RowKit

def Ts.tot (S : Ts) : Nat := sumN S.n (fun c => (S.q c).length)
theorem sumN_ge (f : Nat → Nat) : ∀ n c, c < n → f c ≤ sumN n f
  | 0, c, h => by omega
  | n + 1, c, h => by
    show f c ≤ sumN n f + f n
    by_cases e : c = n
    · subst e; omega
    · have := sumN_ge f n c (by omega); omega
theorem sumN_pos (f : Nat → Nat) : ∀ n, 0 < sumN n f → ∃ c, c < n ∧ 0 < f c
  | 0, h => by exact absurd h (Nat.lt_irrefl 0)
  | n + 1, h => by
    by_cases e : 0 < f n
    · exact ⟨n, by omega, e⟩
    · have h2 : 0 < sumN n f + f n := h
      obtain ⟨c, hc, hf⟩ := sumN_pos f n (by omega)
      exact ⟨c, by omega, hf⟩
structure Ord (S : Ts) (last : List Int) (n i : Nat) : Prop where
  inv : TInv S
  ll : last.length = S.n
  ids : ∀ c, c < S.n → ((S.q c).map (·.2)).Pairwise (· < ·) ∧ ∀ x ∈ S.q c, last.getD c 0 < x.2 ∧ x.2 ≤ (i : Int)
  la : ∀ c, c < S.n → last.getD c 0 ≤ (i : Int) ∧ 0 ≤ last.getD c 0
  tot : S.tot = n
theorem Ord.more {S : Ts} {last : List Int} {n i : Nat} (h : Ord S last n i) : Ord S last n (i + 1) :=
  ⟨h.inv, h.ll, fun c hc => ⟨(h.ids c hc).1, fun x hx => ⟨((h.ids c hc).2 x hx).1, by have := ((h.ids c hc).2 x hx).2; omega⟩⟩, fun c hc => ⟨by have := (h.la c hc).1; omega, (h.la c hc).2⟩, h.tot⟩
theorem tot_upd (S : Ts) (c : Nat) (hc : c < S.n) (l : List (Int × Int)) : sumN S.n (fun j => (upd S.q c l j).length) + (S.q c).length = S.tot + l.length := by
  have := sumN_upd S.n (fun j => (S.q j).length) (fun j => (upd S.q c l j).length) c hc (fun j hj => by show (upd S.q c l j).length = _; rw [upd_ne _ _ hj])
  simp only [upd_at] at this
  exact this
theorem Ord.put {S : Ts} {last : List Int} {n i : Nat} (h : Ord S last n i) (hn : n < 1024) (c : Nat) (hc : c < S.n) (size : Int) (s0 : 1 ≤ size) (s1 : size ≤ 65535) : S.may c size = 0 ∧ Ord (S.push c size ((i : Int) + 1)) last (n + 1) (i + 1) := by
  have hl : (S.q c).length ≤ n := by
    have h1 : (S.q c).length ≤ S.tot := sumN_ge (fun c => (S.q c).length) S.n c hc
    rw [h.tot] at h1
    exact h1
  have hm : S.may c size = 0 := by
    unfold Ts.may
    rw [if_neg (fun x => x ⟨by omega, by omega⟩), if_neg (by omega), Int.toNat_natCast, if_neg (by omega)]
  refine ⟨hm, ?_⟩
  have e : S.push c size ((i : Int) + 1) = S.put c (size, (i : Int) + 1) := by unfold Ts.push; rw [if_pos hm, Int.toNat_natCast]
  rw [e]
  refine ⟨put_inv h.inv c hc _ ⟨s0, s1⟩ (by omega), h.ll, fun j hj => ?_, fun j hj => ⟨by have := (h.la j hj).1; omega, (h.la j hj).2⟩, ?_⟩
  · show ((upd S.q c (S.q c ++ [(size, (i : Int) + 1)]) j).map (·.2)).Pairwise (· < ·) ∧ ∀ x ∈ upd S.q c (S.q c ++ [(size, (i : Int) + 1)]) j, _
    obtain ⟨p1, p2⟩ := h.ids j hj
    by_cases ej : j = c
    · subst ej
      rw [upd_at]
      refine ⟨?_, fun x hx => ?_⟩
      · rw [List.map_append, List.pairwise_append]
        refine ⟨p1, by simp, fun a ha b hb => ?_⟩
        obtain ⟨x, hx, rfl⟩ := List.mem_map.1 ha
        have hb2 : b = (i : Int) + 1 := by simpa using hb
        have := (p2 x hx).2
        omega
      · rcases List.mem_append.1 hx with hx | hx
        · exact ⟨(p2 x hx).1, by have := (p2 x hx).2; omega⟩
        · rw [List.mem_singleton] at hx
          subst hx
          have := (h.la j hj).1
          exact ⟨by show last.getD j 0 < (i : Int) + 1; omega, by show (i : Int) + 1 ≤ ((i + 1 : Nat) : Int); omega⟩
    · rw [upd_ne _ _ ej]
      exact ⟨p1, fun x hx => ⟨(p2 x hx).1, by have := (p2 x hx).2; omega⟩⟩
  · have := tot_upd S c hc (S.q c ++ [(size, (i : Int) + 1)])
    rw [List.length_append, List.length_singleton, h.tot] at this
    show sumN S.n (fun j => (upd S.q c (S.q c ++ [(size, (i : Int) + 1)]) j).length) = n + 1
    omega
theorem Ord.fin {S : Ts} {last : List Int} {n i : Nat} (h : Ord S last n i) : Ord S.fin last n i ∧ S.fin.n = S.n ∧ S.fin.q = S.q ∧ S.fin.stop := by
  obtain ⟨st, iv, e1, e2, e3⟩ := fin_ends h.inv
  refine ⟨⟨iv, by rw [e1]; exact h.ll, by rw [e1, e3]; exact h.ids, by rw [e1]; exact h.la, by unfold Ts.tot; rw [e1, e3]; exact h.tot⟩, e1, e3, st⟩
theorem tot_zero {S : Ts} (h : TInv S) : S.R = [] ↔ S.tot = 0 := by
  constructor
  · intro hR
    rcases Nat.eq_zero_or_pos S.tot with h0 | h0
    · exact h0
    · obtain ⟨c, hc, hf⟩ := sumN_pos _ _ h0
      have := (h.rr c hc).2 (fun e => by rw [e] at hf; exact Nat.lt_irrefl _ hf)
      rw [hR] at this
      cases this
  · intro h0
    cases hR : S.R with
    | nil => rfl
    | cons x r =>
      have hne : S.R ≠ [] := by rw [hR]; simp
      obtain ⟨r2, -, hi, hq, -⟩ := h.head hne
      have h1 : (S.q S.hd).length ≤ S.tot := sumN_ge (fun c => (S.q c).length) S.n S.hd hi
      have h2 := List.length_pos_iff.2 hq
      omega
/-- Nothing is left. -/
theorem Ord.none {S : Ts} {last : List Int} {i : Nat} (h : Ord S last 0 i) : S.first = (0, 0, 0, false) ∧ Ord S.next last 0 i := by
  obtain ⟨f, e1, e2, st⟩ := h.fin
  have hR : S.fin.R = [] := (tot_zero f.inv).2 f.tot
  unfold Ts.first Ts.next
  rw [if_pos hR, if_pos hR]
  exact ⟨rfl, f⟩
/-- One is taken. -/
theorem Ord.next {S : Ts} {last : List Int} {n i : Nat} (h : Ord S last (n + 1) i) : ∃ (c : Nat) (sz id : Int), S.first = ((c : Int), sz, id, true) ∧ c < S.n ∧ last.getD c 0 < id ∧ id ≤ (i : Int) ∧ Ord S.next (last.set c id) n i ∧ S.next.n = S.n := by
  obtain ⟨f, e1, e2, st⟩ := h.fin
  have hR : S.fin.R ≠ [] := fun e => by have := (tot_zero f.inv).1 e; rw [f.tot] at this; omega
  obtain ⟨r, hr, hi, hq, -⟩ := f.inv.head hR
  have hF : S.first = ((S.fin.hd : Int), fsz (S.fin.q S.fin.hd), ((S.fin.q S.fin.hd).getD 0 izI).2, true) := by unfold Ts.first; rw [if_neg hR]
  have hN : S.next = S.fin.take := by unfold Ts.next; rw [if_neg hR]
  rw [hF, hN, ← e1]
  have tk := take_inv f.inv st hR
  clear hF hN
  generalize S.fin = F at *
  obtain ⟨x, l, hx⟩ : ∃ x l, F.q F.hd = x :: l := by
    cases hl : F.q F.hd with
    | nil => exact absurd hl hq
    | cons x l => exact ⟨x, l, rfl⟩
  have hg : (F.q F.hd).getD 0 izI = x := by rw [hx]; rfl
  obtain ⟨p1, p2⟩ := f.ids F.hd hi
  have hpx := p2 x (by rw [hx]; exact List.mem_cons_self)
  rw [hx, List.map_cons, List.pairwise_cons] at p1
  have hdrop : (F.q F.hd).drop 1 = l := by rw [hx]; rfl
  have qs : F.take.q = upd F.q F.hd l ∧ F.take.n = F.n := by
    unfold Ts.take
    split
    · rename_i h0
      rw [hdrop] at h0
      exact ⟨by rw [h0], rfl⟩
    · exact ⟨by rw [hdrop], rfl⟩
  refine ⟨F.hd, fsz (F.q F.hd), x.2, by rw [hg], hi, hpx.1, hpx.2, ⟨tk, by rw [List.length_set, f.ll, qs.2], fun j hj => ?_, fun j hj => ?_, ?_⟩, qs.2⟩
  · rw [qs.2] at hj
    rw [qs.1]
    by_cases ej : j = F.hd
    · rw [ej, upd_at]
      refine ⟨p1.2, fun y hy => ?_⟩
      have e9 : (last.set F.hd x.2).getD F.hd 0 = x.2 := by
        rw [List.getD_eq_getElem?_getD, List.getElem?_set_self (by rw [f.ll]; exact hi)]; rfl
      rw [e9]
      exact ⟨p1.1 y.2 (List.mem_map_of_mem hy), (p2 y (by rw [hx]; exact List.mem_cons_of_mem _ hy)).2⟩
    · rw [upd_ne _ _ ej]
      have e9 : (last.set F.hd x.2).getD j 0 = last.getD j 0 := by
        rw [List.getD_eq_getElem?_getD, List.getElem?_set_ne (fun e => ej e.symm), ← List.getD_eq_getElem?_getD]
      rw [e9]
      exact f.ids j hj
  · rw [qs.2] at hj
    by_cases ej : j = F.hd
    · have e9 : (last.set F.hd x.2).getD F.hd 0 = x.2 := by
        rw [List.getD_eq_getElem?_getD, List.getElem?_set_self (by rw [f.ll]; exact hi)]; rfl
      rw [ej, e9]
      have := (f.la F.hd hi).2
      exact ⟨hpx.2, by omega⟩
    · have e9 : (last.set F.hd x.2).getD j 0 = last.getD j 0 := by
        rw [List.getD_eq_getElem?_getD, List.getElem?_set_ne (fun e => ej e.symm), ← List.getD_eq_getElem?_getD]
      rw [e9]
      exact f.la j hj
  · unfold Ts.tot
    rw [qs.1, qs.2]
    have := tot_upd F F.hd hi l
    rw [f.tot, hx, List.length_cons] at this
    omega
theorem Ord.start {n : Nat} {zs : List Int} (h : TInv (Ts.new n zs)) : Ord (Ts.new n zs) (List.replicate n 0) 0 0 := by
  have e : ∀ c, c < n → (List.replicate n (0 : Int)).getD c 0 = 0 := fun c hc => by
    rw [List.getD_eq_getElem?_getD, List.getElem?_replicate, if_pos hc]; rfl
  refine ⟨h, List.length_replicate, fun c hc => ⟨List.Pairwise.nil, fun x hx => (by cases hx)⟩, fun c hc => (by rw [e c hc]; exact ⟨Int.le_refl _, Int.le_refl _⟩), ?_⟩
  show sumN n (fun c => ([] : List (Int × Int)).length) = 0
  have : ∀ m, sumN m (fun c => ([] : List (Int × Int)).length) = 0 := fun m => by
    induction m with
    | zero => rfl
    | succ m ih => show sumN m _ + 0 = 0; rw [ih]
  exact this n
end Go.Proofs.Ytiogfgkfipekbaa
