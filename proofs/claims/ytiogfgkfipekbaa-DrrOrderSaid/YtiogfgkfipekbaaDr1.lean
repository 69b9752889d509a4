/-
  Package drr: classes that take turns, in memory: their data, their rings of items, the ring of whose turn it is. What turns when a credit, a ring, the row or the mark is another. Plain laws on memory, no condition.
-/
import Derived.Test.YtiogfgkfipekbaaDq6
import Derived.Test.YtiogfgkfipekbaaRingI6
import Derived.Test.YtiogfgkfipekbaaPoolMath
namespace Go.Proofs.Ytiogfgkfipekbaa
set_option linter.unusedVariables false
set_option linter.unusedSimpArgs false
open Go.ChangeShapes Go.WideShapes Go.ChangeAt Go.RowKit

theorem flat_len3 {α β : Type} (f : α → List β) (m : Nat) (hf : ∀ x, (f x).length = m) (xs : List α) : (xs.flatMap f).length = xs.length * m := by
  induction xs with
  | nil => simp
  | cons x xs ih => rw [List.flatMap_cons, List.length_append, hf, ih, List.length_cons, Nat.succ_mul]; omega
theorem flat_at3 {α β : Type} (f : α → List β) (m : Nat) (hf : ∀ x, (f x).length = m) (xs : List α) (h i : Nat) (hh : h < xs.length) (hi : i < m) : (xs.flatMap f)[h * m + i]? = (f xs[h])[i]? := by
  induction xs generalizing h with
  | nil => exact absurd hh (Nat.not_lt_zero _)
  | cons x xs ih =>
    rw [List.flatMap_cons]
    cases h with
    | zero => rw [Nat.zero_mul, Nat.zero_add, List.getElem?_append_left (by rw [hf]; exact hi)]; rfl
    | succ h =>
      rw [List.getElem?_append_right (by rw [hf, Nat.succ_mul]; omega), hf, Nat.succ_mul, show h * m + m + i - m = h * m + i by omega, ih h (by simpa using hh)]
      rfl
theorem flat_set3 {α β : Type} (f : α → List β) (m : Nat) (hf : ∀ x, (f x).length = m) (xs : List α) (h i : Nat) (u : β) (y : α) (hh : h < xs.length) (hi : i < m) (hy : f y = (f xs[h]).set i u) : (xs.flatMap f).set (h * m + i) u = (xs.set h y).flatMap f := by
  induction xs generalizing h with
  | nil => exact absurd hh (Nat.not_lt_zero _)
  | cons x xs ih =>
    cases h with
    | zero =>
      rw [Nat.zero_mul, Nat.zero_add, List.set_cons_zero, List.flatMap_cons, List.flatMap_cons, List.set_append_left _ _ (by rw [hf]; exact hi), hy]
      rfl
    | succ h =>
      rw [List.set_cons_succ, List.flatMap_cons, List.flatMap_cons, List.set_append_right _ _ (by rw [hf, Nat.succ_mul]; omega), hf, Nat.succ_mul, show h * m + m + i - m = h * m + i by omega, ih h (by simpa using hh) (by simpa using hy)]
/-- A class: its quantum, its credit, its ring. -/
structure Dc where
  qu : Int
  cr : Int
  B : Nat
  v : Value
  ps : List (Int × Int)
  f : Nat
  k : Nat
def Dc.q (c : Dc) : List (Int × Int) := cont izI c.ps c.f c.k
def dcell (c : Dc) : List Value := [.int .u64 c.qu, .int .u64 c.cr, .pointer (some ⟨c.B, 0, none⟩)]
theorem dcell_len (c : Dc) : (dcell c).length = 3 := rfl
/-- The blocks of such turns. -/
def inDr (T : Nat) (vc : Value) (cs : List Dc) (Rb : Nat) (vr : Value) : Nat → Prop := fun j => j = T ∨ vc.ownBlock = some j ∨ j = Rb ∨ vr.ownBlock = some j ∨ ∃ i, ∃ (h : i < cs.length), j = (cs[i]).B ∨ (cs[i]).v.ownBlock = some j
/-- Turns: their own block, the classes' data, the ring of the row, a ring for each class. -/
structure DrAt (w : World) (base T : Nat) (vc : Value) (cs : List Dc) (Rb : Nat) (vr : Value) (rp : List Int) (rf rk : Nat) (bg : Bool) : Prop where
  blk : w.heap[T]? = some (.cells #[vc, .pointer (some ⟨Rb, 0, none⟩), .bool bg] 150 (0, 0))
  low : base ≤ T
  oc : w.ownsRow base 157 3 vc cs.length (cs.flatMap dcell)
  row : RingAtI w base Rb cs.length vr rp rf rk
  each : ∀ i (h : i < cs.length), RqAtI w base (cs[i]).B 1024 (cs[i]).v (cs[i]).ps (cs[i]).f (cs[i]).k
  ap : ∀ i j (hi : i < cs.length) (hj : j < cs.length), i ≠ j → (cs[i]).B ≠ (cs[j]).B ∧ ((cs[i]).v.ownBlock = none ∨ (cs[i]).v.ownBlock ≠ (cs[j]).v.ownBlock)
  n0 : 1 ≤ cs.length
  n1 : cs.length ≤ 64
theorem own_onD {w w' : World} {base n size : Nat} {e : TypeId} {v : Value} {xs : List Value} (ho : w.ownsRow base e size v n xs) (hb : ∀ j, v.ownBlock = some j → w'.heap[j]? = w.heap[j]?) : w'.ownsRow base e size v n xs := by
  refine ⟨ho.1, ?_⟩
  rcases ho.2 with hh | ⟨g, cap, cur, rfl, hb', hg, rest⟩
  · exact Or.inl hh
  · exact Or.inr ⟨g, cap, cur, rfl, hb', (hb g rfl).trans hg, rest⟩
theorem RqAtI.keepD {w w' : World} {base B : Nat} {room : Int} {v : Value} {ps : List (Int × Int)} {f k : Nat} (h : RqAtI w base B room v ps f k) (h1 : w'.heap[B]? = w.heap[B]?) (h2 : ∀ j, v.ownBlock = some j → w'.heap[j]? = w.heap[j]?) : RqAtI w' base B room v ps f k :=
  ⟨h1.trans h.blk, h.low, own_onD h.own h2, h.r0, h.r1, h.le, h.lr, h.fl⟩
theorem RingAtI.keepD {w w' : World} {base B : Nat} {room : Int} {v : Value} {ps : List Int} {f k : Nat} (h : RingAtI w base B room v ps f k) (h1 : w'.heap[B]? = w.heap[B]?) (h2 : ∀ j, v.ownBlock = some j → w'.heap[j]? = w.heap[j]?) : RingAtI w' base B room v ps f k :=
  ⟨h1.trans h.blk, h.low, own_onD h.own h2, h.r0, h.r1, h.le, h.lr, h.fl⟩
theorem ring_lt {w : World} {base B : Nat} {room : Int} {v : Value} {ps : List Int} {f k : Nat} (h : RingAtI w base B room v ps f k) : B < w.heap.size := (Array.getElem?_eq_some_iff.1 h.blk).1
section
variable {w w' : World} {base T : Nat} {vc : Value} {cs : List Dc} {Rb : Nat} {vr : Value} {rp : List Int} {rf rk : Nat} {bg : Bool}
theorem DrAt.inlt (h : DrAt w base T vc cs Rb vr rp rf rk bg) {j : Nat} (hj : inDr T vc cs Rb vr j) : base ≤ j ∧ j < w.heap.size := by
  rcases hj with rfl | hj | rfl | hj | ⟨i, hi, hj | hj⟩
  · exact ⟨h.low, (Array.getElem?_eq_some_iff.1 h.blk).1⟩
  · exact World.ownsRow.lt h.oc j hj
  · exact ⟨h.row.low, ring_lt h.row⟩
  · exact World.ownsRow.lt h.row.own j hj
  · rw [hj]; exact ⟨(h.each i hi).low, (h.each i hi).base⟩
  · exact World.ownsRow.lt (h.each i hi).own j hj
theorem DrAt.keep (h : DrAt w base T vc cs Rb vr rp rf rk bg) (hk : ∀ j, inDr T vc cs Rb vr j → w'.heap[j]? = w.heap[j]?) : DrAt w' base T vc cs Rb vr rp rf rk bg :=
  ⟨(hk T (Or.inl rfl)).trans h.blk, h.low, own_onD h.oc (fun j hj => hk j (Or.inr (Or.inl hj))), h.row.keepD (hk _ (Or.inr (Or.inr (Or.inl rfl)))) (fun j hj => hk j (Or.inr (Or.inr (Or.inr (Or.inl hj))))),
    fun i hi => (h.each i hi).keepD (hk _ (Or.inr (Or.inr (Or.inr (Or.inr ⟨i, hi, Or.inl rfl⟩))))) (fun j hj => hk j (Or.inr (Or.inr (Or.inr (Or.inr ⟨i, hi, Or.inr hj⟩))))), h.ap, h.n0, h.n1⟩
theorem DrAt.below (h : DrAt w base T vc cs Rb vr rp rf rk bg) (hb : Below w.heap.size w w') : DrAt w' base T vc cs Rb vr rp rf rk bg := h.keep (fun j hj => hb.block j (h.inlt hj).2)
theorem DrAt.cell (h : DrAt w base T vc cs Rb vr rp rf rk bg) : w.cell? ⟨T, 0, none⟩ = some vc ∧ w.cell? ⟨T, 1, none⟩ = some (.pointer (some ⟨Rb, 0, none⟩)) ∧ w.cell? ⟨T, 2, none⟩ = some (.bool bg) ∧ w.frozen? ⟨T, 2, none⟩ = false :=
  ⟨cell_of_row w T 0 _ _ (0, 0) h.blk, cell_of_row w T 1 _ _ (0, 0) h.blk, cell_of_row w T 2 _ _ (0, 0) h.blk, frozen_of_row w T 2 _ _ h.blk⟩
theorem DrAt.form (h : DrAt w base T vc cs Rb vr rp rf rk bg) : ∃ g c, vc = .slice (some ⟨g, 0, none⟩) cs.length c ∧ base ≤ g ∧ g < w.heap.size ∧ ∀ i (hi : i < cs.length), w.cell? ⟨g, i * 3, none⟩ = some (.int .u64 (cs[i]).qu) ∧ w.cell? ⟨g, i * 3 + 1, none⟩ = some (.int .u64 (cs[i]).cr) ∧ w.cell? ⟨g, i * 3 + 2, none⟩ = some (.pointer (some ⟨(cs[i]).B, 0, none⟩)) ∧ w.frozen? ⟨g, i * 3 + 1, none⟩ = false := by
  obtain ⟨g, c, rfl, hb, hlt⟩ := h.oc.form h.n0
  refine ⟨g, c, rfl, hb, hlt, fun i hi => ?_⟩
  have hc := fun q (hq : q < 3) => (h.oc.cellAt (i * 3 + q) (by omega)).trans (flat_at3 dcell 3 dcell_len cs i q hi hq)
  exact ⟨hc 0 (by omega), hc 1 (by omega), hc 2 (by omega), h.oc.frozenAt _⟩
/-- Blocks of unlike types are apart. -/
theorem DrAt.apart (h : DrAt w base T vc cs Rb vr rp rf rk bg) : vc.ownBlock ≠ some T ∧ T ≠ Rb ∧ vc.ownBlock ≠ some Rb ∧ vr.ownBlock ≠ some T ∧ vr.ownBlock ≠ some Rb ∧ (vc.ownBlock = none ∨ vc.ownBlock ≠ vr.ownBlock) ∧ ∀ i (hi : i < cs.length), (cs[i]).B ≠ T ∧ (cs[i]).B ≠ Rb ∧ vc.ownBlock ≠ some (cs[i]).B ∧ vr.ownBlock ≠ some (cs[i]).B ∧ (cs[i]).v.ownBlock ≠ some T ∧ (cs[i]).v.ownBlock ≠ some Rb ∧ (cs[i]).v.ownBlock ≠ some (cs[i]).B ∧ (vc.ownBlock = none ∨ vc.ownBlock ≠ (cs[i]).v.ownBlock) ∧ (vr.ownBlock = none ∨ vr.ownBlock ≠ (cs[i]).v.ownBlock) := by
  have hR := h.row.blk
  refine ⟨own_ne_blk h.oc h.blk (by decide), fun e => ?_, own_ne_blk h.oc hR (by decide), own_ne_blk h.row.own h.blk (by decide), own_ne_blk h.row.own hR (by decide), row_apart h.oc h.row.own (by decide), fun i hi => ?_⟩
  · rw [← e, h.blk] at hR; simp at hR
  · have he := h.each i hi
    refine ⟨fun e => ?_, fun e => ?_, own_ne_blk h.oc he.blk (by decide), own_ne_blk h.row.own he.blk (by decide), own_ne_blk he.own h.blk (by decide), own_ne_blk he.own hR (by decide), own_ne_blk he.own he.blk (by decide), row_apart h.oc he.own (by decide), row_apart h.row.own he.own (by decide)⟩
    · have := he.blk; rw [e, h.blk] at this; simp at this
    · have := he.blk; rw [e, hR] at this; simp at this
/-- The mark is another. -/
theorem DrAt.setB (h : DrAt w base T vc cs Rb vr rp rf rk bg) (b : Bool) : DrAt (w.setCell ⟨T, 2, none⟩ (.bool b)) base T vc cs Rb vr rp rf rk b ∧ MvS w (w.setCell ⟨T, 2, none⟩ (.bool b)) (inDr T vc cs Rb vr) (inDr T vc cs Rb vr) := by
  obtain ⟨a1, a2, a3, a4, a5, a6, a7⟩ := h.apart
  have hh : ∀ j, j ≠ T → (w.setCell ⟨T, 2, none⟩ (.bool b)).heap[j]? = w.heap[j]? := fun j hj => Below.heap_setCell w ⟨T, 2, none⟩ _ j hj
  refine ⟨⟨by simpa using heap_set h.blk 2 (.bool b), h.low, own_onD h.oc (fun j hj => hh j (fun e => a1 (e ▸ hj))), h.row.keepD (hh _ (fun e => a2 e.symm)) (fun j hj => hh j (fun e => a4 (e ▸ hj))), fun i hi => (h.each i hi).keepD (hh _ (a7 i hi).1) (fun j hj => hh j (fun e => (a7 i hi).2.2.2.2.1 (e ▸ hj))), h.ap, h.n0, h.n1⟩, ?_⟩
  exact ⟨rfl, rfl, rfl, by simp [World.setCell], fun j _ hS => hh j (fun e => hS (Or.inl e)), fun j hj => Or.inr hj⟩
/-- A class's credit is another. -/
theorem DrAt.setC {g c : Nat} (h : DrAt w base T (.slice (some ⟨g, 0, none⟩) cs.length c) cs Rb vr rp rf rk bg) (i : Nat) (hi : i < cs.length) (x : Int) :
    DrAt (w.setCell ⟨g, i * 3 + 1, none⟩ (.int .u64 x)) base T (.slice (some ⟨g, 0, none⟩) cs.length c) (cs.set i ⟨(cs[i]).qu, x, (cs[i]).B, (cs[i]).v, (cs[i]).ps, (cs[i]).f, (cs[i]).k⟩) Rb vr rp rf rk bg ∧ MvS w (w.setCell ⟨g, i * 3 + 1, none⟩ (.int .u64 x)) (inDr T (.slice (some ⟨g, 0, none⟩) cs.length c) cs Rb vr) (inDr T (.slice (some ⟨g, 0, none⟩) cs.length c) (cs.set i ⟨(cs[i]).qu, x, (cs[i]).B, (cs[i]).v, (cs[i]).ps, (cs[i]).f, (cs[i]).k⟩) Rb vr) := by
  obtain ⟨a1, a2, a3, a4, a5, a6, a7⟩ := h.apart
  have hh : ∀ j, j ≠ g → (w.setCell ⟨g, i * 3 + 1, none⟩ (.int .u64 x)).heap[j]? = w.heap[j]? := fun j hj => Below.heap_setCell w ⟨g, i * 3 + 1, none⟩ _ j hj
  have same : ∀ q (hq : q < (cs.set i ⟨(cs[i]).qu, x, (cs[i]).B, (cs[i]).v, (cs[i]).ps, (cs[i]).f, (cs[i]).k⟩).length), ((cs.set i ⟨(cs[i]).qu, x, (cs[i]).B, (cs[i]).v, (cs[i]).ps, (cs[i]).f, (cs[i]).k⟩)[q]).B = (cs[q]'(by simpa using hq)).B ∧ ((cs.set i ⟨(cs[i]).qu, x, (cs[i]).B, (cs[i]).v, (cs[i]).ps, (cs[i]).f, (cs[i]).k⟩)[q]).v = (cs[q]'(by simpa using hq)).v ∧ ((cs.set i ⟨(cs[i]).qu, x, (cs[i]).B, (cs[i]).v, (cs[i]).ps, (cs[i]).f, (cs[i]).k⟩)[q]).ps = (cs[q]'(by simpa using hq)).ps ∧ ((cs.set i ⟨(cs[i]).qu, x, (cs[i]).B, (cs[i]).v, (cs[i]).ps, (cs[i]).f, (cs[i]).k⟩)[q]).f = (cs[q]'(by simpa using hq)).f ∧ ((cs.set i ⟨(cs[i]).qu, x, (cs[i]).B, (cs[i]).v, (cs[i]).ps, (cs[i]).f, (cs[i]).k⟩)[q]).k = (cs[q]'(by simpa using hq)).k := fun q hq => by
    rw [List.getElem_set]
    by_cases e : i = q
    · subst e; rw [if_pos rfl]; exact ⟨rfl, rfl, rfl, rfl, rfl⟩
    · rw [if_neg e]; exact ⟨rfl, rfl, rfl, rfl, rfl⟩
  have hg : ∀ j, j = g → (Value.slice (some ⟨g, 0, none⟩) cs.length c).ownBlock = some j := fun j e => by rw [e]; rfl
  refine ⟨⟨(hh T (fun e => a1 (hg _ e))).trans h.blk, h.low, ?_, ?_, fun q hq => ?_, fun p q hp hq hpq => ?_, by rw [List.length_set]; exact h.n0, by rw [List.length_set]; exact h.n1⟩, ?_⟩
  · rw [List.length_set, ← flat_set3 dcell 3 dcell_len cs i 1 (.int .u64 x) ⟨(cs[i]).qu, x, (cs[i]).B, (cs[i]).v, (cs[i]).ps, (cs[i]).f, (cs[i]).k⟩ hi (by omega) rfl]
    exact row_put h.oc (i * 3 + 1) (.int .u64 x)
  · rw [List.length_set]
    refine h.row.keepD (hh _ (fun e => a3 (hg _ e))) (fun j hj => hh j (fun e => ?_))
    rcases a6 with a6 | a6
    · cases a6
    · exact a6 ((hg j e).trans hj.symm)
  · obtain ⟨s1, s2, s3, s4, s5⟩ := same q hq
    rw [s1, s2, s3, s4, s5]
    have hq' : q < cs.length := by simpa using hq
    refine (h.each q hq').keepD (hh _ (fun e => (a7 q hq').2.2.1 (hg _ e))) (fun j hj => hh j (fun e => ?_))
    rcases (a7 q hq').2.2.2.2.2.2.2.1 with a6 | a6
    · cases a6
    · exact a6 ((hg j e).trans hj.symm)
  · rw [(same p hp).1, (same q hq).1, (same p hp).2.1, (same q hq).2.1]
    exact h.ap p q (by simpa using hp) (by simpa using hq) hpq
  · refine ⟨rfl, rfl, rfl, by simp [World.setCell], fun j _ hS => hh j (fun e => hS (Or.inr (Or.inl (hg j e)))), fun j hj => Or.inr ?_⟩
    rcases hj with hj | hj | hj | hj | ⟨q, hq, hj⟩
    · exact Or.inl hj
    · exact Or.inr (Or.inl hj)
    · exact Or.inr (Or.inr (Or.inl hj))
    · exact Or.inr (Or.inr (Or.inr (Or.inl hj)))
    · rw [(same q hq).1, (same q hq).2.1] at hj
      exact Or.inr (Or.inr (Or.inr (Or.inr ⟨q, by simpa using hq, hj⟩)))
/-- The row's ring is another. -/
theorem DrAt.setR {vr' : Value} {rp' : List Int} {rf' rk' : Nat} (h : DrAt w base T vc cs Rb vr rp rf rk bg) (m : Mv w w' Rb vr vr') (r' : RingAtI w' base Rb cs.length vr' rp' rf' rk') : DrAt w' base T vc cs Rb vr' rp' rf' rk' bg ∧ MvS w w' (inDr T vc cs Rb vr) (inDr T vc cs Rb vr') := by
  obtain ⟨a1, a2, a3, a4, a5, a6, a7⟩ := h.apart
  have far : ∀ {v : Value} {j : Nat}, (v.ownBlock = none ∨ v.ownBlock ≠ vr.ownBlock ∨ vr.ownBlock = none ∨ vr.ownBlock ≠ v.ownBlock) → v.ownBlock = some j → vr.ownBlock ≠ some j := fun {v j} hx hj e => by
    rcases hx with h1 | h1 | h1 | h1
    · rw [hj] at h1; cases h1
    · exact h1 (hj.trans e.symm)
    · rw [e] at h1; cases h1
    · exact h1 (e.trans hj.symm)
  refine ⟨⟨(m.block T (h.inlt (Or.inl rfl)).2 a2 (fun e => a4 e.symm)).trans h.blk, h.low, own_onD h.oc (fun j hj => m.block j (World.ownsRow.lt h.oc j hj).2 (fun e => a3 (e ▸ hj)) (fun e => far (by rcases a6 with x | x; exact Or.inl x; exact Or.inr (Or.inl x)) hj e.symm)), r', fun i hi => (h.each i hi).keepD (m.block _ (h.each i hi).base (a7 i hi).2.1 (fun e => (a7 i hi).2.2.2.1 e.symm)) (fun j hj => m.block j (World.ownsRow.lt (h.each i hi).own j hj).2 (fun e => (a7 i hi).2.2.2.2.2.1 (e ▸ hj)) (fun e => far (by rcases (a7 i hi).2.2.2.2.2.2.2.2 with x | x; exact Or.inr (Or.inr (Or.inl x)); exact Or.inr (Or.inr (Or.inr x))) hj e.symm)), h.ap, h.n0, h.n1⟩, ?_⟩
  refine ⟨m.os, m.tape, m.output, m.size, fun j hj hS => m.block j hj (fun e => hS (Or.inr (Or.inr (Or.inl e)))) (fun e => hS (Or.inr (Or.inr (Or.inr (Or.inl e.symm))))), fun j hj => ?_⟩
  rcases hj with hj | hj | hj | hj | hj
  · exact Or.inr (Or.inl hj)
  · exact Or.inr (Or.inr (Or.inl hj))
  · exact Or.inr (Or.inr (Or.inr (Or.inl hj)))
  · rcases m.own j hj with h1 | h1
    · exact Or.inl h1
    · exact Or.inr (Or.inr (Or.inr (Or.inr (Or.inl h1))))
  · exact Or.inr (Or.inr (Or.inr (Or.inr (Or.inr hj))))
/-- A class's ring is another. -/
theorem DrAt.setQ (h : DrAt w base T vc cs Rb vr rp rf rk bg) (i : Nat) (hi : i < cs.length) {v' : Value} {ps' : List (Int × Int)} {f' k' : Nat} (m : Mv w w' (cs[i]).B (cs[i]).v v') (r' : RqAtI w' base (cs[i]).B 1024 v' ps' f' k') :
    DrAt w' base T vc (cs.set i ⟨(cs[i]).qu, (cs[i]).cr, (cs[i]).B, v', ps', f', k'⟩) Rb vr rp rf rk bg ∧ MvS w w' (inDr T vc cs Rb vr) (inDr T vc (cs.set i ⟨(cs[i]).qu, (cs[i]).cr, (cs[i]).B, v', ps', f', k'⟩) Rb vr) := by
  have he := h.each i hi
  obtain ⟨a1, a2, a3, a4, a5, a6, a7⟩ := h.apart
  have hrow : ∀ {n size : Nat} {e : TypeId} {v : Value} {xs : List Value}, w.ownsRow base e size v n xs → e ≠ 187 → e ≠ 155 → ∀ j, v.ownBlock = some j → w'.heap[j]? = w.heap[j]? := fun ho h1 h2 j hj =>
    m.block j (World.ownsRow.lt ho j hj).2 (fun e => own_ne_blk ho he.blk h1 (by rw [hj, e])) (fun e => by
      rcases row_apart ho he.own h2 with h3 | h3
      · rw [h3] at hj; cases hj
      · exact h3 (by rw [hj, e]))
  have hset : ∀ q (hq : q < (cs.set i ⟨(cs[i]).qu, (cs[i]).cr, (cs[i]).B, v', ps', f', k'⟩).length), q ≠ i → (cs.set i ⟨(cs[i]).qu, (cs[i]).cr, (cs[i]).B, v', ps', f', k'⟩)[q] = cs[q]'(by simpa using hq) := fun q hq hqi => List.getElem_set_ne (Ne.symm hqi) _
  have hself : ∀ (hq : i < (cs.set i ⟨(cs[i]).qu, (cs[i]).cr, (cs[i]).B, v', ps', f', k'⟩).length), (cs.set i ⟨(cs[i]).qu, (cs[i]).cr, (cs[i]).B, v', ps', f', k'⟩)[i] = ⟨(cs[i]).qu, (cs[i]).cr, (cs[i]).B, v', ps', f', k'⟩ := fun hq => List.getElem_set_self _
  have hv' : ∀ j, v'.ownBlock = some j → w.heap.size ≤ j ∨ (cs[i]).v.ownBlock = some j := m.own
  refine ⟨⟨(m.block T (h.inlt (Or.inl rfl)).2 (fun e => (a7 i hi).1 e.symm) (fun e => (a7 i hi).2.2.2.2.1 e.symm)).trans h.blk, h.low, ?_, ?_, fun q hq => ?_, fun p q hp hq hpq => ?_, by rw [List.length_set]; exact h.n0, by rw [List.length_set]; exact h.n1⟩, ?_⟩
  · have e : (cs.set i ⟨(cs[i]).qu, (cs[i]).cr, (cs[i]).B, v', ps', f', k'⟩).flatMap dcell = cs.flatMap dcell := by
      rw [List.flatMap_def, List.flatMap_def, List.map_set]
      congr 1
      apply List.ext_getElem (by simp)
      intro q h1 h2
      by_cases hqi : i = q
      · subst hqi; rw [List.getElem_set_self, List.getElem_map]; rfl
      · rw [List.getElem_set_ne hqi]
    rw [e, List.length_set]
    exact own_onD h.oc (hrow h.oc (by decide) (by decide))
  · rw [List.length_set]
    exact h.row.keepD (m.block Rb (ring_lt h.row) (fun e => (a7 i hi).2.1 e.symm) (fun e => (a7 i hi).2.2.2.2.2.1 e.symm)) (hrow h.row.own (by decide) (by decide))
  · by_cases hqi : q = i
    · subst hqi; rw [hself]; exact r'
    · rw [hset q hq hqi]
      have hq' : q < cs.length := by simpa using hq
      have hqe := h.each q hq'
      obtain ⟨b1, b2⟩ := h.ap q i hq' hi hqi
      refine hqe.keepD (m.block _ hqe.base b1 (fun e => own_ne_blk he.own hqe.blk (by decide) e.symm)) (fun j hj => m.block j (World.ownsRow.lt hqe.own j hj).2 (fun e => own_ne_blk hqe.own he.blk (by decide) (by rw [hj, e])) (fun e => ?_))
      rcases b2 with b2 | b2
      · rw [b2] at hj; cases hj
      · exact b2 (by rw [hj, e])
  · have hp' : p < cs.length := by simpa using hp
    have hq' : q < cs.length := by simpa using hq
    by_cases hpi : p = i
    · subst hpi
      rw [hself, hset q hq (Ne.symm hpq)]
      obtain ⟨b1, b2⟩ := h.ap p q hp' hq' hpq
      refine ⟨b1, ?_⟩
      show v'.ownBlock = none ∨ v'.ownBlock ≠ _
      cases hv : v'.ownBlock with
      | none => exact Or.inl rfl
      | some g =>
        right
        intro e
        have hlt := (World.ownsRow.lt (h.each q hq').own g e.symm).2
        rcases hv' g hv with h1 | h1
        · omega
        · rcases b2 with b2 | b2
          · rw [b2] at h1; cases h1
          · exact b2 (by rw [h1, e])
    · rw [hset p hp hpi]
      by_cases hqi : q = i
      · subst hqi
        rw [hself]
        obtain ⟨b1, b2⟩ := h.ap p q hp' hq' hpi
        refine ⟨b1, ?_⟩
        show (cs[p]).v.ownBlock = none ∨ (cs[p]).v.ownBlock ≠ v'.ownBlock
        cases hv : (cs[p]).v.ownBlock with
        | none => exact Or.inl rfl
        | some g =>
          right
          intro e
          have hlt := (World.ownsRow.lt (h.each p hp').own g hv).2
          rcases hv' g e.symm with h1 | h1
          · omega
          · rcases b2 with b2 | b2
            · rw [b2] at hv; cases hv
            · exact b2 (by rw [hv, h1])
      · rw [hset q hq hqi]
        exact h.ap p q hp' hq' hpq
  · refine ⟨m.os, m.tape, m.output, m.size, fun j hj hS => m.block j hj (fun e => hS (Or.inr (Or.inr (Or.inr (Or.inr ⟨i, hi, Or.inl e⟩))))) (fun e => hS (Or.inr (Or.inr (Or.inr (Or.inr ⟨i, hi, Or.inr e.symm⟩))))), fun j hj => ?_⟩
    rcases hj with hj | hj | hj | hj | ⟨q, hq, hj⟩
    · exact Or.inr (Or.inl hj)
    · exact Or.inr (Or.inr (Or.inl hj))
    · exact Or.inr (Or.inr (Or.inr (Or.inl hj)))
    · exact Or.inr (Or.inr (Or.inr (Or.inr (Or.inl hj))))
    · have hq' : q < cs.length := by simpa using hq
      by_cases hqi : q = i
      · subst hqi
        rw [hself] at hj
        rcases hj with hj | hj
        · exact Or.inr (Or.inr (Or.inr (Or.inr (Or.inr ⟨q, hq', Or.inl hj⟩))))
        · rcases hv' j hj with h1 | h1
          · exact Or.inl h1
          · exact Or.inr (Or.inr (Or.inr (Or.inr (Or.inr ⟨q, hq', Or.inr h1⟩))))
      · rw [hset q hq hqi] at hj
        exact Or.inr (Or.inr (Or.inr (Or.inr (Or.inr ⟨q, hq', hj⟩))))
end
end Go.Proofs.Ytiogfgkfipekbaa
