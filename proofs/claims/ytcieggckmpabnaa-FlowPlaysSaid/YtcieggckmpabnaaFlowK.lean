/-
  Package flow: what is under a number stays under it, whatever others come and go. No condition but that New made the table.
-/
import Derived.Test.YtcieggckmpabnaaFlowI8
namespace Go.Proofs.Ytcieggckmpabnaa
set_option linter.unusedVariables false
set_option linter.unusedSimpArgs false
open Go.ChangeShapes Go.WideShapes Go.ChangeAt Go.RowKit

theorem mem_isF {es : List FeI} (hs : (es.map FeI.id).Pairwise (· < ·)) {e : FeI} (he : e ∈ es) : isF (es.map FeI.id) e.id = true ∧ es.getD (lessC (es.map FeI.id) e.id) FeI.nil = e := by
  obtain ⟨i, hi, rfl⟩ := List.getElem_of_mem he
  have hl : (es.map FeI.id).length = es.length := by simp
  obtain ⟨g1, g2⟩ := lessC_at (rise_le hs) (es[i]).id
  have gi : (es.map FeI.id)[i]'(by omega) = (es[i]).id := by simp
  have k : lessC (es.map FeI.id) (es[i]).id = i := by
    rcases Nat.lt_trichotomy i (lessC (es.map FeI.id) (es[i]).id) with h | h | h
    · have := g1 i (by omega) h
      omega
    · exact h.symm
    · have a := g2 (lessC (es.map FeI.id) (es[i]).id) (by omega) (Nat.le_refl _)
      have b := List.pairwise_iff_getElem.1 hs (lessC (es.map FeI.id) (es[i]).id) i (by omega) (by omega) h
      omega
  rw [k]
  have gd : (es.map FeI.id).getD i 0 = (es[i]).id := by rw [List.getD_eq_getElem?_getD, List.getElem?_eq_getElem (by omega), gi]; rfl
  refine ⟨by simp only [isF]; rw [k, gd]; simp [hi], by rw [List.getD_eq_getElem?_getD, List.getElem?_eq_getElem hi]; rfl⟩
theorem isF_at {es : List FeI} {x : Int} (h : isF (es.map FeI.id) x = true) : ∃ hl : lessC (es.map FeI.id) x < es.length, (es[lessC (es.map FeI.id) x]).id = x := by
  obtain ⟨h1, h2⟩ := isF_get h
  rw [List.length_map] at h1
  refine ⟨h1, ?_⟩
  rw [List.getD_eq_getElem?_getD, List.getElem?_eq_getElem (by simpa using h1)] at h2
  simpa using h2
theorem keep_put {es : List FeI} {e : FeI} (he : e ∈ es) (k : Nat) (y : FeI) : e ∈ es.take k ++ y :: es.drop k := by
  rw [← List.take_append_drop k es] at he
  rcases List.mem_append.1 he with h | h
  · exact List.mem_append.2 (.inl h)
  · exact List.mem_append.2 (.inr (List.mem_cons_of_mem _ h))
theorem split_at (es : List FeI) (k : Nat) (hk : k < es.length) : es = es.take k ++ es[k] :: es.drop (k + 1) := by
  rw [← List.drop_eq_getElem_cons hk, List.take_append_drop]
theorem keep_drop {es : List FeI} {e : FeI} (he : e ∈ es) (k : Nat) (hk : k < es.length) (hne : es[k] ≠ e) : e ∈ es.take k ++ es.drop (k + 1) := by
  rw [split_at es k hk] at he
  rcases List.mem_append.1 he with h | h
  · exact List.mem_append.2 (.inl h)
  · rcases List.mem_cons.1 h with h | h
    · exact absurd h.symm hne
    · exact List.mem_append.2 (.inr h)
theorem gone_drop {es : List FeI} (hs : (es.map FeI.id).Pairwise (· < ·)) (k : Nat) (hk : k < es.length) : isF ((es.take k ++ es.drop (k + 1)).map FeI.id) (es[k]).id = false := by
  cases hF : isF ((es.take k ++ es.drop (k + 1)).map FeI.id) (es[k]).id with
  | false => rfl
  | true =>
    exfalso
    obtain ⟨hl, hid⟩ := isF_at hF
    generalize hq : (es.take k ++ es.drop (k + 1))[lessC ((es.take k ++ es.drop (k + 1)).map FeI.id) (es[k]).id] = q at hid
    have hm : q ∈ es.take k ++ es.drop (k + 1) := by rw [← hq]; exact List.getElem_mem _
    have hs' := hs
    rw [split_at es k hk, List.map_append, List.map_cons, List.pairwise_append, List.pairwise_cons] at hs'
    obtain ⟨_, ⟨h2, _⟩, h3⟩ := hs'
    rcases List.mem_append.1 hm with h | h
    · have := h3 q.id (List.mem_map_of_mem h) (es[k]).id (List.mem_cons_self)
      omega
    · have := h2 q.id (List.mem_map_of_mem h)
      omega

/-- A table that has this element under this number, behind a world. -/
structure Kept (n₀ : Nat) (w wr : World) (base B : Nat) (id x : Int) : Prop where
  tb : ∃ v es, TbAtI wr base B 4096 v es ∧ (⟨id, x⟩ : FeI) ∈ es
  low : n₀ ≤ base
  size : base ≤ wr.heap.size
  b : Below n₀ w wr
section
variable {n₀ : Nat} {w wr : World} {base B : Nat} {id x : Int}
theorem Kept.below {w' : World} (h : Kept n₀ w wr base B id x) (hb : Below wr.heap.size wr w') : Kept n₀ w w' base B id x := by
  obtain ⟨⟨v, es, ht, hm⟩, hl, hs, hB⟩ := h
  exact ⟨⟨v, es, ht.below hb, hm⟩, hl, Nat.le_trans hs hb.size, hB.trans (hb.mono (Nat.le_trans hl hs))⟩
theorem Kept.moved {w' : World} (h : Kept n₀ w wr base B id x) {v v' : Value} {es es' : List FeI} (ht : TbAtI wr base B 4096 v es) (ht' : TbAtI w' base B 4096 v' es') (hm : (⟨id, x⟩ : FeI) ∈ es') (m : MvS wr w' (inTb B v) (inTb B v')) : Kept n₀ w w' base B id x :=
  ⟨⟨v', es', ht', hm⟩, h.low, Nat.le_trans h.size m.size, m.below h.b (fun j hj => Nat.le_trans h.low (ht.inlt hj).1) (Nat.le_trans h.low h.size)⟩
theorem kfirst {v : Value} (ht : TbAtI wr base B 4096 v []) (hl : n₀ ≤ base) (hs : base ≤ wr.heap.size) (hb : Below n₀ w wr) (id x : Int) : Calls Try.prog 71 #[.pointer (some ⟨B, 0, none⟩), .int .u32 id, .int .i64 x] wr fun e w' => e = .returned (.int .i64 0) ∧ Kept n₀ w w' base B id x := by
  refine (tput_okI ht hs id x rfl (by simp)).mono ?_
  rintro e w' ⟨rfl, v', ht', m⟩
  exact ⟨rfl, ⟨v', _, ht', by simp⟩, hl, Nat.le_trans hs m.size, m.below hb (fun j hj => Nat.le_trans hl (ht.inlt hj).1) (Nat.le_trans hl hs)⟩
theorem kput (h : Kept n₀ w wr base B id x) (o i : Int) : Calls Try.prog 71 #[.pointer (some ⟨B, 0, none⟩), .int .u32 o, .int .i64 i] wr fun e w' => ∃ c, e = .returned (.int .i64 c) ∧ (o = id → c = 8) ∧ Kept n₀ w w' base B id x := by
  obtain ⟨v, es, ht, hm⟩ := h.tb
  have hF := (mem_isF ht.so hm).1
  cases hf : isF (es.map FeI.id) o with
  | true =>
    refine (tput_thereI ht o i hf).mono ?_
    rintro e w' ⟨rfl, hb⟩
    exact ⟨8, rfl, fun _ => rfl, h.below hb⟩
  | false =>
    have hne : o ≠ id := fun e => by rw [e, hF] at hf; cases hf
    by_cases hl : (es.length : Int) = 4096
    · refine (tput_fullI ht o i hf hl).mono ?_
      rintro e w' ⟨rfl, hb⟩
      exact ⟨20, rfl, fun e => absurd e hne, h.below hb⟩
    · have := ht.le
      refine (tput_okI ht h.size o i hf (by omega)).mono ?_
      rintro e w' ⟨rfl, v', ht', m⟩
      exact ⟨0, rfl, fun e => absurd e hne, h.moved ht ht' (keep_put hm _ _) m⟩
theorem kdrop (h : Kept n₀ w wr base B id x) (d : Int) (hd : d ≠ id) : Calls Try.prog 75 #[.pointer (some ⟨B, 0, none⟩), .int .u32 d] wr fun e w' => ∃ y b, e = .returned (.tuple #[.int .i64 y, .bool b]) ∧ Kept n₀ w w' base B id x := by
  obtain ⟨v, es, ht, hm⟩ := h.tb
  cases hf : isF (es.map FeI.id) d with
  | false =>
    refine (tdrop_noI ht d hf).mono ?_
    rintro e w' ⟨rfl, hb⟩
    exact ⟨0, false, rfl, h.below hb⟩
  | true =>
    obtain ⟨hl, hid⟩ := isF_at hf
    refine (tdrop_atI ht h.size d hf).mono ?_
    rintro e w' ⟨rfl, v', ht', m⟩
    exact ⟨_, true, rfl, h.moved ht ht' (keep_drop hm _ hl (fun e => hd (by rw [← hid, e]))) m⟩
theorem kget (h : Kept n₀ w wr base B id x) : Calls Try.prog 15 #[.pointer (some ⟨B, 0, none⟩), .int .u32 id] wr fun e w' => e = .returned (.tuple #[.int .i64 x, .bool true]) ∧ Kept n₀ w w' base B id x := by
  obtain ⟨v, es, ht, hm⟩ := h.tb
  obtain ⟨hF, hG⟩ := mem_isF ht.so hm
  refine (tget_atI ht id hF).mono ?_
  rintro e w' ⟨rfl, hb⟩
  exact ⟨by rw [hG], h.below hb⟩
/-- A table without an element under this number, behind a world. -/
def Lacks (n₀ : Nat) (w wr : World) (base B : Nat) (id : Int) : Prop := (∃ v es, TbAtI wr base B 4096 v es ∧ isF (es.map FeI.id) id = false) ∧ n₀ ≤ wr.heap.size ∧ Below n₀ w wr
theorem kdropped (h : Kept n₀ w wr base B id x) : Calls Try.prog 75 #[.pointer (some ⟨B, 0, none⟩), .int .u32 id] wr fun e w' => e = .returned (.tuple #[.int .i64 x, .bool true]) ∧ Lacks n₀ w w' base B id := by
  obtain ⟨v, es, ht, hm⟩ := h.tb
  obtain ⟨hF, hG⟩ := mem_isF ht.so hm
  obtain ⟨hl, hid⟩ := isF_at hF
  refine (tdrop_atI ht h.size id hF).mono ?_
  rintro e w' ⟨rfl, v', ht', m⟩
  have hg := gone_drop ht.so _ hl
  rw [hid] at hg
  exact ⟨by rw [hG], ⟨v', _, ht', hg⟩, Nat.le_trans h.low (Nat.le_trans h.size m.size), m.below h.b (fun j hj => Nat.le_trans h.low (ht.inlt hj).1) (Nat.le_trans h.low h.size)⟩
theorem kgone (h : Lacks n₀ w wr base B id) : Calls Try.prog 15 #[.pointer (some ⟨B, 0, none⟩), .int .u32 id] wr fun e w' => e = .returned (.tuple #[.int .i64 0, .bool false]) ∧ n₀ ≤ w'.heap.size ∧ Below n₀ w w' := by
  obtain ⟨⟨v, es, ht, hf⟩, hs, hb⟩ := h
  refine (tget_noI ht id hf).mono ?_
  rintro e w' ⟨rfl, hb'⟩
  exact ⟨rfl, Nat.le_trans hs hb'.size, hb.trans (hb'.mono hs)⟩
end
end Go.Proofs.Ytcieggckmpabnaa
