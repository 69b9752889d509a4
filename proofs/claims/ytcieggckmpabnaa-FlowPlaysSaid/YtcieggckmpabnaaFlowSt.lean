/-
  Layer 15's step: what is done with a table is done with the answer's entries; it returns true. No condition but that both stand alike.
-/
import Derived.Test.YtcieggckmpabnaaFlowPl
import Derived.RegionTactic
namespace Go.Proofs.Ytcieggckmpabnaa
set_option linter.unusedVariables false
set_option linter.unusedSimpArgs false
open Go.ChangeShapes Go.WideShapes Go.ChangeAt Go.RowKit
attribute [local go_sem] alloc_drewN setCell_drewN

/-- The two, and an act beside them; V₀ is where the step began: all blocks of that stand, but the box's and the table's. -/
structure StepF (w V₀ : World) (v₀ : Value) (V : World) (n₀ B L A : Nat) (room : Int) (v vl : Value) (es : List FeI) (xs : List (Int × Int)) (k id x : Int) : Prop where
  two : Two15 w V n₀ B L room v vl es xs
  act : V.heap[A]? = some (.cells #[.int .u8 k, .int .u32 id, .int .i64 x] 31 (0, 0))
  sz : V₀.heap.size ≤ V.heap.size
  fr : ∀ i, i < V₀.heap.size → i ≠ L → ¬ inTb B v₀ i → V.heap[i]? = V₀.heap[i]?
  ow : ∀ i, inTb B v i → V₀.heap.size ≤ i ∨ inTb B v₀ i
section
variable {w V₀ V : World} {n₀ B L A : Nat} {room : Int} {v₀ v vl : Value} {es : List FeI} {xs : List (Int × Int)} {k id x : Int}
theorem StepF.facts (h : StepF w V₀ v₀ V n₀ B L A room v vl es xs k id x) : (V.cell? ⟨L, 0, none⟩ = some vl ∧ V.frozen? ⟨L, 0, none⟩ = false) ∧ V.cell? ⟨A, 0, none⟩ = some (.int .u8 k) ∧ V.cell? ⟨A, 1, none⟩ = some (.int .u32 id) ∧ V.cell? ⟨A, 2, none⟩ = some (.int .i64 x) :=
  ⟨⟨h.two.bx.cell, h.two.bx.frozen⟩, cell_of_row V A 0 _ _ (0, 0) h.act, cell_of_row V A 1 _ _ (0, 0) h.act, cell_of_row V A 2 _ _ (0, 0) h.act⟩
theorem StepF.below {V' : World} (h : StepF w V₀ v₀ V n₀ B L A room v vl es xs k id x) (hb : Below V.heap.size V V') : StepF w V₀ v₀ V' n₀ B L A room v vl es xs k id x :=
  ⟨h.two.below hb, (hb.block _ (Array.getElem?_eq_some_iff.1 h.act).1).trans h.act, Nat.le_trans h.sz hb.size, fun i hi h1 h2 => (hb.block i (Nat.lt_of_lt_of_le hi h.sz)).trans (h.fr i hi h1 h2), h.ow⟩
theorem StepF.put (h : StepF w V₀ v₀ V n₀ B L A room v vl es xs k id x) {vl' : Value} {xs' : List (Int × Int)} (hl : Its15 V n₀ vl' xs') : StepF w V₀ v₀ (V.setCell ⟨L, 0, none⟩ vl') n₀ B L A room v vl' es xs' k id x :=
  ⟨h.two.put hl, (Below.heap_setCell V ⟨L, 0, none⟩ vl' A (fun e => by
    have h1 : V.heap[L]? = some (.cells #[vl] 28 (0, 0)) := h.two.bx
    have h2 := h.act
    rw [show A = L from e, h1] at h2
    injection h2 with h2
    injection h2 with h2 _ _
    have := congrArg Array.size h2
    simp at this)).trans h.act, by simpa [World.setCell] using h.sz, fun i hi h1 h2 => (Below.heap_setCell V ⟨L, 0, none⟩ vl' i h1).trans (h.fr i hi h1 h2), h.ow⟩
theorem StepF.moved {V' : World} {v' : Value} {es' : List FeI} (h : StepF w V₀ v₀ V n₀ B L A room v vl es xs k id x) (ht : TbAtI V' n₀ B room v' es') (m : MvS V V' (inTb B v) (inTb B v')) : StepF w V₀ v₀ V' n₀ B L A room v' vl es' xs k id x :=
  ⟨h.two.moved ht m, (m.block A (Array.getElem?_eq_some_iff.1 h.act).1 (fun e => by
    rcases e with e | e
    · have h2 := h.two.tb.blk
      rw [← e, h.act] at h2
      injection h2 with h2
      injection h2 with h2 _ _
      have := congrArg Array.size h2
      simp at this
    · exact own_ne_blk (show V.ownsRow n₀ 162 2 v es.length (fesI es) from h.two.tb.fe) h.act (by decide) e)).trans h.act, Nat.le_trans h.sz m.size, fun i hi h1 h2 => (m.block i (Nat.lt_of_lt_of_le hi h.sz) (fun e => by
      rcases h.ow i e with h3 | h3
      · omega
      · exact h2 h3)).trans (h.fr i hi h1 h2), fun i hi => by
      rcases m.own i hi with h3 | h3
      · exact Or.inl (Nat.le_trans h.sz h3)
      · exact h.ow i h3⟩
end
set_option maxRecDepth 100000 in
set_option maxHeartbeats 2000000 in
theorem step15_0 {w V : World} {n₀ B L : Nat} {room : Int} {v vl : Value} {es : List FeI} {k id x : Int} (k0 : 0 ≤ k) (k1 : k ≤ 255) (h : Two15 w V n₀ B L room v vl es (prs es)) (hq : k % 8 = 0) :
    Calls Try.prog 13 #[.pointer (some ⟨B, 0, none⟩), .pointer (some ⟨L, 0, none⟩), .int .i64 room, .agg #[.int .u8 k, .int .u32 id, .int .i64 x]] V fun e V' => e = .returned (.bool true) ∧ ∃ v' vl' es', Two15 w V' n₀ B L room v' vl' es' (prs es') ∧ ∀ i, i < V.heap.size → i ≠ L → ¬ inTb B v i → V'.heap[i]? = V.heap[i]? := by
  obtain ⟨W0, hW0⟩ : ∃ W0, V.alloc (.cells #[.int .u8 k, .int .u32 id, .int .i64 x] 31) = W0 := ⟨_, rfl⟩
  have hb0 : Below V.heap.size V W0 := by rw [← hW0]; exact (Below.refl _ V).alloc (Nat.le_refl _) _
  have S0 : StepF w V v W0 n₀ B L V.heap.size room v vl es (prs es) k id x := ⟨h.below hb0, by rw [← hW0]; exact heap_alloc_new V _, hb0.size, fun i hi _ _ => hb0.block i hi, fun i hi => Or.inr hi⟩
  obtain ⟨am, cm, hmv, _, _⟩ := S0.two.ls.form
  rw [prs_len] at hmv
  subst hmv
  obtain ⟨⟨b0, b1⟩, a0, a1, a2⟩ := S0.facts
  have HS := Lib.hid S0
  have HD := Lib.hid (S0.below (Below.refl _ W0).drew)
  clear hb0 S0 h
  have AN := Lib.hid (fun (W : World) (vl' : Value) (hW : StepF w V v W n₀ B L V.heap.size room v vl' es (prs es) k id x) => ans_put hW.two id x)
  have PT := Lib.hid (fun (W : World) (vl' : Value) (xs' : List (Int × Int)) (hW : StepF w V v W n₀ B L V.heap.size room v vl' es xs' k id x) => two_put hW.two.tb hW.two.size id x)
  generalize pcode es room id = pq at *
  go_enter Try.func13, Try.ntmps13
  go_wp2_with fail
  clear hW0
  go_region_held3 (fun W => W.cell? ⟨L, 0, none⟩ = some (.slice am es.length cm) ∧ W.cell? ⟨V.heap.size, 1, none⟩ = some (.int .u32 id) ∧ W.cell? ⟨V.heap.size, 2, none⟩ = some (.int .i64 x)) ((first | exact ⟨c0, c3, c4⟩ | exact ⟨b0, a1, a2⟩)) (first
    | (go_at_call 70; refine (AN.out _ _ (by first | exact HD.out | exact HS.out)).mono ?_; rintro e w3 ⟨v3, rfl, h2, h3, b3⟩; clear h2; obtain ⟨am3, cm3, hv3, -, -⟩ := h3.form; (try rw [prs_len] at hv3); subst hv3; have SB := Lib.hid (HD.out.below b3); obtain ⟨⟨c0, c1⟩, c2, c3, c4⟩ := SB.out.facts; have SP := Lib.hid (SB.out.put h3); obtain ⟨⟨d0, d1⟩, d2, d3, d4⟩ := SP.out.facts; clear h3 b3)
    | fail)
  go_wp2_with (first
    | (go_at_call 71; refine (PT.out _ _ _ SP.out).mono ?_; rintro e w5 ⟨v5, rfl, t5, m5⟩; have S5 := Lib.hid (SP.out.moved t5 m5); clear t5 m5)
    | fail)
  go_ret
  exact ⟨rfl, v5, _, _, S5.out.two, S5.out.fr⟩
set_option maxRecDepth 100000 in
set_option maxHeartbeats 2000000 in
theorem step15_1 {w V : World} {n₀ B L : Nat} {room : Int} {v vl : Value} {es : List FeI} {k id x : Int} (k0 : 0 ≤ k) (k1 : k ≤ 255) (h : Two15 w V n₀ B L room v vl es (prs es)) (hq : k % 8 = 1) :
    Calls Try.prog 13 #[.pointer (some ⟨B, 0, none⟩), .pointer (some ⟨L, 0, none⟩), .int .i64 room, .agg #[.int .u8 k, .int .u32 id, .int .i64 x]] V fun e V' => e = .returned (.bool true) ∧ ∃ v' vl' es', Two15 w V' n₀ B L room v' vl' es' (prs es') ∧ ∀ i, i < V.heap.size → i ≠ L → ¬ inTb B v i → V'.heap[i]? = V.heap[i]? := by
  obtain ⟨W0, hW0⟩ : ∃ W0, V.alloc (.cells #[.int .u8 k, .int .u32 id, .int .i64 x] 31) = W0 := ⟨_, rfl⟩
  have hb0 : Below V.heap.size V W0 := by rw [← hW0]; exact (Below.refl _ V).alloc (Nat.le_refl _) _
  have S0 : StepF w V v W0 n₀ B L V.heap.size room v vl es (prs es) k id x := ⟨h.below hb0, by rw [← hW0]; exact heap_alloc_new V _, hb0.size, fun i hi _ _ => hb0.block i hi, fun i hi => Or.inr hi⟩
  obtain ⟨am, cm, hmv, _, _⟩ := S0.two.ls.form
  rw [prs_len] at hmv
  subst hmv
  obtain ⟨⟨b0, b1⟩, a0, a1, a2⟩ := S0.facts
  have HS := Lib.hid S0
  have HD := Lib.hid (S0.below (Below.refl _ W0).drew)
  clear hb0 S0 h
  have AN := Lib.hid (fun (W : World) (vl' : Value) (hW : StepF w V v W n₀ B L V.heap.size room v vl' es (prs es) k id x) => ans_put hW.two id x)
  have PT := Lib.hid (fun (W : World) (vl' : Value) (xs' : List (Int × Int)) (hW : StepF w V v W n₀ B L V.heap.size room v vl' es xs' k id x) => two_put hW.two.tb hW.two.size id x)
  generalize pcode es room id = pq at *
  go_enter Try.func13, Try.ntmps13
  go_wp2_with fail
  clear hW0
  go_region_held3 (fun W => W.cell? ⟨L, 0, none⟩ = some (.slice am es.length cm) ∧ W.cell? ⟨V.heap.size, 1, none⟩ = some (.int .u32 id) ∧ W.cell? ⟨V.heap.size, 2, none⟩ = some (.int .i64 x)) ((first | exact ⟨c0, c3, c4⟩ | exact ⟨b0, a1, a2⟩)) (first
    | (go_at_call 70; refine (AN.out _ _ (by first | exact HD.out | exact HS.out)).mono ?_; rintro e w3 ⟨v3, rfl, h2, h3, b3⟩; clear h2; obtain ⟨am3, cm3, hv3, -, -⟩ := h3.form; (try rw [prs_len] at hv3); subst hv3; have SB := Lib.hid (HD.out.below b3); obtain ⟨⟨c0, c1⟩, c2, c3, c4⟩ := SB.out.facts; have SP := Lib.hid (SB.out.put h3); obtain ⟨⟨d0, d1⟩, d2, d3, d4⟩ := SP.out.facts; clear h3 b3)
    | fail)
  go_wp2_with (first
    | (go_at_call 71; refine (PT.out _ _ _ SP.out).mono ?_; rintro e w5 ⟨v5, rfl, t5, m5⟩; have S5 := Lib.hid (SP.out.moved t5 m5); clear t5 m5)
    | fail)
  go_ret
  exact ⟨rfl, v5, _, _, S5.out.two, S5.out.fr⟩
set_option maxRecDepth 100000 in
set_option maxHeartbeats 2000000 in
theorem step15_2 {w V : World} {n₀ B L : Nat} {room : Int} {v vl : Value} {es : List FeI} {k id x : Int} (k0 : 0 ≤ k) (k1 : k ≤ 255) (h : Two15 w V n₀ B L room v vl es (prs es)) (hq : k % 8 = 2) :
    Calls Try.prog 13 #[.pointer (some ⟨B, 0, none⟩), .pointer (some ⟨L, 0, none⟩), .int .i64 room, .agg #[.int .u8 k, .int .u32 id, .int .i64 x]] V fun e V' => e = .returned (.bool true) ∧ ∃ v' vl' es', Two15 w V' n₀ B L room v' vl' es' (prs es') ∧ ∀ i, i < V.heap.size → i ≠ L → ¬ inTb B v i → V'.heap[i]? = V.heap[i]? := by
  obtain ⟨W0, hW0⟩ : ∃ W0, V.alloc (.cells #[.int .u8 k, .int .u32 id, .int .i64 x] 31) = W0 := ⟨_, rfl⟩
  have hb0 : Below V.heap.size V W0 := by rw [← hW0]; exact (Below.refl _ V).alloc (Nat.le_refl _) _
  have S0 : StepF w V v W0 n₀ B L V.heap.size room v vl es (prs es) k id x := ⟨h.below hb0, by rw [← hW0]; exact heap_alloc_new V _, hb0.size, fun i hi _ _ => hb0.block i hi, fun i hi => Or.inr hi⟩
  obtain ⟨am, cm, hmv, _, _⟩ := S0.two.ls.form
  rw [prs_len] at hmv
  subst hmv
  obtain ⟨⟨b0, b1⟩, a0, a1, a2⟩ := S0.facts
  have HS := Lib.hid S0
  have HD := Lib.hid (S0.below (Below.refl _ W0).drew)
  clear hb0 S0 h
  have AN := Lib.hid (fun (W : World) (vl' : Value) (hW : StepF w V v W n₀ B L V.heap.size room v vl' es (prs es) k id x) => ans_put hW.two id x)
  have PT := Lib.hid (fun (W : World) (vl' : Value) (xs' : List (Int × Int)) (hW : StepF w V v W n₀ B L V.heap.size room v vl' es xs' k id x) => two_put hW.two.tb hW.two.size id x)
  generalize pcode es room id = pq at *
  go_enter Try.func13, Try.ntmps13
  go_wp2_with fail
  clear hW0
  go_region_held3 (fun W => W.cell? ⟨L, 0, none⟩ = some (.slice am es.length cm) ∧ W.cell? ⟨V.heap.size, 1, none⟩ = some (.int .u32 id) ∧ W.cell? ⟨V.heap.size, 2, none⟩ = some (.int .i64 x)) ((first | exact ⟨c0, c3, c4⟩ | exact ⟨b0, a1, a2⟩)) (first
    | (go_at_call 70; refine (AN.out _ _ (by first | exact HD.out | exact HS.out)).mono ?_; rintro e w3 ⟨v3, rfl, h2, h3, b3⟩; clear h2; obtain ⟨am3, cm3, hv3, -, -⟩ := h3.form; (try rw [prs_len] at hv3); subst hv3; have SB := Lib.hid (HD.out.below b3); obtain ⟨⟨c0, c1⟩, c2, c3, c4⟩ := SB.out.facts; have SP := Lib.hid (SB.out.put h3); obtain ⟨⟨d0, d1⟩, d2, d3, d4⟩ := SP.out.facts; clear h3 b3)
    | fail)
  go_wp2_with (first
    | (go_at_call 71; refine (PT.out _ _ _ SP.out).mono ?_; rintro e w5 ⟨v5, rfl, t5, m5⟩; have S5 := Lib.hid (SP.out.moved t5 m5); clear t5 m5)
    | fail)
  go_ret
  exact ⟨rfl, v5, _, _, S5.out.two, S5.out.fr⟩
set_option maxRecDepth 100000 in
set_option maxHeartbeats 2000000 in
theorem step15_3 {w V : World} {n₀ B L : Nat} {room : Int} {v vl : Value} {es : List FeI} {k id x : Int} (k0 : 0 ≤ k) (k1 : k ≤ 255) (h : Two15 w V n₀ B L room v vl es (prs es)) (hq : k % 8 = 3) :
    Calls Try.prog 13 #[.pointer (some ⟨B, 0, none⟩), .pointer (some ⟨L, 0, none⟩), .int .i64 room, .agg #[.int .u8 k, .int .u32 id, .int .i64 x]] V fun e V' => e = .returned (.bool true) ∧ ∃ v' vl' es', Two15 w V' n₀ B L room v' vl' es' (prs es') ∧ ∀ i, i < V.heap.size → i ≠ L → ¬ inTb B v i → V'.heap[i]? = V.heap[i]? := by
  obtain ⟨W0, hW0⟩ : ∃ W0, V.alloc (.cells #[.int .u8 k, .int .u32 id, .int .i64 x] 31) = W0 := ⟨_, rfl⟩
  have hb0 : Below V.heap.size V W0 := by rw [← hW0]; exact (Below.refl _ V).alloc (Nat.le_refl _) _
  have S0 : StepF w V v W0 n₀ B L V.heap.size room v vl es (prs es) k id x := ⟨h.below hb0, by rw [← hW0]; exact heap_alloc_new V _, hb0.size, fun i hi _ _ => hb0.block i hi, fun i hi => Or.inr hi⟩
  obtain ⟨am, cm, hmv, _, _⟩ := S0.two.ls.form
  rw [prs_len] at hmv
  subst hmv
  obtain ⟨⟨b0, b1⟩, a0, a1, a2⟩ := S0.facts
  have HS := Lib.hid S0
  have HD := Lib.hid (S0.below (Below.refl _ W0).drew)
  clear hb0 S0 h
  have AN := Lib.hid (fun (W : World) (vl' : Value) (hW : StepF w V v W n₀ B L V.heap.size room v vl' es (prs es) k id x) => ans_put hW.two id x)
  have PT := Lib.hid (fun (W : World) (vl' : Value) (xs' : List (Int × Int)) (hW : StepF w V v W n₀ B L V.heap.size room v vl' es xs' k id x) => two_put hW.two.tb hW.two.size id x)
  generalize pcode es room id = pq at *
  go_enter Try.func13, Try.ntmps13
  go_wp2_with fail
  clear hW0
  go_region_held3 (fun W => W.cell? ⟨L, 0, none⟩ = some (.slice am es.length cm) ∧ W.cell? ⟨V.heap.size, 1, none⟩ = some (.int .u32 id) ∧ W.cell? ⟨V.heap.size, 2, none⟩ = some (.int .i64 x)) ((first | exact ⟨c0, c3, c4⟩ | exact ⟨b0, a1, a2⟩)) (first
    | (go_at_call 70; refine (AN.out _ _ (by first | exact HD.out | exact HS.out)).mono ?_; rintro e w3 ⟨v3, rfl, h2, h3, b3⟩; clear h2; obtain ⟨am3, cm3, hv3, -, -⟩ := h3.form; (try rw [prs_len] at hv3); subst hv3; have SB := Lib.hid (HD.out.below b3); obtain ⟨⟨c0, c1⟩, c2, c3, c4⟩ := SB.out.facts; have SP := Lib.hid (SB.out.put h3); obtain ⟨⟨d0, d1⟩, d2, d3, d4⟩ := SP.out.facts; clear h3 b3)
    | fail)
  go_wp2_with (first
    | (go_at_call 71; refine (PT.out _ _ _ SP.out).mono ?_; rintro e w5 ⟨v5, rfl, t5, m5⟩; have S5 := Lib.hid (SP.out.moved t5 m5); clear t5 m5)
    | fail)
  go_ret
  exact ⟨rfl, v5, _, _, S5.out.two, S5.out.fr⟩
set_option maxRecDepth 100000 in
set_option maxHeartbeats 2000000 in
theorem step15_4 {w V : World} {n₀ B L : Nat} {room : Int} {v vl : Value} {es : List FeI} {k id x : Int} (k0 : 0 ≤ k) (k1 : k ≤ 255) (h : Two15 w V n₀ B L room v vl es (prs es)) (hq : k % 8 = 4) :
    Calls Try.prog 13 #[.pointer (some ⟨B, 0, none⟩), .pointer (some ⟨L, 0, none⟩), .int .i64 room, .agg #[.int .u8 k, .int .u32 id, .int .i64 x]] V fun e V' => e = .returned (.bool true) ∧ ∃ v' vl' es', Two15 w V' n₀ B L room v' vl' es' (prs es') ∧ ∀ i, i < V.heap.size → i ≠ L → ¬ inTb B v i → V'.heap[i]? = V.heap[i]? := by
  obtain ⟨W0, hW0⟩ : ∃ W0, V.alloc (.cells #[.int .u8 k, .int .u32 id, .int .i64 x] 31) = W0 := ⟨_, rfl⟩
  have hb0 : Below V.heap.size V W0 := by rw [← hW0]; exact (Below.refl _ V).alloc (Nat.le_refl _) _
  have S0 : StepF w V v W0 n₀ B L V.heap.size room v vl es (prs es) k id x := ⟨h.below hb0, by rw [← hW0]; exact heap_alloc_new V _, hb0.size, fun i hi _ _ => hb0.block i hi, fun i hi => Or.inr hi⟩
  obtain ⟨am, cm, hmv, _, _⟩ := S0.two.ls.form
  rw [prs_len] at hmv
  subst hmv
  obtain ⟨⟨b0, b1⟩, a0, a1, a2⟩ := S0.facts
  have HS := Lib.hid S0
  have HD := Lib.hid (S0.below (Below.refl _ W0).drew)
  clear hb0 S0 h
  have AN := Lib.hid (fun (W : World) (vl' : Value) (hW : StepF w V v W n₀ B L V.heap.size room v vl' es (prs es) k id x) => ans_set hW.two id x)
  have PT := Lib.hid (fun (W : World) (vl' : Value) (xs' : List (Int × Int)) (hW : StepF w V v W n₀ B L V.heap.size room v vl' es xs' k id x) => two_set hW.two.tb hW.two.size id x)
  generalize isF (es.map FeI.id) id = pq at *
  go_enter Try.func13, Try.ntmps13
  go_wp2_with fail
  clear hW0
  go_region_held3 (fun W => W.cell? ⟨L, 0, none⟩ = some (.slice am es.length cm) ∧ W.cell? ⟨V.heap.size, 1, none⟩ = some (.int .u32 id) ∧ W.cell? ⟨V.heap.size, 2, none⟩ = some (.int .i64 x)) ((first | exact ⟨c0, c3, c4⟩ | exact ⟨b0, a1, a2⟩)) (first
    | (go_at_call 72; refine (AN.out _ _ (by first | exact HD.out | exact HS.out)).mono ?_; rintro e w3 ⟨v3, rfl, h2, h3, b3⟩; clear h2; obtain ⟨am3, cm3, hv3, -, -⟩ := h3.form; (try rw [prs_len] at hv3); subst hv3; have SB := Lib.hid (HD.out.below b3); obtain ⟨⟨c0, c1⟩, c2, c3, c4⟩ := SB.out.facts; have SP := Lib.hid (SB.out.put h3); obtain ⟨⟨d0, d1⟩, d2, d3, d4⟩ := SP.out.facts; clear h3 b3)
    | fail)
  go_wp2_with (first
    | (go_at_call 73; refine (PT.out _ _ _ SP.out).mono ?_; rintro e w5 ⟨v5, rfl, t5, m5⟩; have S5 := Lib.hid (SP.out.moved t5 m5); clear t5 m5)
    | fail)
  go_ret
  exact ⟨rfl, v5, _, _, S5.out.two, S5.out.fr⟩
set_option maxRecDepth 100000 in
set_option maxHeartbeats 2000000 in
theorem step15_5 {w V : World} {n₀ B L : Nat} {room : Int} {v vl : Value} {es : List FeI} {k id x : Int} (k0 : 0 ≤ k) (k1 : k ≤ 255) (h : Two15 w V n₀ B L room v vl es (prs es)) (hq : k % 8 = 5) :
    Calls Try.prog 13 #[.pointer (some ⟨B, 0, none⟩), .pointer (some ⟨L, 0, none⟩), .int .i64 room, .agg #[.int .u8 k, .int .u32 id, .int .i64 x]] V fun e V' => e = .returned (.bool true) ∧ ∃ v' vl' es', Two15 w V' n₀ B L room v' vl' es' (prs es') ∧ ∀ i, i < V.heap.size → i ≠ L → ¬ inTb B v i → V'.heap[i]? = V.heap[i]? := by
  obtain ⟨W0, hW0⟩ : ∃ W0, V.alloc (.cells #[.int .u8 k, .int .u32 id, .int .i64 x] 31) = W0 := ⟨_, rfl⟩
  have hb0 : Below V.heap.size V W0 := by rw [← hW0]; exact (Below.refl _ V).alloc (Nat.le_refl _) _
  have S0 : StepF w V v W0 n₀ B L V.heap.size room v vl es (prs es) k id x := ⟨h.below hb0, by rw [← hW0]; exact heap_alloc_new V _, hb0.size, fun i hi _ _ => hb0.block i hi, fun i hi => Or.inr hi⟩
  obtain ⟨am, cm, hmv, _, _⟩ := S0.two.ls.form
  rw [prs_len] at hmv
  subst hmv
  obtain ⟨⟨b0, b1⟩, a0, a1, a2⟩ := S0.facts
  have HS := Lib.hid S0
  have HD := Lib.hid (S0.below (Below.refl _ W0).drew)
  clear hb0 S0 h
  have AN := Lib.hid (fun (W : World) (vl' : Value) (hW : StepF w V v W n₀ B L V.heap.size room v vl' es (prs es) k id x) => ans_drop hW.two id)
  have PT := Lib.hid (fun (W : World) (vl' : Value) (xs' : List (Int × Int)) (hW : StepF w V v W n₀ B L V.heap.size room v vl' es xs' k id x) => two_drop hW.two.tb hW.two.size id)
  generalize dval es id = pd at *
  generalize isF (es.map FeI.id) id = pq at *
  go_enter Try.func13, Try.ntmps13
  go_wp2_with fail
  clear hW0
  go_region_held3 (fun W => W.cell? ⟨L, 0, none⟩ = some (.slice am es.length cm) ∧ W.cell? ⟨V.heap.size, 1, none⟩ = some (.int .u32 id)) ((first | exact ⟨c0, c3⟩ | exact ⟨b0, a1⟩)) (first
    | (go_at_call 74; refine (AN.out _ _ (by first | exact HD.out | exact HS.out)).mono ?_; rintro e w3 ⟨v3, rfl, h2, h3, b3⟩; clear h2; obtain ⟨am3, cm3, hv3, -, -⟩ := h3.form; (try rw [prs_len] at hv3); subst hv3; have SB := Lib.hid (HD.out.below b3); obtain ⟨⟨c0, c1⟩, c2, c3, c4⟩ := SB.out.facts; have SP := Lib.hid (SB.out.put h3); obtain ⟨⟨d0, d1⟩, d2, d3, d4⟩ := SP.out.facts; clear h3 b3)
    | fail)
  go_wp2_with (first
    | (go_at_call 75; refine (PT.out _ _ _ SP.out).mono ?_; rintro e w5 ⟨v5, rfl, t5, m5⟩; have S5 := Lib.hid (SP.out.moved t5 m5); clear t5 m5)
    | fail)
  go_ret
  exact ⟨rfl, v5, _, _, S5.out.two, S5.out.fr⟩
set_option maxRecDepth 100000 in
set_option maxHeartbeats 2000000 in
theorem step15_6 {w V : World} {n₀ B L : Nat} {room : Int} {v vl : Value} {es : List FeI} {k id x : Int} (k0 : 0 ≤ k) (k1 : k ≤ 255) (h : Two15 w V n₀ B L room v vl es (prs es)) (hq : k % 8 = 6) :
    Calls Try.prog 13 #[.pointer (some ⟨B, 0, none⟩), .pointer (some ⟨L, 0, none⟩), .int .i64 room, .agg #[.int .u8 k, .int .u32 id, .int .i64 x]] V fun e V' => e = .returned (.bool true) ∧ ∃ v' vl' es', Two15 w V' n₀ B L room v' vl' es' (prs es') ∧ ∀ i, i < V.heap.size → i ≠ L → ¬ inTb B v i → V'.heap[i]? = V.heap[i]? := by
  obtain ⟨W0, hW0⟩ : ∃ W0, V.alloc (.cells #[.int .u8 k, .int .u32 id, .int .i64 x] 31) = W0 := ⟨_, rfl⟩
  have hb0 : Below V.heap.size V W0 := by rw [← hW0]; exact (Below.refl _ V).alloc (Nat.le_refl _) _
  have S0 : StepF w V v W0 n₀ B L V.heap.size room v vl es (prs es) k id x := ⟨h.below hb0, by rw [← hW0]; exact heap_alloc_new V _, hb0.size, fun i hi _ _ => hb0.block i hi, fun i hi => Or.inr hi⟩
  obtain ⟨am, cm, hmv, _, _⟩ := S0.two.ls.form
  rw [prs_len] at hmv
  subst hmv
  obtain ⟨⟨b0, b1⟩, a0, a1, a2⟩ := S0.facts
  have HS := Lib.hid S0
  have HD := Lib.hid (S0.below (Below.refl _ W0).drew)
  clear hb0 S0 h
  have AN := Lib.hid (fun (W : World) (vl' : Value) (hW : StepF w V v W n₀ B L V.heap.size room v vl' es (prs es) k id x) => ans_drop hW.two id)
  have PT := Lib.hid (fun (W : World) (vl' : Value) (xs' : List (Int × Int)) (hW : StepF w V v W n₀ B L V.heap.size room v vl' es xs' k id x) => two_drop hW.two.tb hW.two.size id)
  generalize dval es id = pd at *
  generalize isF (es.map FeI.id) id = pq at *
  go_enter Try.func13, Try.ntmps13
  go_wp2_with fail
  clear hW0
  go_region_held3 (fun W => W.cell? ⟨L, 0, none⟩ = some (.slice am es.length cm) ∧ W.cell? ⟨V.heap.size, 1, none⟩ = some (.int .u32 id)) ((first | exact ⟨c0, c3⟩ | exact ⟨b0, a1⟩)) (first
    | (go_at_call 74; refine (AN.out _ _ (by first | exact HD.out | exact HS.out)).mono ?_; rintro e w3 ⟨v3, rfl, h2, h3, b3⟩; clear h2; obtain ⟨am3, cm3, hv3, -, -⟩ := h3.form; (try rw [prs_len] at hv3); subst hv3; have SB := Lib.hid (HD.out.below b3); obtain ⟨⟨c0, c1⟩, c2, c3, c4⟩ := SB.out.facts; have SP := Lib.hid (SB.out.put h3); obtain ⟨⟨d0, d1⟩, d2, d3, d4⟩ := SP.out.facts; clear h3 b3)
    | fail)
  go_wp2_with (first
    | (go_at_call 75; refine (PT.out _ _ _ SP.out).mono ?_; rintro e w5 ⟨v5, rfl, t5, m5⟩; have S5 := Lib.hid (SP.out.moved t5 m5); clear t5 m5)
    | fail)
  go_ret
  exact ⟨rfl, v5, _, _, S5.out.two, S5.out.fr⟩
theorem step15_7 {w V : World} {n₀ B L : Nat} {room : Int} {v vl : Value} {es : List FeI} {k id x : Int} (k0 : 0 ≤ k) (k1 : k ≤ 255) (h : Two15 w V n₀ B L room v vl es (prs es)) (hq : k % 8 = 7) :
    Calls Try.prog 13 #[.pointer (some ⟨B, 0, none⟩), .pointer (some ⟨L, 0, none⟩), .int .i64 room, .agg #[.int .u8 k, .int .u32 id, .int .i64 x]] V fun e V' => e = .returned (.bool true) ∧ ∃ v' vl' es', Two15 w V' n₀ B L room v' vl' es' (prs es') ∧ ∀ i, i < V.heap.size → i ≠ L → ¬ inTb B v i → V'.heap[i]? = V.heap[i]? := by
  obtain ⟨W0, hW0⟩ : ∃ W0, V.alloc (.cells #[.int .u8 k, .int .u32 id, .int .i64 x] 31) = W0 := ⟨_, rfl⟩
  have hb0 : Below V.heap.size V W0 := by rw [← hW0]; exact (Below.refl _ V).alloc (Nat.le_refl _) _
  have S0 : StepF w V v W0 n₀ B L V.heap.size room v vl es (prs es) k id x := ⟨h.below hb0, by rw [← hW0]; exact heap_alloc_new V _, hb0.size, fun i hi _ _ => hb0.block i hi, fun i hi => Or.inr hi⟩
  obtain ⟨am, cm, hmv, _, _⟩ := S0.two.ls.form
  rw [prs_len] at hmv
  subst hmv
  obtain ⟨⟨b0, b1⟩, a0, a1, a2⟩ := S0.facts
  have HS := Lib.hid S0
  have HD := Lib.hid (S0.below (Below.refl _ W0).drew)
  clear hb0 S0 h
  go_enter Try.func13, Try.ntmps13
  go_wp2_with fail
  go_ret
  exact ⟨rfl, v, _, es, HS.out.two, HS.out.fr⟩
theorem step15 {w V : World} {n₀ B L : Nat} {room : Int} {v vl : Value} {es : List FeI} {k id x : Int} (k0 : 0 ≤ k) (k1 : k ≤ 255) (h : Two15 w V n₀ B L room v vl es (prs es)) :
    Calls Try.prog 13 #[.pointer (some ⟨B, 0, none⟩), .pointer (some ⟨L, 0, none⟩), .int .i64 room, .agg #[.int .u8 k, .int .u32 id, .int .i64 x]] V fun e V' => e = .returned (.bool true) ∧ ∃ v' vl' es', Two15 w V' n₀ B L room v' vl' es' (prs es') ∧ ∀ i, i < V.heap.size → i ≠ L → ¬ inTb B v i → V'.heap[i]? = V.heap[i]? := by
  have hq : k % 8 = 0 ∨ k % 8 = 1 ∨ k % 8 = 2 ∨ k % 8 = 3 ∨ k % 8 = 4 ∨ k % 8 = 5 ∨ k % 8 = 6 ∨ k % 8 = 7 := by omega
  rcases hq with hq | hq | hq | hq | hq | hq | hq | hq
  · exact step15_0 k0 k1 h hq
  · exact step15_1 k0 k1 h hq
  · exact step15_2 k0 k1 h hq
  · exact step15_3 k0 k1 h hq
  · exact step15_4 k0 k1 h hq
  · exact step15_5 k0 k1 h hq
  · exact step15_6 k0 k1 h hq
  · exact step15_7 k0 k1 h hq
end Go.Proofs.Ytcieggckmpabnaa
