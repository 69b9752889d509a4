/-
  Package gate: which classes are open at a time. No condition but that the plan may be.
-/
import Derived.Test.YtmkgadndfiiacaaGt8
import Derived.Test.YtmkgadndfiiacaaVal
import Derived.RangeFuncNested
import Derived.RangeFuncBound
import Derived.RangeFuncLeaves
import Derived.RangeFuncBox
import Derived.Shelf.RegionOpen
import Derived.OwnWalkIn
import Derived.TacticsInMore
import Derived.LoopNIn
import Derived.LoopIn
namespace Go.Proofs.Ytmkgadndfiiacaa
set_option linter.unusedVariables false
set_option linter.unusedSimpArgs false
open Go.ChangeShapes Go.WideShapes Go.ChangeAt Go.RowKit Go.Shelf
attribute [local go_sem] Oper.semAt_some

theorem own_block {A B' : World} {row : Option Nat} {s j : Nat} {cs : Array Value} {ty : TypeId} {m : Nat × Nat} (h : A.heap[j]? = some (.cells cs ty m)) (hg : A.grownBy B' row) (hrow : ∀ r, row = some r → s ≤ r ∧ ∃ o : Obj, A.heap[r]? = some o ∧ o.isCells = false) : B'.heap[j]? = some (.cells cs ty m) :=
  (hg.block j (Array.getElem?_eq_some_iff.1 h).1 (fun e => by
    obtain ⟨_, o, ho, hc⟩ := hrow j e.symm
    rw [h] at ho
    cases ho
    cases hc)).trans h
set_option maxRecDepth 100000 in
set_option maxHeartbeats 4000000 in
theorem gopen22 {w : World} {a : Option Addr} {n c : Nat} {fs : List Slot22} (hr : RowSl w a n fs) (hok : PlanOk fs n) (t : Int) (t0 : 0 ≤ t) (t1 : t ≤ 18446744073709551615) {k0 : Nat} (hk : InSlot fs n (t % spans fs n) k0) :
    Calls Try.prog 31 #[.slice a n c, .int .u64 t] w fun e w' => e = .returned (.int .u8 (slotN fs k0).o) ∧ Below w.heap.size w w' := by
  have hseq : seq22 fs n k0 (t % spans fs n) 0 = ⟨(slotN fs k0).o, (seq22 fs n k0 (t % spans fs n) 0).s⟩ := by unfold seq22; rw [if_pos rfl]
  obtain ⟨⟨o0, o1⟩, -, -⟩ := hr.okS k0 hk.1
  obtain ⟨o, ho⟩ : ∃ o, (slotN fs k0).o = o := ⟨_, rfl⟩
  rw [ho] at hseq o0 o1 ⊢
  have SQ := Lib.hid hseq
  clear hseq ho
  have SF := Lib.hid (fun (m : Nat) (W : World) => (callsIn_wide (n := m)).2 (sfrom22 a n c t W))
  have HR := Lib.hid hr; have HOK := Lib.hid hok; have HK := Lib.hid hk
  clear hr hok hk
  refine (callsIn_wide (n := 4)).1 ?_
  refine callsIn_of_wp_marks Try.func31 rfl trivial ?_ rfl
  simp only [Try.ntmps31, List.size_toArray, List.length_cons, List.length_nil, Nat.reduceAdd, Nat.reduceSub, Array.replicate_succ, Array.replicate_zero, List.push_toArray, List.append_toArray, List.nil_append, List.cons_append]
  gi_wp2_with (refine ⟨trivial, ?_⟩; gi_at_call 88; refine (SF.out _ _).mono ?_; rintro e w1 ⟨rfl, rfl⟩)
  have hb : Below w.heap.size w (((w.alloc (.cells #[.int .u8 0] 5)).alloc (.cells #[.slice a n c] 53)).alloc (.cells #[.int .u64 t] 22)) := (((Below.refl _ w).alloc (Nat.le_refl _) _).alloc (by simp) _).alloc (by simp; omega) _
  have hz : (((w.alloc (.cells #[.int .u8 0] 5)).alloc (.cells #[.slice a n c] 53)).alloc (.cells #[.int .u64 t] 22)).heap.size = w.heap.size + 3 := by simp
  have hr0 : (((w.alloc (.cells #[.int .u8 0] 5)).alloc (.cells #[.slice a n c] 53)).alloc (.cells #[.int .u64 t] 22)).heap[w.heap.size]? = some (.cells #[.int .u8 0] 5 (0, 0)) := by
    rw [Below.heap_alloc _ _ _ (by simp; omega), Below.heap_alloc _ _ _ (by simp)]; exact heap_alloc_new w _
  have hl0 : (((w.alloc (.cells #[.int .u8 0] 5)).alloc (.cells #[.slice a n c] 53)).alloc (.cells #[.int .u64 t] 22)).heap[w.heap.size + 1]? = some (.cells #[.slice a n c] 53 (0, 0)) := by
    rw [Below.heap_alloc _ _ _ (by simp)]
    have := heap_alloc_new (w.alloc (.cells #[.int .u8 0] 5)) (.cells #[.slice a n c] 53)
    rwa [World.size_alloc] at this
  have ht0 : (((w.alloc (.cells #[.int .u8 0] 5)).alloc (.cells #[.slice a n c] 53)).alloc (.cells #[.int .u64 t] 22)).heap[w.heap.size + 1 + 1]? = some (.cells #[.int .u64 t] 22 (0, 0)) := by
    have := heap_alloc_new ((w.alloc (.cells #[.int .u8 0] 5)).alloc (.cells #[.slice a n c] 53)) (.cells #[.int .u64 t] 22)
    rwa [World.size_alloc, World.size_alloc] at this
  generalize ((w.alloc (.cells #[.int .u8 0] 5)).alloc (.cells #[.slice a n c] 53)).alloc (.cells #[.int .u64 t] 22) = W0 at *
  have hs1 : w.heap.size ≤ W0.heap.size := by omega
  clear hz
  refine range_early rfl (by omega) (gf := 140) (lb := #[.pointer (some ⟨w.heap.size + 1, 0, none⟩), .pointer (some ⟨w.heap.size + 1 + 1, 0, none⟩)]) rfl trivial (enters_of Try.func140 (by kernel_rfl) rfl)
    (goes22 (a := a) (c := c) _ HOK.out t t0 t1 HK.out) (fun _ => rfl) 1 (by omega)
    (fun k V => V.heap[w.heap.size]? = some (.cells #[.int .u8 0] 5 (0, 0)) ∧ GIt a n c fs (w.heap.size + 1) (w.heap.size + 1 + 1) t V ∧ Below w.heap.size w V)
    (fun c V => c = .ret ∧ V.heap[w.heap.size]? = some (.cells #[.int .u8 o] 5 (0, 0)) ∧ Below w.heap.size w V)
    (fun k a' V => ∃ Bs, a' = { tmps := #[.slice a n c, .int .u64 t, undef, undef, .pointer (some ⟨w.heap.size, 0, none⟩), .pointer (some ⟨Bs, 0, none⟩), .slice a n c, .int .u64 t, .func (.func 140) #[] #[.pointer (some ⟨w.heap.size + 1, 0, none⟩), .pointer (some ⟨w.heap.size + 1 + 1, 0, none⟩)], .agg #[.int .u8 o, .int .u64 (seq22 fs n k0 (t % spans fs n) 0).s], undef, undef], defers := [] } ∧ w.heap.size < Bs ∧
      V.heap[Bs]? = some (.cells #[.int .u8 o, .int .u64 (seq22 fs n k0 (t % spans fs n) 0).s] 67 (0, 0)) ∧ V.heap[w.heap.size]? = some (.cells #[.int .u8 0] 5 (0, 0)) ∧ Below w.heap.size w V)
    ?_ ?_ ?_ ?_ ?_ ?_ ?_ ?_ ⟨hr0, ⟨hl0, ht0, HR.out.below hb⟩, hb⟩
  · rintro k A B' row ⟨h1, h2, h3⟩ hg hrow
    have hb3 := h3.grown hg h3.size (fun k e => Nat.le_trans hs1 (hrow k e).1)
    exact ⟨own_block h1 hg hrow, ⟨own_block h2.l hg hrow, own_block h2.t hg hrow, HR.out.below hb3⟩, hb3⟩
  · rintro k A B' ⟨h1, h2, h3⟩ hbb
    exact ⟨(hbb.block _ (Array.getElem?_eq_some_iff.1 h1).1).trans h1, ⟨(hbb.block _ (Array.getElem?_eq_some_iff.1 h2.l).1).trans h2.l, (hbb.block _ (Array.getElem?_eq_some_iff.1 h2.t).1).trans h2.t, h2.row.below hbb⟩, h3.trans (hbb.mono h3.size)⟩
  · exact fun k V h => h.2.1
  · rintro c' u A B' row ⟨e, h1, h3⟩ hg hrow
    exact ⟨e, own_block h1 hg hrow, h3.grown hg h3.size (fun k e => Nat.le_trans hs1 (hrow k e).1)⟩
  · rintro a' k A B' row ⟨Bs, e, hlt, q1, q2, q3⟩ hg hrow
    exact ⟨Bs, e, hlt, own_block q1 hg hrow, own_block q2 hg hrow, q3.grown hg q3.size (fun k e => Nat.le_trans hs1 (hrow k e).1)⟩
  · rintro l k V hk1 ⟨h1, h2, h3⟩
    obtain rfl : k = 0 := by omega
    rw [SQ.out]
    simp only [enc22]
    gi_wp2
    have hsz := h3.size
    refine ⟨KeepsOthers.alloc V _, V.heap.size, rfl, (Array.getElem?_eq_some_iff.1 h1).1, heap_alloc_new V _, (Below.heap_alloc _ _ _ (Array.getElem?_eq_some_iff.1 h1).1).trans h1, h3.alloc hsz _⟩
  · rintro l k a' V hk1 ⟨Bs, rfl, hlt, q1, q2, q3⟩
    have c1 := cell_of_row V Bs 0 _ _ (0, 0) q1
    have c2 := cell_of_row V w.heap.size 0 _ _ (0, 0) q2
    have c3 := frozen_of_row V w.heap.size 0 _ _ q2
    gi_wp2
    refine ⟨KeepsOthers.setCell V _ _, rfl, put1_0 q2, q3.setCell (p := ⟨w.heap.size, 0, none⟩) (Nat.le_refl _) _⟩
  · rintro D c' V hD ⟨rfl, q2, q3⟩ hK
    have c2 := cell_of_row V w.heap.size 0 _ _ (0, 0) q2
    gi_wp2
    refine ⟨by simp, .inl ⟨_, _, rfl, run_takeDeferred hK, ?_⟩⟩
    have hne : w.heap.size ≠ D := fun e => by
      rw [← e, q2] at hK
      cases hK
    have d2 : (V.putObj D (.deferred none)).cell? ⟨w.heap.size, 0, none⟩ = some (.int .u8 o) := cell_of_row _ w.heap.size 0 _ _ (0, 0) ((World.putObj_heap_other hne).trans q2)
    exact ⟨.int .u8 o, by simp [results, Try.results31, go_sem, d2], rfl, q3.trans (belowK_b (w := W0) hs1 V D _ _ hD hK rfl rfl)⟩
end Go.Proofs.Ytmkgadndfiiacaa
