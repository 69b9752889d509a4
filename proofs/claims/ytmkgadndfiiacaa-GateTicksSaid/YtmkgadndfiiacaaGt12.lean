/-
  Package gate: from which time on a class is open for long enough. No condition but that the plan may be, and the time is one for which Next looks.
-/
import Derived.Test.YtmkgadndfiiacaaGt10
import Derived.Test.YtmkgadndfiiacaaGt11
import Derived.Test.YtmkgadndfiiacaaVal
import Derived.RangeFuncNested
import Derived.RangeFuncBound
import Derived.RangeFuncLeaves
import Derived.RangeFuncBox
import Derived.Shelf.RegionOpen
import Derived.OwnWalkIn
import Derived.TacticsInMore
import Derived.LoopNIn
import Derived.LoopIn
namespace Go.Proofs.Ytmkgadndfiiacaa
set_option linter.unusedVariables false
set_option linter.unusedSimpArgs false
open Go.ChangeShapes Go.WideShapes Go.ChangeAt Go.RowKit Go.Shelf
attribute [local go_sem] Oper.semAt_some

set_option maxRecDepth 100000 in
set_option maxHeartbeats 8000000 in
theorem gnext22_a {w : World} {a : Option Addr} {n c : Nat} {fs : List Slot22} (hr : RowSl w a n fs) (hok : PlanOk fs n) (cl : Nat) (hcl : cl ≤ 7) (t : Int) (t0 : 0 ≤ t) (t1 : t ≤ 9223372036854775808) (need : Int) (need0 : 0 ≤ need) (need1 : need ≤ 18446744073709551615) {k0 : Nat} (hk : InSlot fs n (t % spans fs n) k0)
    {j : Nat} {g v : Int} {b rb : Bool} (hS : NextIs fs n k0 (t % spans fs n) cl (spans fs n) (1) j b g)
    (hc : need < 1)
    (hV : b = true ∧ t + g ≤ 9223372036854775808 ∧ v = t + g ∧ rb = true ∨ b = true ∧ 9223372036854775808 < t + g ∧ v = 0 ∧ rb = false ∨ b = false ∧ v = 0 ∧ rb = false) :
    Calls Try.prog 28 #[.slice a n c, .int .i64 cl, .int .u64 t, .int .u64 need] w fun e w' => e = .returned (.tuple #[.int .u64 v, .bool rb]) ∧ Below w.heap.size w w' := by
  have SF := Lib.hid (fun (m : Nat) (W : World) => (callsIn_wide (n := m)).2 (sfrom22 a n c t W))
  have IC := Lib.hid (fun (m : Nat) (W : World) => (callsIn_wide (n := m)).2 (isclass22 cl hcl W))
  have RD := Lib.hid (fun (m : Nat) (W : World) (h : Below w.heap.size w W) => (callsIn_wide (n := m)).2 (ground22 (hr.below h) c hok))
  have HR := Lib.hid hr; have HOK := Lib.hid hok; have HK := Lib.hid hk; have HS := Lib.hid hS; have HV := Lib.hid hV
  obtain ⟨rp0, rp1⟩ := round_pos hok
  clear hr hok hk hS hV
  have ntl : ¬ 9223372036854775808 < t := by omega
  have f1 : ¬ 1 ≤ need := by omega
  have f2 : max need 1 = 1 := by omega
  have f3 : min 1 (spans fs n) = 1 := by omega
  refine (callsIn_wide (n := 4)).1 ?_
  refine callsIn_of_wp_marks Try.func28 rfl trivial ?_ rfl
  simp only [Try.ntmps28, List.size_toArray, List.length_cons, List.length_nil, Nat.reduceAdd, Nat.reduceSub, Array.replicate_succ, Array.replicate_zero, List.push_toArray, List.append_toArray, List.nil_append, List.cons_append]
  obtain ⟨W0, hW0⟩ : ∃ W0, ((((w.alloc (.cells #[.int .i64 cl] 3)).alloc (.cells #[.int .u64 t] 22)).alloc (.cells #[.int .u64 0] 22)).alloc (.cells #[.bool false] 4)) = W0 := ⟨_, rfl⟩
  have hb0 : Below w.heap.size w W0 := by rw [← hW0]; exact ((((Below.refl _ w).alloc (Nat.le_refl _) _).alloc (by simp) _).alloc (by simp; omega) _).alloc (by simp; omega) _
  have hz0 : W0.heap.size = w.heap.size + 4 := by rw [← hW0]; simp
  have b0 : W0.heap[w.heap.size]? = some (.cells #[.int .i64 cl] 3 (0, 0)) := by rw [← hW0]; exact (blk_old (blk_old (blk_old (blk_new (by simp)))))
  have b1 : W0.heap[w.heap.size + 1]? = some (.cells #[.int .u64 t] 22 (0, 0)) := by rw [← hW0]; exact (blk_old (blk_old (blk_new (by simp))))
  have b2 : W0.heap[w.heap.size + 1 + 1]? = some (.cells #[.int .u64 0] 22 (0, 0)) := by rw [← hW0]; exact (blk_old (blk_new (by simp)))
  have b3 : W0.heap[w.heap.size + 1 + 1 + 1]? = some (.cells #[.bool false] 4 (0, 0)) := by rw [← hW0]; exact (blk_new (by simp))
  have HB0 := Lib.hid hb0; have HZ := Lib.hid hz0
  have Q0 := Lib.hid b0
  have Q1 := Lib.hid b1
  have Q2 := Lib.hid b2
  have Q3 := Lib.hid b3
  have c0 := (at1 b0).1
  have c1 := (at1 b1).1
  clear b0 b1 b2 b3 hz0 hb0
  gi_wp2_with (first
    | (refine ⟨trivial, ?_⟩; gi_at_call 87; refine (IC.out _ _).mono ?_; rintro e w1 ⟨rfl, rfl⟩)
    | fail)
  refine ⟨trivial, ?_⟩
  gi_at_call 30
  refine (RD.out _ _ HB0.out).mono ?_
  rintro e w2 ⟨rfl, hb2⟩
  have hz9 := hb2.size
  have hz8 := HZ.out
  have hl9 : w.heap.size + 1 < w2.heap.size := by omega
  have g1 : w.heap.size < w2.heap.size := by omega
  have g2 : w.heap.size < w2.heap.size + 1 := by omega
  have g3 : w.heap.size < w2.heap.size + 1 + 1 := by omega
  have g4 : ¬ w.heap.size + 1 = w2.heap.size := by omega
  have g5 : ¬ w.heap.size = w2.heap.size := by omega
  have g6 : ¬ w.heap.size = w2.heap.size + 1 := by omega
  have g7 : ¬ w.heap.size = w2.heap.size + 1 + 1 := by omega
  have a1 := (at1 ((hb2.block _ (by omega)).trans Q1.out)).1
  clear hz8 hz9
  gi_wp2_with (first
    | (refine ⟨trivial, ?_⟩; gi_at_call 88; refine (SF.out _ _).mono ?_; rintro e w3 ⟨rfl, rfl⟩)
    | fail)
  obtain ⟨R, hR⟩ : ∃ R, spans fs n = R := ⟨_, rfl⟩
  obtain ⟨tm, htm⟩ : ∃ tm, t % spans fs n = tm := ⟨_, rfl⟩
  have GO := Lib.hid (goes22 (a := a) (c := c) 3 (Bl := w2.heap.size + 1 + 1 + 1 + 1) (Ba := w2.heap.size + 1 + 1 + 1 + 1 + 1) HOK.out t t0 (by omega) HK.out)
  have HSS := HS.out
  have HKT : Hid (InSlot fs n tm k0) := Lib.hid (htm ▸ HK.out)
  rw [htm] at GO HSS
  have hzz := HZ.out
  have hz2 := hb2.size
  have HB2 := Lib.hid (HB0.out.trans (hb2.mono HB0.out.size))
  have p0 := (hb2.block _ (by omega)).trans Q0.out
  have p1 := (hb2.block _ (by omega)).trans Q1.out
  have p2 := (hb2.block _ (by omega)).trans Q2.out
  have p3 := (hb2.block _ (by omega)).trans Q3.out
  obtain ⟨W3, hW3⟩ : ∃ W3, ((((((w2.alloc (.cells #[.int .u64 (spans fs n)] 22)).alloc (.cells #[.int .u64 (1)] 22)).alloc (.cells #[.int .u64 0] 22)).alloc (.cells #[.int .u64 0] 22)).alloc (.cells #[.slice a n c] 53)).alloc (.cells #[.int .u64 t] 22)) = W3 := ⟨_, rfl⟩
  have hb3 : Below w.heap.size w W3 := by
    rw [← hW3]
    exact (((((HB2.out.alloc HB2.out.size _).alloc (by have := HB2.out.size; simp; omega) _).alloc (by have := HB2.out.size; simp; omega) _).alloc (by have := HB2.out.size; simp; omega) _).alloc (by have := HB2.out.size; simp; omega) _).alloc (by have := HB2.out.size; simp; omega) _
  have r0 : W3.heap[w.heap.size]? = some (.cells #[.int .i64 cl] 3 (0, 0)) := by rw [← hW3]; exact blk_old (blk_old (blk_old (blk_old (blk_old (blk_old p0)))))
  have r1 : W3.heap[w.heap.size + 1]? = some (.cells #[.int .u64 t] 22 (0, 0)) := by rw [← hW3]; exact blk_old (blk_old (blk_old (blk_old (blk_old (blk_old p1)))))
  have r2 : W3.heap[w.heap.size + 1 + 1]? = some (.cells #[.int .u64 0] 22 (0, 0)) := by rw [← hW3]; exact blk_old (blk_old (blk_old (blk_old (blk_old (blk_old p2)))))
  have r3 : W3.heap[w.heap.size + 1 + 1 + 1]? = some (.cells #[.bool false] 4 (0, 0)) := by rw [← hW3]; exact blk_old (blk_old (blk_old (blk_old (blk_old (blk_old p3)))))
  have r4 : W3.heap[w2.heap.size]? = some (.cells #[.int .u64 (spans fs n)] 22 (0, 0)) := by rw [← hW3]; exact (blk_old (blk_old (blk_old (blk_old (blk_old (blk_new (by simp)))))))
  have r5 : W3.heap[w2.heap.size + 1]? = some (.cells #[.int .u64 (1)] 22 (0, 0)) := by rw [← hW3]; exact (blk_old (blk_old (blk_old (blk_old (blk_new (by simp))))))
  have r6 : W3.heap[w2.heap.size + 1 + 1]? = some (.cells #[.int .u64 0] 22 (0, 0)) := by rw [← hW3]; exact (blk_old (blk_old (blk_old (blk_new (by simp)))))
  have r7 : W3.heap[w2.heap.size + 1 + 1 + 1]? = some (.cells #[.int .u64 0] 22 (0, 0)) := by rw [← hW3]; exact (blk_old (blk_old (blk_new (by simp))))
  have r8 : W3.heap[w2.heap.size + 1 + 1 + 1 + 1]? = some (.cells #[.slice a n c] 53 (0, 0)) := by rw [← hW3]; exact (blk_old (blk_new (by simp)))
  have r9 : W3.heap[w2.heap.size + 1 + 1 + 1 + 1 + 1]? = some (.cells #[.int .u64 t] 22 (0, 0)) := by rw [← hW3]; exact (blk_new (by simp))
  have hs1 : w.heap.size ≤ W3.heap.size := hb3.size
  have HWZ := Lib.hid (show w.heap.size + 4 ≤ w2.heap.size by omega)
  rw [hW3]
  clear hW3 p0 p1 p2 p3 hzz hz2 hb2 HZ c0 c1 a1 Q0 Q1 Q2 Q3 HB0 HB2 hW0 SF IC RD g1 g2 g3 g4 g5 g6 g7 hl9
  rw [hR] at HSS rp0 rp1 r4 ⊢
  try rw [hR] at r5
  try rw [hR] at hc2
  try rw [hR] at hc
  have HS2 := Lib.hid HSS
  clear HSS HS
  refine range_early rfl (by omega) (gf := 140) (lb := #[.pointer (some ⟨w2.heap.size + 1 + 1 + 1 + 1, 0, none⟩), .pointer (some ⟨w2.heap.size + 1 + 1 + 1 + 1 + 1, 0, none⟩)]) rfl trivial (enters_of Try.func140 (by kernel_rfl) rfl)
    GO.out (fun _ => rfl) (j + 1) (by omega)
    (fun k V => V.heap[w.heap.size]? = some (.cells #[.int .i64 cl] 3 (0, 0)) ∧ V.heap[w.heap.size + 1]? = some (.cells #[.int .u64 t] 22 (0, 0)) ∧ V.heap[w.heap.size + 1 + 1]? = some (.cells #[.int .u64 0] 22 (0, 0)) ∧ V.heap[w.heap.size + 1 + 1 + 1]? = some (.cells #[.bool false] 4 (0, 0)) ∧ V.heap[w2.heap.size]? = some (.cells #[.int .u64 R] 22 (0, 0)) ∧ V.heap[w2.heap.size + 1]? = some (.cells #[.int .u64 (1)] 22 (0, 0)) ∧ V.heap[w2.heap.size + 1 + 1]? = some (.cells #[.int .u64 (st22 fs n k0 tm cl k).1] 22 (0, 0)) ∧ V.heap[w2.heap.size + 1 + 1 + 1]? = some (.cells #[.int .u64 (st22 fs n k0 tm cl k).2] 22 (0, 0)) ∧ GIt a n c fs (w2.heap.size + 1 + 1 + 1 + 1) (w2.heap.size + 1 + 1 + 1 + 1 + 1) t V ∧ Below w.heap.size w V)
    (fun c' V => ((c' = .ret ∧ V.heap[w.heap.size + 1 + 1]? = some (.cells #[.int .u64 v] 22 (0, 0)) ∧ V.heap[w.heap.size + 1 + 1 + 1]? = some (.cells #[.bool rb] 4 (0, 0))) ∨ (c' = .exit 0 ∧ v = 0 ∧ rb = false ∧ V.heap[w.heap.size + 1 + 1]? = some (.cells #[.int .u64 0] 22 (0, 0)) ∧ V.heap[w.heap.size + 1 + 1 + 1]? = some (.cells #[.bool false] 4 (0, 0)))) ∧ Below w.heap.size w V)
    (fun k a' V => ∃ Bs, a' = { tmps := #[.slice a n c, .int .i64 cl, .int .u64 t, .int .u64 need, undef, .pointer (some ⟨w.heap.size, 0, none⟩), .pointer (some ⟨w.heap.size + 1, 0, none⟩), undef, .pointer (some ⟨w.heap.size + 1 + 1, 0, none⟩), .pointer (some ⟨w.heap.size + 1 + 1 + 1, 0, none⟩), .pointer (some ⟨w2.heap.size, 0, none⟩), .pointer (some ⟨w2.heap.size + 1, 0, none⟩), .pointer (some ⟨w2.heap.size + 1 + 1, 0, none⟩), .pointer (some ⟨w2.heap.size + 1 + 1 + 1, 0, none⟩), .pointer (some ⟨Bs, 0, none⟩), .int .i64 cl, .bool true, .bool false, .bool false, .int .u64 t, .bool (decide (9223372036854775808 < t)), .bool (decide (9223372036854775808 < t)), .slice a n c, .int .u64 R, .int .u64 need, .int .u64 (1), .int .u64 R, .int .u64 (1), .slice a n c, .int .u64 t, .func (.func 140) #[] #[.pointer (some ⟨w2.heap.size + 1 + 1 + 1 + 1, 0, none⟩), .pointer (some ⟨w2.heap.size + 1 + 1 + 1 + 1 + 1, 0, none⟩)], .agg #[.int .u8 (seq22 fs n k0 tm k).o, .int .u64 (seq22 fs n k0 tm k).s], undef, undef, undef, undef, undef, undef, undef, undef, undef, undef, undef, undef, undef, undef, undef, undef, undef, undef, undef, undef, undef, undef, undef, undef, undef, undef, undef, undef, undef, undef, undef], defers := [] } ∧ w2.heap.size + 1 + 1 + 1 + 1 + 1 < Bs ∧
      V.heap[Bs]? = some (.cells #[.int .u8 (seq22 fs n k0 tm k).o, .int .u64 (seq22 fs n k0 tm k).s] 67 (0, 0)) ∧ (V.heap[w.heap.size]? = some (.cells #[.int .i64 cl] 3 (0, 0)) ∧ V.heap[w.heap.size + 1]? = some (.cells #[.int .u64 t] 22 (0, 0)) ∧ V.heap[w.heap.size + 1 + 1]? = some (.cells #[.int .u64 0] 22 (0, 0)) ∧ V.heap[w.heap.size + 1 + 1 + 1]? = some (.cells #[.bool false] 4 (0, 0)) ∧ V.heap[w2.heap.size]? = some (.cells #[.int .u64 R] 22 (0, 0)) ∧ V.heap[w2.heap.size + 1]? = some (.cells #[.int .u64 (1)] 22 (0, 0)) ∧ V.heap[w2.heap.size + 1 + 1]? = some (.cells #[.int .u64 (st22 fs n k0 tm cl k).1] 22 (0, 0)) ∧ V.heap[w2.heap.size + 1 + 1 + 1]? = some (.cells #[.int .u64 (st22 fs n k0 tm cl k).2] 22 (0, 0)) ∧ GIt a n c fs (w2.heap.size + 1 + 1 + 1 + 1) (w2.heap.size + 1 + 1 + 1 + 1 + 1) t V ∧ Below w.heap.size w V))
    ?_ ?_ ?_ ?_ ?_ ?_ ?_ ?_ ⟨r0, r1, r2, r3, r4, r5, r6, r7, ⟨r8, r9, HR.out.below hb3⟩, hb3⟩
  · rintro k A B' row ⟨h0, h1, h2, h3, h4, h5, h6, h7, h8, h9⟩ hg hrow
    have hb6 := h9.grown hg h9.size (fun k e => Nat.le_trans hs1 (hrow k e).1)
    exact ⟨own_block h0 hg hrow, own_block h1 hg hrow, own_block h2 hg hrow, own_block h3 hg hrow, own_block h4 hg hrow, own_block h5 hg hrow, own_block h6 hg hrow, own_block h7 hg hrow, ⟨own_block h8.l hg hrow, own_block h8.t hg hrow, HR.out.below hb6⟩, hb6⟩
  · rintro k A B' ⟨h0, h1, h2, h3, h4, h5, h6, h7, h8, h9⟩ hbb
    have st : ∀ {q : Nat} {o : Obj}, A.heap[q]? = some o → B'.heap[q]? = some o := fun h => (hbb.block _ (Array.getElem?_eq_some_iff.1 h).1).trans h
    exact ⟨st h0, st h1, st h2, st h3, st h4, st h5, st h6, st h7, ⟨st h8.l, st h8.t, h8.row.below hbb⟩, h9.trans (hbb.mono h9.size)⟩
  · exact fun k V h => h.2.2.2.2.2.2.2.2.1
  · rintro c' u A B' row ⟨h1, h3⟩ hg hrow
    refine ⟨?_, h3.grown hg h3.size (fun k e => Nat.le_trans hs1 (hrow k e).1)⟩
    rcases h1 with ⟨e1, q1, q2⟩ | ⟨e1, e2, e3, q1, q2⟩
    · exact Or.inl ⟨e1, own_block q1 hg hrow, own_block q2 hg hrow⟩
    · exact Or.inr ⟨e1, e2, e3, own_block q1 hg hrow, own_block q2 hg hrow⟩
  · rintro a' k A B' row ⟨Bs, e, hlt, q0, h0, h1, h2, h3, h4, h5, h6, h7, h8, h9⟩ hg hrow
    have hb6 := h9.grown hg h9.size (fun k e => Nat.le_trans hs1 (hrow k e).1)
    exact ⟨Bs, e, hlt, own_block q0 hg hrow, own_block h0 hg hrow, own_block h1 hg hrow, own_block h2 hg hrow, own_block h3 hg hrow, own_block h4 hg hrow, own_block h5 hg hrow, own_block h6 hg hrow, own_block h7 hg hrow, ⟨own_block h8.l hg hrow, own_block h8.t hg hrow, HR.out.below hb6⟩, hb6⟩
  · rintro l k V hk1 ⟨h0, h1, h2, h3, h4, h5, h6, h7, h8, h9⟩
    simp only [enc22]
    generalize (seq22 fs n k0 tm k).o = so
    generalize (seq22 fs n k0 tm k).s = ss
    gi_wp2
    have st : ∀ {q : Nat} {o : Obj} (x : Obj), V.heap[q]? = some o → (V.alloc x).heap[q]? = some o := fun x h => (Below.heap_alloc _ _ _ (Array.getElem?_eq_some_iff.1 h).1).trans h
    have hsz := h9.size
    refine ⟨KeepsOthers.alloc V _, V.heap.size, rfl, (Array.getElem?_eq_some_iff.1 h8.t).1, heap_alloc_new V _, st _ h0, st _ h1, st _ h2, st _ h3, st _ h4, st _ h5, st _ h6, st _ h7, ⟨st _ h8.l, st _ h8.t, h8.row.below ((Below.refl _ V).alloc (Nat.le_refl _) _)⟩, h9.alloc hsz _⟩
  · rintro l k a' V hk1 ⟨Bs, rfl, hlt, q0, h0, h1, h2, h3, h4, h5, h6, h7, h8, h9⟩
    obtain ⟨hgo, hend⟩ := HS2.out
    have hlt2 := st_lt (cl := cl) (R := R) (E := 1) (by omega) (by omega) k (fun i hi => hgo i (by omega))
    have hsum := st_sum cl HOK.out HKT.out k
    have hw := wid_pos HOK.out HKT.out k
    have hob : 0 ≤ (seq22 fs n k0 tm k).o ∧ (seq22 fs n k0 tm k).o ≤ 255 := by
      unfold seq22
      split
      · exact (HR.out.okS k0 HKT.out.1).1
      · exact (HR.out.okS _ (Nat.mod_lt _ (by have := HOK.out.1.1; omega))).1
    have ho : opj fs n k0 tm cl k = decide (hlv (seq22 fs n k0 tm k).o cl % 2 = 1) := rfl
    have hst : st22 fs n k0 tm cl (k + 1) = if opj fs n k0 tm cl k = true then ((st22 fs n k0 tm cl k).1, (st22 fs n k0 tm cl k).2 + wid fs n k0 tm k) else ((st22 fs n k0 tm cl k).1 + (st22 fs n k0 tm cl k).2 + wid fs n k0 tm k, 0) := rfl
    have hwd : wid fs n k0 tm k = (seq22 fs n k0 tm k).s := rfl
    have hgk := fun h => hgo k h
    unfold GoN at hgk
    rw [hwd] at hw hst hgk
    obtain ⟨hw0, hw1⟩ := hw
    obtain ⟨ho0, ho1⟩ := hob
    obtain ⟨hl1, hl2⟩ := hlt2
    obtain ⟨-, hs0, hs2⟩ := hsum
    have HA := Lib.hid (fun (m : Nat) (W : World) => (callsIn_wide (n := m)).2 (has22 (seq22 fs n k0 tm k).o (seq22 fs n k0 tm k).s ho0 ho1 cl hcl W))
    rw [← ho] at HA
    obtain ⟨so, hso⟩ : ∃ x, (seq22 fs n k0 tm k).o = x := ⟨_, rfl⟩
    obtain ⟨ss, hss⟩ : ∃ x, (seq22 fs n k0 tm k).s = x := ⟨_, rfl⟩
    obtain ⟨P, hP⟩ : ∃ x, (st22 fs n k0 tm cl k).1 = x := ⟨_, rfl⟩
    obtain ⟨T, hT⟩ : ∃ x, (st22 fs n k0 tm cl k).2 = x := ⟨_, rfl⟩
    rw [hso, hss] at HA
    rw [hso, hss] at q0 ⊢
    rw [hss] at hw0 hw1 hst hgk hwd
    rw [hP] at h6 hl1 hs0 hst
    rw [hT] at h7 hl2 hs2 hst hgk
    have c1 := cell_of_row V Bs 0 _ _ (0, 0) q0
    have c2 := cell_of_row V Bs 1 _ _ (0, 0) q0
    have c3 := cell_of_row V w.heap.size 0 _ _ (0, 0) h0
    have HI := Lib.hid (And.intro h0 (And.intro h1 (And.intro h2 (And.intro h3 (And.intro h4 (And.intro h5 (And.intro h6 (And.intro h7 (And.intro h8 h9)))))))))
    have HQ := Lib.hid q0
    have HE := Lib.hid hend
    have HG := Lib.hid hgk
    clear h0 h1 h2 h3 h4 h5 h6 h7 h8 h9 q0 hend hgk hgo ho
    have HN := Lib.hid (And.intro hss (And.intro hP (And.intro hT hwd)))
    clear hso hss hP hT hwd
    have HST := Lib.hid hst
    clear hst
    have nin : ¬ R ≤ P := by omega
    have HLT := Lib.hid hlt
    clear hlt
    cases ho2 : opj fs n k0 tm cl k with
    | false =>
      rw [ho2] at HA
      have hst2 : st22 fs n k0 tm cl (k + 1) = (P + T + ss, 0) := by rw [HST.out, if_neg (by rw [ho2]; exact Bool.false_ne_true)]
      have HS3 := Lib.hid hst2
      clear hst2
      have u0 : P + T ≤ 18446744073709551615 := by omega
      have u1 : P + T + ss ≤ 18446744073709551615 := by omega
      by_cases hkj : k < j
      · have hlt3 : P + T + ss < R := by have := (HG.out hkj).2; rw [HS3.out] at this; exact this
        have nle : ¬ R ≤ P + T + ss := by omega
        gi_wp2_with (refine ⟨trivial, ?_⟩; gi_at_call 89; refine (HA.out _ _).mono ?_; rintro e wh ⟨rfl, hbh⟩; have KH : ∀ {q : Nat} {o : Obj}, V.heap[q]? = some o → wh.heap[q]? = some o := (fun h => (hbh.block _ (Array.getElem?_eq_some_iff.1 h).1).trans h); have x0 := KH HI.out.1; have x1 := KH HI.out.2.1; have x2 := KH HI.out.2.2.1; have x3 := KH HI.out.2.2.2.1; have x4 := KH HI.out.2.2.2.2.1; have x5 := KH HI.out.2.2.2.2.2.1; have x6 := KH HI.out.2.2.2.2.2.2.1; have x7 := KH HI.out.2.2.2.2.2.2.2.1; have xq := KH HQ.out; have X := Lib.hid (And.intro x0 (And.intro x1 (And.intro x2 (And.intro x3 (And.intro x4 (And.intro x5 (And.intro x6 x7))))))); have XB := Lib.hid hbh; have y0 := cell_of_row wh (w.heap.size) 0 _ _ (0, 0) x0; have z0 := frozen_of_row wh (w.heap.size) 0 _ _ x0; have y1 := cell_of_row wh (w.heap.size + 1) 0 _ _ (0, 0) x1; have z1 := frozen_of_row wh (w.heap.size + 1) 0 _ _ x1; have y2 := cell_of_row wh (w.heap.size + 1 + 1) 0 _ _ (0, 0) x2; have z2 := frozen_of_row wh (w.heap.size + 1 + 1) 0 _ _ x2; have y3 := cell_of_row wh (w.heap.size + 1 + 1 + 1) 0 _ _ (0, 0) x3; have z3 := frozen_of_row wh (w.heap.size + 1 + 1 + 1) 0 _ _ x3; have y4 := cell_of_row wh (w2.heap.size) 0 _ _ (0, 0) x4; have z4 := frozen_of_row wh (w2.heap.size) 0 _ _ x4; have y5 := cell_of_row wh (w2.heap.size + 1) 0 _ _ (0, 0) x5; have z5 := frozen_of_row wh (w2.heap.size + 1) 0 _ _ x5; have y6 := cell_of_row wh (w2.heap.size + 1 + 1) 0 _ _ (0, 0) x6; have z6 := frozen_of_row wh (w2.heap.size + 1 + 1) 0 _ _ x6; have y7 := cell_of_row wh (w2.heap.size + 1 + 1 + 1) 0 _ _ (0, 0) x7; have z7 := frozen_of_row wh (w2.heap.size + 1 + 1 + 1) 0 _ _ x7; have yq := cell_of_row wh Bs 1 _ _ (0, 0) xq; clear x0 x1 x2 x3 x4 x5 x6 x7 xq hbh KH)
        have hsz := HI.out.2.2.2.2.2.2.2.2.2.size
        have hwz := HWZ.out
        have GV := HI.out.2.2.2.2.2.2.2.2.1
        have hbf : Below w.heap.size w ((wh.setCell ⟨w2.heap.size + 1 + 1, 0, none⟩ (.int .u64 (P + T + ss))).setCell ⟨w2.heap.size + 1 + 1 + 1, 0, none⟩ (.int .u64 0)) := ((HI.out.2.2.2.2.2.2.2.2.2.trans (XB.out.mono hsz)).setCell (p := ⟨w2.heap.size + 1 + 1, 0, none⟩) (by simp; omega) _).setCell (p := ⟨w2.heap.size + 1 + 1 + 1, 0, none⟩) (by simp; omega) _
        have ot : ∀ {q : Nat} {o : Obj}, q ≠ w2.heap.size + 1 + 1 → q ≠ w2.heap.size + 1 + 1 + 1 → wh.heap[q]? = some o → ((wh.setCell ⟨w2.heap.size + 1 + 1, 0, none⟩ (.int .u64 (P + T + ss))).setCell ⟨w2.heap.size + 1 + 1 + 1, 0, none⟩ (.int .u64 0)).heap[q]? = some o := fun h1 h2 h => (Below.heap_setCell _ _ _ _ h2).trans ((Below.heap_setCell _ _ _ _ h1).trans h)
        have ob : ∀ {q : Nat} {o : Obj}, V.heap[q]? = some o → wh.heap[q]? = some o := fun h => (XB.out.block _ (Array.getElem?_eq_some_iff.1 h).1).trans h
        refine ⟨(((⟨XB.out.size, fun q o h _ => (XB.out.block _ (Array.getElem?_eq_some_iff.1 h).1).trans h⟩ : KeepsOthers V wh).trans (KeepsOthers.setCell _ _ _)).trans (KeepsOthers.setCell _ _ _)), by omega, ot (by omega) (by omega) X.out.1, ot (by omega) (by omega) X.out.2.1, ot (by omega) (by omega) X.out.2.2.1, ot (by omega) (by omega) X.out.2.2.2.1, ot (by omega) (by omega) X.out.2.2.2.2.1, ot (by omega) (by omega) X.out.2.2.2.2.2.1, ?_, ?_, ⟨ot (by omega) (by omega) (ob GV.l), ot (by omega) (by omega) (ob GV.t), HR.out.below hbf⟩, hbf⟩
        · rw [HS3.out]
          exact (Below.heap_setCell _ _ _ _ (by simp)).trans (put1_0 X.out.2.2.2.2.2.2.1)
        · rw [HS3.out]
          exact put1_0 ((Below.heap_setCell _ _ _ _ (by simp)).trans X.out.2.2.2.2.2.2.2)
      · obtain rfl : k = j := by omega
        obtain ⟨hge, hv, hrb⟩ : R ≤ P + T + ss ∧ v = 0 ∧ rb = false := by
          rcases HE.out with ⟨h1, -⟩ | ⟨-, h2, h3, -⟩
          · rw [ho2] at h1; cases h1
          · rw [HS3.out] at h2
            refine ⟨h2, ?_⟩
            rcases HV.out with ⟨g1, -⟩ | ⟨g1, -⟩ | ⟨-, g2, g3⟩
            · rw [h3] at g1; cases g1
            · rw [h3] at g1; cases g1
            · exact ⟨g2, g3⟩
        gi_wp2_with (refine ⟨trivial, ?_⟩; gi_at_call 89; refine (HA.out _ _).mono ?_; rintro e wh ⟨rfl, hbh⟩; have KH : ∀ {q : Nat} {o : Obj}, V.heap[q]? = some o → wh.heap[q]? = some o := (fun h => (hbh.block _ (Array.getElem?_eq_some_iff.1 h).1).trans h); have x0 := KH HI.out.1; have x1 := KH HI.out.2.1; have x2 := KH HI.out.2.2.1; have x3 := KH HI.out.2.2.2.1; have x4 := KH HI.out.2.2.2.2.1; have x5 := KH HI.out.2.2.2.2.2.1; have x6 := KH HI.out.2.2.2.2.2.2.1; have x7 := KH HI.out.2.2.2.2.2.2.2.1; have xq := KH HQ.out; have X := Lib.hid (And.intro x0 (And.intro x1 (And.intro x2 (And.intro x3 (And.intro x4 (And.intro x5 (And.intro x6 x7))))))); have XB := Lib.hid hbh; have y0 := cell_of_row wh (w.heap.size) 0 _ _ (0, 0) x0; have z0 := frozen_of_row wh (w.heap.size) 0 _ _ x0; have y1 := cell_of_row wh (w.heap.size + 1) 0 _ _ (0, 0) x1; have z1 := frozen_of_row wh (w.heap.size + 1) 0 _ _ x1; have y2 := cell_of_row wh (w.heap.size + 1 + 1) 0 _ _ (0, 0) x2; have z2 := frozen_of_row wh (w.heap.size + 1 + 1) 0 _ _ x2; have y3 := cell_of_row wh (w.heap.size + 1 + 1 + 1) 0 _ _ (0, 0) x3; have z3 := frozen_of_row wh (w.heap.size + 1 + 1 + 1) 0 _ _ x3; have y4 := cell_of_row wh (w2.heap.size) 0 _ _ (0, 0) x4; have z4 := frozen_of_row wh (w2.heap.size) 0 _ _ x4; have y5 := cell_of_row wh (w2.heap.size + 1) 0 _ _ (0, 0) x5; have z5 := frozen_of_row wh (w2.heap.size + 1) 0 _ _ x5; have y6 := cell_of_row wh (w2.heap.size + 1 + 1) 0 _ _ (0, 0) x6; have z6 := frozen_of_row wh (w2.heap.size + 1 + 1) 0 _ _ x6; have y7 := cell_of_row wh (w2.heap.size + 1 + 1 + 1) 0 _ _ (0, 0) x7; have z7 := frozen_of_row wh (w2.heap.size + 1 + 1 + 1) 0 _ _ x7; have yq := cell_of_row wh Bs 1 _ _ (0, 0) xq; clear x0 x1 x2 x3 x4 x5 x6 x7 xq hbh KH)
        have hsz := HI.out.2.2.2.2.2.2.2.2.2.size
        have hwz := HWZ.out
        have GV := HI.out.2.2.2.2.2.2.2.2.1
        have hbf : Below w.heap.size w ((wh.setCell ⟨w2.heap.size + 1 + 1, 0, none⟩ (.int .u64 (P + T + ss))).setCell ⟨w2.heap.size + 1 + 1 + 1, 0, none⟩ (.int .u64 0)) := ((HI.out.2.2.2.2.2.2.2.2.2.trans (XB.out.mono hsz)).setCell (p := ⟨w2.heap.size + 1 + 1, 0, none⟩) (by simp; omega) _).setCell (p := ⟨w2.heap.size + 1 + 1 + 1, 0, none⟩) (by simp; omega) _
        have ot : ∀ {q : Nat} {o : Obj}, q ≠ w2.heap.size + 1 + 1 → q ≠ w2.heap.size + 1 + 1 + 1 → wh.heap[q]? = some o → ((wh.setCell ⟨w2.heap.size + 1 + 1, 0, none⟩ (.int .u64 (P + T + ss))).setCell ⟨w2.heap.size + 1 + 1 + 1, 0, none⟩ (.int .u64 0)).heap[q]? = some o := fun h1 h2 h => (Below.heap_setCell _ _ _ _ h2).trans ((Below.heap_setCell _ _ _ _ h1).trans h)
        have ob : ∀ {q : Nat} {o : Obj}, V.heap[q]? = some o → wh.heap[q]? = some o := fun h => (XB.out.block _ (Array.getElem?_eq_some_iff.1 h).1).trans h
        exact ⟨(((⟨XB.out.size, fun q o h _ => (XB.out.block _ (Array.getElem?_eq_some_iff.1 h).1).trans h⟩ : KeepsOthers V wh).trans (KeepsOthers.setCell _ _ _)).trans (KeepsOthers.setCell _ _ _)), Or.inr ⟨rfl, hv, hrb, ot (by omega) (by omega) X.out.2.2.1, ot (by omega) (by omega) X.out.2.2.2.1⟩, hbf⟩
    | true =>
      rw [ho2] at HA
      have hst2 : st22 fs n k0 tm cl (k + 1) = (P, T + ss) := by rw [HST.out, if_pos ho2]
      have HS3 := Lib.hid hst2
      clear hst2
      have u0 : T + ss ≤ 18446744073709551615 := by omega
      by_cases hTE : T + ss < 1
      · exfalso; omega
      · obtain rfl : k = j := by
          by_cases e : k < j
          · exact absurd ((HG.out e).1 ho2) hTE
          · omega
        obtain ⟨hb, hgP⟩ : b = true ∧ g = P := by
          rcases HE.out with ⟨-, -, h3, h4⟩ | ⟨h1, -⟩
          · exact ⟨h3, h4.trans HN.out.2.1⟩
          · have h2 := h1 ho2
            rw [HN.out.2.2.1, HN.out.2.2.2] at h2
            exact absurd h2 hTE
        have IT : ∀ W : World, Calls Try.prog 90 #[.int .u64 (t + P)] W fun e w' => e = .returned (.tuple #[.int .u64 v, .bool rb]) ∧ w' = W := by
          intro W
          rcases HV.out with ⟨-, x1, x2, x3⟩ | ⟨-, x1, x2, x3⟩ | ⟨x0, -⟩
          · rw [hgP] at x1 x2
            rw [x2, x3]
            exact intime_yes (t + P) x1 W
          · rw [hgP] at x1
            rw [x2, x3]
            exact intime_no (t + P) x1 W
          · rw [hb] at x0; cases x0
        have IT2 := Lib.hid (fun (m : Nat) (W : World) => (callsIn_wide (n := m)).2 (IT W))
        clear IT hb hgP
        have u1 : t + P ≤ 18446744073709551615 := by omega
        gi_wp2_with (first
          | (refine ⟨trivial, ?_⟩; gi_at_call 89; refine (HA.out _ _).mono ?_; rintro e wh ⟨rfl, hbh⟩; have KH : ∀ {q : Nat} {o : Obj}, V.heap[q]? = some o → wh.heap[q]? = some o := (fun h => (hbh.block _ (Array.getElem?_eq_some_iff.1 h).1).trans h); have x0 := KH HI.out.1; have x1 := KH HI.out.2.1; have x2 := KH HI.out.2.2.1; have x3 := KH HI.out.2.2.2.1; have x4 := KH HI.out.2.2.2.2.1; have x5 := KH HI.out.2.2.2.2.2.1; have x6 := KH HI.out.2.2.2.2.2.2.1; have x7 := KH HI.out.2.2.2.2.2.2.2.1; have xq := KH HQ.out; have X := Lib.hid (And.intro x0 (And.intro x1 (And.intro x2 (And.intro x3 (And.intro x4 (And.intro x5 (And.intro x6 x7))))))); have XB := Lib.hid hbh; have y0 := cell_of_row wh (w.heap.size) 0 _ _ (0, 0) x0; have z0 := frozen_of_row wh (w.heap.size) 0 _ _ x0; have y1 := cell_of_row wh (w.heap.size + 1) 0 _ _ (0, 0) x1; have z1 := frozen_of_row wh (w.heap.size + 1) 0 _ _ x1; have y2 := cell_of_row wh (w.heap.size + 1 + 1) 0 _ _ (0, 0) x2; have z2 := frozen_of_row wh (w.heap.size + 1 + 1) 0 _ _ x2; have y3 := cell_of_row wh (w.heap.size + 1 + 1 + 1) 0 _ _ (0, 0) x3; have z3 := frozen_of_row wh (w.heap.size + 1 + 1 + 1) 0 _ _ x3; have y4 := cell_of_row wh (w2.heap.size) 0 _ _ (0, 0) x4; have z4 := frozen_of_row wh (w2.heap.size) 0 _ _ x4; have y5 := cell_of_row wh (w2.heap.size + 1) 0 _ _ (0, 0) x5; have z5 := frozen_of_row wh (w2.heap.size + 1) 0 _ _ x5; have y6 := cell_of_row wh (w2.heap.size + 1 + 1) 0 _ _ (0, 0) x6; have z6 := frozen_of_row wh (w2.heap.size + 1 + 1) 0 _ _ x6; have y7 := cell_of_row wh (w2.heap.size + 1 + 1 + 1) 0 _ _ (0, 0) x7; have z7 := frozen_of_row wh (w2.heap.size + 1 + 1 + 1) 0 _ _ x7; have yq := cell_of_row wh Bs 1 _ _ (0, 0) xq; clear x0 x1 x2 x3 x4 x5 x6 x7 xq hbh KH)
          | (refine ⟨trivial, ?_⟩; gi_at_call 90; refine (IT2.out _ _).mono ?_; rintro e w9 ⟨rfl, rfl⟩)
          | fail)
        have hsz := HI.out.2.2.2.2.2.2.2.2.2.size
        refine ⟨((⟨XB.out.size, fun q o h _ => (XB.out.block _ (Array.getElem?_eq_some_iff.1 h).1).trans h⟩ : KeepsOthers V w9).trans (KeepsOthers.setCell _ _ _)).trans (KeepsOthers.setCell _ _ _), Or.inl ⟨rfl, ?_, ?_⟩, ?_⟩
        · exact (Below.heap_setCell _ _ _ _ (by simp)).trans (put1_0 X.out.2.2.1)
        · exact put1_0 ((Below.heap_setCell _ _ _ _ (by simp)).trans X.out.2.2.2.1)
        · exact ((HI.out.2.2.2.2.2.2.2.2.2.trans (XB.out.mono hsz)).setCell (p := ⟨w.heap.size + 1 + 1, 0, none⟩) (by simp; omega) _).setCell (p := ⟨w.heap.size + 1 + 1 + 1, 0, none⟩) (by simp; omega) _
  · rintro D c' V hD ⟨hcase, q3⟩ hK
    have hpd : ∀ {q : Nat} {cs : Array Value} {ty : TypeId}, V.heap[q]? = some (.cells cs ty (0, 0)) → (V.putObj D (.deferred none)).heap[q]? = some (.cells cs ty (0, 0)) := fun h => (World.putObj_heap_other (fun e => by
      rw [e, hK] at h
      cases h)).trans h
    have hbd := q3.trans (belowK_b (w := W3) hs1 V D _ (.deferred none) hD hK rfl rfl)
    rcases hcase with ⟨rfl, q1, q2⟩ | ⟨rfl, rfl, rfl, q1, q2⟩
    · have d1 := cell_of_row _ (w.heap.size + 1 + 1) 0 _ _ (0, 0) (hpd q1)
      have d2 := cell_of_row _ (w.heap.size + 1 + 1 + 1) 0 _ _ (0, 0) (hpd q2)
      gi_wp2
      refine ⟨by simp, .inl ⟨_, _, rfl, run_takeDeferred hK, ?_⟩⟩
      exact ⟨.tuple #[.int .u64 v, .bool rb], by simp [results, Try.results28, go_sem, d1, d2], rfl, hbd⟩
    · have f1 := frozen_of_row V (w.heap.size + 1 + 1) 0 _ _ q1
      have f2 := frozen_of_row V (w.heap.size + 1 + 1 + 1) 0 _ _ q2
      have g1 := cell_of_row V (w.heap.size + 1 + 1) 0 _ _ (0, 0) q1
      have g2 := cell_of_row V (w.heap.size + 1 + 1 + 1) 0 _ _ (0, 0) q2
      gi_wp2
      have n1 : w.heap.size + 1 + 1 ≠ D := fun e => by rw [← e, q1] at hK; cases hK
      have n2 : w.heap.size + 1 + 1 + 1 ≠ D := fun e => by rw [← e, q2] at hK; cases hK
      have hK2 : ((V.setCell ⟨w.heap.size + 1 + 1, 0, none⟩ (.int .u64 0)).setCell ⟨w.heap.size + 1 + 1 + 1, 0, none⟩ (.bool false)).heap[D]? = some (.deferred (some [])) := (Below.heap_setCell _ _ _ _ (fun e => n2 e.symm)).trans ((Below.heap_setCell _ _ _ _ (fun e => n1 e.symm)).trans hK)
      have s1 : ((V.setCell ⟨w.heap.size + 1 + 1, 0, none⟩ (.int .u64 0)).setCell ⟨w.heap.size + 1 + 1 + 1, 0, none⟩ (.bool false)).heap[w.heap.size + 1 + 1]? = some (.cells #[.int .u64 0] 22 (0, 0)) := (Below.heap_setCell _ _ _ _ (by simp)).trans (put1_0 q1)
      have s2 : ((V.setCell ⟨w.heap.size + 1 + 1, 0, none⟩ (.int .u64 0)).setCell ⟨w.heap.size + 1 + 1 + 1, 0, none⟩ (.bool false)).heap[w.heap.size + 1 + 1 + 1]? = some (.cells #[.bool false] 4 (0, 0)) := put1_0 ((Below.heap_setCell _ _ _ _ (by simp)).trans q2)
      have e1 := cell_of_row _ (w.heap.size + 1 + 1) 0 _ _ (0, 0) ((World.putObj_heap_other (o := .deferred none) n1).trans s1)
      have e2 := cell_of_row _ (w.heap.size + 1 + 1 + 1) 0 _ _ (0, 0) ((World.putObj_heap_other (o := .deferred none) n2).trans s2)
      have hbs := (q3.setCell (p := ⟨w.heap.size + 1 + 1, 0, none⟩) (by simp; omega) (.int .u64 0)).setCell (p := ⟨w.heap.size + 1 + 1 + 1, 0, none⟩) (by simp; omega) (.bool false)
      refine ⟨by simp, .inl ⟨_, _, rfl, run_takeDeferred hK2, ?_⟩⟩
      exact ⟨.tuple #[.int .u64 0, .bool false], by simp [results, Try.results28, go_sem, e1, e2], rfl, hbs.trans (belowK_b (w := W3) hs1 _ D _ (.deferred none) hD hK2 rfl rfl)⟩
set_option maxRecDepth 100000 in
set_option maxHeartbeats 8000000 in
theorem gnext22_b {w : World} {a : Option Addr} {n c : Nat} {fs : List Slot22} (hr : RowSl w a n fs) (hok : PlanOk fs n) (cl : Nat) (hcl : cl ≤ 7) (t : Int) (t0 : 0 ≤ t) (t1 : t ≤ 9223372036854775808) (need : Int) (need0 : 0 ≤ need) (need1 : need ≤ 18446744073709551615) {k0 : Nat} (hk : InSlot fs n (t % spans fs n) k0)
    {j : Nat} {g v : Int} {b rb : Bool} (hS : NextIs fs n k0 (t % spans fs n) cl (spans fs n) (need) j b g)
    (hc : 1 ≤ need) (hc2 : need ≤ spans fs n)
    (hV : b = true ∧ t + g ≤ 9223372036854775808 ∧ v = t + g ∧ rb = true ∨ b = true ∧ 9223372036854775808 < t + g ∧ v = 0 ∧ rb = false ∨ b = false ∧ v = 0 ∧ rb = false) :
    Calls Try.prog 28 #[.slice a n c, .int .i64 cl, .int .u64 t, .int .u64 need] w fun e w' => e = .returned (.tuple #[.int .u64 v, .bool rb]) ∧ Below w.heap.size w w' := by
  have SF := Lib.hid (fun (m : Nat) (W : World) => (callsIn_wide (n := m)).2 (sfrom22 a n c t W))
  have IC := Lib.hid (fun (m : Nat) (W : World) => (callsIn_wide (n := m)).2 (isclass22 cl hcl W))
  have RD := Lib.hid (fun (m : Nat) (W : World) (h : Below w.heap.size w W) => (callsIn_wide (n := m)).2 (ground22 (hr.below h) c hok))
  have HR := Lib.hid hr; have HOK := Lib.hid hok; have HK := Lib.hid hk; have HS := Lib.hid hS; have HV := Lib.hid hV
  obtain ⟨rp0, rp1⟩ := round_pos hok
  clear hr hok hk hS hV
  have ntl : ¬ 9223372036854775808 < t := by omega
  have f1 : ¬ need < 1 := by omega
  have f2 : max need 1 = need := by omega
  have f3 : min need (spans fs n) = need := by omega
  have f4 : ¬ spans fs n < need := by omega
  refine (callsIn_wide (n := 4)).1 ?_
  refine callsIn_of_wp_marks Try.func28 rfl trivial ?_ rfl
  simp only [Try.ntmps28, List.size_toArray, List.length_cons, List.length_nil, Nat.reduceAdd, Nat.reduceSub, Array.replicate_succ, Array.replicate_zero, List.push_toArray, List.append_toArray, List.nil_append, List.cons_append]
  obtain ⟨W0, hW0⟩ : ∃ W0, ((((w.alloc (.cells #[.int .i64 cl] 3)).alloc (.cells #[.int .u64 t] 22)).alloc (.cells #[.int .u64 0] 22)).alloc (.cells #[.bool false] 4)) = W0 := ⟨_, rfl⟩
  have hb0 : Below w.heap.size w W0 := by rw [← hW0]; exact ((((Below.refl _ w).alloc (Nat.le_refl _) _).alloc (by simp) _).alloc (by simp; omega) _).alloc (by simp; omega) _
  have hz0 : W0.heap.size = w.heap.size + 4 := by rw [← hW0]; simp
  have b0 : W0.heap[w.heap.size]? = some (.cells #[.int .i64 cl] 3 (0, 0)) := by rw [← hW0]; exact (blk_old (blk_old (blk_old (blk_new (by simp)))))
  have b1 : W0.heap[w.heap.size + 1]? = some (.cells #[.int .u64 t] 22 (0, 0)) := by rw [← hW0]; exact (blk_old (blk_old (blk_new (by simp))))
  have b2 : W0.heap[w.heap.size + 1 + 1]? = some (.cells #[.int .u64 0] 22 (0, 0)) := by rw [← hW0]; exact (blk_old (blk_new (by simp)))
  have b3 : W0.heap[w.heap.size + 1 + 1 + 1]? = some (.cells #[.bool false] 4 (0, 0)) := by rw [← hW0]; exact (blk_new (by simp))
  have HB0 := Lib.hid hb0; have HZ := Lib.hid hz0
  have Q0 := Lib.hid b0
  have Q1 := Lib.hid b1
  have Q2 := Lib.hid b2
  have Q3 := Lib.hid b3
  have c0 := (at1 b0).1
  have c1 := (at1 b1).1
  clear b0 b1 b2 b3 hz0 hb0
  gi_wp2_with (first
    | (refine ⟨trivial, ?_⟩; gi_at_call 87; refine (IC.out _ _).mono ?_; rintro e w1 ⟨rfl, rfl⟩)
    | fail)
  refine ⟨trivial, ?_⟩
  gi_at_call 30
  refine (RD.out _ _ HB0.out).mono ?_
  rintro e w2 ⟨rfl, hb2⟩
  have hz9 := hb2.size
  have hz8 := HZ.out
  have hl9 : w.heap.size + 1 < w2.heap.size := by omega
  have g1 : w.heap.size < w2.heap.size := by omega
  have g2 : w.heap.size < w2.heap.size + 1 := by omega
  have g3 : w.heap.size < w2.heap.size + 1 + 1 := by omega
  have g4 : ¬ w.heap.size + 1 = w2.heap.size := by omega
  have g5 : ¬ w.heap.size = w2.heap.size := by omega
  have g6 : ¬ w.heap.size = w2.heap.size + 1 := by omega
  have g7 : ¬ w.heap.size = w2.heap.size + 1 + 1 := by omega
  have a1 := (at1 ((hb2.block _ (by omega)).trans Q1.out)).1
  clear hz8 hz9
  gi_wp2_with (first
    | (refine ⟨trivial, ?_⟩; gi_at_call 88; refine (SF.out _ _).mono ?_; rintro e w3 ⟨rfl, rfl⟩)
    | fail)
  obtain ⟨R, hR⟩ : ∃ R, spans fs n = R := ⟨_, rfl⟩
  obtain ⟨tm, htm⟩ : ∃ tm, t % spans fs n = tm := ⟨_, rfl⟩
  have GO := Lib.hid (goes22 (a := a) (c := c) 3 (Bl := w2.heap.size + 1 + 1 + 1 + 1) (Ba := w2.heap.size + 1 + 1 + 1 + 1 + 1) HOK.out t t0 (by omega) HK.out)
  have HSS := HS.out
  have HKT : Hid (InSlot fs n tm k0) := Lib.hid (htm ▸ HK.out)
  rw [htm] at GO HSS
  have hzz := HZ.out
  have hz2 := hb2.size
  have HB2 := Lib.hid (HB0.out.trans (hb2.mono HB0.out.size))
  have p0 := (hb2.block _ (by omega)).trans Q0.out
  have p1 := (hb2.block _ (by omega)).trans Q1.out
  have p2 := (hb2.block _ (by omega)).trans Q2.out
  have p3 := (hb2.block _ (by omega)).trans Q3.out
  obtain ⟨W3, hW3⟩ : ∃ W3, ((((((w2.alloc (.cells #[.int .u64 (spans fs n)] 22)).alloc (.cells #[.int .u64 (need)] 22)).alloc (.cells #[.int .u64 0] 22)).alloc (.cells #[.int .u64 0] 22)).alloc (.cells #[.slice a n c] 53)).alloc (.cells #[.int .u64 t] 22)) = W3 := ⟨_, rfl⟩
  have hb3 : Below w.heap.size w W3 := by
    rw [← hW3]
    exact (((((HB2.out.alloc HB2.out.size _).alloc (by have := HB2.out.size; simp; omega) _).alloc (by have := HB2.out.size; simp; omega) _).alloc (by have := HB2.out.size; simp; omega) _).alloc (by have := HB2.out.size; simp; omega) _).alloc (by have := HB2.out.size; simp; omega) _
  have r0 : W3.heap[w.heap.size]? = some (.cells #[.int .i64 cl] 3 (0, 0)) := by rw [← hW3]; exact blk_old (blk_old (blk_old (blk_old (blk_old (blk_old p0)))))
  have r1 : W3.heap[w.heap.size + 1]? = some (.cells #[.int .u64 t] 22 (0, 0)) := by rw [← hW3]; exact blk_old (blk_old (blk_old (blk_old (blk_old (blk_old p1)))))
  have r2 : W3.heap[w.heap.size + 1 + 1]? = some (.cells #[.int .u64 0] 22 (0, 0)) := by rw [← hW3]; exact blk_old (blk_old (blk_old (blk_old (blk_old (blk_old p2)))))
  have r3 : W3.heap[w.heap.size + 1 + 1 + 1]? = some (.cells #[.bool false] 4 (0, 0)) := by rw [← hW3]; exact blk_old (blk_old (blk_old (blk_old (blk_old (blk_old p3)))))
  have r4 : W3.heap[w2.heap.size]? = some (.cells #[.int .u64 (spans fs n)] 22 (0, 0)) := by rw [← hW3]; exact (blk_old (blk_old (blk_old (blk_old (blk_old (blk_new (by simp)))))))
  have r5 : W3.heap[w2.heap.size + 1]? = some (.cells #[.int .u64 (need)] 22 (0, 0)) := by rw [← hW3]; exact (blk_old (blk_old (blk_old (blk_old (blk_new (by simp))))))
  have r6 : W3.heap[w2.heap.size + 1 + 1]? = some (.cells #[.int .u64 0] 22 (0, 0)) := by rw [← hW3]; exact (blk_old (blk_old (blk_old (blk_new (by simp)))))
  have r7 : W3.heap[w2.heap.size + 1 + 1 + 1]? = some (.cells #[.int .u64 0] 22 (0, 0)) := by rw [← hW3]; exact (blk_old (blk_old (blk_new (by simp))))
  have r8 : W3.heap[w2.heap.size + 1 + 1 + 1 + 1]? = some (.cells #[.slice a n c] 53 (0, 0)) := by rw [← hW3]; exact (blk_old (blk_new (by simp)))
  have r9 : W3.heap[w2.heap.size + 1 + 1 + 1 + 1 + 1]? = some (.cells #[.int .u64 t] 22 (0, 0)) := by rw [← hW3]; exact (blk_new (by simp))
  have hs1 : w.heap.size ≤ W3.heap.size := hb3.size
  have HWZ := Lib.hid (show w.heap.size + 4 ≤ w2.heap.size by omega)
  rw [hW3]
  clear hW3 p0 p1 p2 p3 hzz hz2 hb2 HZ c0 c1 a1 Q0 Q1 Q2 Q3 HB0 HB2 hW0 SF IC RD g1 g2 g3 g4 g5 g6 g7 hl9
  rw [hR] at HSS rp0 rp1 r4 ⊢
  try rw [hR] at r5
  try rw [hR] at hc2
  try rw [hR] at hc
  have HS2 := Lib.hid HSS
  clear HSS HS
  refine range_early rfl (by omega) (gf := 140) (lb := #[.pointer (some ⟨w2.heap.size + 1 + 1 + 1 + 1, 0, none⟩), .pointer (some ⟨w2.heap.size + 1 + 1 + 1 + 1 + 1, 0, none⟩)]) rfl trivial (enters_of Try.func140 (by kernel_rfl) rfl)
    GO.out (fun _ => rfl) (j + 1) (by omega)
    (fun k V => V.heap[w.heap.size]? = some (.cells #[.int .i64 cl] 3 (0, 0)) ∧ V.heap[w.heap.size + 1]? = some (.cells #[.int .u64 t] 22 (0, 0)) ∧ V.heap[w.heap.size + 1 + 1]? = some (.cells #[.int .u64 0] 22 (0, 0)) ∧ V.heap[w.heap.size + 1 + 1 + 1]? = some (.cells #[.bool false] 4 (0, 0)) ∧ V.heap[w2.heap.size]? = some (.cells #[.int .u64 R] 22 (0, 0)) ∧ V.heap[w2.heap.size + 1]? = some (.cells #[.int .u64 (need)] 22 (0, 0)) ∧ V.heap[w2.heap.size + 1 + 1]? = some (.cells #[.int .u64 (st22 fs n k0 tm cl k).1] 22 (0, 0)) ∧ V.heap[w2.heap.size + 1 + 1 + 1]? = some (.cells #[.int .u64 (st22 fs n k0 tm cl k).2] 22 (0, 0)) ∧ GIt a n c fs (w2.heap.size + 1 + 1 + 1 + 1) (w2.heap.size + 1 + 1 + 1 + 1 + 1) t V ∧ Below w.heap.size w V)
    (fun c' V => ((c' = .ret ∧ V.heap[w.heap.size + 1 + 1]? = some (.cells #[.int .u64 v] 22 (0, 0)) ∧ V.heap[w.heap.size + 1 + 1 + 1]? = some (.cells #[.bool rb] 4 (0, 0))) ∨ (c' = .exit 0 ∧ v = 0 ∧ rb = false ∧ V.heap[w.heap.size + 1 + 1]? = some (.cells #[.int .u64 0] 22 (0, 0)) ∧ V.heap[w.heap.size + 1 + 1 + 1]? = some (.cells #[.bool false] 4 (0, 0)))) ∧ Below w.heap.size w V)
    (fun k a' V => ∃ Bs, a' = { tmps := #[.slice a n c, .int .i64 cl, .int .u64 t, .int .u64 need, undef, .pointer (some ⟨w.heap.size, 0, none⟩), .pointer (some ⟨w.heap.size + 1, 0, none⟩), undef, .pointer (some ⟨w.heap.size + 1 + 1, 0, none⟩), .pointer (some ⟨w.heap.size + 1 + 1 + 1, 0, none⟩), .pointer (some ⟨w2.heap.size, 0, none⟩), .pointer (some ⟨w2.heap.size + 1, 0, none⟩), .pointer (some ⟨w2.heap.size + 1 + 1, 0, none⟩), .pointer (some ⟨w2.heap.size + 1 + 1 + 1, 0, none⟩), .pointer (some ⟨Bs, 0, none⟩), .int .i64 cl, .bool true, .bool false, .bool false, .int .u64 t, .bool (decide (9223372036854775808 < t)), .bool (decide (9223372036854775808 < t)), .slice a n c, .int .u64 R, .int .u64 need, .int .u64 (need), .int .u64 R, .int .u64 (need), .slice a n c, .int .u64 t, .func (.func 140) #[] #[.pointer (some ⟨w2.heap.size + 1 + 1 + 1 + 1, 0, none⟩), .pointer (some ⟨w2.heap.size + 1 + 1 + 1 + 1 + 1, 0, none⟩)], .agg #[.int .u8 (seq22 fs n k0 tm k).o, .int .u64 (seq22 fs n k0 tm k).s], undef, undef, undef, undef, undef, undef, undef, undef, undef, undef, undef, undef, undef, undef, undef, undef, undef, undef, undef, undef, undef, undef, undef, undef, undef, undef, undef, undef, undef, undef, undef], defers := [] } ∧ w2.heap.size + 1 + 1 + 1 + 1 + 1 < Bs ∧
      V.heap[Bs]? = some (.cells #[.int .u8 (seq22 fs n k0 tm k).o, .int .u64 (seq22 fs n k0 tm k).s] 67 (0, 0)) ∧ (V.heap[w.heap.size]? = some (.cells #[.int .i64 cl] 3 (0, 0)) ∧ V.heap[w.heap.size + 1]? = some (.cells #[.int .u64 t] 22 (0, 0)) ∧ V.heap[w.heap.size + 1 + 1]? = some (.cells #[.int .u64 0] 22 (0, 0)) ∧ V.heap[w.heap.size + 1 + 1 + 1]? = some (.cells #[.bool false] 4 (0, 0)) ∧ V.heap[w2.heap.size]? = some (.cells #[.int .u64 R] 22 (0, 0)) ∧ V.heap[w2.heap.size + 1]? = some (.cells #[.int .u64 (need)] 22 (0, 0)) ∧ V.heap[w2.heap.size + 1 + 1]? = some (.cells #[.int .u64 (st22 fs n k0 tm cl k).1] 22 (0, 0)) ∧ V.heap[w2.heap.size + 1 + 1 + 1]? = some (.cells #[.int .u64 (st22 fs n k0 tm cl k).2] 22 (0, 0)) ∧ GIt a n c fs (w2.heap.size + 1 + 1 + 1 + 1) (w2.heap.size + 1 + 1 + 1 + 1 + 1) t V ∧ Below w.heap.size w V))
    ?_ ?_ ?_ ?_ ?_ ?_ ?_ ?_ ⟨r0, r1, r2, r3, r4, r5, r6, r7, ⟨r8, r9, HR.out.below hb3⟩, hb3⟩
  · rintro k A B' row ⟨h0, h1, h2, h3, h4, h5, h6, h7, h8, h9⟩ hg hrow
    have hb6 := h9.grown hg h9.size (fun k e => Nat.le_trans hs1 (hrow k e).1)
    exact ⟨own_block h0 hg hrow, own_block h1 hg hrow, own_block h2 hg hrow, own_block h3 hg hrow, own_block h4 hg hrow, own_block h5 hg hrow, own_block h6 hg hrow, own_block h7 hg hrow, ⟨own_block h8.l hg hrow, own_block h8.t hg hrow, HR.out.below hb6⟩, hb6⟩
  · rintro k A B' ⟨h0, h1, h2, h3, h4, h5, h6, h7, h8, h9⟩ hbb
    have st : ∀ {q : Nat} {o : Obj}, A.heap[q]? = some o → B'.heap[q]? = some o := fun h => (hbb.block _ (Array.getElem?_eq_some_iff.1 h).1).trans h
    exact ⟨st h0, st h1, st h2, st h3, st h4, st h5, st h6, st h7, ⟨st h8.l, st h8.t, h8.row.below hbb⟩, h9.trans (hbb.mono h9.size)⟩
  · exact fun k V h => h.2.2.2.2.2.2.2.2.1
  · rintro c' u A B' row ⟨h1, h3⟩ hg hrow
    refine ⟨?_, h3.grown hg h3.size (fun k e => Nat.le_trans hs1 (hrow k e).1)⟩
    rcases h1 with ⟨e1, q1, q2⟩ | ⟨e1, e2, e3, q1, q2⟩
    · exact Or.inl ⟨e1, own_block q1 hg hrow, own_block q2 hg hrow⟩
    · exact Or.inr ⟨e1, e2, e3, own_block q1 hg hrow, own_block q2 hg hrow⟩
  · rintro a' k A B' row ⟨Bs, e, hlt, q0, h0, h1, h2, h3, h4, h5, h6, h7, h8, h9⟩ hg hrow
    have hb6 := h9.grown hg h9.size (fun k e => Nat.le_trans hs1 (hrow k e).1)
    exact ⟨Bs, e, hlt, own_block q0 hg hrow, own_block h0 hg hrow, own_block h1 hg hrow, own_block h2 hg hrow, own_block h3 hg hrow, own_block h4 hg hrow, own_block h5 hg hrow, own_block h6 hg hrow, own_block h7 hg hrow, ⟨own_block h8.l hg hrow, own_block h8.t hg hrow, HR.out.below hb6⟩, hb6⟩
  · rintro l k V hk1 ⟨h0, h1, h2, h3, h4, h5, h6, h7, h8, h9⟩
    simp only [enc22]
    generalize (seq22 fs n k0 tm k).o = so
    generalize (seq22 fs n k0 tm k).s = ss
    gi_wp2
    have st : ∀ {q : Nat} {o : Obj} (x : Obj), V.heap[q]? = some o → (V.alloc x).heap[q]? = some o := fun x h => (Below.heap_alloc _ _ _ (Array.getElem?_eq_some_iff.1 h).1).trans h
    have hsz := h9.size
    refine ⟨KeepsOthers.alloc V _, V.heap.size, rfl, (Array.getElem?_eq_some_iff.1 h8.t).1, heap_alloc_new V _, st _ h0, st _ h1, st _ h2, st _ h3, st _ h4, st _ h5, st _ h6, st _ h7, ⟨st _ h8.l, st _ h8.t, h8.row.below ((Below.refl _ V).alloc (Nat.le_refl _) _)⟩, h9.alloc hsz _⟩
  · rintro l k a' V hk1 ⟨Bs, rfl, hlt, q0, h0, h1, h2, h3, h4, h5, h6, h7, h8, h9⟩
    obtain ⟨hgo, hend⟩ := HS2.out
    have hlt2 := st_lt (cl := cl) (R := R) (E := need) (by omega) (by omega) k (fun i hi => hgo i (by omega))
    have hsum := st_sum cl HOK.out HKT.out k
    have hw := wid_pos HOK.out HKT.out k
    have hob : 0 ≤ (seq22 fs n k0 tm k).o ∧ (seq22 fs n k0 tm k).o ≤ 255 := by
      unfold seq22
      split
      · exact (HR.out.okS k0 HKT.out.1).1
      · exact (HR.out.okS _ (Nat.mod_lt _ (by have := HOK.out.1.1; omega))).1
    have ho : opj fs n k0 tm cl k = decide (hlv (seq22 fs n k0 tm k).o cl % 2 = 1) := rfl
    have hst : st22 fs n k0 tm cl (k + 1) = if opj fs n k0 tm cl k = true then ((st22 fs n k0 tm cl k).1, (st22 fs n k0 tm cl k).2 + wid fs n k0 tm k) else ((st22 fs n k0 tm cl k).1 + (st22 fs n k0 tm cl k).2 + wid fs n k0 tm k, 0) := rfl
    have hwd : wid fs n k0 tm k = (seq22 fs n k0 tm k).s := rfl
    have hgk := fun h => hgo k h
    unfold GoN at hgk
    rw [hwd] at hw hst hgk
    obtain ⟨hw0, hw1⟩ := hw
    obtain ⟨ho0, ho1⟩ := hob
    obtain ⟨hl1, hl2⟩ := hlt2
    obtain ⟨-, hs0, hs2⟩ := hsum
    have HA := Lib.hid (fun (m : Nat) (W : World) => (callsIn_wide (n := m)).2 (has22 (seq22 fs n k0 tm k).o (seq22 fs n k0 tm k).s ho0 ho1 cl hcl W))
    rw [← ho] at HA
    obtain ⟨so, hso⟩ : ∃ x, (seq22 fs n k0 tm k).o = x := ⟨_, rfl⟩
    obtain ⟨ss, hss⟩ : ∃ x, (seq22 fs n k0 tm k).s = x := ⟨_, rfl⟩
    obtain ⟨P, hP⟩ : ∃ x, (st22 fs n k0 tm cl k).1 = x := ⟨_, rfl⟩
    obtain ⟨T, hT⟩ : ∃ x, (st22 fs n k0 tm cl k).2 = x := ⟨_, rfl⟩
    rw [hso, hss] at HA
    rw [hso, hss] at q0 ⊢
    rw [hss] at hw0 hw1 hst hgk hwd
    rw [hP] at h6 hl1 hs0 hst
    rw [hT] at h7 hl2 hs2 hst hgk
    have c1 := cell_of_row V Bs 0 _ _ (0, 0) q0
    have c2 := cell_of_row V Bs 1 _ _ (0, 0) q0
    have c3 := cell_of_row V w.heap.size 0 _ _ (0, 0) h0
    have HI := Lib.hid (And.intro h0 (And.intro h1 (And.intro h2 (And.intro h3 (And.intro h4 (And.intro h5 (And.intro h6 (And.intro h7 (And.intro h8 h9)))))))))
    have HQ := Lib.hid q0
    have HE := Lib.hid hend
    have HG := Lib.hid hgk
    clear h0 h1 h2 h3 h4 h5 h6 h7 h8 h9 q0 hend hgk hgo ho
    have HN := Lib.hid (And.intro hss (And.intro hP (And.intro hT hwd)))
    clear hso hss hP hT hwd
    have HST := Lib.hid hst
    clear hst
    have nin : ¬ R ≤ P := by omega
    have HLT := Lib.hid hlt
    clear hlt
    cases ho2 : opj fs n k0 tm cl k with
    | false =>
      rw [ho2] at HA
      have hst2 : st22 fs n k0 tm cl (k + 1) = (P + T + ss, 0) := by rw [HST.out, if_neg (by rw [ho2]; exact Bool.false_ne_true)]
      have HS3 := Lib.hid hst2
      clear hst2
      have u0 : P + T ≤ 18446744073709551615 := by omega
      have u1 : P + T + ss ≤ 18446744073709551615 := by omega
      by_cases hkj : k < j
      · have hlt3 : P + T + ss < R := by have := (HG.out hkj).2; rw [HS3.out] at this; exact this
        have nle : ¬ R ≤ P + T + ss := by omega
        gi_wp2_with (refine ⟨trivial, ?_⟩; gi_at_call 89; refine (HA.out _ _).mono ?_; rintro e wh ⟨rfl, hbh⟩; have KH : ∀ {q : Nat} {o : Obj}, V.heap[q]? = some o → wh.heap[q]? = some o := (fun h => (hbh.block _ (Array.getElem?_eq_some_iff.1 h).1).trans h); have x0 := KH HI.out.1; have x1 := KH HI.out.2.1; have x2 := KH HI.out.2.2.1; have x3 := KH HI.out.2.2.2.1; have x4 := KH HI.out.2.2.2.2.1; have x5 := KH HI.out.2.2.2.2.2.1; have x6 := KH HI.out.2.2.2.2.2.2.1; have x7 := KH HI.out.2.2.2.2.2.2.2.1; have xq := KH HQ.out; have X := Lib.hid (And.intro x0 (And.intro x1 (And.intro x2 (And.intro x3 (And.intro x4 (And.intro x5 (And.intro x6 x7))))))); have XB := Lib.hid hbh; have y0 := cell_of_row wh (w.heap.size) 0 _ _ (0, 0) x0; have z0 := frozen_of_row wh (w.heap.size) 0 _ _ x0; have y1 := cell_of_row wh (w.heap.size + 1) 0 _ _ (0, 0) x1; have z1 := frozen_of_row wh (w.heap.size + 1) 0 _ _ x1; have y2 := cell_of_row wh (w.heap.size + 1 + 1) 0 _ _ (0, 0) x2; have z2 := frozen_of_row wh (w.heap.size + 1 + 1) 0 _ _ x2; have y3 := cell_of_row wh (w.heap.size + 1 + 1 + 1) 0 _ _ (0, 0) x3; have z3 := frozen_of_row wh (w.heap.size + 1 + 1 + 1) 0 _ _ x3; have y4 := cell_of_row wh (w2.heap.size) 0 _ _ (0, 0) x4; have z4 := frozen_of_row wh (w2.heap.size) 0 _ _ x4; have y5 := cell_of_row wh (w2.heap.size + 1) 0 _ _ (0, 0) x5; have z5 := frozen_of_row wh (w2.heap.size + 1) 0 _ _ x5; have y6 := cell_of_row wh (w2.heap.size + 1 + 1) 0 _ _ (0, 0) x6; have z6 := frozen_of_row wh (w2.heap.size + 1 + 1) 0 _ _ x6; have y7 := cell_of_row wh (w2.heap.size + 1 + 1 + 1) 0 _ _ (0, 0) x7; have z7 := frozen_of_row wh (w2.heap.size + 1 + 1 + 1) 0 _ _ x7; have yq := cell_of_row wh Bs 1 _ _ (0, 0) xq; clear x0 x1 x2 x3 x4 x5 x6 x7 xq hbh KH)
        have hsz := HI.out.2.2.2.2.2.2.2.2.2.size
        have hwz := HWZ.out
        have GV := HI.out.2.2.2.2.2.2.2.2.1
        have hbf : Below w.heap.size w ((wh.setCell ⟨w2.heap.size + 1 + 1, 0, none⟩ (.int .u64 (P + T + ss))).setCell ⟨w2.heap.size + 1 + 1 + 1, 0, none⟩ (.int .u64 0)) := ((HI.out.2.2.2.2.2.2.2.2.2.trans (XB.out.mono hsz)).setCell (p := ⟨w2.heap.size + 1 + 1, 0, none⟩) (by simp; omega) _).setCell (p := ⟨w2.heap.size + 1 + 1 + 1, 0, none⟩) (by simp; omega) _
        have ot : ∀ {q : Nat} {o : Obj}, q ≠ w2.heap.size + 1 + 1 → q ≠ w2.heap.size + 1 + 1 + 1 → wh.heap[q]? = some o → ((wh.setCell ⟨w2.heap.size + 1 + 1, 0, none⟩ (.int .u64 (P + T + ss))).setCell ⟨w2.heap.size + 1 + 1 + 1, 0, none⟩ (.int .u64 0)).heap[q]? = some o := fun h1 h2 h => (Below.heap_setCell _ _ _ _ h2).trans ((Below.heap_setCell _ _ _ _ h1).trans h)
        have ob : ∀ {q : Nat} {o : Obj}, V.heap[q]? = some o → wh.heap[q]? = some o := fun h => (XB.out.block _ (Array.getElem?_eq_some_iff.1 h).1).trans h
        refine ⟨(((⟨XB.out.size, fun q o h _ => (XB.out.block _ (Array.getElem?_eq_some_iff.1 h).1).trans h⟩ : KeepsOthers V wh).trans (KeepsOthers.setCell _ _ _)).trans (KeepsOthers.setCell _ _ _)), by omega, ot (by omega) (by omega) X.out.1, ot (by omega) (by omega) X.out.2.1, ot (by omega) (by omega) X.out.2.2.1, ot (by omega) (by omega) X.out.2.2.2.1, ot (by omega) (by omega) X.out.2.2.2.2.1, ot (by omega) (by omega) X.out.2.2.2.2.2.1, ?_, ?_, ⟨ot (by omega) (by omega) (ob GV.l), ot (by omega) (by omega) (ob GV.t), HR.out.below hbf⟩, hbf⟩
        · rw [HS3.out]
          exact (Below.heap_setCell _ _ _ _ (by simp)).trans (put1_0 X.out.2.2.2.2.2.2.1)
        · rw [HS3.out]
          exact put1_0 ((Below.heap_setCell _ _ _ _ (by simp)).trans X.out.2.2.2.2.2.2.2)
      · obtain rfl : k = j := by omega
        obtain ⟨hge, hv, hrb⟩ : R ≤ P + T + ss ∧ v = 0 ∧ rb = false := by
          rcases HE.out with ⟨h1, -⟩ | ⟨-, h2, h3, -⟩
          · rw [ho2] at h1; cases h1
          · rw [HS3.out] at h2
            refine ⟨h2, ?_⟩
            rcases HV.out with ⟨g1, -⟩ | ⟨g1, -⟩ | ⟨-, g2, g3⟩
            · rw [h3] at g1; cases g1
            · rw [h3] at g1; cases g1
            · exact ⟨g2, g3⟩
        gi_wp2_with (refine ⟨trivial, ?_⟩; gi_at_call 89; refine (HA.out _ _).mono ?_; rintro e wh ⟨rfl, hbh⟩; have KH : ∀ {q : Nat} {o : Obj}, V.heap[q]? = some o → wh.heap[q]? = some o := (fun h => (hbh.block _ (Array.getElem?_eq_some_iff.1 h).1).trans h); have x0 := KH HI.out.1; have x1 := KH HI.out.2.1; have x2 := KH HI.out.2.2.1; have x3 := KH HI.out.2.2.2.1; have x4 := KH HI.out.2.2.2.2.1; have x5 := KH HI.out.2.2.2.2.2.1; have x6 := KH HI.out.2.2.2.2.2.2.1; have x7 := KH HI.out.2.2.2.2.2.2.2.1; have xq := KH HQ.out; have X := Lib.hid (And.intro x0 (And.intro x1 (And.intro x2 (And.intro x3 (And.intro x4 (And.intro x5 (And.intro x6 x7))))))); have XB := Lib.hid hbh; have y0 := cell_of_row wh (w.heap.size) 0 _ _ (0, 0) x0; have z0 := frozen_of_row wh (w.heap.size) 0 _ _ x0; have y1 := cell_of_row wh (w.heap.size + 1) 0 _ _ (0, 0) x1; have z1 := frozen_of_row wh (w.heap.size + 1) 0 _ _ x1; have y2 := cell_of_row wh (w.heap.size + 1 + 1) 0 _ _ (0, 0) x2; have z2 := frozen_of_row wh (w.heap.size + 1 + 1) 0 _ _ x2; have y3 := cell_of_row wh (w.heap.size + 1 + 1 + 1) 0 _ _ (0, 0) x3; have z3 := frozen_of_row wh (w.heap.size + 1 + 1 + 1) 0 _ _ x3; have y4 := cell_of_row wh (w2.heap.size) 0 _ _ (0, 0) x4; have z4 := frozen_of_row wh (w2.heap.size) 0 _ _ x4; have y5 := cell_of_row wh (w2.heap.size + 1) 0 _ _ (0, 0) x5; have z5 := frozen_of_row wh (w2.heap.size + 1) 0 _ _ x5; have y6 := cell_of_row wh (w2.heap.size + 1 + 1) 0 _ _ (0, 0) x6; have z6 := frozen_of_row wh (w2.heap.size + 1 + 1) 0 _ _ x6; have y7 := cell_of_row wh (w2.heap.size + 1 + 1 + 1) 0 _ _ (0, 0) x7; have z7 := frozen_of_row wh (w2.heap.size + 1 + 1 + 1) 0 _ _ x7; have yq := cell_of_row wh Bs 1 _ _ (0, 0) xq; clear x0 x1 x2 x3 x4 x5 x6 x7 xq hbh KH)
        have hsz := HI.out.2.2.2.2.2.2.2.2.2.size
        have hwz := HWZ.out
        have GV := HI.out.2.2.2.2.2.2.2.2.1
        have hbf : Below w.heap.size w ((wh.setCell ⟨w2.heap.size + 1 + 1, 0, none⟩ (.int .u64 (P + T + ss))).setCell ⟨w2.heap.size + 1 + 1 + 1, 0, none⟩ (.int .u64 0)) := ((HI.out.2.2.2.2.2.2.2.2.2.trans (XB.out.mono hsz)).setCell (p := ⟨w2.heap.size + 1 + 1, 0, none⟩) (by simp; omega) _).setCell (p := ⟨w2.heap.size + 1 + 1 + 1, 0, none⟩) (by simp; omega) _
        have ot : ∀ {q : Nat} {o : Obj}, q ≠ w2.heap.size + 1 + 1 → q ≠ w2.heap.size + 1 + 1 + 1 → wh.heap[q]? = some o → ((wh.setCell ⟨w2.heap.size + 1 + 1, 0, none⟩ (.int .u64 (P + T + ss))).setCell ⟨w2.heap.size + 1 + 1 + 1, 0, none⟩ (.int .u64 0)).heap[q]? = some o := fun h1 h2 h => (Below.heap_setCell _ _ _ _ h2).trans ((Below.heap_setCell _ _ _ _ h1).trans h)
        have ob : ∀ {q : Nat} {o : Obj}, V.heap[q]? = some o → wh.heap[q]? = some o := fun h => (XB.out.block _ (Array.getElem?_eq_some_iff.1 h).1).trans h
        exact ⟨(((⟨XB.out.size, fun q o h _ => (XB.out.block _ (Array.getElem?_eq_some_iff.1 h).1).trans h⟩ : KeepsOthers V wh).trans (KeepsOthers.setCell _ _ _)).trans (KeepsOthers.setCell _ _ _)), Or.inr ⟨rfl, hv, hrb, ot (by omega) (by omega) X.out.2.2.1, ot (by omega) (by omega) X.out.2.2.2.1⟩, hbf⟩
    | true =>
      rw [ho2] at HA
      have hst2 : st22 fs n k0 tm cl (k + 1) = (P, T + ss) := by rw [HST.out, if_pos ho2]
      have HS3 := Lib.hid hst2
      clear hst2
      have u0 : T + ss ≤ 18446744073709551615 := by omega
      by_cases hTE : T + ss < need
      · have hkj : k < j := by
          by_cases e : k < j
          · exact e
          · exfalso
            obtain rfl : k = j := by omega
            rcases HE.out with ⟨-, h1, -⟩ | ⟨-, h2, -⟩
            · rw [HN.out.2.2.1, HN.out.2.2.2] at h1; omega
            · rw [HS3.out] at h2; dsimp only at h2; omega
        gi_wp2_with (refine ⟨trivial, ?_⟩; gi_at_call 89; refine (HA.out _ _).mono ?_; rintro e wh ⟨rfl, hbh⟩; have KH : ∀ {q : Nat} {o : Obj}, V.heap[q]? = some o → wh.heap[q]? = some o := (fun h => (hbh.block _ (Array.getElem?_eq_some_iff.1 h).1).trans h); have x0 := KH HI.out.1; have x1 := KH HI.out.2.1; have x2 := KH HI.out.2.2.1; have x3 := KH HI.out.2.2.2.1; have x4 := KH HI.out.2.2.2.2.1; have x5 := KH HI.out.2.2.2.2.2.1; have x6 := KH HI.out.2.2.2.2.2.2.1; have x7 := KH HI.out.2.2.2.2.2.2.2.1; have xq := KH HQ.out; have X := Lib.hid (And.intro x0 (And.intro x1 (And.intro x2 (And.intro x3 (And.intro x4 (And.intro x5 (And.intro x6 x7))))))); have XB := Lib.hid hbh; have y0 := cell_of_row wh (w.heap.size) 0 _ _ (0, 0) x0; have z0 := frozen_of_row wh (w.heap.size) 0 _ _ x0; have y1 := cell_of_row wh (w.heap.size + 1) 0 _ _ (0, 0) x1; have z1 := frozen_of_row wh (w.heap.size + 1) 0 _ _ x1; have y2 := cell_of_row wh (w.heap.size + 1 + 1) 0 _ _ (0, 0) x2; have z2 := frozen_of_row wh (w.heap.size + 1 + 1) 0 _ _ x2; have y3 := cell_of_row wh (w.heap.size + 1 + 1 + 1) 0 _ _ (0, 0) x3; have z3 := frozen_of_row wh (w.heap.size + 1 + 1 + 1) 0 _ _ x3; have y4 := cell_of_row wh (w2.heap.size) 0 _ _ (0, 0) x4; have z4 := frozen_of_row wh (w2.heap.size) 0 _ _ x4; have y5 := cell_of_row wh (w2.heap.size + 1) 0 _ _ (0, 0) x5; have z5 := frozen_of_row wh (w2.heap.size + 1) 0 _ _ x5; have y6 := cell_of_row wh (w2.heap.size + 1 + 1) 0 _ _ (0, 0) x6; have z6 := frozen_of_row wh (w2.heap.size + 1 + 1) 0 _ _ x6; have y7 := cell_of_row wh (w2.heap.size + 1 + 1 + 1) 0 _ _ (0, 0) x7; have z7 := frozen_of_row wh (w2.heap.size + 1 + 1 + 1) 0 _ _ x7; have yq := cell_of_row wh Bs 1 _ _ (0, 0) xq; clear x0 x1 x2 x3 x4 x5 x6 x7 xq hbh KH)
        have hsz := HI.out.2.2.2.2.2.2.2.2.2.size
        have hwz := HWZ.out
        have GV := HI.out.2.2.2.2.2.2.2.2.1
        have hbf : Below w.heap.size w (wh.setCell ⟨w2.heap.size + 1 + 1 + 1, 0, none⟩ (.int .u64 (T + ss))) := (HI.out.2.2.2.2.2.2.2.2.2.trans (XB.out.mono hsz)).setCell (p := ⟨w2.heap.size + 1 + 1 + 1, 0, none⟩) (by simp; omega) _
        have ot : ∀ {q : Nat} {o : Obj}, q ≠ w2.heap.size + 1 + 1 + 1 → wh.heap[q]? = some o → (wh.setCell ⟨w2.heap.size + 1 + 1 + 1, 0, none⟩ (.int .u64 (T + ss))).heap[q]? = some o := fun h2 h => (Below.heap_setCell _ _ _ _ h2).trans h
        have ob : ∀ {q : Nat} {o : Obj}, V.heap[q]? = some o → wh.heap[q]? = some o := fun h => (XB.out.block _ (Array.getElem?_eq_some_iff.1 h).1).trans h
        refine ⟨((⟨XB.out.size, fun q o h _ => (XB.out.block _ (Array.getElem?_eq_some_iff.1 h).1).trans h⟩ : KeepsOthers V wh).trans (KeepsOthers.setCell _ _ _)), by omega, ot (by omega) X.out.1, ot (by omega) X.out.2.1, ot (by omega) X.out.2.2.1, ot (by omega) X.out.2.2.2.1, ot (by omega) X.out.2.2.2.2.1, ot (by omega) X.out.2.2.2.2.2.1, ?_, ?_, ⟨ot (by omega) (ob GV.l), ot (by omega) (ob GV.t), HR.out.below hbf⟩, hbf⟩
        · rw [HS3.out]
          exact ot (by omega) X.out.2.2.2.2.2.2.1
        · rw [HS3.out]
          exact put1_0 X.out.2.2.2.2.2.2.2
      · obtain rfl : k = j := by
          by_cases e : k < j
          · exact absurd ((HG.out e).1 ho2) hTE
          · omega
        obtain ⟨hb, hgP⟩ : b = true ∧ g = P := by
          rcases HE.out with ⟨-, -, h3, h4⟩ | ⟨h1, -⟩
          · exact ⟨h3, h4.trans HN.out.2.1⟩
          · have h2 := h1 ho2
            rw [HN.out.2.2.1, HN.out.2.2.2] at h2
            exact absurd h2 hTE
        have IT : ∀ W : World, Calls Try.prog 90 #[.int .u64 (t + P)] W fun e w' => e = .returned (.tuple #[.int .u64 v, .bool rb]) ∧ w' = W := by
          intro W
          rcases HV.out with ⟨-, x1, x2, x3⟩ | ⟨-, x1, x2, x3⟩ | ⟨x0, -⟩
          · rw [hgP] at x1 x2
            rw [x2, x3]
            exact intime_yes (t + P) x1 W
          · rw [hgP] at x1
            rw [x2, x3]
            exact intime_no (t + P) x1 W
          · rw [hb] at x0; cases x0
        have IT2 := Lib.hid (fun (m : Nat) (W : World) => (callsIn_wide (n := m)).2 (IT W))
        clear IT hb hgP
        have u1 : t + P ≤ 18446744073709551615 := by omega
        gi_wp2_with (first
          | (refine ⟨trivial, ?_⟩; gi_at_call 89; refine (HA.out _ _).mono ?_; rintro e wh ⟨rfl, hbh⟩; have KH : ∀ {q : Nat} {o : Obj}, V.heap[q]? = some o → wh.heap[q]? = some o := (fun h => (hbh.block _ (Array.getElem?_eq_some_iff.1 h).1).trans h); have x0 := KH HI.out.1; have x1 := KH HI.out.2.1; have x2 := KH HI.out.2.2.1; have x3 := KH HI.out.2.2.2.1; have x4 := KH HI.out.2.2.2.2.1; have x5 := KH HI.out.2.2.2.2.2.1; have x6 := KH HI.out.2.2.2.2.2.2.1; have x7 := KH HI.out.2.2.2.2.2.2.2.1; have xq := KH HQ.out; have X := Lib.hid (And.intro x0 (And.intro x1 (And.intro x2 (And.intro x3 (And.intro x4 (And.intro x5 (And.intro x6 x7))))))); have XB := Lib.hid hbh; have y0 := cell_of_row wh (w.heap.size) 0 _ _ (0, 0) x0; have z0 := frozen_of_row wh (w.heap.size) 0 _ _ x0; have y1 := cell_of_row wh (w.heap.size + 1) 0 _ _ (0, 0) x1; have z1 := frozen_of_row wh (w.heap.size + 1) 0 _ _ x1; have y2 := cell_of_row wh (w.heap.size + 1 + 1) 0 _ _ (0, 0) x2; have z2 := frozen_of_row wh (w.heap.size + 1 + 1) 0 _ _ x2; have y3 := cell_of_row wh (w.heap.size + 1 + 1 + 1) 0 _ _ (0, 0) x3; have z3 := frozen_of_row wh (w.heap.size + 1 + 1 + 1) 0 _ _ x3; have y4 := cell_of_row wh (w2.heap.size) 0 _ _ (0, 0) x4; have z4 := frozen_of_row wh (w2.heap.size) 0 _ _ x4; have y5 := cell_of_row wh (w2.heap.size + 1) 0 _ _ (0, 0) x5; have z5 := frozen_of_row wh (w2.heap.size + 1) 0 _ _ x5; have y6 := cell_of_row wh (w2.heap.size + 1 + 1) 0 _ _ (0, 0) x6; have z6 := frozen_of_row wh (w2.heap.size + 1 + 1) 0 _ _ x6; have y7 := cell_of_row wh (w2.heap.size + 1 + 1 + 1) 0 _ _ (0, 0) x7; have z7 := frozen_of_row wh (w2.heap.size + 1 + 1 + 1) 0 _ _ x7; have yq := cell_of_row wh Bs 1 _ _ (0, 0) xq; clear x0 x1 x2 x3 x4 x5 x6 x7 xq hbh KH)
          | (refine ⟨trivial, ?_⟩; gi_at_call 90; refine (IT2.out _ _).mono ?_; rintro e w9 ⟨rfl, rfl⟩)
          | fail)
        have hsz := HI.out.2.2.2.2.2.2.2.2.2.size
        refine ⟨((⟨XB.out.size, fun q o h _ => (XB.out.block _ (Array.getElem?_eq_some_iff.1 h).1).trans h⟩ : KeepsOthers V w9).trans (KeepsOthers.setCell _ _ _)).trans (KeepsOthers.setCell _ _ _), Or.inl ⟨rfl, ?_, ?_⟩, ?_⟩
        · exact (Below.heap_setCell _ _ _ _ (by simp)).trans (put1_0 X.out.2.2.1)
        · exact put1_0 ((Below.heap_setCell _ _ _ _ (by simp)).trans X.out.2.2.2.1)
        · exact ((HI.out.2.2.2.2.2.2.2.2.2.trans (XB.out.mono hsz)).setCell (p := ⟨w.heap.size + 1 + 1, 0, none⟩) (by simp; omega) _).setCell (p := ⟨w.heap.size + 1 + 1 + 1, 0, none⟩) (by simp; omega) _
  · rintro D c' V hD ⟨hcase, q3⟩ hK
    have hpd : ∀ {q : Nat} {cs : Array Value} {ty : TypeId}, V.heap[q]? = some (.cells cs ty (0, 0)) → (V.putObj D (.deferred none)).heap[q]? = some (.cells cs ty (0, 0)) := fun h => (World.putObj_heap_other (fun e => by
      rw [e, hK] at h
      cases h)).trans h
    have hbd := q3.trans (belowK_b (w := W3) hs1 V D _ (.deferred none) hD hK rfl rfl)
    rcases hcase with ⟨rfl, q1, q2⟩ | ⟨rfl, rfl, rfl, q1, q2⟩
    · have d1 := cell_of_row _ (w.heap.size + 1 + 1) 0 _ _ (0, 0) (hpd q1)
      have d2 := cell_of_row _ (w.heap.size + 1 + 1 + 1) 0 _ _ (0, 0) (hpd q2)
      gi_wp2
      refine ⟨by simp, .inl ⟨_, _, rfl, run_takeDeferred hK, ?_⟩⟩
      exact ⟨.tuple #[.int .u64 v, .bool rb], by simp [results, Try.results28, go_sem, d1, d2], rfl, hbd⟩
    · have f1 := frozen_of_row V (w.heap.size + 1 + 1) 0 _ _ q1
      have f2 := frozen_of_row V (w.heap.size + 1 + 1 + 1) 0 _ _ q2
      have g1 := cell_of_row V (w.heap.size + 1 + 1) 0 _ _ (0, 0) q1
      have g2 := cell_of_row V (w.heap.size + 1 + 1 + 1) 0 _ _ (0, 0) q2
      gi_wp2
      have n1 : w.heap.size + 1 + 1 ≠ D := fun e => by rw [← e, q1] at hK; cases hK
      have n2 : w.heap.size + 1 + 1 + 1 ≠ D := fun e => by rw [← e, q2] at hK; cases hK
      have hK2 : ((V.setCell ⟨w.heap.size + 1 + 1, 0, none⟩ (.int .u64 0)).setCell ⟨w.heap.size + 1 + 1 + 1, 0, none⟩ (.bool false)).heap[D]? = some (.deferred (some [])) := (Below.heap_setCell _ _ _ _ (fun e => n2 e.symm)).trans ((Below.heap_setCell _ _ _ _ (fun e => n1 e.symm)).trans hK)
      have s1 : ((V.setCell ⟨w.heap.size + 1 + 1, 0, none⟩ (.int .u64 0)).setCell ⟨w.heap.size + 1 + 1 + 1, 0, none⟩ (.bool false)).heap[w.heap.size + 1 + 1]? = some (.cells #[.int .u64 0] 22 (0, 0)) := (Below.heap_setCell _ _ _ _ (by simp)).trans (put1_0 q1)
      have s2 : ((V.setCell ⟨w.heap.size + 1 + 1, 0, none⟩ (.int .u64 0)).setCell ⟨w.heap.size + 1 + 1 + 1, 0, none⟩ (.bool false)).heap[w.heap.size + 1 + 1 + 1]? = some (.cells #[.bool false] 4 (0, 0)) := put1_0 ((Below.heap_setCell _ _ _ _ (by simp)).trans q2)
      have e1 := cell_of_row _ (w.heap.size + 1 + 1) 0 _ _ (0, 0) ((World.putObj_heap_other (o := .deferred none) n1).trans s1)
      have e2 := cell_of_row _ (w.heap.size + 1 + 1 + 1) 0 _ _ (0, 0) ((World.putObj_heap_other (o := .deferred none) n2).trans s2)
      have hbs := (q3.setCell (p := ⟨w.heap.size + 1 + 1, 0, none⟩) (by simp; omega) (.int .u64 0)).setCell (p := ⟨w.heap.size + 1 + 1 + 1, 0, none⟩) (by simp; omega) (.bool false)
      refine ⟨by simp, .inl ⟨_, _, rfl, run_takeDeferred hK2, ?_⟩⟩
      exact ⟨.tuple #[.int .u64 0, .bool false], by simp [results, Try.results28, go_sem, e1, e2], rfl, hbs.trans (belowK_b (w := W3) hs1 _ D _ (.deferred none) hD hK2 rfl rfl)⟩
set_option maxRecDepth 100000 in
set_option maxHeartbeats 8000000 in
theorem gnext22_c {w : World} {a : Option Addr} {n c : Nat} {fs : List Slot22} (hr : RowSl w a n fs) (hok : PlanOk fs n) (cl : Nat) (hcl : cl ≤ 7) (t : Int) (t0 : 0 ≤ t) (t1 : t ≤ 9223372036854775808) (need : Int) (need0 : 0 ≤ need) (need1 : need ≤ 18446744073709551615) {k0 : Nat} (hk : InSlot fs n (t % spans fs n) k0)
    {j : Nat} {g v : Int} {b rb : Bool} (hS : NextIs fs n k0 (t % spans fs n) cl (spans fs n) (spans fs n) j b g)
    (hc : spans fs n < need)
    (hV : b = true ∧ t + g ≤ 9223372036854775808 ∧ v = t + g ∧ rb = true ∨ b = true ∧ 9223372036854775808 < t + g ∧ v = 0 ∧ rb = false ∨ b = false ∧ v = 0 ∧ rb = false) :
    Calls Try.prog 28 #[.slice a n c, .int .i64 cl, .int .u64 t, .int .u64 need] w fun e w' => e = .returned (.tuple #[.int .u64 v, .bool rb]) ∧ Below w.heap.size w w' := by
  have SF := Lib.hid (fun (m : Nat) (W : World) => (callsIn_wide (n := m)).2 (sfrom22 a n c t W))
  have IC := Lib.hid (fun (m : Nat) (W : World) => (callsIn_wide (n := m)).2 (isclass22 cl hcl W))
  have RD := Lib.hid (fun (m : Nat) (W : World) (h : Below w.heap.size w W) => (callsIn_wide (n := m)).2 (ground22 (hr.below h) c hok))
  have HR := Lib.hid hr; have HOK := Lib.hid hok; have HK := Lib.hid hk; have HS := Lib.hid hS; have HV := Lib.hid hV
  obtain ⟨rp0, rp1⟩ := round_pos hok
  clear hr hok hk hS hV
  have ntl : ¬ 9223372036854775808 < t := by omega
  have f0 : 1 ≤ need := by omega
  have f1 : ¬ need < 1 := by omega
  have f2 : max need 1 = need := by omega
  have f3 : min need (spans fs n) = spans fs n := by omega
  have f4 : ¬ need ≤ spans fs n := by omega
  refine (callsIn_wide (n := 4)).1 ?_
  refine callsIn_of_wp_marks Try.func28 rfl trivial ?_ rfl
  simp only [Try.ntmps28, List.size_toArray, List.length_cons, List.length_nil, Nat.reduceAdd, Nat.reduceSub, Array.replicate_succ, Array.replicate_zero, List.push_toArray, List.append_toArray, List.nil_append, List.cons_append]
  obtain ⟨W0, hW0⟩ : ∃ W0, ((((w.alloc (.cells #[.int .i64 cl] 3)).alloc (.cells #[.int .u64 t] 22)).alloc (.cells #[.int .u64 0] 22)).alloc (.cells #[.bool false] 4)) = W0 := ⟨_, rfl⟩
  have hb0 : Below w.heap.size w W0 := by rw [← hW0]; exact ((((Below.refl _ w).alloc (Nat.le_refl _) _).alloc (by simp) _).alloc (by simp; omega) _).alloc (by simp; omega) _
  have hz0 : W0.heap.size = w.heap.size + 4 := by rw [← hW0]; simp
  have b0 : W0.heap[w.heap.size]? = some (.cells #[.int .i64 cl] 3 (0, 0)) := by rw [← hW0]; exact (blk_old (blk_old (blk_old (blk_new (by simp)))))
  have b1 : W0.heap[w.heap.size + 1]? = some (.cells #[.int .u64 t] 22 (0, 0)) := by rw [← hW0]; exact (blk_old (blk_old (blk_new (by simp))))
  have b2 : W0.heap[w.heap.size + 1 + 1]? = some (.cells #[.int .u64 0] 22 (0, 0)) := by rw [← hW0]; exact (blk_old (blk_new (by simp)))
  have b3 : W0.heap[w.heap.size + 1 + 1 + 1]? = some (.cells #[.bool false] 4 (0, 0)) := by rw [← hW0]; exact (blk_new (by simp))
  have HB0 := Lib.hid hb0; have HZ := Lib.hid hz0
  have Q0 := Lib.hid b0
  have Q1 := Lib.hid b1
  have Q2 := Lib.hid b2
  have Q3 := Lib.hid b3
  have c0 := (at1 b0).1
  have c1 := (at1 b1).1
  clear b0 b1 b2 b3 hz0 hb0
  gi_wp2_with (first
    | (refine ⟨trivial, ?_⟩; gi_at_call 87; refine (IC.out _ _).mono ?_; rintro e w1 ⟨rfl, rfl⟩)
    | fail)
  refine ⟨trivial, ?_⟩
  gi_at_call 30
  refine (RD.out _ _ HB0.out).mono ?_
  rintro e w2 ⟨rfl, hb2⟩
  have hz9 := hb2.size
  have hz8 := HZ.out
  have hl9 : w.heap.size + 1 < w2.heap.size := by omega
  have g1 : w.heap.size < w2.heap.size := by omega
  have g2 : w.heap.size < w2.heap.size + 1 := by omega
  have g3 : w.heap.size < w2.heap.size + 1 + 1 := by omega
  have g4 : ¬ w.heap.size + 1 = w2.heap.size := by omega
  have g5 : ¬ w.heap.size = w2.heap.size := by omega
  have g6 : ¬ w.heap.size = w2.heap.size + 1 := by omega
  have g7 : ¬ w.heap.size = w2.heap.size + 1 + 1 := by omega
  have a1 := (at1 ((hb2.block _ (by omega)).trans Q1.out)).1
  clear hz8 hz9
  gi_wp2_with (first
    | (refine ⟨trivial, ?_⟩; gi_at_call 88; refine (SF.out _ _).mono ?_; rintro e w3 ⟨rfl, rfl⟩)
    | fail)
  obtain ⟨R, hR⟩ : ∃ R, spans fs n = R := ⟨_, rfl⟩
  obtain ⟨tm, htm⟩ : ∃ tm, t % spans fs n = tm := ⟨_, rfl⟩
  have GO := Lib.hid (goes22 (a := a) (c := c) 3 (Bl := w2.heap.size + 1 + 1 + 1 + 1) (Ba := w2.heap.size + 1 + 1 + 1 + 1 + 1) HOK.out t t0 (by omega) HK.out)
  have HSS := HS.out
  have HKT : Hid (InSlot fs n tm k0) := Lib.hid (htm ▸ HK.out)
  rw [htm] at GO HSS
  have hzz := HZ.out
  have hz2 := hb2.size
  have HB2 := Lib.hid (HB0.out.trans (hb2.mono HB0.out.size))
  have p0 := (hb2.block _ (by omega)).trans Q0.out
  have p1 := (hb2.block _ (by omega)).trans Q1.out
  have p2 := (hb2.block _ (by omega)).trans Q2.out
  have p3 := (hb2.block _ (by omega)).trans Q3.out
  obtain ⟨W3, hW3⟩ : ∃ W3, ((((((w2.alloc (.cells #[.int .u64 (spans fs n)] 22)).alloc (.cells #[.int .u64 (spans fs n)] 22)).alloc (.cells #[.int .u64 0] 22)).alloc (.cells #[.int .u64 0] 22)).alloc (.cells #[.slice a n c] 53)).alloc (.cells #[.int .u64 t] 22)) = W3 := ⟨_, rfl⟩
  have hb3 : Below w.heap.size w W3 := by
    rw [← hW3]
    exact (((((HB2.out.alloc HB2.out.size _).alloc (by have := HB2.out.size; simp; omega) _).alloc (by have := HB2.out.size; simp; omega) _).alloc (by have := HB2.out.size; simp; omega) _).alloc (by have := HB2.out.size; simp; omega) _).alloc (by have := HB2.out.size; simp; omega) _
  have r0 : W3.heap[w.heap.size]? = some (.cells #[.int .i64 cl] 3 (0, 0)) := by rw [← hW3]; exact blk_old (blk_old (blk_old (blk_old (blk_old (blk_old p0)))))
  have r1 : W3.heap[w.heap.size + 1]? = some (.cells #[.int .u64 t] 22 (0, 0)) := by rw [← hW3]; exact blk_old (blk_old (blk_old (blk_old (blk_old (blk_old p1)))))
  have r2 : W3.heap[w.heap.size + 1 + 1]? = some (.cells #[.int .u64 0] 22 (0, 0)) := by rw [← hW3]; exact blk_old (blk_old (blk_old (blk_old (blk_old (blk_old p2)))))
  have r3 : W3.heap[w.heap.size + 1 + 1 + 1]? = some (.cells #[.bool false] 4 (0, 0)) := by rw [← hW3]; exact blk_old (blk_old (blk_old (blk_old (blk_old (blk_old p3)))))
  have r4 : W3.heap[w2.heap.size]? = some (.cells #[.int .u64 (spans fs n)] 22 (0, 0)) := by rw [← hW3]; exact (blk_old (blk_old (blk_old (blk_old (blk_old (blk_new (by simp)))))))
  have r5 : W3.heap[w2.heap.size + 1]? = some (.cells #[.int .u64 (spans fs n)] 22 (0, 0)) := by rw [← hW3]; exact (blk_old (blk_old (blk_old (blk_old (blk_new (by simp))))))
  have r6 : W3.heap[w2.heap.size + 1 + 1]? = some (.cells #[.int .u64 0] 22 (0, 0)) := by rw [← hW3]; exact (blk_old (blk_old (blk_old (blk_new (by simp)))))
  have r7 : W3.heap[w2.heap.size + 1 + 1 + 1]? = some (.cells #[.int .u64 0] 22 (0, 0)) := by rw [← hW3]; exact (blk_old (blk_old (blk_new (by simp))))
  have r8 : W3.heap[w2.heap.size + 1 + 1 + 1 + 1]? = some (.cells #[.slice a n c] 53 (0, 0)) := by rw [← hW3]; exact (blk_old (blk_new (by simp)))
  have r9 : W3.heap[w2.heap.size + 1 + 1 + 1 + 1 + 1]? = some (.cells #[.int .u64 t] 22 (0, 0)) := by rw [← hW3]; exact (blk_new (by simp))
  have hs1 : w.heap.size ≤ W3.heap.size := hb3.size
  have HWZ := Lib.hid (show w.heap.size + 4 ≤ w2.heap.size by omega)
  rw [hW3]
  clear hW3 p0 p1 p2 p3 hzz hz2 hb2 HZ c0 c1 a1 Q0 Q1 Q2 Q3 HB0 HB2 hW0 SF IC RD g1 g2 g3 g4 g5 g6 g7 hl9
  rw [hR] at HSS rp0 rp1 r4 ⊢
  try rw [hR] at r5
  try rw [hR] at hc2
  try rw [hR] at hc
  have HS2 := Lib.hid HSS
  clear HSS HS
  refine range_early rfl (by omega) (gf := 140) (lb := #[.pointer (some ⟨w2.heap.size + 1 + 1 + 1 + 1, 0, none⟩), .pointer (some ⟨w2.heap.size + 1 + 1 + 1 + 1 + 1, 0, none⟩)]) rfl trivial (enters_of Try.func140 (by kernel_rfl) rfl)
    GO.out (fun _ => rfl) (j + 1) (by omega)
    (fun k V => V.heap[w.heap.size]? = some (.cells #[.int .i64 cl] 3 (0, 0)) ∧ V.heap[w.heap.size + 1]? = some (.cells #[.int .u64 t] 22 (0, 0)) ∧ V.heap[w.heap.size + 1 + 1]? = some (.cells #[.int .u64 0] 22 (0, 0)) ∧ V.heap[w.heap.size + 1 + 1 + 1]? = some (.cells #[.bool false] 4 (0, 0)) ∧ V.heap[w2.heap.size]? = some (.cells #[.int .u64 R] 22 (0, 0)) ∧ V.heap[w2.heap.size + 1]? = some (.cells #[.int .u64 (R)] 22 (0, 0)) ∧ V.heap[w2.heap.size + 1 + 1]? = some (.cells #[.int .u64 (st22 fs n k0 tm cl k).1] 22 (0, 0)) ∧ V.heap[w2.heap.size + 1 + 1 + 1]? = some (.cells #[.int .u64 (st22 fs n k0 tm cl k).2] 22 (0, 0)) ∧ GIt a n c fs (w2.heap.size + 1 + 1 + 1 + 1) (w2.heap.size + 1 + 1 + 1 + 1 + 1) t V ∧ Below w.heap.size w V)
    (fun c' V => ((c' = .ret ∧ V.heap[w.heap.size + 1 + 1]? = some (.cells #[.int .u64 v] 22 (0, 0)) ∧ V.heap[w.heap.size + 1 + 1 + 1]? = some (.cells #[.bool rb] 4 (0, 0))) ∨ (c' = .exit 0 ∧ v = 0 ∧ rb = false ∧ V.heap[w.heap.size + 1 + 1]? = some (.cells #[.int .u64 0] 22 (0, 0)) ∧ V.heap[w.heap.size + 1 + 1 + 1]? = some (.cells #[.bool false] 4 (0, 0)))) ∧ Below w.heap.size w V)
    (fun k a' V => ∃ Bs, a' = { tmps := #[.slice a n c, .int .i64 cl, .int .u64 t, .int .u64 need, undef, .pointer (some ⟨w.heap.size, 0, none⟩), .pointer (some ⟨w.heap.size + 1, 0, none⟩), undef, .pointer (some ⟨w.heap.size + 1 + 1, 0, none⟩), .pointer (some ⟨w.heap.size + 1 + 1 + 1, 0, none⟩), .pointer (some ⟨w2.heap.size, 0, none⟩), .pointer (some ⟨w2.heap.size + 1, 0, none⟩), .pointer (some ⟨w2.heap.size + 1 + 1, 0, none⟩), .pointer (some ⟨w2.heap.size + 1 + 1 + 1, 0, none⟩), .pointer (some ⟨Bs, 0, none⟩), .int .i64 cl, .bool true, .bool false, .bool false, .int .u64 t, .bool (decide (9223372036854775808 < t)), .bool (decide (9223372036854775808 < t)), .slice a n c, .int .u64 R, .int .u64 need, .int .u64 (need), .int .u64 R, .int .u64 (R), .slice a n c, .int .u64 t, .func (.func 140) #[] #[.pointer (some ⟨w2.heap.size + 1 + 1 + 1 + 1, 0, none⟩), .pointer (some ⟨w2.heap.size + 1 + 1 + 1 + 1 + 1, 0, none⟩)], .agg #[.int .u8 (seq22 fs n k0 tm k).o, .int .u64 (seq22 fs n k0 tm k).s], undef, undef, undef, undef, undef, undef, undef, undef, undef, undef, undef, undef, undef, undef, undef, undef, undef, undef, undef, undef, undef, undef, undef, undef, undef, undef, undef, undef, undef, undef, undef], defers := [] } ∧ w2.heap.size + 1 + 1 + 1 + 1 + 1 < Bs ∧
      V.heap[Bs]? = some (.cells #[.int .u8 (seq22 fs n k0 tm k).o, .int .u64 (seq22 fs n k0 tm k).s] 67 (0, 0)) ∧ (V.heap[w.heap.size]? = some (.cells #[.int .i64 cl] 3 (0, 0)) ∧ V.heap[w.heap.size + 1]? = some (.cells #[.int .u64 t] 22 (0, 0)) ∧ V.heap[w.heap.size + 1 + 1]? = some (.cells #[.int .u64 0] 22 (0, 0)) ∧ V.heap[w.heap.size + 1 + 1 + 1]? = some (.cells #[.bool false] 4 (0, 0)) ∧ V.heap[w2.heap.size]? = some (.cells #[.int .u64 R] 22 (0, 0)) ∧ V.heap[w2.heap.size + 1]? = some (.cells #[.int .u64 (R)] 22 (0, 0)) ∧ V.heap[w2.heap.size + 1 + 1]? = some (.cells #[.int .u64 (st22 fs n k0 tm cl k).1] 22 (0, 0)) ∧ V.heap[w2.heap.size + 1 + 1 + 1]? = some (.cells #[.int .u64 (st22 fs n k0 tm cl k).2] 22 (0, 0)) ∧ GIt a n c fs (w2.heap.size + 1 + 1 + 1 + 1) (w2.heap.size + 1 + 1 + 1 + 1 + 1) t V ∧ Below w.heap.size w V))
    ?_ ?_ ?_ ?_ ?_ ?_ ?_ ?_ ⟨r0, r1, r2, r3, r4, r5, r6, r7, ⟨r8, r9, HR.out.below hb3⟩, hb3⟩
  · rintro k A B' row ⟨h0, h1, h2, h3, h4, h5, h6, h7, h8, h9⟩ hg hrow
    have hb6 := h9.grown hg h9.size (fun k e => Nat.le_trans hs1 (hrow k e).1)
    exact ⟨own_block h0 hg hrow, own_block h1 hg hrow, own_block h2 hg hrow, own_block h3 hg hrow, own_block h4 hg hrow, own_block h5 hg hrow, own_block h6 hg hrow, own_block h7 hg hrow, ⟨own_block h8.l hg hrow, own_block h8.t hg hrow, HR.out.below hb6⟩, hb6⟩
  · rintro k A B' ⟨h0, h1, h2, h3, h4, h5, h6, h7, h8, h9⟩ hbb
    have st : ∀ {q : Nat} {o : Obj}, A.heap[q]? = some o → B'.heap[q]? = some o := fun h => (hbb.block _ (Array.getElem?_eq_some_iff.1 h).1).trans h
    exact ⟨st h0, st h1, st h2, st h3, st h4, st h5, st h6, st h7, ⟨st h8.l, st h8.t, h8.row.below hbb⟩, h9.trans (hbb.mono h9.size)⟩
  · exact fun k V h => h.2.2.2.2.2.2.2.2.1
  · rintro c' u A B' row ⟨h1, h3⟩ hg hrow
    refine ⟨?_, h3.grown hg h3.size (fun k e => Nat.le_trans hs1 (hrow k e).1)⟩
    rcases h1 with ⟨e1, q1, q2⟩ | ⟨e1, e2, e3, q1, q2⟩
    · exact Or.inl ⟨e1, own_block q1 hg hrow, own_block q2 hg hrow⟩
    · exact Or.inr ⟨e1, e2, e3, own_block q1 hg hrow, own_block q2 hg hrow⟩
  · rintro a' k A B' row ⟨Bs, e, hlt, q0, h0, h1, h2, h3, h4, h5, h6, h7, h8, h9⟩ hg hrow
    have hb6 := h9.grown hg h9.size (fun k e => Nat.le_trans hs1 (hrow k e).1)
    exact ⟨Bs, e, hlt, own_block q0 hg hrow, own_block h0 hg hrow, own_block h1 hg hrow, own_block h2 hg hrow, own_block h3 hg hrow, own_block h4 hg hrow, own_block h5 hg hrow, own_block h6 hg hrow, own_block h7 hg hrow, ⟨own_block h8.l hg hrow, own_block h8.t hg hrow, HR.out.below hb6⟩, hb6⟩
  · rintro l k V hk1 ⟨h0, h1, h2, h3, h4, h5, h6, h7, h8, h9⟩
    simp only [enc22]
    generalize (seq22 fs n k0 tm k).o = so
    generalize (seq22 fs n k0 tm k).s = ss
    gi_wp2
    have st : ∀ {q : Nat} {o : Obj} (x : Obj), V.heap[q]? = some o → (V.alloc x).heap[q]? = some o := fun x h => (Below.heap_alloc _ _ _ (Array.getElem?_eq_some_iff.1 h).1).trans h
    have hsz := h9.size
    refine ⟨KeepsOthers.alloc V _, V.heap.size, rfl, (Array.getElem?_eq_some_iff.1 h8.t).1, heap_alloc_new V _, st _ h0, st _ h1, st _ h2, st _ h3, st _ h4, st _ h5, st _ h6, st _ h7, ⟨st _ h8.l, st _ h8.t, h8.row.below ((Below.refl _ V).alloc (Nat.le_refl _) _)⟩, h9.alloc hsz _⟩
  · rintro l k a' V hk1 ⟨Bs, rfl, hlt, q0, h0, h1, h2, h3, h4, h5, h6, h7, h8, h9⟩
    obtain ⟨hgo, hend⟩ := HS2.out
    have hlt2 := st_lt (cl := cl) (R := R) (E := R) (by omega) (by omega) k (fun i hi => hgo i (by omega))
    have hsum := st_sum cl HOK.out HKT.out k
    have hw := wid_pos HOK.out HKT.out k
    have hob : 0 ≤ (seq22 fs n k0 tm k).o ∧ (seq22 fs n k0 tm k).o ≤ 255 := by
      unfold seq22
      split
      · exact (HR.out.okS k0 HKT.out.1).1
      · exact (HR.out.okS _ (Nat.mod_lt _ (by have := HOK.out.1.1; omega))).1
    have ho : opj fs n k0 tm cl k = decide (hlv (seq22 fs n k0 tm k).o cl % 2 = 1) := rfl
    have hst : st22 fs n k0 tm cl (k + 1) = if opj fs n k0 tm cl k = true then ((st22 fs n k0 tm cl k).1, (st22 fs n k0 tm cl k).2 + wid fs n k0 tm k) else ((st22 fs n k0 tm cl k).1 + (st22 fs n k0 tm cl k).2 + wid fs n k0 tm k, 0) := rfl
    have hwd : wid fs n k0 tm k = (seq22 fs n k0 tm k).s := rfl
    have hgk := fun h => hgo k h
    unfold GoN at hgk
    rw [hwd] at hw hst hgk
    obtain ⟨hw0, hw1⟩ := hw
    obtain ⟨ho0, ho1⟩ := hob
    obtain ⟨hl1, hl2⟩ := hlt2
    obtain ⟨-, hs0, hs2⟩ := hsum
    have HA := Lib.hid (fun (m : Nat) (W : World) => (callsIn_wide (n := m)).2 (has22 (seq22 fs n k0 tm k).o (seq22 fs n k0 tm k).s ho0 ho1 cl hcl W))
    rw [← ho] at HA
    obtain ⟨so, hso⟩ : ∃ x, (seq22 fs n k0 tm k).o = x := ⟨_, rfl⟩
    obtain ⟨ss, hss⟩ : ∃ x, (seq22 fs n k0 tm k).s = x := ⟨_, rfl⟩
    obtain ⟨P, hP⟩ : ∃ x, (st22 fs n k0 tm cl k).1 = x := ⟨_, rfl⟩
    obtain ⟨T, hT⟩ : ∃ x, (st22 fs n k0 tm cl k).2 = x := ⟨_, rfl⟩
    rw [hso, hss] at HA
    rw [hso, hss] at q0 ⊢
    rw [hss] at hw0 hw1 hst hgk hwd
    rw [hP] at h6 hl1 hs0 hst
    rw [hT] at h7 hl2 hs2 hst hgk
    have c1 := cell_of_row V Bs 0 _ _ (0, 0) q0
    have c2 := cell_of_row V Bs 1 _ _ (0, 0) q0
    have c3 := cell_of_row V w.heap.size 0 _ _ (0, 0) h0
    have HI := Lib.hid (And.intro h0 (And.intro h1 (And.intro h2 (And.intro h3 (And.intro h4 (And.intro h5 (And.intro h6 (And.intro h7 (And.intro h8 h9)))))))))
    have HQ := Lib.hid q0
    have HE := Lib.hid hend
    have HG := Lib.hid hgk
    clear h0 h1 h2 h3 h4 h5 h6 h7 h8 h9 q0 hend hgk hgo ho
    have HN := Lib.hid (And.intro hss (And.intro hP (And.intro hT hwd)))
    clear hso hss hP hT hwd
    have HST := Lib.hid hst
    clear hst
    have nin : ¬ R ≤ P := by omega
    have HLT := Lib.hid hlt
    clear hlt
    cases ho2 : opj fs n k0 tm cl k with
    | false =>
      rw [ho2] at HA
      have hst2 : st22 fs n k0 tm cl (k + 1) = (P + T + ss, 0) := by rw [HST.out, if_neg (by rw [ho2]; exact Bool.false_ne_true)]
      have HS3 := Lib.hid hst2
      clear hst2
      have u0 : P + T ≤ 18446744073709551615 := by omega
      have u1 : P + T + ss ≤ 18446744073709551615 := by omega
      by_cases hkj : k < j
      · have hlt3 : P + T + ss < R := by have := (HG.out hkj).2; rw [HS3.out] at this; exact this
        have nle : ¬ R ≤ P + T + ss := by omega
        gi_wp2_with (refine ⟨trivial, ?_⟩; gi_at_call 89; refine (HA.out _ _).mono ?_; rintro e wh ⟨rfl, hbh⟩; have KH : ∀ {q : Nat} {o : Obj}, V.heap[q]? = some o → wh.heap[q]? = some o := (fun h => (hbh.block _ (Array.getElem?_eq_some_iff.1 h).1).trans h); have x0 := KH HI.out.1; have x1 := KH HI.out.2.1; have x2 := KH HI.out.2.2.1; have x3 := KH HI.out.2.2.2.1; have x4 := KH HI.out.2.2.2.2.1; have x5 := KH HI.out.2.2.2.2.2.1; have x6 := KH HI.out.2.2.2.2.2.2.1; have x7 := KH HI.out.2.2.2.2.2.2.2.1; have xq := KH HQ.out; have X := Lib.hid (And.intro x0 (And.intro x1 (And.intro x2 (And.intro x3 (And.intro x4 (And.intro x5 (And.intro x6 x7))))))); have XB := Lib.hid hbh; have y0 := cell_of_row wh (w.heap.size) 0 _ _ (0, 0) x0; have z0 := frozen_of_row wh (w.heap.size) 0 _ _ x0; have y1 := cell_of_row wh (w.heap.size + 1) 0 _ _ (0, 0) x1; have z1 := frozen_of_row wh (w.heap.size + 1) 0 _ _ x1; have y2 := cell_of_row wh (w.heap.size + 1 + 1) 0 _ _ (0, 0) x2; have z2 := frozen_of_row wh (w.heap.size + 1 + 1) 0 _ _ x2; have y3 := cell_of_row wh (w.heap.size + 1 + 1 + 1) 0 _ _ (0, 0) x3; have z3 := frozen_of_row wh (w.heap.size + 1 + 1 + 1) 0 _ _ x3; have y4 := cell_of_row wh (w2.heap.size) 0 _ _ (0, 0) x4; have z4 := frozen_of_row wh (w2.heap.size) 0 _ _ x4; have y5 := cell_of_row wh (w2.heap.size + 1) 0 _ _ (0, 0) x5; have z5 := frozen_of_row wh (w2.heap.size + 1) 0 _ _ x5; have y6 := cell_of_row wh (w2.heap.size + 1 + 1) 0 _ _ (0, 0) x6; have z6 := frozen_of_row wh (w2.heap.size + 1 + 1) 0 _ _ x6; have y7 := cell_of_row wh (w2.heap.size + 1 + 1 + 1) 0 _ _ (0, 0) x7; have z7 := frozen_of_row wh (w2.heap.size + 1 + 1 + 1) 0 _ _ x7; have yq := cell_of_row wh Bs 1 _ _ (0, 0) xq; clear x0 x1 x2 x3 x4 x5 x6 x7 xq hbh KH)
        have hsz := HI.out.2.2.2.2.2.2.2.2.2.size
        have hwz := HWZ.out
        have GV := HI.out.2.2.2.2.2.2.2.2.1
        have hbf : Below w.heap.size w ((wh.setCell ⟨w2.heap.size + 1 + 1, 0, none⟩ (.int .u64 (P + T + ss))).setCell ⟨w2.heap.size + 1 + 1 + 1, 0, none⟩ (.int .u64 0)) := ((HI.out.2.2.2.2.2.2.2.2.2.trans (XB.out.mono hsz)).setCell (p := ⟨w2.heap.size + 1 + 1, 0, none⟩) (by simp; omega) _).setCell (p := ⟨w2.heap.size + 1 + 1 + 1, 0, none⟩) (by simp; omega) _
        have ot : ∀ {q : Nat} {o : Obj}, q ≠ w2.heap.size + 1 + 1 → q ≠ w2.heap.size + 1 + 1 + 1 → wh.heap[q]? = some o → ((wh.setCell ⟨w2.heap.size + 1 + 1, 0, none⟩ (.int .u64 (P + T + ss))).setCell ⟨w2.heap.size + 1 + 1 + 1, 0, none⟩ (.int .u64 0)).heap[q]? = some o := fun h1 h2 h => (Below.heap_setCell _ _ _ _ h2).trans ((Below.heap_setCell _ _ _ _ h1).trans h)
        have ob : ∀ {q : Nat} {o : Obj}, V.heap[q]? = some o → wh.heap[q]? = some o := fun h => (XB.out.block _ (Array.getElem?_eq_some_iff.1 h).1).trans h
        refine ⟨(((⟨XB.out.size, fun q o h _ => (XB.out.block _ (Array.getElem?_eq_some_iff.1 h).1).trans h⟩ : KeepsOthers V wh).trans (KeepsOthers.setCell _ _ _)).trans (KeepsOthers.setCell _ _ _)), by omega, ot (by omega) (by omega) X.out.1, ot (by omega) (by omega) X.out.2.1, ot (by omega) (by omega) X.out.2.2.1, ot (by omega) (by omega) X.out.2.2.2.1, ot (by omega) (by omega) X.out.2.2.2.2.1, ot (by omega) (by omega) X.out.2.2.2.2.2.1, ?_, ?_, ⟨ot (by omega) (by omega) (ob GV.l), ot (by omega) (by omega) (ob GV.t), HR.out.below hbf⟩, hbf⟩
        · rw [HS3.out]
          exact (Below.heap_setCell _ _ _ _ (by simp)).trans (put1_0 X.out.2.2.2.2.2.2.1)
        · rw [HS3.out]
          exact put1_0 ((Below.heap_setCell _ _ _ _ (by simp)).trans X.out.2.2.2.2.2.2.2)
      · obtain rfl : k = j := by omega
        obtain ⟨hge, hv, hrb⟩ : R ≤ P + T + ss ∧ v = 0 ∧ rb = false := by
          rcases HE.out with ⟨h1, -⟩ | ⟨-, h2, h3, -⟩
          · rw [ho2] at h1; cases h1
          · rw [HS3.out] at h2
            refine ⟨h2, ?_⟩
            rcases HV.out with ⟨g1, -⟩ | ⟨g1, -⟩ | ⟨-, g2, g3⟩
            · rw [h3] at g1; cases g1
            · rw [h3] at g1; cases g1
            · exact ⟨g2, g3⟩
        gi_wp2_with (refine ⟨trivial, ?_⟩; gi_at_call 89; refine (HA.out _ _).mono ?_; rintro e wh ⟨rfl, hbh⟩; have KH : ∀ {q : Nat} {o : Obj}, V.heap[q]? = some o → wh.heap[q]? = some o := (fun h => (hbh.block _ (Array.getElem?_eq_some_iff.1 h).1).trans h); have x0 := KH HI.out.1; have x1 := KH HI.out.2.1; have x2 := KH HI.out.2.2.1; have x3 := KH HI.out.2.2.2.1; have x4 := KH HI.out.2.2.2.2.1; have x5 := KH HI.out.2.2.2.2.2.1; have x6 := KH HI.out.2.2.2.2.2.2.1; have x7 := KH HI.out.2.2.2.2.2.2.2.1; have xq := KH HQ.out; have X := Lib.hid (And.intro x0 (And.intro x1 (And.intro x2 (And.intro x3 (And.intro x4 (And.intro x5 (And.intro x6 x7))))))); have XB := Lib.hid hbh; have y0 := cell_of_row wh (w.heap.size) 0 _ _ (0, 0) x0; have z0 := frozen_of_row wh (w.heap.size) 0 _ _ x0; have y1 := cell_of_row wh (w.heap.size + 1) 0 _ _ (0, 0) x1; have z1 := frozen_of_row wh (w.heap.size + 1) 0 _ _ x1; have y2 := cell_of_row wh (w.heap.size + 1 + 1) 0 _ _ (0, 0) x2; have z2 := frozen_of_row wh (w.heap.size + 1 + 1) 0 _ _ x2; have y3 := cell_of_row wh (w.heap.size + 1 + 1 + 1) 0 _ _ (0, 0) x3; have z3 := frozen_of_row wh (w.heap.size + 1 + 1 + 1) 0 _ _ x3; have y4 := cell_of_row wh (w2.heap.size) 0 _ _ (0, 0) x4; have z4 := frozen_of_row wh (w2.heap.size) 0 _ _ x4; have y5 := cell_of_row wh (w2.heap.size + 1) 0 _ _ (0, 0) x5; have z5 := frozen_of_row wh (w2.heap.size + 1) 0 _ _ x5; have y6 := cell_of_row wh (w2.heap.size + 1 + 1) 0 _ _ (0, 0) x6; have z6 := frozen_of_row wh (w2.heap.size + 1 + 1) 0 _ _ x6; have y7 := cell_of_row wh (w2.heap.size + 1 + 1 + 1) 0 _ _ (0, 0) x7; have z7 := frozen_of_row wh (w2.heap.size + 1 + 1 + 1) 0 _ _ x7; have yq := cell_of_row wh Bs 1 _ _ (0, 0) xq; clear x0 x1 x2 x3 x4 x5 x6 x7 xq hbh KH)
        have hsz := HI.out.2.2.2.2.2.2.2.2.2.size
        have hwz := HWZ.out
        have GV := HI.out.2.2.2.2.2.2.2.2.1
        have hbf : Below w.heap.size w ((wh.setCell ⟨w2.heap.size + 1 + 1, 0, none⟩ (.int .u64 (P + T + ss))).setCell ⟨w2.heap.size + 1 + 1 + 1, 0, none⟩ (.int .u64 0)) := ((HI.out.2.2.2.2.2.2.2.2.2.trans (XB.out.mono hsz)).setCell (p := ⟨w2.heap.size + 1 + 1, 0, none⟩) (by simp; omega) _).setCell (p := ⟨w2.heap.size + 1 + 1 + 1, 0, none⟩) (by simp; omega) _
        have ot : ∀ {q : Nat} {o : Obj}, q ≠ w2.heap.size + 1 + 1 → q ≠ w2.heap.size + 1 + 1 + 1 → wh.heap[q]? = some o → ((wh.setCell ⟨w2.heap.size + 1 + 1, 0, none⟩ (.int .u64 (P + T + ss))).setCell ⟨w2.heap.size + 1 + 1 + 1, 0, none⟩ (.int .u64 0)).heap[q]? = some o := fun h1 h2 h => (Below.heap_setCell _ _ _ _ h2).trans ((Below.heap_setCell _ _ _ _ h1).trans h)
        have ob : ∀ {q : Nat} {o : Obj}, V.heap[q]? = some o → wh.heap[q]? = some o := fun h => (XB.out.block _ (Array.getElem?_eq_some_iff.1 h).1).trans h
        exact ⟨(((⟨XB.out.size, fun q o h _ => (XB.out.block _ (Array.getElem?_eq_some_iff.1 h).1).trans h⟩ : KeepsOthers V wh).trans (KeepsOthers.setCell _ _ _)).trans (KeepsOthers.setCell _ _ _)), Or.inr ⟨rfl, hv, hrb, ot (by omega) (by omega) X.out.2.2.1, ot (by omega) (by omega) X.out.2.2.2.1⟩, hbf⟩
    | true =>
      rw [ho2] at HA
      have hst2 : st22 fs n k0 tm cl (k + 1) = (P, T + ss) := by rw [HST.out, if_pos ho2]
      have HS3 := Lib.hid hst2
      clear hst2
      have u0 : T + ss ≤ 18446744073709551615 := by omega
      by_cases hTE : T + ss < R
      · have hkj : k < j := by
          by_cases e : k < j
          · exact e
          · exfalso
            obtain rfl : k = j := by omega
            rcases HE.out with ⟨-, h1, -⟩ | ⟨-, h2, -⟩
            · rw [HN.out.2.2.1, HN.out.2.2.2] at h1; omega
            · rw [HS3.out] at h2; dsimp only at h2; omega
        gi_wp2_with (refine ⟨trivial, ?_⟩; gi_at_call 89; refine (HA.out _ _).mono ?_; rintro e wh ⟨rfl, hbh⟩; have KH : ∀ {q : Nat} {o : Obj}, V.heap[q]? = some o → wh.heap[q]? = some o := (fun h => (hbh.block _ (Array.getElem?_eq_some_iff.1 h).1).trans h); have x0 := KH HI.out.1; have x1 := KH HI.out.2.1; have x2 := KH HI.out.2.2.1; have x3 := KH HI.out.2.2.2.1; have x4 := KH HI.out.2.2.2.2.1; have x5 := KH HI.out.2.2.2.2.2.1; have x6 := KH HI.out.2.2.2.2.2.2.1; have x7 := KH HI.out.2.2.2.2.2.2.2.1; have xq := KH HQ.out; have X := Lib.hid (And.intro x0 (And.intro x1 (And.intro x2 (And.intro x3 (And.intro x4 (And.intro x5 (And.intro x6 x7))))))); have XB := Lib.hid hbh; have y0 := cell_of_row wh (w.heap.size) 0 _ _ (0, 0) x0; have z0 := frozen_of_row wh (w.heap.size) 0 _ _ x0; have y1 := cell_of_row wh (w.heap.size + 1) 0 _ _ (0, 0) x1; have z1 := frozen_of_row wh (w.heap.size + 1) 0 _ _ x1; have y2 := cell_of_row wh (w.heap.size + 1 + 1) 0 _ _ (0, 0) x2; have z2 := frozen_of_row wh (w.heap.size + 1 + 1) 0 _ _ x2; have y3 := cell_of_row wh (w.heap.size + 1 + 1 + 1) 0 _ _ (0, 0) x3; have z3 := frozen_of_row wh (w.heap.size + 1 + 1 + 1) 0 _ _ x3; have y4 := cell_of_row wh (w2.heap.size) 0 _ _ (0, 0) x4; have z4 := frozen_of_row wh (w2.heap.size) 0 _ _ x4; have y5 := cell_of_row wh (w2.heap.size + 1) 0 _ _ (0, 0) x5; have z5 := frozen_of_row wh (w2.heap.size + 1) 0 _ _ x5; have y6 := cell_of_row wh (w2.heap.size + 1 + 1) 0 _ _ (0, 0) x6; have z6 := frozen_of_row wh (w2.heap.size + 1 + 1) 0 _ _ x6; have y7 := cell_of_row wh (w2.heap.size + 1 + 1 + 1) 0 _ _ (0, 0) x7; have z7 := frozen_of_row wh (w2.heap.size + 1 + 1 + 1) 0 _ _ x7; have yq := cell_of_row wh Bs 1 _ _ (0, 0) xq; clear x0 x1 x2 x3 x4 x5 x6 x7 xq hbh KH)
        have hsz := HI.out.2.2.2.2.2.2.2.2.2.size
        have hwz := HWZ.out
        have GV := HI.out.2.2.2.2.2.2.2.2.1
        have hbf : Below w.heap.size w (wh.setCell ⟨w2.heap.size + 1 + 1 + 1, 0, none⟩ (.int .u64 (T + ss))) := (HI.out.2.2.2.2.2.2.2.2.2.trans (XB.out.mono hsz)).setCell (p := ⟨w2.heap.size + 1 + 1 + 1, 0, none⟩) (by simp; omega) _
        have ot : ∀ {q : Nat} {o : Obj}, q ≠ w2.heap.size + 1 + 1 + 1 → wh.heap[q]? = some o → (wh.setCell ⟨w2.heap.size + 1 + 1 + 1, 0, none⟩ (.int .u64 (T + ss))).heap[q]? = some o := fun h2 h => (Below.heap_setCell _ _ _ _ h2).trans h
        have ob : ∀ {q : Nat} {o : Obj}, V.heap[q]? = some o → wh.heap[q]? = some o := fun h => (XB.out.block _ (Array.getElem?_eq_some_iff.1 h).1).trans h
        refine ⟨((⟨XB.out.size, fun q o h _ => (XB.out.block _ (Array.getElem?_eq_some_iff.1 h).1).trans h⟩ : KeepsOthers V wh).trans (KeepsOthers.setCell _ _ _)), by omega, ot (by omega) X.out.1, ot (by omega) X.out.2.1, ot (by omega) X.out.2.2.1, ot (by omega) X.out.2.2.2.1, ot (by omega) X.out.2.2.2.2.1, ot (by omega) X.out.2.2.2.2.2.1, ?_, ?_, ⟨ot (by omega) (ob GV.l), ot (by omega) (ob GV.t), HR.out.below hbf⟩, hbf⟩
        · rw [HS3.out]
          exact ot (by omega) X.out.2.2.2.2.2.2.1
        · rw [HS3.out]
          exact put1_0 X.out.2.2.2.2.2.2.2
      · obtain rfl : k = j := by
          by_cases e : k < j
          · exact absurd ((HG.out e).1 ho2) hTE
          · omega
        obtain ⟨hb, hgP⟩ : b = true ∧ g = P := by
          rcases HE.out with ⟨-, -, h3, h4⟩ | ⟨h1, -⟩
          · exact ⟨h3, h4.trans HN.out.2.1⟩
          · have h2 := h1 ho2
            rw [HN.out.2.2.1, HN.out.2.2.2] at h2
            exact absurd h2 hTE
        have IT : ∀ W : World, Calls Try.prog 90 #[.int .u64 (t + P)] W fun e w' => e = .returned (.tuple #[.int .u64 v, .bool rb]) ∧ w' = W := by
          intro W
          rcases HV.out with ⟨-, x1, x2, x3⟩ | ⟨-, x1, x2, x3⟩ | ⟨x0, -⟩
          · rw [hgP] at x1 x2
            rw [x2, x3]
            exact intime_yes (t + P) x1 W
          · rw [hgP] at x1
            rw [x2, x3]
            exact intime_no (t + P) x1 W
          · rw [hb] at x0; cases x0
        have IT2 := Lib.hid (fun (m : Nat) (W : World) => (callsIn_wide (n := m)).2 (IT W))
        clear IT hb hgP
        have u1 : t + P ≤ 18446744073709551615 := by omega
        gi_wp2_with (first
          | (refine ⟨trivial, ?_⟩; gi_at_call 89; refine (HA.out _ _).mono ?_; rintro e wh ⟨rfl, hbh⟩; have KH : ∀ {q : Nat} {o : Obj}, V.heap[q]? = some o → wh.heap[q]? = some o := (fun h => (hbh.block _ (Array.getElem?_eq_some_iff.1 h).1).trans h); have x0 := KH HI.out.1; have x1 := KH HI.out.2.1; have x2 := KH HI.out.2.2.1; have x3 := KH HI.out.2.2.2.1; have x4 := KH HI.out.2.2.2.2.1; have x5 := KH HI.out.2.2.2.2.2.1; have x6 := KH HI.out.2.2.2.2.2.2.1; have x7 := KH HI.out.2.2.2.2.2.2.2.1; have xq := KH HQ.out; have X := Lib.hid (And.intro x0 (And.intro x1 (And.intro x2 (And.intro x3 (And.intro x4 (And.intro x5 (And.intro x6 x7))))))); have XB := Lib.hid hbh; have y0 := cell_of_row wh (w.heap.size) 0 _ _ (0, 0) x0; have z0 := frozen_of_row wh (w.heap.size) 0 _ _ x0; have y1 := cell_of_row wh (w.heap.size + 1) 0 _ _ (0, 0) x1; have z1 := frozen_of_row wh (w.heap.size + 1) 0 _ _ x1; have y2 := cell_of_row wh (w.heap.size + 1 + 1) 0 _ _ (0, 0) x2; have z2 := frozen_of_row wh (w.heap.size + 1 + 1) 0 _ _ x2; have y3 := cell_of_row wh (w.heap.size + 1 + 1 + 1) 0 _ _ (0, 0) x3; have z3 := frozen_of_row wh (w.heap.size + 1 + 1 + 1) 0 _ _ x3; have y4 := cell_of_row wh (w2.heap.size) 0 _ _ (0, 0) x4; have z4 := frozen_of_row wh (w2.heap.size) 0 _ _ x4; have y5 := cell_of_row wh (w2.heap.size + 1) 0 _ _ (0, 0) x5; have z5 := frozen_of_row wh (w2.heap.size + 1) 0 _ _ x5; have y6 := cell_of_row wh (w2.heap.size + 1 + 1) 0 _ _ (0, 0) x6; have z6 := frozen_of_row wh (w2.heap.size + 1 + 1) 0 _ _ x6; have y7 := cell_of_row wh (w2.heap.size + 1 + 1 + 1) 0 _ _ (0, 0) x7; have z7 := frozen_of_row wh (w2.heap.size + 1 + 1 + 1) 0 _ _ x7; have yq := cell_of_row wh Bs 1 _ _ (0, 0) xq; clear x0 x1 x2 x3 x4 x5 x6 x7 xq hbh KH)
          | (refine ⟨trivial, ?_⟩; gi_at_call 90; refine (IT2.out _ _).mono ?_; rintro e w9 ⟨rfl, rfl⟩)
          | fail)
        have hsz := HI.out.2.2.2.2.2.2.2.2.2.size
        refine ⟨((⟨XB.out.size, fun q o h _ => (XB.out.block _ (Array.getElem?_eq_some_iff.1 h).1).trans h⟩ : KeepsOthers V w9).trans (KeepsOthers.setCell _ _ _)).trans (KeepsOthers.setCell _ _ _), Or.inl ⟨rfl, ?_, ?_⟩, ?_⟩
        · exact (Below.heap_setCell _ _ _ _ (by simp)).trans (put1_0 X.out.2.2.1)
        · exact put1_0 ((Below.heap_setCell _ _ _ _ (by simp)).trans X.out.2.2.2.1)
        · exact ((HI.out.2.2.2.2.2.2.2.2.2.trans (XB.out.mono hsz)).setCell (p := ⟨w.heap.size + 1 + 1, 0, none⟩) (by simp; omega) _).setCell (p := ⟨w.heap.size + 1 + 1 + 1, 0, none⟩) (by simp; omega) _
  · rintro D c' V hD ⟨hcase, q3⟩ hK
    have hpd : ∀ {q : Nat} {cs : Array Value} {ty : TypeId}, V.heap[q]? = some (.cells cs ty (0, 0)) → (V.putObj D (.deferred none)).heap[q]? = some (.cells cs ty (0, 0)) := fun h => (World.putObj_heap_other (fun e => by
      rw [e, hK] at h
      cases h)).trans h
    have hbd := q3.trans (belowK_b (w := W3) hs1 V D _ (.deferred none) hD hK rfl rfl)
    rcases hcase with ⟨rfl, q1, q2⟩ | ⟨rfl, rfl, rfl, q1, q2⟩
    · have d1 := cell_of_row _ (w.heap.size + 1 + 1) 0 _ _ (0, 0) (hpd q1)
      have d2 := cell_of_row _ (w.heap.size + 1 + 1 + 1) 0 _ _ (0, 0) (hpd q2)
      gi_wp2
      refine ⟨by simp, .inl ⟨_, _, rfl, run_takeDeferred hK, ?_⟩⟩
      exact ⟨.tuple #[.int .u64 v, .bool rb], by simp [results, Try.results28, go_sem, d1, d2], rfl, hbd⟩
    · have f1 := frozen_of_row V (w.heap.size + 1 + 1) 0 _ _ q1
      have f2 := frozen_of_row V (w.heap.size + 1 + 1 + 1) 0 _ _ q2
      have g1 := cell_of_row V (w.heap.size + 1 + 1) 0 _ _ (0, 0) q1
      have g2 := cell_of_row V (w.heap.size + 1 + 1 + 1) 0 _ _ (0, 0) q2
      gi_wp2
      have n1 : w.heap.size + 1 + 1 ≠ D := fun e => by rw [← e, q1] at hK; cases hK
      have n2 : w.heap.size + 1 + 1 + 1 ≠ D := fun e => by rw [← e, q2] at hK; cases hK
      have hK2 : ((V.setCell ⟨w.heap.size + 1 + 1, 0, none⟩ (.int .u64 0)).setCell ⟨w.heap.size + 1 + 1 + 1, 0, none⟩ (.bool false)).heap[D]? = some (.deferred (some [])) := (Below.heap_setCell _ _ _ _ (fun e => n2 e.symm)).trans ((Below.heap_setCell _ _ _ _ (fun e => n1 e.symm)).trans hK)
      have s1 : ((V.setCell ⟨w.heap.size + 1 + 1, 0, none⟩ (.int .u64 0)).setCell ⟨w.heap.size + 1 + 1 + 1, 0, none⟩ (.bool false)).heap[w.heap.size + 1 + 1]? = some (.cells #[.int .u64 0] 22 (0, 0)) := (Below.heap_setCell _ _ _ _ (by simp)).trans (put1_0 q1)
      have s2 : ((V.setCell ⟨w.heap.size + 1 + 1, 0, none⟩ (.int .u64 0)).setCell ⟨w.heap.size + 1 + 1 + 1, 0, none⟩ (.bool false)).heap[w.heap.size + 1 + 1 + 1]? = some (.cells #[.bool false] 4 (0, 0)) := put1_0 ((Below.heap_setCell _ _ _ _ (by simp)).trans q2)
      have e1 := cell_of_row _ (w.heap.size + 1 + 1) 0 _ _ (0, 0) ((World.putObj_heap_other (o := .deferred none) n1).trans s1)
      have e2 := cell_of_row _ (w.heap.size + 1 + 1 + 1) 0 _ _ (0, 0) ((World.putObj_heap_other (o := .deferred none) n2).trans s2)
      have hbs := (q3.setCell (p := ⟨w.heap.size + 1 + 1, 0, none⟩) (by simp; omega) (.int .u64 0)).setCell (p := ⟨w.heap.size + 1 + 1 + 1, 0, none⟩) (by simp; omega) (.bool false)
      refine ⟨by simp, .inl ⟨_, _, rfl, run_takeDeferred hK2, ?_⟩⟩
      exact ⟨.tuple #[.int .u64 0, .bool false], by simp [results, Try.results28, go_sem, e1, e2], rfl, hbs.trans (belowK_b (w := W3) hs1 _ D _ (.deferred none) hD hK2 rfl rfl)⟩
/-- gate.Next, for any need. -/
theorem gnext22 {w : World} {a : Option Addr} {n c : Nat} {fs : List Slot22} (hr : RowSl w a n fs) (hok : PlanOk fs n) (cl : Nat) (hcl : cl ≤ 7) (t : Int) (t0 : 0 ≤ t) (t1 : t ≤ 9223372036854775808) (need : Int) (need0 : 0 ≤ need) (need1 : need ≤ 18446744073709551615) {k0 : Nat} (hk : InSlot fs n (t % spans fs n) k0)
    {j : Nat} {g v : Int} {b rb : Bool} (hS : NextIs fs n k0 (t % spans fs n) cl (spans fs n) (min (max need 1) (spans fs n)) j b g)
    (hV : b = true ∧ t + g ≤ 9223372036854775808 ∧ v = t + g ∧ rb = true ∨ b = true ∧ 9223372036854775808 < t + g ∧ v = 0 ∧ rb = false ∨ b = false ∧ v = 0 ∧ rb = false) :
    Calls Try.prog 28 #[.slice a n c, .int .i64 cl, .int .u64 t, .int .u64 need] w fun e w' => e = .returned (.tuple #[.int .u64 v, .bool rb]) ∧ Below w.heap.size w w' := by
  obtain ⟨rp0, rp1⟩ := round_pos hok
  by_cases h1 : need < 1
  · rw [show min (max need 1) (spans fs n) = 1 by omega] at hS
    exact gnext22_a hr hok cl hcl t t0 t1 need need0 need1 hk hS h1 hV
  · by_cases h2 : need ≤ spans fs n
    · rw [show min (max need 1) (spans fs n) = need by omega] at hS
      exact gnext22_b hr hok cl hcl t t0 t1 need need0 need1 hk hS (by omega) h2 hV
    · rw [show min (max need 1) (spans fs n) = spans fs n by omega] at hS
      exact gnext22_c hr hok cl hcl t t0 t1 need need0 need1 hk hS (by omega) hV
end Go.Proofs.Ytmkgadndfiiacaa
