/-
  Package gate: for how long a class stays open. No condition but that the plan may be.
-/
import Derived.Test.YtmkgadndfiiacaaGt9
import Derived.Test.YtmkgadndfiiacaaVal
import Derived.RangeFuncNested
import Derived.RangeFuncBound
import Derived.RangeFuncLeaves
import Derived.RangeFuncBox
import Derived.Shelf.RegionOpen
import Derived.OwnWalkIn
import Derived.TacticsInMore
import Derived.LoopNIn
import Derived.LoopIn
namespace Go.Proofs.Ytmkgadndfiiacaa
set_option linter.unusedVariables false
set_option linter.unusedSimpArgs false
open Go.ChangeShapes Go.WideShapes Go.ChangeAt Go.RowKit Go.Shelf
attribute [local go_sem] Oper.semAt_some

set_option maxRecDepth 100000 in
set_option maxHeartbeats 4000000 in
theorem gstays22 {w : World} {a : Option Addr} {n c : Nat} {fs : List Slot22} (hr : RowSl w a n fs) (hok : PlanOk fs n) (cl : Nat) (hcl : cl ≤ 7) (t : Int) (t0 : 0 ≤ t) (t1 : t ≤ 18446744073709551615) {k0 : Nat} (hk : InSlot fs n (t % spans fs n) k0)
    {j : Nat} {v : Int} {b : Bool} (hS : StaysIs fs n k0 (t % spans fs n) cl (spans fs n) j v b) :
    Calls Try.prog 27 #[.slice a n c, .int .i64 cl, .int .u64 t] w fun e w' => e = .returned (.tuple #[.int .u64 v, .bool b]) ∧ Below w.heap.size w w' := by
  have SF := Lib.hid (fun (m : Nat) (W : World) => (callsIn_wide (n := m)).2 (sfrom22 a n c t W))
  have IC := Lib.hid (fun (m : Nat) (W : World) => (callsIn_wide (n := m)).2 (isclass22 cl hcl W))
  have RD := Lib.hid (fun (m : Nat) (W : World) (h : Below w.heap.size w W) => (callsIn_wide (n := m)).2 (ground22 (hr.below h) c hok))
  have HR := Lib.hid hr; have HOK := Lib.hid hok; have HK := Lib.hid hk; have HS := Lib.hid hS
  clear hr hok hk hS
  refine (callsIn_wide (n := 4)).1 ?_
  refine callsIn_of_wp_marks Try.func27 rfl trivial ?_ rfl
  simp only [Try.ntmps27, List.size_toArray, List.length_cons, List.length_nil, Nat.reduceAdd, Nat.reduceSub, Array.replicate_succ, Array.replicate_zero, List.push_toArray, List.append_toArray, List.nil_append, List.cons_append]
  obtain ⟨W0, hW0⟩ : ∃ W0, ((w.alloc (.cells #[.int .i64 cl] 3)).alloc (.cells #[.int .u64 0] 22)).alloc (.cells #[.bool false] 4) = W0 := ⟨_, rfl⟩
  have hb0 : Below w.heap.size w W0 := by rw [← hW0]; exact (((Below.refl _ w).alloc (Nat.le_refl _) _).alloc (by simp) _).alloc (by simp; omega) _
  have hz0 : W0.heap.size = w.heap.size + 3 := by rw [← hW0]; simp
  have b0 : W0.heap[w.heap.size]? = some (.cells #[.int .i64 cl] 3 (0, 0)) := by
    rw [← hW0, Below.heap_alloc _ _ _ (by simp; omega), Below.heap_alloc _ _ _ (by simp)]; exact heap_alloc_new w _
  have b1 : W0.heap[w.heap.size + 1]? = some (.cells #[.int .u64 0] 22 (0, 0)) := by
    rw [← hW0, Below.heap_alloc _ _ _ (by simp)]
    have := heap_alloc_new (w.alloc (.cells #[.int .i64 cl] 3)) (.cells #[.int .u64 0] 22)
    rwa [World.size_alloc] at this
  have b2 : W0.heap[w.heap.size + 1 + 1]? = some (.cells #[.bool false] 4 (0, 0)) := by
    rw [← hW0]
    have := heap_alloc_new ((w.alloc (.cells #[.int .i64 cl] 3)).alloc (.cells #[.int .u64 0] 22)) (.cells #[.bool false] 4)
    rwa [World.size_alloc, World.size_alloc] at this
  have c0 := cell_of_row W0 w.heap.size 0 _ _ (0, 0) b0
  have HB0 := Lib.hid hb0; have HZ := Lib.hid hz0
  have Q0 := Lib.hid b0; have Q1 := Lib.hid b1; have Q2 := Lib.hid b2
  clear b0 b1 b2 hz0 hb0
  gi_wp2_with (first
    | (refine ⟨trivial, ?_⟩; gi_at_call 87; refine (IC.out _ _).mono ?_; rintro e w1 ⟨rfl, rfl⟩)
    | (refine ⟨trivial, ?_⟩; gi_at_call 30; refine (RD.out _ _ HB0.out).mono ?_; rintro e w2 ⟨rfl, hb2⟩)
    | (refine ⟨trivial, ?_⟩; gi_at_call 88; refine (SF.out _ _).mono ?_; rintro e w3 ⟨rfl, rfl⟩)
    | fail)
  have hz2 := hb2.size
  have hzz := HZ.out
  have HB2 := Lib.hid (HB0.out.trans (hb2.mono HB0.out.size))
  have p0 := (hb2.block _ (by omega)).trans Q0.out
  have p1 := (hb2.block _ (by omega)).trans Q1.out
  have p2 := (hb2.block _ (by omega)).trans Q2.out
  obtain ⟨R, hR⟩ : ∃ R, spans fs n = R := ⟨_, rfl⟩
  obtain ⟨tm, htm⟩ : ∃ tm, t % spans fs n = tm := ⟨_, rfl⟩
  have GO := Lib.hid (goes22 (a := a) (c := c) 3 (Bl := w2.heap.size + 1 + 1) (Ba := w2.heap.size + 1 + 1 + 1) HOK.out t t0 t1 HK.out)
  have HSS := HS.out
  have HKT : Hid (InSlot fs n tm k0) := Lib.hid (htm ▸ HK.out)
  rw [htm] at GO HSS
  rw [hR] at HSS ⊢
  have HS2 := Lib.hid HSS
  clear HSS HS
  have e0 : ∀ (W : World) (o : Obj) (k : Nat), k < W.heap.size → (W.alloc o).heap[k]? = W.heap[k]? := fun W o k h => Below.heap_alloc _ _ _ h
  obtain ⟨W3, hW3⟩ : ∃ W3, (((w2.alloc (.cells #[.int .u64 R] 22)).alloc (.cells #[.int .u64 0] 22)).alloc (.cells #[.slice a n c] 53)).alloc (.cells #[.int .u64 t] 22) = W3 := ⟨_, rfl⟩
  have hb3 : Below w.heap.size w W3 := by
    rw [← hW3]
    exact (((HB2.out.alloc HB2.out.size _).alloc (by have := HB2.out.size; simp; omega) _).alloc (by have := HB2.out.size; simp; omega) _).alloc (by have := HB2.out.size; simp; omega) _
  have r0 : W3.heap[w.heap.size]? = some (.cells #[.int .i64 cl] 3 (0, 0)) := by rw [← hW3, e0 _ _ _ (by simp <;> omega), e0 _ _ _ (by simp <;> omega), e0 _ _ _ (by simp <;> omega), e0 _ _ _ (by omega)]; exact p0
  have r1 : W3.heap[w.heap.size + 1]? = some (.cells #[.int .u64 0] 22 (0, 0)) := by rw [← hW3, e0 _ _ _ (by simp <;> omega), e0 _ _ _ (by simp <;> omega), e0 _ _ _ (by simp <;> omega), e0 _ _ _ (by omega)]; exact p1
  have r2 : W3.heap[w.heap.size + 1 + 1]? = some (.cells #[.bool false] 4 (0, 0)) := by rw [← hW3, e0 _ _ _ (by simp <;> omega), e0 _ _ _ (by simp <;> omega), e0 _ _ _ (by simp <;> omega), e0 _ _ _ (by omega)]; exact p2
  have r3 : W3.heap[w2.heap.size]? = some (.cells #[.int .u64 R] 22 (0, 0)) := by rw [← hW3, e0 _ _ _ (by simp <;> omega), e0 _ _ _ (by simp <;> omega), e0 _ _ _ (by simp)]; exact heap_alloc_new w2 _
  have r4 : W3.heap[w2.heap.size + 1]? = some (.cells #[.int .u64 0] 22 (0, 0)) := by
    rw [← hW3, e0 _ _ _ (by simp <;> omega), e0 _ _ _ (by simp)]
    have := heap_alloc_new (w2.alloc (.cells #[.int .u64 R] 22)) (.cells #[.int .u64 0] 22)
    rwa [World.size_alloc] at this
  have r5 : W3.heap[w2.heap.size + 1 + 1]? = some (.cells #[.slice a n c] 53 (0, 0)) := by
    rw [← hW3, e0 _ _ _ (by simp)]
    have := heap_alloc_new ((w2.alloc (.cells #[.int .u64 R] 22)).alloc (.cells #[.int .u64 0] 22)) (.cells #[.slice a n c] 53)
    rwa [World.size_alloc, World.size_alloc] at this
  have r6 : W3.heap[w2.heap.size + 1 + 1 + 1]? = some (.cells #[.int .u64 t] 22 (0, 0)) := by
    rw [← hW3]
    have := heap_alloc_new (((w2.alloc (.cells #[.int .u64 R] 22)).alloc (.cells #[.int .u64 0] 22)).alloc (.cells #[.slice a n c] 53)) (.cells #[.int .u64 t] 22)
    rwa [World.size_alloc, World.size_alloc, World.size_alloc] at this
  have hs1 : w.heap.size ≤ W3.heap.size := hb3.size
  have HWZ := Lib.hid (show w.heap.size + 3 ≤ w2.heap.size by omega)
  rw [hW3]
  clear hW3 p0 p1 p2 e0 hz2 hzz hb2 HZ c0 Q0 Q1 Q2 HB0 HB2 hW0 SF IC RD
  refine range_early rfl (by omega) (gf := 140) (lb := #[.pointer (some ⟨w2.heap.size + 1 + 1, 0, none⟩), .pointer (some ⟨w2.heap.size + 1 + 1 + 1, 0, none⟩)]) rfl trivial (enters_of Try.func140 (by kernel_rfl) rfl)
    GO.out (fun _ => rfl) (j + 1) (by omega)
    (fun k V => V.heap[w.heap.size]? = some (.cells #[.int .i64 cl] 3 (0, 0)) ∧ V.heap[w.heap.size + 1]? = some (.cells #[.int .u64 0] 22 (0, 0)) ∧ V.heap[w.heap.size + 1 + 1]? = some (.cells #[.bool false] 4 (0, 0)) ∧ V.heap[w2.heap.size]? = some (.cells #[.int .u64 R] 22 (0, 0)) ∧ V.heap[w2.heap.size + 1]? = some (.cells #[.int .u64 (pos22 fs n k0 tm k)] 22 (0, 0)) ∧ GIt a n c fs (w2.heap.size + 1 + 1) (w2.heap.size + 1 + 1 + 1) t V ∧ Below w.heap.size w V)
    (fun c' V => V.heap[w2.heap.size]? = V.heap[w2.heap.size]? ∧ ((c' = .ret ∧ b = true ∧ V.heap[w.heap.size + 1]? = some (.cells #[.int .u64 v] 22 (0, 0)) ∧ V.heap[w.heap.size + 1 + 1]? = some (.cells #[.bool true] 4 (0, 0))) ∨ (c' = .exit 0 ∧ b = false ∧ v = 0 ∧ V.heap[w.heap.size + 1]? = some (.cells #[.int .u64 0] 22 (0, 0)) ∧ V.heap[w.heap.size + 1 + 1]? = some (.cells #[.bool false] 4 (0, 0)))) ∧ Below w.heap.size w V)
    (fun k a' V => ∃ Bs, a' = { tmps := #[.slice a n c, .int .i64 cl, .int .u64 t, undef, .pointer (some ⟨w.heap.size, 0, none⟩), undef, .pointer (some ⟨w.heap.size + 1, 0, none⟩), .pointer (some ⟨w.heap.size + 1 + 1, 0, none⟩), .pointer (some ⟨w2.heap.size, 0, none⟩), .pointer (some ⟨w2.heap.size + 1, 0, none⟩), .pointer (some ⟨Bs, 0, none⟩), .int .i64 cl, .bool true, .bool false, .slice a n c, .int .u64 R, .slice a n c, .int .u64 t, .func (.func 140) #[] #[.pointer (some ⟨w2.heap.size + 1 + 1, 0, none⟩), .pointer (some ⟨w2.heap.size + 1 + 1 + 1, 0, none⟩)], .agg #[.int .u8 (seq22 fs n k0 tm k).o, .int .u64 (seq22 fs n k0 tm k).s], undef, undef, undef, undef, undef, undef, undef, undef, undef, undef, undef, undef], defers := [] } ∧ w2.heap.size + 1 + 1 + 1 < Bs ∧
      V.heap[Bs]? = some (.cells #[.int .u8 (seq22 fs n k0 tm k).o, .int .u64 (seq22 fs n k0 tm k).s] 67 (0, 0)) ∧ (V.heap[w.heap.size]? = some (.cells #[.int .i64 cl] 3 (0, 0)) ∧ V.heap[w.heap.size + 1]? = some (.cells #[.int .u64 0] 22 (0, 0)) ∧ V.heap[w.heap.size + 1 + 1]? = some (.cells #[.bool false] 4 (0, 0)) ∧ V.heap[w2.heap.size]? = some (.cells #[.int .u64 R] 22 (0, 0)) ∧ V.heap[w2.heap.size + 1]? = some (.cells #[.int .u64 (pos22 fs n k0 tm k)] 22 (0, 0)) ∧ GIt a n c fs (w2.heap.size + 1 + 1) (w2.heap.size + 1 + 1 + 1) t V ∧ Below w.heap.size w V))
    ?_ ?_ ?_ ?_ ?_ ?_ ?_ ?_ ⟨r0, r1, r2, r3, r4, ⟨r5, r6, HR.out.below hb3⟩, hb3⟩
  · rintro k A B' row ⟨h0, h1, h2, h3, h4, h5, h6⟩ hg hrow
    have hb6 := h6.grown hg h6.size (fun k e => Nat.le_trans hs1 (hrow k e).1)
    exact ⟨own_block h0 hg hrow, own_block h1 hg hrow, own_block h2 hg hrow, own_block h3 hg hrow, own_block h4 hg hrow, ⟨own_block h5.l hg hrow, own_block h5.t hg hrow, HR.out.below hb6⟩, hb6⟩
  · rintro k A B' ⟨h0, h1, h2, h3, h4, h5, h6⟩ hbb
    have st : ∀ {q : Nat} {o : Obj}, A.heap[q]? = some o → B'.heap[q]? = some o := fun h => (hbb.block _ (Array.getElem?_eq_some_iff.1 h).1).trans h
    exact ⟨st h0, st h1, st h2, st h3, st h4, ⟨st h5.l, st h5.t, h5.row.below hbb⟩, h6.trans (hbb.mono h6.size)⟩
  · exact fun k V h => h.2.2.2.2.2.1
  · rintro c' u A B' row ⟨-, h1, h3⟩ hg hrow
    refine ⟨rfl, ?_, h3.grown hg h3.size (fun k e => Nat.le_trans hs1 (hrow k e).1)⟩
    rcases h1 with ⟨e1, e2, q1, q2⟩ | ⟨e1, e2, e3, q1, q2⟩
    · exact Or.inl ⟨e1, e2, own_block q1 hg hrow, own_block q2 hg hrow⟩
    · exact Or.inr ⟨e1, e2, e3, own_block q1 hg hrow, own_block q2 hg hrow⟩
  · rintro a' k A B' row ⟨Bs, e, hlt, q0, h0, h1, h2, h3, h4, h5, h6⟩ hg hrow
    have hb6 := h6.grown hg h6.size (fun k e => Nat.le_trans hs1 (hrow k e).1)
    exact ⟨Bs, e, hlt, own_block q0 hg hrow, own_block h0 hg hrow, own_block h1 hg hrow, own_block h2 hg hrow, own_block h3 hg hrow, own_block h4 hg hrow, ⟨own_block h5.l hg hrow, own_block h5.t hg hrow, HR.out.below hb6⟩, hb6⟩
  · rintro l k V hk1 ⟨h0, h1, h2, h3, h4, h5, h6⟩
    simp only [enc22]
    generalize (seq22 fs n k0 tm k).o = so
    generalize (seq22 fs n k0 tm k).s = ss
    gi_wp2
    have st : ∀ {q : Nat} {o : Obj} (x : Obj), V.heap[q]? = some o → (V.alloc x).heap[q]? = some o := fun x h => (Below.heap_alloc _ _ _ (Array.getElem?_eq_some_iff.1 h).1).trans h
    have hsz := h6.size
    refine ⟨KeepsOthers.alloc V _, V.heap.size, rfl, (Array.getElem?_eq_some_iff.1 h5.t).1, heap_alloc_new V _, st _ h0, st _ h1, st _ h2, st _ h3, st _ h4, ⟨st _ h5.l, st _ h5.t, h5.row.below ((Below.refl _ V).alloc (Nat.le_refl _) _)⟩, h6.alloc hsz _⟩
  · rintro l k a' V hk1 ⟨Bs, rfl, hlt, q0, h0, h1, h2, h3, h4, h5, h6⟩
    obtain ⟨hgo, hend⟩ := HS2.out
    obtain ⟨rp0, rp1⟩ := round_pos HOK.out
    rw [hR] at rp0 rp1
    have hpk : 0 ≤ pos22 fs n k0 tm k ∧ pos22 fs n k0 tm k ≤ R := ⟨by have := (pos_ge HOK.out HKT.out k).1; omega, by
      cases k with
      | zero => simp only [pos22]; omega
      | succ k => have := (hgo k (by omega)).2; omega⟩
    have hw := wid_pos HOK.out HKT.out k
    have hob : 0 ≤ (seq22 fs n k0 tm k).o ∧ (seq22 fs n k0 tm k).o ≤ 255 := by
      unfold seq22
      split
      · exact (HR.out.okS k0 HKT.out.1).1
      · exact (HR.out.okS _ (Nat.mod_lt _ (by have := HOK.out.1.1; omega))).1
    have ho : opj fs n k0 tm cl k = decide (hlv (seq22 fs n k0 tm k).o cl % 2 = 1) := rfl
    have hp1 : pos22 fs n k0 tm (k + 1) = pos22 fs n k0 tm k + (seq22 fs n k0 tm k).s := rfl
    have hwd : wid fs n k0 tm k = (seq22 fs n k0 tm k).s := rfl
    rw [hwd] at hw
    obtain ⟨hw0, hw1⟩ := hw
    obtain ⟨ho0, ho1⟩ := hob
    obtain ⟨hp2, hp3⟩ := hpk
    have HA := Lib.hid (fun (m : Nat) (W : World) => (callsIn_wide (n := m)).2 (has22 (seq22 fs n k0 tm k).o (seq22 fs n k0 tm k).s ho0 ho1 cl hcl W))
    rw [← ho] at HA
    obtain ⟨so, hso⟩ : ∃ x, (seq22 fs n k0 tm k).o = x := ⟨_, rfl⟩
    obtain ⟨ss, hss⟩ : ∃ x, (seq22 fs n k0 tm k).s = x := ⟨_, rfl⟩
    obtain ⟨P, hP⟩ : ∃ x, pos22 fs n k0 tm k = x := ⟨_, rfl⟩
    rw [hso, hss] at HA
    rw [hso, hss] at q0 ⊢
    rw [hss] at hw0 hw1 hp1
    rw [hP] at hp1 hp2 hp3 h4
    have c1 := cell_of_row V Bs 0 _ _ (0, 0) q0
    have c2 := cell_of_row V Bs 1 _ _ (0, 0) q0
    have c3 := cell_of_row V w.heap.size 0 _ _ (0, 0) h0
    have HI := Lib.hid (And.intro h0 (And.intro h1 (And.intro h2 (And.intro h3 (And.intro h4 (And.intro h5 h6))))))
    have HQ := Lib.hid q0
    have HP1 := Lib.hid hp1; have HPP := Lib.hid hP
    clear h0 h1 h2 h3 h4 h5 h6 q0 hso hss ho hwd hp1 hP
    cases ho2 : opj fs n k0 tm cl k with
    | false =>
      rw [ho2] at HA
      obtain rfl : k = j := by
        by_cases e : k < j
        · have := (hgo k e).1; rw [ho2] at this; cases this
        · omega
      obtain ⟨hv, hbv⟩ : v = P ∧ b = true := by
        rcases hend with ⟨-, h1, h2⟩ | ⟨h1, -⟩
        · exact ⟨h1.trans HPP.out, h2⟩
        · rw [ho2] at h1; cases h1
      clear hend hgo
      gi_wp2_with (refine ⟨trivial, ?_⟩; gi_at_call 89; refine (HA.out _ _).mono ?_; rintro e wh ⟨rfl, hbh⟩; have KH : ∀ {q : Nat} {o : Obj}, V.heap[q]? = some o → wh.heap[q]? = some o := (fun h => (hbh.block _ (Array.getElem?_eq_some_iff.1 h).1).trans h); have x0 := KH HI.out.1; have x1 := KH HI.out.2.1; have x2 := KH HI.out.2.2.1; have x3 := KH HI.out.2.2.2.1; have x4 := KH HI.out.2.2.2.2.1; have xq := KH HQ.out; have X := Lib.hid (And.intro x0 (And.intro x1 (And.intro x2 (And.intro x3 x4)))); have XB := Lib.hid hbh; have y0 := cell_of_row wh (w2.heap.size + 1) 0 _ _ (0, 0) x4; have y1 := frozen_of_row wh (w.heap.size + 1) 0 _ _ x1; have y2 := frozen_of_row wh (w.heap.size + 1 + 1) 0 _ _ x2; have y3 := cell_of_row wh Bs 1 _ _ (0, 0) xq; have y4 := frozen_of_row wh (w2.heap.size + 1) 0 _ _ x4; have y5 := cell_of_row wh w2.heap.size 0 _ _ (0, 0) x3; have y6 := cell_of_row wh (w.heap.size + 1) 0 _ _ (0, 0) x1; have y7 := cell_of_row wh (w.heap.size + 1 + 1) 0 _ _ (0, 0) x2; clear x0 x1 x2 x3 x4 xq hbh KH)
      have hsz := HI.out.2.2.2.2.2.2.size
      refine ⟨((⟨XB.out.size, fun q o h _ => (XB.out.block _ (Array.getElem?_eq_some_iff.1 h).1).trans h⟩ : KeepsOthers V wh).trans (KeepsOthers.setCell _ _ _)).trans (KeepsOthers.setCell _ _ _), ⟨rfl, ?_, ?_⟩, ?_⟩
      · exact (Below.heap_setCell _ _ _ _ (by simp)).trans (put1_0 X.out.2.1)
      · exact put1_0 ((Below.heap_setCell _ _ _ _ (by simp)).trans X.out.2.2.1)
      · exact ((HI.out.2.2.2.2.2.2.trans (XB.out.mono hsz)).setCell (p := ⟨w.heap.size + 1, 0, none⟩) (by simp) _).setCell (p := ⟨w.heap.size + 1 + 1, 0, none⟩) (by simp; omega) _
    | true =>
      rw [ho2] at HA
      have u0 : P + ss ≤ 18446744073709551615 := by omega
      by_cases hkj : k < j
      · have hlt2 : P + ss < R := by have := (hgo k hkj).2; rw [HP1.out] at this; exact this
        have nlt : ¬ R ≤ P + ss := by omega
        clear hend hgo
        gi_wp2_with (refine ⟨trivial, ?_⟩; gi_at_call 89; refine (HA.out _ _).mono ?_; rintro e wh ⟨rfl, hbh⟩; have KH : ∀ {q : Nat} {o : Obj}, V.heap[q]? = some o → wh.heap[q]? = some o := (fun h => (hbh.block _ (Array.getElem?_eq_some_iff.1 h).1).trans h); have x0 := KH HI.out.1; have x1 := KH HI.out.2.1; have x2 := KH HI.out.2.2.1; have x3 := KH HI.out.2.2.2.1; have x4 := KH HI.out.2.2.2.2.1; have xq := KH HQ.out; have X := Lib.hid (And.intro x0 (And.intro x1 (And.intro x2 (And.intro x3 x4)))); have XB := Lib.hid hbh; have y0 := cell_of_row wh (w2.heap.size + 1) 0 _ _ (0, 0) x4; have y1 := frozen_of_row wh (w.heap.size + 1) 0 _ _ x1; have y2 := frozen_of_row wh (w.heap.size + 1 + 1) 0 _ _ x2; have y3 := cell_of_row wh Bs 1 _ _ (0, 0) xq; have y4 := frozen_of_row wh (w2.heap.size + 1) 0 _ _ x4; have y5 := cell_of_row wh w2.heap.size 0 _ _ (0, 0) x3; have y6 := cell_of_row wh (w.heap.size + 1) 0 _ _ (0, 0) x1; have y7 := cell_of_row wh (w.heap.size + 1 + 1) 0 _ _ (0, 0) x2; clear x0 x1 x2 x3 x4 xq hbh KH)
        have hsz := HI.out.2.2.2.2.2.2.size
        have hwz := HWZ.out
        have GV := HI.out.2.2.2.2.2.1
        have hbf : Below w.heap.size w (wh.setCell ⟨w2.heap.size + 1, 0, none⟩ (.int .u64 (P + ss))) := (HI.out.2.2.2.2.2.2.trans (XB.out.mono hsz)).setCell (p := ⟨w2.heap.size + 1, 0, none⟩) (by simp; omega) _
        have ot : ∀ {q : Nat} {o : Obj}, q ≠ w2.heap.size + 1 → wh.heap[q]? = some o → (wh.setCell ⟨w2.heap.size + 1, 0, none⟩ (.int .u64 (P + ss))).heap[q]? = some o := fun hne h => (Below.heap_setCell _ _ _ _ hne).trans h
        have ob : ∀ {q : Nat} {o : Obj}, V.heap[q]? = some o → wh.heap[q]? = some o := fun h => (XB.out.block _ (Array.getElem?_eq_some_iff.1 h).1).trans h
        refine ⟨((⟨XB.out.size, fun q o h _ => (XB.out.block _ (Array.getElem?_eq_some_iff.1 h).1).trans h⟩ : KeepsOthers V wh).trans (KeepsOthers.setCell _ _ _)), by omega, ot (by omega) X.out.1, ot (by omega) X.out.2.1, ot (by omega) X.out.2.2.1, ot (by omega) X.out.2.2.2.1, ?_, ⟨ot (by omega) (ob GV.l), ot (by omega) (ob GV.t), HR.out.below hbf⟩, hbf⟩
        rw [HP1.out]
        exact put1_0 X.out.2.2.2.2
      · obtain rfl : k = j := by omega
        have hge : R ≤ P + ss := by
          rcases hend with ⟨h1, -⟩ | ⟨-, h2, -⟩
          · rw [ho2] at h1; cases h1
          · rw [HP1.out] at h2; exact h2
        obtain ⟨hv, hbv⟩ : v = 0 ∧ b = false := by
          rcases hend with ⟨h1, -⟩ | ⟨-, -, h2, h3⟩
          · rw [ho2] at h1; cases h1
          · exact ⟨h2, h3⟩
        clear hend hgo
        gi_wp2_with (refine ⟨trivial, ?_⟩; gi_at_call 89; refine (HA.out _ _).mono ?_; rintro e wh ⟨rfl, hbh⟩; have KH : ∀ {q : Nat} {o : Obj}, V.heap[q]? = some o → wh.heap[q]? = some o := (fun h => (hbh.block _ (Array.getElem?_eq_some_iff.1 h).1).trans h); have x0 := KH HI.out.1; have x1 := KH HI.out.2.1; have x2 := KH HI.out.2.2.1; have x3 := KH HI.out.2.2.2.1; have x4 := KH HI.out.2.2.2.2.1; have xq := KH HQ.out; have X := Lib.hid (And.intro x0 (And.intro x1 (And.intro x2 (And.intro x3 x4)))); have XB := Lib.hid hbh; have y0 := cell_of_row wh (w2.heap.size + 1) 0 _ _ (0, 0) x4; have y1 := frozen_of_row wh (w.heap.size + 1) 0 _ _ x1; have y2 := frozen_of_row wh (w.heap.size + 1 + 1) 0 _ _ x2; have y3 := cell_of_row wh Bs 1 _ _ (0, 0) xq; have y4 := frozen_of_row wh (w2.heap.size + 1) 0 _ _ x4; have y5 := cell_of_row wh w2.heap.size 0 _ _ (0, 0) x3; have y6 := cell_of_row wh (w.heap.size + 1) 0 _ _ (0, 0) x1; have y7 := cell_of_row wh (w.heap.size + 1 + 1) 0 _ _ (0, 0) x2; clear x0 x1 x2 x3 x4 xq hbh KH)
        have hsz := HI.out.2.2.2.2.2.2.size
        have hwz := HWZ.out
        have hbf : Below w.heap.size w (wh.setCell ⟨w2.heap.size + 1, 0, none⟩ (.int .u64 (P + ss))) := (HI.out.2.2.2.2.2.2.trans (XB.out.mono hsz)).setCell (p := ⟨w2.heap.size + 1, 0, none⟩) (by simp; omega) _
        have ot : ∀ {q : Nat} {o : Obj}, q ≠ w2.heap.size + 1 → wh.heap[q]? = some o → (wh.setCell ⟨w2.heap.size + 1, 0, none⟩ (.int .u64 (P + ss))).heap[q]? = some o := fun hne h => (Below.heap_setCell _ _ _ _ hne).trans h
        first
          | exact ⟨((⟨XB.out.size, fun q o h _ => (XB.out.block _ (Array.getElem?_eq_some_iff.1 h).1).trans h⟩ : KeepsOthers V wh).trans (KeepsOthers.setCell _ _ _)), ⟨rfl, ot (by omega) X.out.2.1, ot (by omega) X.out.2.2.1⟩, hbf⟩
          | exact ⟨((⟨XB.out.size, fun q o h _ => (XB.out.block _ (Array.getElem?_eq_some_iff.1 h).1).trans h⟩ : KeepsOthers V wh).trans (KeepsOthers.setCell _ _ _)), rfl, Or.inr ⟨rfl, hbv, hv, ot (by omega) X.out.2.1, ot (by omega) X.out.2.2.1⟩, hbf⟩
  · rintro D c' V hD ⟨-, hcase, q3⟩ hK
    have hpd : ∀ {q : Nat} {cs : Array Value} {ty : TypeId}, V.heap[q]? = some (.cells cs ty (0, 0)) → (V.putObj D (.deferred none)).heap[q]? = some (.cells cs ty (0, 0)) := fun h => (World.putObj_heap_other (fun e => by
      rw [e, hK] at h
      cases h)).trans h
    have hbd := q3.trans (belowK_b (w := W3) hs1 V D _ (.deferred none) hD hK rfl rfl)
    rcases hcase with ⟨rfl, rfl, q1, q2⟩ | ⟨rfl, rfl, rfl, q1, q2⟩
    · have d1 := cell_of_row _ (w.heap.size + 1) 0 _ _ (0, 0) (hpd q1)
      have d2 := cell_of_row _ (w.heap.size + 1 + 1) 0 _ _ (0, 0) (hpd q2)
      gi_wp2
      refine ⟨by simp, .inl ⟨_, _, rfl, run_takeDeferred hK, ?_⟩⟩
      exact ⟨.tuple #[.int .u64 v, .bool true], by simp [results, Try.results27, go_sem, d1, d2], rfl, hbd⟩
    · have d1 := cell_of_row _ (w.heap.size + 1) 0 _ _ (0, 0) (hpd q1)
      have d2 := cell_of_row _ (w.heap.size + 1 + 1) 0 _ _ (0, 0) (hpd q2)
      have f1 := frozen_of_row V (w.heap.size + 1) 0 _ _ q1
      have f2 := frozen_of_row V (w.heap.size + 1 + 1) 0 _ _ q2
      have g1 := cell_of_row V (w.heap.size + 1) 0 _ _ (0, 0) q1
      have g2 := cell_of_row V (w.heap.size + 1 + 1) 0 _ _ (0, 0) q2
      gi_wp2
      have n1 : w.heap.size + 1 ≠ D := fun e => by rw [← e, q1] at hK; cases hK
      have n2 : w.heap.size + 1 + 1 ≠ D := fun e => by rw [← e, q2] at hK; cases hK
      have hK2 : ((V.setCell ⟨w.heap.size + 1, 0, none⟩ (.int .u64 0)).setCell ⟨w.heap.size + 1 + 1, 0, none⟩ (.bool false)).heap[D]? = some (.deferred (some [])) := (Below.heap_setCell _ _ _ _ (fun e => n2 e.symm)).trans ((Below.heap_setCell _ _ _ _ (fun e => n1 e.symm)).trans hK)
      have s1 : ((V.setCell ⟨w.heap.size + 1, 0, none⟩ (.int .u64 0)).setCell ⟨w.heap.size + 1 + 1, 0, none⟩ (.bool false)).heap[w.heap.size + 1]? = some (.cells #[.int .u64 0] 22 (0, 0)) := (Below.heap_setCell _ _ _ _ (by simp)).trans (put1_0 q1)
      have s2 : ((V.setCell ⟨w.heap.size + 1, 0, none⟩ (.int .u64 0)).setCell ⟨w.heap.size + 1 + 1, 0, none⟩ (.bool false)).heap[w.heap.size + 1 + 1]? = some (.cells #[.bool false] 4 (0, 0)) := put1_0 ((Below.heap_setCell _ _ _ _ (by simp)).trans q2)
      have e1 := cell_of_row _ (w.heap.size + 1) 0 _ _ (0, 0) ((World.putObj_heap_other (o := .deferred none) n1).trans s1)
      have e2 := cell_of_row _ (w.heap.size + 1 + 1) 0 _ _ (0, 0) ((World.putObj_heap_other (o := .deferred none) n2).trans s2)
      have hbs := (q3.setCell (p := ⟨w.heap.size + 1, 0, none⟩) (by simp) (.int .u64 0)).setCell (p := ⟨w.heap.size + 1 + 1, 0, none⟩) (by simp; omega) (.bool false)
      refine ⟨by simp, .inl ⟨_, _, rfl, run_takeDeferred hK2, ?_⟩⟩
      exact ⟨.tuple #[.int .u64 0, .bool false], by simp [results, Try.results27, go_sem, e1, e2], rfl, hbs.trans (belowK_b (w := W3) hs1 _ D _ (.deferred none) hD hK2 rfl rfl)⟩
end Go.Proofs.Ytmkgadndfiiacaa
