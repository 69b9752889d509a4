/-
  The document's answer for layer 17: what a flow has is another; In, Lay, Out. No condition but that New made the gate and that no more waits than may.
-/
import Derived.Test.YtiogfgkfipekbaaR17c
import Derived.StillTailTactics
namespace Go.Proofs.Ytiogfgkfipekbaa
set_option linter.unusedVariables false
set_option linter.unusedSimpArgs false
open Go.ChangeShapes Go.WideShapes Go.ChangeAt Go.RowKit
attribute [local go_sem] alloc_drewN setCell_drewN

section
variable {w : World} {base M : Nat} {k : Cf} {vp vb : Value} {ps qs : List Int} {fs : List Fl}
theorem row_cells17 {w W : World} {base : Nat} {e : TypeId} {g n c : Nat} {xs : List Value} (h : w.ownsRow base e 1 (.slice (some ⟨g, 0, none⟩) n c) n xs) (hl : xs.length = n) (hb : Below w.heap.size w W) : ∀ q u, xs[q]? = some u → W.cell? ((⟨g, 0, none⟩ : Addr).add q) = some u := fun q u hq => by
  have e1 : ((⟨g, 0, none⟩ : Addr).add q) = ⟨g, q, none⟩ := by
    unfold Addr.add
    by_cases h0 : q = 0
    · subst h0; rfl
    · simp; exact h0
  have hql : q < n := by have := (List.getElem?_eq_some_iff.1 hq).1; omega
  rw [e1, hb.cell (p := ⟨g, q, none⟩) (World.ownsRow.lt h g rfl).2, h.cellAt q (by omega)]
  exact hq
theorem row_at17 {w : World} {base : Nat} {e : TypeId} {g n c : Nat} {xs : List Value} (h : w.ownsRow base e 1 (.slice (some ⟨g, 0, none⟩) n c) n xs) (hl : xs.length = n) (j : Nat) (hj : j < n) : w.cell? ⟨g, j, none⟩ = some (xs[j]'(by omega)) ∧ w.frozen? ⟨g, j, none⟩ = false := by
  refine ⟨?_, h.frozenAt j⟩
  rw [h.cellAt j (by omega), List.getElem?_eq_getElem (by omega)]
theorem facts17 {w5 : World} {b M g3 c3 g5 c5 n : Nat} {xs ys : List Value} (h3 : w5.ownsRow b 3 1 (.slice (some ⟨g3, 0, none⟩) n c3) n xs) (h5 : w5.ownsRow b 22 1 (.slice (some ⟨g5, 0, none⟩) n c5) n ys) (hM : M < b) : ¬ g3 = g5 ∧ ¬ g5 = g3 ∧ ¬ M = g3 ∧ ¬ g3 = M ∧ ¬ M = g5 ∧ ¬ g5 = M := by
  have l3 := (World.ownsRow.lt h3 g3 rfl).1
  have l5 := (World.ownsRow.lt h5 g5 rfl).1
  have ha : g3 ≠ g5 := fun e => by
    rcases row_apart h3 h5 (by decide) with h1 | h1
    · cases h1
    · exact h1 (by subst e; rfl)
  exact ⟨ha, fun e => ha e.symm, by omega, by omega, by omega, by omega⟩
theorem moved17 {w3 w5 : World} {b g n c : Nat} {e : TypeId} {xs : List Value} (h : w3.ownsRow b e 1 (.slice (some ⟨g, 0, none⟩) n c) n xs) (hg : w3.grownBy w5 (Value.slice none 0 0).ownBlock) : w5.ownsRow b e 1 (.slice (some ⟨g, 0, none⟩) n c) n xs :=
  own_kept17 h (fun q hq => hg.block q (World.ownsRow.lt h q hq).2 (fun e => by cases e))
set_option maxRecDepth 100000 in
set_option maxHeartbeats 4000000 in
theorem change17 (h : R17At w base M k vp vb ps qs) (hbase : base ≤ w.heap.size) (hp : ps.length = k.n) (hq : qs.length = k.n) (hn : k.n ≤ 100) (j : Nat) (hj : j < k.n) (x y : Int) :
    Calls Try.prog 52 #[.pointer (some ⟨M, 0, none⟩), .int .i64 j, .int .i64 x, .int .u64 y] w fun e w' => e = .returned (.tuple #[]) ∧ ∃ vp' vb', R17At w' base M k vp' vb' (ps.set j x) (qs.set j y) ∧ MvS w w' (inR17 M vp vb) (inR17 M vp' vb') := by
  obtain ⟨i0, hif, hz0, hz1, hz2⟩ := info_parts infoInt
  obtain ⟨j0, jif, jz0, jz1, jz2⟩ := info_parts infoU
  obtain ⟨g1, c1, rfl, _, hg1⟩ := h.op.form (by omega)
  obtain ⟨g2, c2, rfl, _, hg2⟩ := h.oq.form (by omega)
  obtain ⟨-, -, -, -, -, c11, c12, f11, f12⟩ := h.cell
  have hM := (h.inlt (Or.inl rfl)).2
  have CP := Lib.hid (row_cells17 h.op (by rw [List.length_map]) (Below.refl _ w))
  have CQ := Lib.hid (fun (W : World) (hb : Below w.heap.size w W) => row_cells17 h.oq (by rw [List.length_map]) hb)
  have OP := Lib.hid (show ∀ y ∈ ps.map (Value.int .i64), y.oneCell' = true from fun y hy => by obtain ⟨x, _, rfl⟩ := List.mem_map.1 hy; rfl)
  have OQ := Lib.hid (show ∀ y ∈ qs.map (Value.int .u64), y.oneCell' = true from fun y hy => by obtain ⟨x, _, rfl⟩ := List.mem_map.1 hy; rfl)
  have LP := Lib.hid (show (ps.map (Value.int .i64)).length = k.n * 1 by rw [List.length_map, hp, Nat.mul_one])
  have LQ := Lib.hid (show (qs.map (Value.int .u64)).length = k.n * 1 by rw [List.length_map, hq, Nat.mul_one])
  have MC := Lib.hid (fun (W : World) (hb : Below w.heap.size w W) => let e := (h.below hb).cell; (⟨e.2.2.2.2.2.1, e.2.2.2.2.2.2.1, e.2.2.2.2.2.2.2.1, e.2.2.2.2.2.2.2.2⟩ : W.cell? ⟨M, 11, none⟩ = some (.slice (some ⟨g1, 0, none⟩) ps.length c1) ∧ W.cell? ⟨M, 12, none⟩ = some (.slice (some ⟨g2, 0, none⟩) qs.length c2) ∧ W.frozen? ⟨M, 11, none⟩ = false ∧ W.frozen? ⟨M, 12, none⟩ = false))
  have SW := Lib.hid (fun (W : World) (hb : Below w.heap.size w W) (g3 c3 g5 c5 : Nat) (ho3 : W.ownsRow w.heap.size 3 1 (.slice (some ⟨g3, 0, none⟩) k.n c3) k.n (ps.map (Value.int .i64))) (ho5 : W.ownsRow w.heap.size 22 1 (.slice (some ⟨g5, 0, none⟩) k.n c5) k.n (qs.map (Value.int .u64))) => h.swap hbase hb ho3 ho5 hp.symm hq.symm j x y)
  rw [hp] at c11 MC
  rw [hq] at c12 MC
  have z0 : (0 : Int) ≤ j := by omega
  have z1 : (j : Int) < k.n := by omega
  have hmx : k.n ≤ maxLen := by unfold maxLen; omega
  clear h
  go_enter Try.func52, Try.ntmps52
  go_wp2_with (first
    | (at_builtin; refine wpList_append_own_at _ rfl _ _ 78 rfl w.heap.size 3 i0 (.int .i64 0) 1 8 Try.underlying78 hif hz0 hz1 hz2 rfl (by decide) (.slice none 0 0) 0 [] rfl (World.ownsRow_nil _ _ _ _) ⟨g1, 0, none⟩ k.n c1 (ps.map (Value.int .i64)) rfl LP.out CP.out OP.out (by unfold maxLen; omega) (by omega) (Nat.le_refl _) ?_; intro v3 w3 ho3 hg3 hn3 hat3; clear hn3 hat3; rw [Nat.zero_add, List.nil_append] at ho3; have B3 := Lib.hid ((Below.refl _ w).grown hg3 (Nat.le_refl _) (by first | simp | simp [Value.ownBlock])); have HO3 := Lib.hid ho3; obtain ⟨m11, m12, mf1, mf2⟩ := MC.out w3 B3.out; have C3 := CQ.out w3 B3.out; obtain ⟨g3, c3, rfl, _, l3⟩ := ho3.form (by omega); clear ho3 hg3)
    | (at_builtin; refine wpList_append_own_at _ rfl _ _ 58 rfl w.heap.size 22 j0 (.int .u64 0) 1 8 Try.underlying58 jif jz0 jz1 jz2 rfl (by decide) (.slice none 0 0) 0 [] rfl (World.ownsRow_nil _ _ _ _) ⟨g2, 0, none⟩ k.n c2 (qs.map (Value.int .u64)) rfl LQ.out C3 OQ.out (by unfold maxLen; omega) (by omega) B3.out.size ?_; intro v5 w5 ho5 hg5 hn5 hat5; clear hn5 hat5; rw [Nat.zero_add, List.nil_append] at ho5; have B5 := Lib.hid (B3.out.grown hg5 B3.out.size (by first | simp | simp [Value.ownBlock])); have HO5 := Lib.hid ho5; have H35 := Lib.hid (moved17 HO3.out hg5); clear m11 m12 mf1 mf2; obtain ⟨m11, m12, mf1, mf2⟩ := MC.out w5 B5.out; obtain ⟨g5, c5, rfl, _, l5⟩ := ho5.form (by omega); obtain ⟨s3, t3⟩ := row_at17 H35.out (by rw [List.length_map, hp]) j hj; obtain ⟨s5, t5⟩ := row_at17 HO5.out (by rw [List.length_map, hq]) j hj; obtain ⟨N1, N2, N3, N4, N5, N6⟩ := facts17 H35.out HO5.out hM; clear ho5 hg5 C3))
  first | go_end0 | refine bodyPost_ret (results_none rfl _ _ _) rfl ?_
  have FIN := SW.out w5 B5.out g3 c3 g5 c5 H35.out HO5.out
  exact ⟨rfl, _, _, FIN.1, FIN.2⟩
theorem in17_no {id n rc : Int} (MT : Calls Try.prog 21 #[.pointer (some ⟨M, 0, none⟩), .int .u32 id, .int .u64 n] w fun e w' => e = .returned (.int .i64 rc) ∧ Below w.heap.size w w') (hrc : rc ≠ 0) :
    Calls Try.prog 15 #[.pointer (some ⟨M, 0, none⟩), .int .u32 id, .int .u64 n] w fun e w' => e = .returned (.int .i64 rc) ∧ Below w.heap.size w w' := by
  have FT := Lib.hid MT
  clear MT
  go_enter Try.func15, Try.ntmps15
  go_wp2_with fail
  refine FT.out.mono ?_
  rintro e w1 ⟨rfl, hb⟩
  have HB := Lib.hid hb
  clear hb
  go_wp2
  go_ret
  exact ⟨rfl, HB.out⟩
theorem lay17_no {id n rc : Int} (MT : Calls Try.prog 58 #[.pointer (some ⟨M, 0, none⟩), .int .u32 id, .int .u64 n] w fun e w' => e = .returned (.int .i64 rc) ∧ Below w.heap.size w w') (hrc : rc ≠ 0) :
    Calls Try.prog 19 #[.pointer (some ⟨M, 0, none⟩), .int .u32 id, .int .u64 n] w fun e w' => e = .returned (.int .i64 rc) ∧ Below w.heap.size w w' := by
  have FT := Lib.hid MT
  clear MT
  go_enter Try.func19, Try.ntmps19
  go_wp2_with fail
  refine FT.out.mono ?_
  rintro e w1 ⟨rfl, hb⟩
  have HB := Lib.hid hb
  clear hb
  go_wp2
  go_ret
  exact ⟨rfl, HB.out⟩
set_option maxRecDepth 100000 in
set_option maxHeartbeats 4000000 in
theorem in17_ok (h : R17At w base M k vp vb ps qs) (hbase : base ≤ w.heap.size) (f : Fit17 k fs ps qs) (hr : RowFl w k.a k.n fs) (id n : Int) (n0 : 0 ≤ n) (j : Nat) (hj : j < k.n) (h1 : (fs.getD j Fl.nil).id = id) (h2 : ∀ q, q < j → ¬ (fs.getD q Fl.nil).id = id) (hx : ps.getD j 0 + 1 ≤ 9223372036854775807) (hy : qs.getD j 0 + n ≤ 18446744073709551615)
    (MT : Calls Try.prog 21 #[.pointer (some ⟨M, 0, none⟩), .int .u32 id, .int .u64 n] w fun e w' => e = .returned (.int .i64 0) ∧ Below w.heap.size w w') :
    Calls Try.prog 15 #[.pointer (some ⟨M, 0, none⟩), .int .u32 id, .int .u64 n] w fun e w' => e = .returned (.int .i64 0) ∧ ∃ vp' vb', R17At w' base M k vp' vb' (ps.set j (ps.getD j 0 + 1)) (qs.set j (qs.getD j 0 + n)) ∧ MvS w w' (inR17 M vp vb) (inR17 M vp' vb') := by
  have FT := Lib.hid MT
  have FI := Lib.hid (fun (v : World) (hv : Below w.heap.size w v) => find16_at (rowfl_below hr hv) k.cc (by have := f.n1; omega) id j hj h1 h2)
  have CH := Lib.hid (fun (v : World) (hv : Below w.heap.size w v) => (change17 (h.below hv) (Nat.le_trans hbase hv.size) f.lp f.lq (by have := f.n1; omega) j hj (ps.getD j 0 + 1) (qs.getD j 0 + n)).mono (R' := fun e w' => e = .returned (.tuple #[]) ∧ ∃ vp' vb', R17At w' base M k vp' vb' (ps.set j (ps.getD j 0 + 1)) (qs.set j (qs.getD j 0 + n)) ∧ MvS w w' (inR17 M vp vb) (inR17 M vp' vb')) (by rintro e w' ⟨rfl, vp', vb', r', m'⟩; exact ⟨rfl, vp', vb', r', (MvS.of_below _ hv).trans m'⟩))
  have CC := Lib.hid (fun (v : World) (hv : Below w.heap.size w v) => (h.below hv).cell)
  have p0 := f.np _ (getD_mem0 ps j (by rw [f.lp]; exact hj))
  have q0 := f.nq _ (getD_mem0 qs j (by rw [f.lq]; exact hj))
  obtain ⟨ap, cp, rfl, -, hcp⟩ := h.atp
  obtain ⟨aq, cq, rfl, -, hcq⟩ := h.atq
  obtain ⟨g1, rfl, l1, d1⟩ := hcp j (by rw [f.lp]; exact hj)
  obtain ⟨g2, rfl, _, l2, d2, _⟩ := hcq j (by rw [f.lq]; exact hj)
  rw [f.lp] at CC
  rw [f.lq] at CC
  have D1 := Lib.hid d1; have D2 := Lib.hid d2
  have hw1 : IntKind.i64.wrap (ps.getD j 0 + 1) = ps.getD j 0 + 1 := by rw [IntKind.wrap_i64]; omega
  have hw2 : IntKind.u64.wrap (qs.getD j 0 + n) = qs.getD j 0 + n := by rw [IntKind.wrap_u64]; omega
  have z0 : (0 : Int) ≤ j := by omega
  have z1 : (j : Int) < k.n := by omega
  clear h f hr h1 h2 hcp hcq MT d1 d2
  generalize ps.getD j 0 = x1 at *
  generalize qs.getD j 0 = x2 at *
  go_enter Try.func15, Try.ntmps15
  go_wp2_with fail
  refine FT.out.mono ?_
  rintro e w1 ⟨rfl, hb⟩
  have HB := Lib.hid hb
  clear hb
  obtain ⟨-, -, -, -, c10, c11, c12, -, -⟩ := CC.out _ HB.out
  have d1 := (HB.out.cell (p := ⟨g1, j, none⟩) l1).trans D1.out
  have d2 := (HB.out.cell (p := ⟨g2, j, none⟩) l2).trans D2.out
  have FI1 := Lib.hid (FI.out _ HB.out)
  have CH1 := Lib.hid (CH.out _ HB.out.drew)
  go_wp2_with fail
  refine FI1.out.mono ?_
  rintro e w2 ⟨rfl, hw⟩
  rw [hw]
  clear hw
  go_wp2
  refine wp_region_still_tail 19 (by kernel_rfl) (by kernel_rfl) ?_
  simp only [List.take_succ_cons, List.take_zero, List.drop_succ_cons, List.drop_zero]
  repeat still_step
  refine wpStill_nil ?_
  change wpList _ _ _ _ _ w1.drew
  go_wp2_with (go_at_call 52; refine CH1.out.mono ?_; rintro e w3 ⟨rfl, vp', vb', r', m'⟩; have RR := Lib.hid (And.intro r' m'); clear r' m')
  go_ret
  exact ⟨rfl, _, _, RR.out.1, RR.out.2⟩
set_option maxRecDepth 100000 in
set_option maxHeartbeats 4000000 in
theorem lay17_ok (h : R17At w base M k vp vb ps qs) (hbase : base ≤ w.heap.size) (f : Fit17 k fs ps qs) (hr : RowFl w k.a k.n fs) (id n : Int) (n0 : 0 ≤ n) (j : Nat) (hj : j < k.n) (h1 : (fs.getD j Fl.nil).id = id) (h2 : ∀ q, q < j → ¬ (fs.getD q Fl.nil).id = id) (hx : ps.getD j 0 + 1 ≤ 9223372036854775807) (hy : qs.getD j 0 + n ≤ 18446744073709551615)
    (MT : Calls Try.prog 58 #[.pointer (some ⟨M, 0, none⟩), .int .u32 id, .int .u64 n] w fun e w' => e = .returned (.int .i64 0) ∧ Below w.heap.size w w') :
    Calls Try.prog 19 #[.pointer (some ⟨M, 0, none⟩), .int .u32 id, .int .u64 n] w fun e w' => e = .returned (.int .i64 0) ∧ ∃ vp' vb', R17At w' base M k vp' vb' (ps.set j (ps.getD j 0 + 1)) (qs.set j (qs.getD j 0 + n)) ∧ MvS w w' (inR17 M vp vb) (inR17 M vp' vb') := by
  have FT := Lib.hid MT
  have FI := Lib.hid (fun (v : World) (hv : Below w.heap.size w v) => find16_at (rowfl_below hr hv) k.cc (by have := f.n1; omega) id j hj h1 h2)
  have CH := Lib.hid (fun (v : World) (hv : Below w.heap.size w v) => (change17 (h.below hv) (Nat.le_trans hbase hv.size) f.lp f.lq (by have := f.n1; omega) j hj (ps.getD j 0 + 1) (qs.getD j 0 + n)).mono (R' := fun e w' => e = .returned (.tuple #[]) ∧ ∃ vp' vb', R17At w' base M k vp' vb' (ps.set j (ps.getD j 0 + 1)) (qs.set j (qs.getD j 0 + n)) ∧ MvS w w' (inR17 M vp vb) (inR17 M vp' vb')) (by rintro e w' ⟨rfl, vp', vb', r', m'⟩; exact ⟨rfl, vp', vb', r', (MvS.of_below _ hv).trans m'⟩))
  have CC := Lib.hid (fun (v : World) (hv : Below w.heap.size w v) => (h.below hv).cell)
  have p0 := f.np _ (getD_mem0 ps j (by rw [f.lp]; exact hj))
  have q0 := f.nq _ (getD_mem0 qs j (by rw [f.lq]; exact hj))
  obtain ⟨ap, cp, rfl, -, hcp⟩ := h.atp
  obtain ⟨aq, cq, rfl, -, hcq⟩ := h.atq
  obtain ⟨g1, rfl, l1, d1⟩ := hcp j (by rw [f.lp]; exact hj)
  obtain ⟨g2, rfl, _, l2, d2, _⟩ := hcq j (by rw [f.lq]; exact hj)
  rw [f.lp] at CC
  rw [f.lq] at CC
  have D1 := Lib.hid d1; have D2 := Lib.hid d2
  have hw1 : IntKind.i64.wrap (ps.getD j 0 + 1) = ps.getD j 0 + 1 := by rw [IntKind.wrap_i64]; omega
  have hw2 : IntKind.u64.wrap (qs.getD j 0 + n) = qs.getD j 0 + n := by rw [IntKind.wrap_u64]; omega
  have z0 : (0 : Int) ≤ j := by omega
  have z1 : (j : Int) < k.n := by omega
  clear h f hr h1 h2 hcp hcq MT d1 d2
  generalize ps.getD j 0 = x1 at *
  generalize qs.getD j 0 = x2 at *
  go_enter Try.func19, Try.ntmps19
  go_wp2_with fail
  refine FT.out.mono ?_
  rintro e w1 ⟨rfl, hb⟩
  have HB := Lib.hid hb
  clear hb
  obtain ⟨-, -, -, -, c10, c11, c12, -, -⟩ := CC.out _ HB.out
  have d1 := (HB.out.cell (p := ⟨g1, j, none⟩) l1).trans D1.out
  have d2 := (HB.out.cell (p := ⟨g2, j, none⟩) l2).trans D2.out
  have FI1 := Lib.hid (FI.out _ HB.out)
  have CH1 := Lib.hid (CH.out _ HB.out.drew)
  go_wp2_with fail
  refine FI1.out.mono ?_
  rintro e w2 ⟨rfl, hw⟩
  rw [hw]
  clear hw
  go_wp2
  refine wp_region_still_tail 19 (by kernel_rfl) (by kernel_rfl) ?_
  simp only [List.take_succ_cons, List.take_zero, List.drop_succ_cons, List.drop_zero]
  repeat still_step
  refine wpStill_nil ?_
  change wpList _ _ _ _ _ w1.drew
  go_wp2_with (go_at_call 52; refine CH1.out.mono ?_; rintro e w3 ⟨rfl, vp', vb', r', m'⟩; have RR := Lib.hid (And.intro r' m'); clear r' m')
  go_ret
  exact ⟨rfl, _, _, RR.out.1, RR.out.2⟩
theorem out17_flow (h : R17At w base M k vp vb ps qs) (f : Fit17 k fs ps qs) (hr : RowFl w k.a k.n fs) (id n : Int) (h2 : ∀ q, q < k.n → ¬ (fs.getD q Fl.nil).id = id) :
    Calls Try.prog 17 #[.pointer (some ⟨M, 0, none⟩), .int .u32 id, .int .u64 n] w fun e w' => e = .returned (.int .i64 13) ∧ Below w.heap.size w w' := by
  have FI := Lib.hid (find16_no hr k.cc (by have := f.n1; omega) id h2)
  obtain ⟨-, -, -, -, c10, c11, c12, -, -⟩ := h.cell
  clear h f hr h2
  go_enter Try.func17, Try.ntmps17
  go_wp2_with fail
  refine FI.out.mono ?_
  rintro e w' ⟨rfl, rfl⟩
  go_wp2
  go_ret
  exact ⟨rfl, Below.refl _ _⟩
set_option maxHeartbeats 2000000 in
theorem out17_state (h : R17At w base M k vp vb ps qs) (f : Fit17 k fs ps qs) (hr : RowFl w k.a k.n fs) (id n : Int) (j : Nat) (hj : j < k.n) (h1 : (fs.getD j Fl.nil).id = id) (h2 : ∀ q, q < j → ¬ (fs.getD q Fl.nil).id = id) (hs : ps.getD j 0 = 0 ∨ qs.getD j 0 < n) :
    Calls Try.prog 17 #[.pointer (some ⟨M, 0, none⟩), .int .u32 id, .int .u64 n] w fun e w' => e = .returned (.int .i64 9) ∧ Below w.heap.size w w' := by
  have FI := Lib.hid (find16_at hr k.cc (by have := f.n1; omega) id j hj h1 h2)
  obtain ⟨-, -, -, -, c10, c11, c12, -, -⟩ := h.cell
  obtain ⟨ap, cp, rfl, -, hcp⟩ := h.atp
  obtain ⟨aq, cq, rfl, -, hcq⟩ := h.atq
  obtain ⟨g1, rfl, l1, d1⟩ := hcp j (by rw [f.lp]; exact hj)
  obtain ⟨g2, rfl, _, l2, d2, _⟩ := hcq j (by rw [f.lq]; exact hj)
  rw [f.lp] at c11
  rw [f.lq] at c12
  have z0 : (0 : Int) ≤ j := by omega
  have z1 : (j : Int) < k.n := by omega
  clear h f hr h1 h2 hcp hcq
  generalize ps.getD j 0 = x1 at *
  generalize qs.getD j 0 = x2 at *
  by_cases hx : x1 = 0
  · subst hx
    go_enter Try.func17, Try.ntmps17
    go_wp2_with fail
    refine FI.out.mono ?_
    rintro e w' ⟨rfl, rfl⟩
    go_wp2
    go_ret
    exact ⟨rfl, Below.refl _ _⟩
  · have gx : (x1 == 0) = false := by simp [hx]
    have gy : x2 < n := hs.resolve_left hx
    go_enter Try.func17, Try.ntmps17
    go_wp2_with fail
    refine FI.out.mono ?_
    rintro e w' ⟨rfl, rfl⟩
    go_wp2
    go_ret
    exact ⟨rfl, Below.refl _ _⟩
set_option maxRecDepth 100000 in
set_option maxHeartbeats 4000000 in
theorem out17_ok (h : R17At w base M k vp vb ps qs) (hbase : base ≤ w.heap.size) (f : Fit17 k fs ps qs) (hr : RowFl w k.a k.n fs) (id n : Int) (n0 : 0 ≤ n) (j : Nat) (hj : j < k.n) (h1 : (fs.getD j Fl.nil).id = id) (h2 : ∀ q, q < j → ¬ (fs.getD q Fl.nil).id = id) (hx : ps.getD j 0 ≤ 9223372036854775807) (hx0 : ps.getD j 0 ≠ 0) (hy : n ≤ qs.getD j 0) (hy1 : qs.getD j 0 ≤ 18446744073709551615) :
    Calls Try.prog 17 #[.pointer (some ⟨M, 0, none⟩), .int .u32 id, .int .u64 n] w fun e w' => e = .returned (.int .i64 0) ∧ ∃ vp' vb', R17At w' base M k vp' vb' (ps.set j (ps.getD j 0 - 1)) (qs.set j (qs.getD j 0 - n)) ∧ MvS w w' (inR17 M vp vb) (inR17 M vp' vb') := by
  have FI := Lib.hid (fun (v : World) (hv : Below w.heap.size w v) => find16_at (rowfl_below hr hv) k.cc (by have := f.n1; omega) id j hj h1 h2)
  have CH := Lib.hid (fun (v : World) (hv : Below w.heap.size w v) => (change17 (h.below hv) (Nat.le_trans hbase hv.size) f.lp f.lq (by have := f.n1; omega) j hj (ps.getD j 0 - 1) (qs.getD j 0 - n)).mono (R' := fun e w' => e = .returned (.tuple #[]) ∧ ∃ vp' vb', R17At w' base M k vp' vb' (ps.set j (ps.getD j 0 - 1)) (qs.set j (qs.getD j 0 - n)) ∧ MvS w w' (inR17 M vp vb) (inR17 M vp' vb')) (by rintro e w' ⟨rfl, vp', vb', r', m'⟩; exact ⟨rfl, vp', vb', r', (MvS.of_below _ hv).trans m'⟩))
  have CC := Lib.hid (fun (v : World) (hv : Below w.heap.size w v) => (h.below hv).cell)
  have p0 := f.np _ (getD_mem0 ps j (by rw [f.lp]; exact hj))
  have q0 := f.nq _ (getD_mem0 qs j (by rw [f.lq]; exact hj))
  obtain ⟨ap, cp, rfl, -, hcp⟩ := h.atp
  obtain ⟨aq, cq, rfl, -, hcq⟩ := h.atq
  obtain ⟨g1, rfl, l1, d1⟩ := hcp j (by rw [f.lp]; exact hj)
  obtain ⟨g2, rfl, _, l2, d2, _⟩ := hcq j (by rw [f.lq]; exact hj)
  rw [f.lp] at CC
  rw [f.lq] at CC
  have D1 := Lib.hid d1; have D2 := Lib.hid d2
  have hw1 : IntKind.i64.wrap (ps.getD j 0 - 1) = ps.getD j 0 - 1 := by rw [IntKind.wrap_i64]; omega
  have hw2 : IntKind.u64.wrap (qs.getD j 0 - n) = qs.getD j 0 - n := by rw [IntKind.wrap_u64]; omega
  have z0 : (0 : Int) ≤ j := by omega
  have z1 : (j : Int) < k.n := by omega
  clear h f hr h1 h2 hcp hcq d1 d2
  generalize ps.getD j 0 = x1 at *
  generalize qs.getD j 0 = x2 at *
  go_enter Try.func17, Try.ntmps17
  obtain ⟨-, -, -, -, c10, c11, c12, -, -⟩ := CC.out _ (Below.refl _ _)
  have d1 := D1.out; have d2 := D2.out
  have FI1 := Lib.hid (FI.out _ (Below.refl _ _))
  have CH1 := Lib.hid (CH.out _ (Below.refl _ _).drew)
  have gx : (x1 == 0) = false := by simp [hx0]
  have gy : ¬ x2 < n := by omega
  go_wp2_with fail
  refine FI1.out.mono ?_
  rintro e w2 ⟨rfl, hw⟩
  rw [hw]
  clear hw
  go_wp2
  refine wp_region_still_tail 19 (by kernel_rfl) (by kernel_rfl) ?_
  simp only [List.take_succ_cons, List.take_zero, List.drop_succ_cons, List.drop_zero]
  repeat still_step
  refine wpStill_nil ?_
  change wpList _ _ _ _ _ w.drew
  go_wp2_with (go_at_call 52; refine CH1.out.mono ?_; rintro e w3 ⟨rfl, vp', vb', r', m'⟩; have RR := Lib.hid (And.intro r' m'); clear r' m')
  go_ret
  exact ⟨rfl, _, _, RR.out.1, RR.out.2⟩
end
end Go.Proofs.Ytiogfgkfipekbaa
