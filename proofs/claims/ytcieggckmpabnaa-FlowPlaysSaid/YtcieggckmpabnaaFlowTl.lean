/-
  Layer 15's tells, walked, where a table and the answer hold the same: true. What lay below the heap's end stands. No condition.
-/
import Derived.Test.YtcieggckmpabnaaFlowTf
import Derived.Test.YtcieggckmpabnaaFlowP
import Derived.Test.YtcieggckmpabnaaFlowI10
import Derived.BigQuiet
namespace Go.Proofs.Ytcieggckmpabnaa
set_option linter.unusedVariables false
set_option linter.unusedSimpArgs false
open Go.ChangeShapes Go.WideShapes Go.ChangeAt Go.RowKit
attribute [local go_sem] alloc_drewN setCell_drewN

/-- What stands while Each goes: the boxes. -/
structure Tl (w V : World) (n₀ ok at' l i k n : Nat) (vl vi : Value) (ids : List Value) : Prop where
  b : Below n₀ w V
  ok : Boxed V ok 4 (.bool true)
  at' : Boxed V at' 3 (.int .i64 k)
  l : Boxed V l 28 vl
  i : Boxed V i 147 vi
  row : V.ownsRow n₀ 29 1 vi n ids
theorem Tl.alloc {w V : World} {n₀ ok at' l i k n : Nat} {vl vi : Value} {ids : List Value} (h : Tl w V n₀ ok at' l i k n vl vi ids) (hn : n₀ ≤ V.heap.size) (o : Obj) : Tl w (V.alloc o) n₀ ok at' l i k n vl vi ids :=
  ⟨h.b.alloc hn _, h.ok.alloc o, h.at'.alloc o, h.l.alloc o, h.i.alloc o, h.row.alloc o⟩
theorem Tl.step {w V : World} {n₀ ok at' l i k n : Nat} {vl vi : Value} {ids : List Value} (h : Tl w V n₀ ok at' l i k n vl vi ids) (hne : at' ≠ ok) (h1 : n₀ ≤ ok) (h2 : n₀ ≤ at') (hlo : l ≠ ok) (hla : l ≠ at') (hio : i ≠ ok) (hia : i ≠ at') :
    Tl w ((V.setCell ⟨ok, 0, none⟩ (.bool true)).setCell ⟨at', 0, none⟩ (.int .i64 (k + 1 : Nat))) n₀ ok at' l i (k + 1) n vl vi ids := by
  have g1 := grownBy_setCell' V ok (.bool true)
  have g2 := grownBy_setCell' (V.setCell ⟨ok, 0, none⟩ (.bool true)) at' (.int .i64 (k + 1 : Nat))
  have ne : ∀ {a b : Nat}, a ≠ b → some a ≠ some b := fun h e => h (by injection e)
  have a1 := h.at'.kept g1 (ne hne)
  have r1 := h.row.kept g1 (Or.inr (h.ok.not_row (by decide) h.row).symm)
  exact ⟨(h.b.setCell (p := ⟨ok, 0, none⟩) h1 _).setCell (p := ⟨at', 0, none⟩) h2 _, (h.ok.set (.bool true)).kept g2 (ne hne.symm), a1.set _, (h.l.kept g1 (ne hlo)).kept g2 (ne hla), (h.i.kept g1 (ne hio)).kept g2 (ne hia), r1.kept g2 (Or.inr (a1.not_row (by decide) r1).symm)⟩
set_option maxRecDepth 100000 in
set_option maxHeartbeats 2000000 in
theorem tells15 {w : World} {base B bl : Nat} {room : Int} {v vl : Value} {es : List FeI} (h : TbAtI w base B room v es) (hl : Its15 w bl vl (prs es)) :
    Calls Try.prog 14 #[.pointer (some ⟨B, 0, none⟩), vl] w fun e w' => e = .returned (.bool true) ∧ Below w.heap.size w w' := by
  have hle := h.le; have hr1 := h.r1
  have TB := Lib.hid h; have HL := Lib.hid hl
  obtain ⟨a, c, rfl, _, _⟩ := hl.form
  rw [prs_len] at HL ⊢
  clear h hl
  obtain ⟨W0, hW0⟩ : ∃ W0, w.alloc (.cells #[.slice a es.length c] 28) = W0 := ⟨_, rfl⟩
  have HB0 := Lib.hid (show Below w.heap.size w W0 by rw [← hW0]; exact (Below.refl _ w).alloc (Nat.le_refl _) _)
  have hx0 : Boxed W0 w.heap.size 28 (.slice a es.length c) := by rw [← hW0]; exact Boxed.new w _ _
  have HX0 := Lib.hid hx0
  have HI := Lib.hid (tidsI (TB.out.below HB0.out))
  clear hx0
  go_enter Try.func14, Try.ntmps14
  go_wp2_with fail
  refine HI.out.mono ?_
  rintro e w1 ⟨vi, rfl, hi, b1⟩
  have hs0 := HX0.out.lt
  have hs1 := b1.size
  have R1 := Lib.hid (show w1.ownsRow w.heap.size 29 1 vi es.length (es.map fun e => Value.int .u32 e.id) from ⟨hi.1, by
    rcases hi.2 with hh | ⟨g, cap, cur, e, hg, rest⟩
    · exact Or.inl hh
    · exact Or.inr ⟨g, cap, cur, e, by omega, rest⟩⟩)
  have B1 := Lib.hid (HB0.out.trans (b1.mono HB0.out.size))
  have X1 := Lib.hid (show Boxed w1 w.heap.size 28 (.slice a es.length c) from (b1.block _ hs0).trans HX0.out)
  obtain ⟨ai, ci, rfl⟩ := row_slice hi
  clear hi b1 hW0 HI HX0
  obtain ⟨n₀, hn₀⟩ : ∃ n₀, w.heap.size = n₀ := ⟨_, rfl⟩
  obtain ⟨W2, hW2⟩ : ∃ W2, w1.alloc (.cells #[.slice ai es.length ci] 147) = W2 := ⟨_, rfl⟩
  have hi2 : Boxed W2 w1.heap.size 147 (.slice ai es.length ci) := by rw [← hW2]; exact Boxed.new w1 _ _
  have hx2 : Boxed W2 w.heap.size 28 (.slice a es.length c) := by rw [← hW2]; exact X1.out.alloc _
  have hr2 : W2.ownsRow w.heap.size 29 1 (.slice ai es.length ci) es.length (es.map fun e => Value.int .u32 e.id) := by rw [← hW2]; exact R1.out.alloc _
  have hb2 : Below w.heap.size w W2 := by rw [← hW2]; exact B1.out.alloc B1.out.size _
  have LN := Lib.hid (fun q => tlenI (TB.out.below (below_drewN q hb2)))
  have hc1 := hi2.cell; have hc2 := hx2.cell
  have I2 := Lib.hid hi2; have X2 := Lib.hid hx2; have R2 := Lib.hid hr2; have B2 := Lib.hid hb2
  clear hi2 hx2 hr2 hb2 R1 B1 X1 hn₀
  go_wp2_with fail
  clear hW2
  go_quiet ((go_at_call 77; exact Calls.quiet_of_same (LN.out _)))
  obtain ⟨W3, hW3⟩ : ∃ W3, W2.drewN nq = W3 := ⟨_, rfl⟩
  have B3 := Lib.hid (show Below w.heap.size w W3 by rw [← hW3]; exact below_drewN nq B2.out)
  have I3 := Lib.hid (show Boxed W3 w1.heap.size 147 (.slice ai es.length ci) by rw [← hW3]; exact I2.out)
  have X3 := Lib.hid (show Boxed W3 w.heap.size 28 (.slice a es.length c) by rw [← hW3]; exact X2.out)
  have R3 := Lib.hid (show W3.ownsRow w.heap.size 29 1 (.slice ai es.length ci) es.length (es.map fun e => Value.int .u32 e.id) by rw [← hW3]; exact R2.out)
  rw [hW3]
  clear hW3 B2 I2 X2 R2 LN hc1 hc2
  have hs3 := B3.out.size
  have li := I3.out.lt; have lx := X3.out.lt
  obtain ⟨at', hat⟩ : ∃ at', W3.heap.size = at' := ⟨_, rfl⟩
  obtain ⟨W4, hW4⟩ : ∃ W4, (W3.alloc (.cells #[.int .i64 0] 3)).alloc (.cells #[.bool true] 4) = W4 := ⟨_, rfl⟩
  have T4 : Hid (Tl w W4 w.heap.size (W3.heap.size + 1) W3.heap.size w.heap.size w1.heap.size 0 es.length (.slice a es.length c) (.slice ai es.length ci) (es.map fun e => Value.int .u32 e.id)) := Lib.hid (by
    rw [← hW4]
    refine ⟨(B3.out.alloc hs3 _).alloc (by simp; omega) _, ?_, (Boxed.new W3 _ _).alloc _, (X3.out.alloc _).alloc _, (I3.out.alloc _).alloc _, (R3.out.alloc _).alloc _⟩
    have := Boxed.new (W3.alloc (.cells #[.int .i64 0] 3)) 4 (.bool true)
    rw [World.size_alloc] at this
    exact this)
  have EC := Lib.hid (each_callsI (es := es) (w := W4) (.pointer (some ⟨W3.heap.size + 1, 0, none⟩)) (.pointer (some ⟨W3.heap.size, 0, none⟩)) (.pointer (some ⟨w.heap.size, 0, none⟩)) (.pointer (some ⟨w1.heap.size, 0, none⟩))
    (fun pre V => Tl w V w.heap.size (W3.heap.size + 1) W3.heap.size w.heap.size w1.heap.size pre.length es.length (.slice a es.length c) (.slice ai es.length ci) (es.map fun (e : FeI) => Value.int .u32 e.id))
    (fun pre V o hT => hT.alloc hT.b.size o) (fun pre V hT => TB.out.below hT.b)
    (fun pre x rest V he hT => by
      have hk : pre.length < es.length := by rw [he]; simp
      have hgx : es[pre.length]'hk = x := by simp [he]
      obtain ⟨_, _, e0, _, hcell⟩ := (HL.out.below hT.b).form
      obtain ⟨g, hg, _, z0, z1⟩ := hcell pre.length (by rw [prs_len]; exact hk)
      injection e0 with e0 e1 e2
      subst e0
      subst hg
      have ex : (prs es)[pre.length]'(by rw [prs_len]; exact hk) = (x.id, x.x) := by simp [prs, hgx]
      rw [ex] at z0 z1
      obtain ⟨gi, ci', ei, _, _⟩ := hT.row.form (by omega)
      cases ei
      have z2 := hT.row.cellAt pre.length (by omega)
      rw [List.getElem?_map, List.getElem?_eq_getElem hk, hgx] at z2
      refine (tells_fn _ _ _ _ (by omega) pre.length es.length hk (by omega) x.id x.x g gi c _ hT.ok hT.at' hT.l hT.i z0 z1 z2).mono ?_
      rintro e w' ⟨rfl, rfl⟩
      have := hT.step (by omega) (by omega) (by omega) (by omega) (by omega) (by omega) (by omega)
      rw [List.length_append]
      exact ⟨rfl, this⟩)
    T4.out)
  clear T4 hat TB HL B3 I3 X3 R3
  go_wp2_with fail
  clear hW4
  refine EC.out.mono ?_
  rintro e w5 ⟨rfl, hT⟩
  have d0 := hT.ok.cell; have d1 := hT.at'.cell; have d2 := hT.l.cell
  have HT := Lib.hid hT.b
  clear hT EC
  go_wp2
  go_ret
  exact ⟨rfl, HT.out⟩
end Go.Proofs.Ytcieggckmpabnaa
