/-
  What package ring does with a row of elements of type int: one element, the last ones, all of them. What lay below the heap's end stands. No condition but that the ring is one that New made.
-/
import Derived.Test.YtiogfgkfipekbaaDq1
import Derived.Deep.RegionHeld3
import Derived.Test.YtiogfgkfipekbaaCopyK
import Derived.Laws.CopyOwn
namespace Go.Proofs.Ytiogfgkfipekbaa
set_option linter.unusedVariables false
set_option linter.unusedSimpArgs false
open Go.ChangeShapes Go.WideShapes Go.ChangeAt Go.RowKit
attribute [local go_sem] alloc_drewN setCell_drewN

set_option maxHeartbeats 1000000 in
theorem qat_inI {w : World} {base B : Nat} {room : Int} {v : Value} {ps : List (Int × Int)} {f k : Nat} (h : RqAtI w base B room v ps f k) (i : Int) (i0 : 0 ≤ i) (i1 : i < k) :
    Calls Try.prog 123 #[.pointer (some ⟨B, 0, none⟩), .int .i64 i] w fun e w' => e = .returned (.tuple #[iaggI ((cont izI ps f k).getD i.toNat izI), .bool true]) ∧ Below w.heap.size w w' := by
  obtain ⟨j, rfl⟩ := Int.eq_ofNat_of_zero_le i0
  have hle := h.le
  have hn : 0 < ps.length := by omega
  have hlr := h.lr; have hr1 := h.r1
  rw [Int.toNat_natCast, cont_getD _ _ _ _ _ (by omega)]
  obtain ⟨W, hW⟩ : ∃ W, w.alloc (.cells #[.int .u64 0, Value.int .i64 0] 155) = W := ⟨_, rfl⟩
  obtain ⟨R, hR⟩ : ∃ R, w.heap.size = R := ⟨_, rfl⟩
  have hB : Below w.heap.size w W := by rw [← hW]; exact (Below.refl _ w).alloc (Nat.le_refl _) _
  have r0 : W.cell? ⟨R, 0, none⟩ = some (.int .u64 0) := by rw [← hW, ← hR]; simp [go_sem]
  have r1 : W.cell? ⟨R, 1, none⟩ = some (Value.int .i64 0) := by rw [← hW, ← hR]; simp [go_sem]
  have z0 : W.frozen? ⟨R, 0, none⟩ = false := by rw [← hW, ← hR]; simp [go_sem]
  have z1 : W.frozen? ⟨R, 1, none⟩ = false := by rw [← hW, ← hR]; simp [go_sem]
  have hBR : ¬ R = B := by have := (Array.getElem?_eq_some_iff.1 h.blk).1; omega
  have HB := Lib.hid hB
  have HR := Lib.hid hR
  have hgl := fun j hj => (h.own.lt j hj).2
  have h := h.below0 hB
  obtain ⟨c0, c1, c2, c3⟩ := h.cell
  have PL := Lib.hid (fun (w2 : World) (e : w2.heap = W.heap) => qplaceI (h.heap e) hn (j : Int) (by omega) (by omega))
  have LN := Lib.hid (qlenI h)
  rw [Int.toNat_natCast] at PL
  obtain ⟨g, c, rfl, hg, hc⟩ := h.form hn
  have hgW : g < w.heap.size := hgl g rfl
  have hq : (f + j) % ps.length < ps.length := Nat.mod_lt _ hn
  obtain ⟨cq, cq2⟩ := hc _ hq
  have q0 : (0 : Int) ≤ (((f + j) % ps.length : Nat) : Int) := by omega
  have q1 : (((f + j) % ps.length : Nat) : Int) < (ps.length : Int) := by omega
  have q2 : (0 + (f + j) % ps.length) = (f + j) % ps.length := Nat.zero_add _
  have hc1 : decide ((j : Int) < 0) = false := by simp
  clear h hc hq hle hlr hr1 hn hB
  generalize (f + j) % ps.length = q at *
  generalize ps.getD q izI = x at *
  obtain ⟨x1, x2⟩ := x
  dsimp only at cq cq2
  unfold iaggI
  dsimp only
  have hgR : ¬ R = g := by have := hgW; have := HR.out; omega
  have KS := Lib.hid (fun (W : World) (u u' : Value) (d1 : W.cell? ⟨B, 1, none⟩ = some (.slice (some ⟨g, 0, none⟩) ps.length c)) (dq : W.cell? ⟨g, q * 2, none⟩ = some (.int .u64 x1)) (dq2 : W.cell? ⟨g, q * 2 + 1, none⟩ = some (Value.int .i64 x2)) =>
    (⟨(World.cell?_setCell_other _ ⟨R, 1, none⟩ ⟨B, 1, none⟩ u' (fun e => hBR (by injection e))).trans ((World.cell?_setCell_other W ⟨R, 0, none⟩ ⟨B, 1, none⟩ u (fun e => hBR (by injection e))).trans d1),
      (World.cell?_setCell_other _ ⟨R, 1, none⟩ ⟨g, q * 2, none⟩ u' (fun e => hgR (by injection e))).trans ((World.cell?_setCell_other W ⟨R, 0, none⟩ ⟨g, q * 2, none⟩ u (fun e => hgR (by injection e))).trans dq),
      (World.cell?_setCell_other _ ⟨R, 1, none⟩ ⟨g, q * 2 + 1, none⟩ u' (fun e => hgR (by injection e))).trans ((World.cell?_setCell_other W ⟨R, 0, none⟩ ⟨g, q * 2 + 1, none⟩ u (fun e => hgR (by injection e))).trans dq2)⟩ :
      ((W.setCell ⟨R, 0, none⟩ u).setCell ⟨R, 1, none⟩ u').cell? ⟨B, 1, none⟩ = some (.slice (some ⟨g, 0, none⟩) ps.length c) ∧ ((W.setCell ⟨R, 0, none⟩ u).setCell ⟨R, 1, none⟩ u').cell? ⟨g, q * 2, none⟩ = some (.int .u64 x1) ∧ ((W.setCell ⟨R, 0, none⟩ u).setCell ⟨R, 1, none⟩ u').cell? ⟨g, q * 2 + 1, none⟩ = some (Value.int .i64 x2)))
  rw [hR]
  go_enter Try.func123, Try.ntmps123
  go_wp2_with fail
  refine LN.out.mono ?_
  rintro e w' ⟨rfl, rfl⟩
  go_wp2
  go_region_held3 (fun v => v.cell? ⟨B, 1, none⟩ = some (.slice (some ⟨g, 0, none⟩) ps.length c) ∧ v.cell? ⟨g, q * 2, none⟩ = some (.int .u64 x1) ∧ v.cell? ⟨g, q * 2 + 1, none⟩ = some (Value.int .i64 x2))
    ((first | exact ⟨c1, cq, cq2⟩ | exact KS.out _ _ _ c1 cq cq2 | fail))
    (first | (go_at_call 106; refine (PL.out _ (by rfl)).mono ?_; rintro e w2 ⟨rfl, nd, rfl⟩) | fail)
  go_wp2
  refine bodyPost_ret (v := .tuple #[.agg #[.int .u64 x1, Value.int .i64 x2], .bool true]) (by simp [results, Try.results123, go_sem, r0, r1]) rfl ⟨rfl, ?_⟩
  rw [← hR]
  exact below_drewN _ (below_set (below_set HB.out (Nat.le_refl _)) (Nat.le_refl _))
theorem qat_outI {w : World} {base B : Nat} {room : Int} {v : Value} {ps : List (Int × Int)} {f k : Nat} (h : RqAtI w base B room v ps f k) (i : Int) (i0 : i < 0 ∨ k ≤ i) :
    Calls Try.prog 123 #[.pointer (some ⟨B, 0, none⟩), .int .i64 i] w fun e w' => e = .returned (.tuple #[iaggI izI, .bool false]) ∧ Below w.heap.size w w' := by
  have LN := Lib.hid (qlenI (h.below0 (((Below.refl _ w)).alloc (Nat.le_refl _) (.cells #[.int .u64 0, Value.int .i64 0] 155))))
  have FB : Hid (Below w.heap.size w ((w.alloc (.cells #[.int .u64 0, Value.int .i64 0] 155)).alloc (.cells #[.int .u64 0, Value.int .i64 0] 155))) := Lib.hid (((Below.refl _ w).alloc (Nat.le_refl _) _).alloc (by simp) _)
  clear h
  unfold iaggI izI
  rcases Int.lt_or_le i 0 with hi | hi
  · go_enter Try.func123, Try.ntmps123
    go_wp2
    refine bodyPost_ret (v := .tuple #[.agg #[.int .u64 0, Value.int .i64 0], .bool false]) (by simp [results, Try.results123, go_sem]) rfl ⟨rfl, ?_⟩
    exact FB.out
  · have hk : (k : Int) ≤ i := by omega
    have hn : ¬ i < 0 := by omega
    clear i0
    go_enter Try.func123, Try.ntmps123
    go_wp2_with fail
    refine LN.out.mono ?_
    rintro e w' ⟨rfl, rfl⟩
    go_wp2
    refine bodyPost_ret (v := .tuple #[.agg #[.int .u64 0, Value.int .i64 0], .bool false]) (by simp [results, Try.results123, go_sem]) rfl ⟨rfl, ?_⟩
    exact FB.out
theorem qhead_inI {w : World} {base B : Nat} {room : Int} {v : Value} {ps : List (Int × Int)} {f k : Nat} (h : RqAtI w base B room v ps f k) (hk : 0 < k) :
    Calls Try.prog 105 #[.pointer (some ⟨B, 0, none⟩)] w fun e w' => e = .returned (.tuple #[iaggI ((cont izI ps f k).getD 0 izI), .bool true]) ∧ Below w.heap.size w w' := by
  obtain ⟨W, hW⟩ : ∃ W, w.alloc (.cells #[.int .u64 0, Value.int .i64 0] 155) = W := ⟨_, rfl⟩
  obtain ⟨R, hR⟩ : ∃ R, w.heap.size = R := ⟨_, rfl⟩
  have hB : Below w.heap.size w W := by rw [← hW]; exact (Below.refl _ w).alloc (Nat.le_refl _) _
  have r0 : W.cell? ⟨R, 0, none⟩ = some (.int .u64 0) := by rw [← hW, ← hR]; simp [go_sem]
  have r1 : W.cell? ⟨R, 1, none⟩ = some (Value.int .i64 0) := by rw [← hW, ← hR]; simp [go_sem]
  have z0 : W.frozen? ⟨R, 0, none⟩ = false := by rw [← hW, ← hR]; simp [go_sem]
  have z1 : W.frozen? ⟨R, 1, none⟩ = false := by rw [← hW, ← hR]; simp [go_sem]
  have hRW : R < W.heap.size := by rw [← hW, ← hR]; simp
  have HB := Lib.hid hB
  have HR := Lib.hid hR
  have AT := Lib.hid (qat_inI (h.below0 hB) 0 (by omega) (by omega))
  clear h hB
  rw [show (0 : Int).toNat = 0 from rfl] at AT
  generalize (cont izI ps f k).getD 0 izI = x at *
  obtain ⟨x1, x2⟩ := x
  unfold iaggI at *
  dsimp only at AT ⊢
  rw [hR]
  go_enter Try.func105, Try.ntmps105
  go_wp2_with fail
  refine AT.out.mono ?_
  rintro e w' ⟨rfl, hb⟩
  have r0 := (hb.cell (p := ⟨R, 0, none⟩) hRW).trans r0
  have r1 := (hb.cell (p := ⟨R, 1, none⟩) hRW).trans r1
  have z0 := (hb.frozen (p := ⟨R, 0, none⟩) hRW).trans z0
  have z1 := (hb.frozen (p := ⟨R, 1, none⟩) hRW).trans z1
  have FB := Lib.hid (HB.out.trans (hb.mono HB.out.size))
  clear hb
  go_wp2
  refine bodyPost_ret (v := .tuple #[.agg #[.int .u64 x1, Value.int .i64 x2], .bool true]) (by simp [results, Try.results105, go_sem, r0, r1]) rfl ⟨rfl, ?_⟩
  rw [← hR]
  exact below_set (below_set FB.out (Nat.le_refl _)) (Nat.le_refl _)
theorem qhead_outI {w : World} {base B : Nat} {room : Int} {v : Value} {ps : List (Int × Int)} {f : Nat} (h : RqAtI w base B room v ps f 0) :
    Calls Try.prog 105 #[.pointer (some ⟨B, 0, none⟩)] w fun e w' => e = .returned (.tuple #[iaggI izI, .bool false]) ∧ Below w.heap.size w w' := by
  obtain ⟨W, hW⟩ : ∃ W, w.alloc (.cells #[.int .u64 0, Value.int .i64 0] 155) = W := ⟨_, rfl⟩
  obtain ⟨R, hR⟩ : ∃ R, w.heap.size = R := ⟨_, rfl⟩
  have hB : Below w.heap.size w W := by rw [← hW]; exact (Below.refl _ w).alloc (Nat.le_refl _) _
  have r0 : W.cell? ⟨R, 0, none⟩ = some (.int .u64 0) := by rw [← hW, ← hR]; simp [go_sem]
  have r1 : W.cell? ⟨R, 1, none⟩ = some (Value.int .i64 0) := by rw [← hW, ← hR]; simp [go_sem]
  have z0 : W.frozen? ⟨R, 0, none⟩ = false := by rw [← hW, ← hR]; simp [go_sem]
  have z1 : W.frozen? ⟨R, 1, none⟩ = false := by rw [← hW, ← hR]; simp [go_sem]
  have hRW : R < W.heap.size := by rw [← hW, ← hR]; simp
  have HB := Lib.hid hB
  have HR := Lib.hid hR
  have AT := Lib.hid (qat_outI (h.below0 hB) 0 (by omega))
  clear h hB
  unfold iaggI izI at *
  dsimp only at AT ⊢
  rw [hR]
  go_enter Try.func105, Try.ntmps105
  go_wp2_with fail
  refine AT.out.mono ?_
  rintro e w' ⟨rfl, hb⟩
  have r0 := (hb.cell (p := ⟨R, 0, none⟩) hRW).trans r0
  have r1 := (hb.cell (p := ⟨R, 1, none⟩) hRW).trans r1
  have z0 := (hb.frozen (p := ⟨R, 0, none⟩) hRW).trans z0
  have z1 := (hb.frozen (p := ⟨R, 1, none⟩) hRW).trans z1
  have FB := Lib.hid (HB.out.trans (hb.mono HB.out.size))
  clear hb
  go_wp2
  refine bodyPost_ret (v := .tuple #[.agg #[.int .u64 0, Value.int .i64 0], .bool false]) (by simp [results, Try.results105, go_sem, r0, r1]) rfl ⟨rfl, ?_⟩
  rw [← hR]
  exact below_set (below_set FB.out (Nat.le_refl _)) (Nat.le_refl _)
end Go.Proofs.Ytiogfgkfipekbaa
