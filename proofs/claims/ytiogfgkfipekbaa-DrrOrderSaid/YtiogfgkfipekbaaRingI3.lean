/-
  What package ring does with a row of elements of type int: the last ones, all of them. What lay below the heap's end stands. No condition but that the ring is one that New made.
-/
import Derived.Test.YtiogfgkfipekbaaRingI2
import Derived.Deep.CutBlock
import Derived.Deep.DeepCutAuto
namespace Go.Proofs.Ytiogfgkfipekbaa
set_option linter.unusedVariables false
set_option linter.unusedSimpArgs false
open Go.ChangeShapes Go.WideShapes Go.ChangeAt Go.RowKit
attribute [local go_sem] alloc_drewN setCell_drewN

theorem RingAtI.below {w w' : World} {base B : Nat} {room : Int} {v : Value} {ps : List Int} {f k : Nat} (h : RingAtI w base B room v ps f k) (hb : Below w.heap.size w w') : RingAtI w' base B room v ps f k := by
  have hB : B < w.heap.size := (Array.getElem?_eq_some_iff.1 h.blk).1
  exact ⟨(hb.block B hB).trans h.blk, h.low, h.own.kept (row := some w.heap.size) ⟨hb.os, hb.tape, hb.output, hb.size, fun k hk _ => hb.block k hk⟩ (Or.inr (fun hh => by have := h.own.lt _ hh; omega)), h.r0, h.r1, h.le, h.lr, h.fl⟩
theorem infoI : (Try.prog.info? 3).map (fun i => (i.zero, i.size, i.bytes)) = some (some (Value.int .i64 0), 1, 8) := by kernel_rfl
/-- What is laid of a row so far: its first elements, and nothing behind them. -/
def partI (l : List Int) (m i : Nat) : List Int := l.take i ++ List.replicate (m - i) 0
theorem part_lenI (l : List Int) (m i : Nat) (h : l.length = m) (hi : i ≤ m) : (partI l m i).length = m := by
  unfold partI; rw [List.length_append, List.length_take, List.length_replicate]; omega
theorem part_setI (l : List Int) (m i : Nat) (h : l.length = m) (hi : i < m) : (partI l m i).set i (l.getD i 0) = partI l m (i + 1) := by
  unfold partI
  have e : m - i = (m - (i + 1)) + 1 := by omega
  have hl : (l.take i).length = i := by rw [List.length_take]; omega
  rw [e, List.replicate_succ, List.set_append_right _ _ (by omega), hl, Nat.sub_self, List.set_cons_zero, List.take_succ_eq_append_getElem (by omega), List.append_assoc, List.getD_eq_getElem?_getD, List.getElem?_eq_getElem (by omega)]
  rfl
theorem part_allI (l : List Int) (m : Nat) (h : l.length = m) : partI l m m = l := by
  unfold partI
  rw [Nat.sub_self, List.take_of_length_le (by omega)]; simp

set_option maxRecDepth 100000 in
set_option maxHeartbeats 1000000 in
theorem last_anyI {w : World} {base B : Nat} {room : Int} {v : Value} {ps : List Int} {f k : Nat} (h : RingAtI w base B room v ps f k) (n : Int) (m : Nat) (hm : (n < 0 ∧ m = 0) ∨ (k < n ∧ m = k) ∨ (n = m ∧ m ≤ k)) :
    Calls Try.prog 113 #[.pointer (some ⟨B, 0, none⟩), .int .i64 n] w fun e w' => ∃ c, e = .returned (.slice (some ⟨w.heap.size, 0, none⟩) m c) ∧ w'.ownsRow w.heap.size 3 1 (.slice (some ⟨w.heap.size, 0, none⟩) m c) m (((cont 0 ps f k).drop (k - m)).map (Value.int .i64)) ∧ Below w.heap.size w w' := by
  obtain ⟨i0, hi, hz0, hz1, hz2⟩ := info_parts infoI
  have LN := Lib.hid (lenI h)
  have hmk : m ≤ k := by omega
  have H := Lib.hid h
  have hle := h.le; have hlr := h.lr; have hr1 := h.r1
  clear h
  have hl : ((cont 0 ps f k).drop (k - m)).length = m := by rw [List.length_drop, cont_length]; omega
  have HL := Lib.hid hl
  have HG := Lib.hid (fun i (hi : i < m) => cont_drop_getD 0 ps f k m i hmk hi)
  generalize (cont 0 ps f k).drop (k - m) = l at *
  clear hl
  have hm' : (n < 0 ∧ m = 0) ∨ ((k : Int) < n ∧ ¬ n < 0 ∧ m = k) ∨ (n = m ∧ m ≤ k) := by omega
  clear hm
  rcases hm' with ⟨h1, rfl⟩ | ⟨h1, h0, rfl⟩ | ⟨rfl, h1⟩
  · go_enter Try.func113, Try.ntmps113
    go_wp2_with fail
    refine LN.out.mono ?_
    rintro e w' ⟨rfl, rfl⟩
    go_upto_region 2 with (fail)
    go_wp2_with (at_make; refine wpList_make_full _ rfl _ _ 78 rfl w.heap.size 3 i0 (Value.int .i64 0) 1 Try.underlying78 hi hz0 hz1 _ _ 0 0 0 rfl rfl rfl rfl (by simp) (by simp) (Nat.le_refl _) ?_; intro w1 ho1 hg1)
    refine wp_loop_rounds 1 ?_
    rw [rounds_succ]
    go_wp2
    go_ret
    have ho1' : w1.ownsRow w.heap.size 3 1 (.slice (some ⟨w.heap.size, 0, none⟩) 0 0) 0 [] := by simpa [madeCells] using ho1
    have hl0 : l = [] := List.eq_nil_of_length_eq_zero HL.out
    exact ⟨_, rfl, by rw [hl0]; exact ho1', (Below.refl _ _).grown hg1 (Nat.le_refl _) (by simp)⟩
  · have hm0 : 0 ≤ m := by omega
    have hm1 : m ≤ 65536 := by omega
    go_enter Try.func113, Try.ntmps113
    go_wp2_with fail
    refine LN.out.mono ?_
    rintro e w' ⟨rfl, rfl⟩
    go_upto_region 2 with (fail)
    go_wp2_with (at_make; refine wpList_make_full _ rfl _ _ 78 rfl w.heap.size 3 i0 (Value.int .i64 0) 1 Try.underlying78 hi hz0 hz1 _ _ _ _ m rfl rfl rfl rfl (by rw [hz2]; omega) (by unfold maxLen; omega) (Nat.le_refl _) ?_; intro w1 ho1 hg1)
    have P1 : w1.ownsRow w.heap.size 3 1 (.slice (some ⟨w.heap.size, 0, none⟩) m m) m ((partI l m 0).map (Value.int .i64)) := by
      have e : (partI l m 0).map (Value.int .i64) = (madeCells (Value.int .i64 0).cells (m * 1)).toList := by
        rw [show (Value.int .i64 0).cells = #[Value.int .i64 0] from rfl, toList_madeCells_one, Nat.mul_one]
        unfold partI
        rw [List.take_zero, List.nil_append, List.map_replicate]
        rfl
      rw [e]; exact ho1
    have B1 : Below w.heap.size w w1 := (Below.refl _ _).grown hg1 (Nat.le_refl _) (by simp)
    go_loopw [16] (fun x wr => ∃ i : Nat, i ≤ m ∧ x = .int .i64 i ∧ wr.ownsRow w.heap.size 3 1 (.slice (some ⟨w.heap.size, 0, none⟩) m m) m ((partI l m i).map (Value.int .i64)) ∧ Below w.heap.size w wr) (fun x _ => m - (intOf x).toNat)
    case atStart => exact ⟨0, Nat.zero_le _, rfl, P1, B1⟩
    case round =>
      obtain ⟨i, him, rfl, ho, hb⟩ := hrel
      by_cases hlt : i < m
      · have hR := H.out.below hb
        have hn : 0 < ps.length := by omega
        obtain ⟨c0, c1, c2, c3⟩ := hR.cell
        have PL := Lib.hid (fun (w2 : World) (e : w2.heap = wr.heap) => placeI (hR.heap e) hn (i : Int) (by omega) (by omega))
        rw [show ((i : Int)).toNat = m - m + i by omega] at PL
        have hBlt : B < w.heap.size := (Array.getElem?_eq_some_iff.1 H.out.blk).1
        obtain ⟨g, c, rfl, hg, hc⟩ := hR.form hn
        have hglt : g < w.heap.size := (H.out.own.lt g rfl).2
        have hq : (f + (m - m + i)) % ps.length < ps.length := Nat.mod_lt _ hn
        have cq := hc _ hq
        rw [← HG.out i hlt] at cq
        have q0 : (0 : Int) ≤ (((f + (m - m + i)) % ps.length : Nat) : Int) := by omega
        have q1 : (((f + (m - m + i)) % ps.length : Nat) : Int) < (ps.length : Int) := by omega
        have a1 : IntKind.i64.wrap 0 = 0 := by rw [IntKind.wrap_i64]; omega
        have a2 : IntKind.i64.wrap (i : Int) = (i : Int) := by rw [IntKind.wrap_i64]; omega
        have hst := ho.stored i (Value.int .i64 (l.getD i 0))
        have es : ((partI l m i).map (Value.int .i64)).set i (Value.int .i64 (l.getD i 0)) = (partI l m (i + 1)).map (Value.int .i64) := by
          rw [← part_setI l m i HL.out hlt, List.map_set]
        rw [es] at hst
        have ST := Lib.hid hst
        have cd := ho.cellAt i (by omega)
        obtain ⟨old, hold⟩ : ∃ old, ((partI l m i).map (Value.int .i64))[i]? = some old := ⟨_, List.getElem?_eq_getElem (by rw [List.length_map, part_lenI l m i HL.out him]; exact hlt)⟩
        rw [hold] at cd
        have fd := ho.frozenAt i
        have i0' : (0 : Int) ≤ (i : Int) := by omega
        have i1' : (i : Int) < (m : Int) := by omega
        have HB := Lib.hid hb
        clear hst es ho hold hc hq hb hR
        generalize (f + (m - m + i)) % ps.length = q at *
        generalize l.getD i 0 = x at *
        have KS := Lib.hid (fun (W : World) (u : Value) (d1 : W.cell? ⟨B, 1, none⟩ = some (.slice (some ⟨g, 0, none⟩) ps.length c)) (d3 : W.cell? ⟨B, 3, none⟩ = some (.int .i64 m)) (dq : W.cell? ⟨g, q, none⟩ = some (Value.int .i64 x)) =>
          (⟨(World.cell?_setCell_other W ⟨w.heap.size, i, none⟩ ⟨B, 1, none⟩ u (fun e => by injection e with e1 e2 e3; omega)).trans d1, (World.cell?_setCell_other W ⟨w.heap.size, i, none⟩ ⟨B, 3, none⟩ u (fun e => by injection e with e1 e2 e3; omega)).trans d3, (World.cell?_setCell_other W ⟨w.heap.size, i, none⟩ ⟨g, q, none⟩ u (fun e => by injection e with e1 e2 e3; omega)).trans dq⟩ :
            (W.setCell ⟨w.heap.size, i, none⟩ u).cell? ⟨B, 1, none⟩ = some (.slice (some ⟨g, 0, none⟩) ps.length c) ∧ (W.setCell ⟨w.heap.size, i, none⟩ u).cell? ⟨B, 3, none⟩ = some (.int .i64 m) ∧ (W.setCell ⟨w.heap.size, i, none⟩ u).cell? ⟨g, q, none⟩ = some (Value.int .i64 x)))
        go_wp2
        go_region_held3 (fun v => v.cell? ⟨B, 1, none⟩ = some (.slice (some ⟨g, 0, none⟩) ps.length c) ∧ v.cell? ⟨B, 3, none⟩ = some (.int .i64 m) ∧ v.cell? ⟨g, q, none⟩ = some (Value.int .i64 x))
          ((first | exact ⟨c1, c3, cq⟩ | exact KS.out _ _ c1 c3 cq | fail))
          (first | (go_at_call 112; refine (PL.out _ (by rfl)).mono ?_; rintro e w2 ⟨rfl, nd, rfl⟩) | fail)
        go_wp2
        go_roundw
        case rel => exact ⟨i + 1, by omega, by go_num, ST.out.1, below_drewN _ (HB.out.grown ST.out.2 HB.out.size (fun j hj => by injection hj with hj; omega))⟩
        case measure => simp [intOf] <;> omega
      · have e : i = m := by omega
        subst e
        rw [part_allI l _ HL.out] at ho
        go_wp2
        go_ret
        exact ⟨_, rfl, ho, hb⟩
  · have hm0 : 0 ≤ m := by omega
    have hm1 : m ≤ 65536 := by omega
    go_enter Try.func113, Try.ntmps113
    go_wp2_with fail
    refine LN.out.mono ?_
    rintro e w' ⟨rfl, rfl⟩
    go_upto_region 2 with (fail)
    go_wp2_with (at_make; refine wpList_make_full _ rfl _ _ 78 rfl w.heap.size 3 i0 (Value.int .i64 0) 1 Try.underlying78 hi hz0 hz1 _ _ _ _ m rfl rfl rfl rfl (by rw [hz2]; omega) (by unfold maxLen; omega) (Nat.le_refl _) ?_; intro w1 ho1 hg1)
    have P1 : w1.ownsRow w.heap.size 3 1 (.slice (some ⟨w.heap.size, 0, none⟩) m m) m ((partI l m 0).map (Value.int .i64)) := by
      have e : (partI l m 0).map (Value.int .i64) = (madeCells (Value.int .i64 0).cells (m * 1)).toList := by
        rw [show (Value.int .i64 0).cells = #[Value.int .i64 0] from rfl, toList_madeCells_one, Nat.mul_one]
        unfold partI
        rw [List.take_zero, List.nil_append, List.map_replicate]
        rfl
      rw [e]; exact ho1
    have B1 : Below w.heap.size w w1 := (Below.refl _ _).grown hg1 (Nat.le_refl _) (by simp)
    go_loopw [16] (fun x wr => ∃ i : Nat, i ≤ m ∧ x = .int .i64 i ∧ wr.ownsRow w.heap.size 3 1 (.slice (some ⟨w.heap.size, 0, none⟩) m m) m ((partI l m i).map (Value.int .i64)) ∧ Below w.heap.size w wr) (fun x _ => m - (intOf x).toNat)
    case atStart => exact ⟨0, Nat.zero_le _, rfl, P1, B1⟩
    case round =>
      obtain ⟨i, him, rfl, ho, hb⟩ := hrel
      by_cases hlt : i < m
      · have hR := H.out.below hb
        have hn : 0 < ps.length := by omega
        obtain ⟨c0, c1, c2, c3⟩ := hR.cell
        have PL := Lib.hid (fun (w2 : World) (e : w2.heap = wr.heap) => placeI (hR.heap e) hn ((k : Int) - m + i) (by omega) (by omega))
        rw [show ((k : Int) - m + i).toNat = k - m + i by omega] at PL
        have hBlt : B < w.heap.size := (Array.getElem?_eq_some_iff.1 H.out.blk).1
        obtain ⟨g, c, rfl, hg, hc⟩ := hR.form hn
        have hglt : g < w.heap.size := (H.out.own.lt g rfl).2
        have hq : (f + (k - m + i)) % ps.length < ps.length := Nat.mod_lt _ hn
        have cq := hc _ hq
        rw [← HG.out i hlt] at cq
        have q0 : (0 : Int) ≤ (((f + (k - m + i)) % ps.length : Nat) : Int) := by omega
        have q1 : (((f + (k - m + i)) % ps.length : Nat) : Int) < (ps.length : Int) := by omega
        have a1 : IntKind.i64.wrap ((k : Int) - m) = (k : Int) - m := by rw [IntKind.wrap_i64]; omega
        have a2 : IntKind.i64.wrap ((k : Int) - m + i) = (k : Int) - m + i := by rw [IntKind.wrap_i64]; omega
        have hst := ho.stored i (Value.int .i64 (l.getD i 0))
        have es : ((partI l m i).map (Value.int .i64)).set i (Value.int .i64 (l.getD i 0)) = (partI l m (i + 1)).map (Value.int .i64) := by
          rw [← part_setI l m i HL.out hlt, List.map_set]
        rw [es] at hst
        have ST := Lib.hid hst
        have cd := ho.cellAt i (by omega)
        obtain ⟨old, hold⟩ : ∃ old, ((partI l m i).map (Value.int .i64))[i]? = some old := ⟨_, List.getElem?_eq_getElem (by rw [List.length_map, part_lenI l m i HL.out him]; exact hlt)⟩
        rw [hold] at cd
        have fd := ho.frozenAt i
        have i0' : (0 : Int) ≤ (i : Int) := by omega
        have i1' : (i : Int) < (m : Int) := by omega
        have HB := Lib.hid hb
        clear hst es ho hold hc hq hb hR
        generalize (f + (k - m + i)) % ps.length = q at *
        generalize l.getD i 0 = x at *
        have KS := Lib.hid (fun (W : World) (u : Value) (d1 : W.cell? ⟨B, 1, none⟩ = some (.slice (some ⟨g, 0, none⟩) ps.length c)) (d3 : W.cell? ⟨B, 3, none⟩ = some (.int .i64 k)) (dq : W.cell? ⟨g, q, none⟩ = some (Value.int .i64 x)) =>
          (⟨(World.cell?_setCell_other W ⟨w.heap.size, i, none⟩ ⟨B, 1, none⟩ u (fun e => by injection e with e1 e2 e3; omega)).trans d1, (World.cell?_setCell_other W ⟨w.heap.size, i, none⟩ ⟨B, 3, none⟩ u (fun e => by injection e with e1 e2 e3; omega)).trans d3, (World.cell?_setCell_other W ⟨w.heap.size, i, none⟩ ⟨g, q, none⟩ u (fun e => by injection e with e1 e2 e3; omega)).trans dq⟩ :
            (W.setCell ⟨w.heap.size, i, none⟩ u).cell? ⟨B, 1, none⟩ = some (.slice (some ⟨g, 0, none⟩) ps.length c) ∧ (W.setCell ⟨w.heap.size, i, none⟩ u).cell? ⟨B, 3, none⟩ = some (.int .i64 k) ∧ (W.setCell ⟨w.heap.size, i, none⟩ u).cell? ⟨g, q, none⟩ = some (Value.int .i64 x)))
        go_wp2
        go_region_held3 (fun v => v.cell? ⟨B, 1, none⟩ = some (.slice (some ⟨g, 0, none⟩) ps.length c) ∧ v.cell? ⟨B, 3, none⟩ = some (.int .i64 k) ∧ v.cell? ⟨g, q, none⟩ = some (Value.int .i64 x))
          ((first | exact ⟨c1, c3, cq⟩ | exact KS.out _ _ c1 c3 cq | fail))
          (first | (go_at_call 112; refine (PL.out _ (by rfl)).mono ?_; rintro e w2 ⟨rfl, nd, rfl⟩) | fail)
        go_wp2
        go_roundw
        case rel => exact ⟨i + 1, by omega, by go_num, ST.out.1, below_drewN _ (HB.out.grown ST.out.2 HB.out.size (fun j hj => by injection hj with hj; omega))⟩
        case measure => simp [intOf] <;> omega
      · have e : i = m := by omega
        subst e
        rw [part_allI l _ HL.out] at ho
        go_wp2
        go_ret
        exact ⟨_, rfl, ho, hb⟩
theorem all_anyI {w : World} {base B : Nat} {room : Int} {v : Value} {ps : List Int} {f k : Nat} (h : RingAtI w base B room v ps f k) :
    Calls Try.prog 89 #[.pointer (some ⟨B, 0, none⟩)] w fun e w' => ∃ c, e = .returned (.slice (some ⟨w.heap.size, 0, none⟩) k c) ∧ w'.ownsRow w.heap.size 3 1 (.slice (some ⟨w.heap.size, 0, none⟩) k c) k ((cont 0 ps f k).map (Value.int .i64)) ∧ Below w.heap.size w w' := by
  have LN := Lib.hid (lenI h)
  have LA := Lib.hid (last_anyI h (k : Int) k (Or.inr (Or.inr ⟨rfl, Nat.le_refl _⟩)))
  rw [Nat.sub_self, List.drop_zero] at LA
  clear h
  go_enter Try.func89, Try.ntmps89
  go_wp2_with fail
  refine LN.out.mono ?_
  rintro e w' ⟨rfl, rfl⟩
  go_wp2_with fail
  refine LA.out.mono ?_
  rintro e w' ⟨c, rfl, ho, hb⟩
  go_wp2
  go_ret
  exact ⟨c, rfl, ho, hb⟩
end Go.Proofs.Ytiogfgkfipekbaa
