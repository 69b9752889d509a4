/-
  What package ring does with a row of items over int: all of them. What lay below the heap's end stands. No condition but that the ring is one that New made.
-/
import Derived.Test.YtiogfgkfipekbaaDq2
import Derived.Test.YtiogfgkfipekbaaPoolMath
import Derived.Deep.CutBlock
import Derived.Deep.DeepCutAuto
namespace Go.Proofs.Ytiogfgkfipekbaa
set_option linter.unusedVariables false
set_option linter.unusedSimpArgs false
open Go.ChangeShapes Go.WideShapes Go.ChangeAt Go.RowKit
attribute [local go_sem] alloc_drewN setCell_drewN

theorem RqAtI.below {w w' : World} {base B : Nat} {room : Int} {v : Value} {ps : List (Int × Int)} {f k : Nat} (h : RqAtI w base B room v ps f k) (hb : Below w.heap.size w w') : RqAtI w' base B room v ps f k := by
  have hB : B < w.heap.size := (Array.getElem?_eq_some_iff.1 h.blk).1
  exact ⟨(hb.block B hB).trans h.blk, h.low, h.own.kept (row := some w.heap.size) ⟨hb.os, hb.tape, hb.output, hb.size, fun k hk _ => hb.block k hk⟩ (Or.inr (fun hh => by have := h.own.lt _ hh; omega)), h.r0, h.r1, h.le, h.lr, h.fl⟩
theorem qinfoI : (Try.prog.info? 155).map (fun i => (i.zero, i.size, i.bytes)) = some (some (.agg #[.int .u64 0, Value.int .i64 0]), 2, 16) := by kernel_rfl
theorem qmadeI (m : Nat) : (madeCells (Value.agg #[.int .u64 0, Value.int .i64 0]).cells (m * 2)).toList = (List.replicate m izI).flatMap icellI := by
  have e0 : (madeCells (Value.agg #[.int .u64 0, Value.int .i64 0]).cells (m * 2)).toList = (List.range (m * 2)).map (fun x : Nat => (#[Value.int .u64 0, Value.int .i64 0] : Array Value)[x % 2]!) := by
    show ((Array.range (m * 2)).map (fun x : Nat => (#[Value.int .u64 0, Value.int .i64 0] : Array Value)[x % 2]!)).toList = _
    simp
  rw [e0]
  apply List.ext_getElem?
  intro j
  rcases Nat.lt_or_ge j (m * 2) with hj | hj
  · rw [List.getElem?_map, List.getElem?_range hj]
    obtain ⟨q, r, rfl, hr⟩ : ∃ q r, j = q * 2 + r ∧ r < 2 := ⟨j / 2, j % 2, by omega, Nat.mod_lt _ (by omega)⟩
    rw [irow_atI _ q r (by rw [List.length_replicate]; omega) hr, List.getElem_replicate]
    have hm : (q * 2 + r) % 2 = r := by omega
    show some ((#[Value.int .u64 0, Value.int .i64 0] : Array Value)[(q * 2 + r) % 2]!) = _
    rw [hm]
    match r, hr with
    | 0, _ => rfl
    | 1, _ => rfl
  · rw [List.getElem?_eq_none (by simpa using hj), List.getElem?_eq_none (by rw [irow_lenI, List.length_replicate]; omega)]
/-- What is laid of a row so far: its first elements, and nothing behind them. -/
def qpartI (l : List (Int × Int)) (m i : Nat) : List (Int × Int) := l.take i ++ List.replicate (m - i) izI
theorem qpart_lenI (l : List (Int × Int)) (m i : Nat) (h : l.length = m) (hi : i ≤ m) : (qpartI l m i).length = m := by
  unfold qpartI; rw [List.length_append, List.length_take, List.length_replicate]; omega
theorem qpart_setI (l : List (Int × Int)) (m i : Nat) (h : l.length = m) (hi : i < m) : (qpartI l m i).set i (l.getD i izI) = qpartI l m (i + 1) := by
  unfold qpartI
  have e : m - i = (m - (i + 1)) + 1 := by omega
  have hl : (l.take i).length = i := by rw [List.length_take]; omega
  rw [e, List.replicate_succ, List.set_append_right _ _ (by omega), hl, Nat.sub_self, List.set_cons_zero, List.take_succ_eq_append_getElem (by omega), List.append_assoc, List.getD_eq_getElem?_getD, List.getElem?_eq_getElem (by omega)]
  rfl
theorem qpart_allI (l : List (Int × Int)) (m : Nat) (h : l.length = m) : qpartI l m m = l := by
  unfold qpartI
  rw [Nat.sub_self, List.take_of_length_le (by omega)]; simp

set_option maxRecDepth 100000 in
set_option maxHeartbeats 2000000 in
theorem qlastI {w : World} {base B : Nat} {room : Int} {v : Value} {ps : List (Int × Int)} {f m : Nat} (h : RqAtI w base B room v ps f m) :
    Calls Try.prog 129 #[.pointer (some ⟨B, 0, none⟩), .int .i64 m] w fun e w' => e = .returned (.slice (some ⟨w.heap.size, 0, none⟩) m m) ∧ w'.ownsRow w.heap.size 155 2 (.slice (some ⟨w.heap.size, 0, none⟩) m m) m ((cont izI ps f m).flatMap icellI) ∧ Below w.heap.size w w' := by
  obtain ⟨i0, hi, hz0, hz1, hz2⟩ := info_parts qinfoI
  have LN := Lib.hid (qlenI h)
  have H := Lib.hid h
  have hle := h.le; have hlr := h.lr; have hr1 := h.r1
  clear h
  have HL := Lib.hid (cont_length izI ps f m)
  have HG := Lib.hid (fun i (hi : i < m) => cont_getD izI ps f m i hi)
  generalize cont izI ps f m = l at *
  have hm1 : m ≤ 65536 := by omega
  have m1 : max (m : Int) 0 = m := by omega
  have m2 : min (m : Int) m = m := by omega
  go_enter Try.func129, Try.ntmps129
  go_wp2_with fail
  refine LN.out.mono ?_
  rintro e w' ⟨rfl, rfl⟩
  go_upto_region 2 with (fail)
  go_wp2_with (at_make; refine wpList_make_full _ rfl _ _ 185 rfl w.heap.size 155 i0 (.agg #[.int .u64 0, Value.int .i64 0]) 2 Try.underlying185 hi hz0 hz1 _ _ _ _ m rfl rfl rfl rfl (by rw [hz2]; omega) (by unfold maxLen; omega) (Nat.le_refl _) ?_; intro w1 ho1 hg1)
  have P1 : w1.ownsRow w.heap.size 155 2 (.slice (some ⟨w.heap.size, 0, none⟩) m m) m ((qpartI l m 0).flatMap icellI) := by
    have e : (qpartI l m 0).flatMap icellI = (madeCells (Value.agg #[.int .u64 0, Value.int .i64 0]).cells (m * 2)).toList := by
      rw [qmadeI]
      unfold qpartI
      rw [List.take_zero, List.nil_append]
      rfl
    rw [e]; exact ho1
  have B1 : Below w.heap.size w w1 := (Below.refl _ _).grown hg1 (Nat.le_refl _) (by simp)
  go_loopw [16] (fun x wr => ∃ i : Nat, i ≤ m ∧ x = .int .i64 i ∧ wr.ownsRow w.heap.size 155 2 (.slice (some ⟨w.heap.size, 0, none⟩) m m) m ((qpartI l m i).flatMap icellI) ∧ Below w.heap.size w wr) (fun x _ => m - (intOf x).toNat)
  case atStart => exact ⟨0, Nat.zero_le _, rfl, P1, B1⟩
  case round =>
    obtain ⟨i, him, rfl, ho, hb⟩ := hrel
    by_cases hlt : i < m
    · have hR := H.out.below hb
      have hn : 0 < ps.length := by omega
      obtain ⟨c0, c1, c2, c3⟩ := hR.cell
      have PL := Lib.hid (fun (w2 : World) (e : w2.heap = wr.heap) => qplaceI (hR.heap e) hn (i : Int) (by omega) (by omega))
      rw [Int.toNat_natCast] at PL
      have hBlt : B < w.heap.size := (Array.getElem?_eq_some_iff.1 H.out.blk).1
      obtain ⟨g, c, rfl, hg, hc⟩ := hR.form hn
      have hglt : g < w.heap.size := (H.out.own.lt g rfl).2
      have hq : (f + i) % ps.length < ps.length := Nat.mod_lt _ hn
      obtain ⟨cq, cq2⟩ := hc _ hq
      rw [← HG.out i hlt] at cq cq2
      have q0 : (0 : Int) ≤ (((f + i) % ps.length : Nat) : Int) := by omega
      have q1 : (((f + i) % ps.length : Nat) : Int) < (ps.length : Int) := by omega
      have a1 : IntKind.i64.wrap ((m : Int) - m) = 0 := by rw [IntKind.wrap_i64]; omega
      have a2 : IntKind.i64.wrap (0 + (i : Int)) = (i : Int) := by rw [IntKind.wrap_i64]; omega
      have a3 : IntKind.i64.wrap (i : Int) = (i : Int) := by rw [IntKind.wrap_i64]; omega
      have a4 : IntKind.i64.wrap 0 = 0 := by rw [IntKind.wrap_i64]; omega
      have hPl := qpart_lenI l m i HL.out him
      have hst := row_put (row_put ho (i * 2) (.int .u64 (l.getD i izI).1)) (i * 2 + 1) (Value.int .i64 (l.getD i izI).2)
      rw [irow_setI _ i (l.getD i izI) (by omega), qpart_setI l m i HL.out hlt] at hst
      have ST := Lib.hid hst
      have cd := ho.cellAt (i * 2) (by omega)
      have cd2 := ho.cellAt (i * 2 + 1) (by omega)
      obtain ⟨old, hold⟩ : ∃ old, ((qpartI l m i).flatMap icellI)[i * 2]? = some old := ⟨_, List.getElem?_eq_getElem (by rw [irow_lenI, hPl]; omega)⟩
      obtain ⟨old2, hold2⟩ : ∃ old, ((qpartI l m i).flatMap icellI)[i * 2 + 1]? = some old := ⟨_, List.getElem?_eq_getElem (by rw [irow_lenI, hPl]; omega)⟩
      rw [hold] at cd
      rw [hold2] at cd2
      have fd := ho.frozenAt (i * 2)
      have fd2 := ho.frozenAt (i * 2 + 1)
      have i0' : (0 : Int) ≤ (i : Int) := by omega
      have i1' : (i : Int) < (m : Int) := by omega
      have hne : ∀ (j o : Nat) (e : j < w.heap.size), (⟨w.heap.size, o, none⟩ : Addr) = ⟨j, 0, none⟩ → False := fun j o e h => by injection h with h1 h2 h3; omega
      have HB := Lib.hid hb
      clear hst ho hold hold2 hc hq hb hR hPl
      generalize (f + i) % ps.length = q at *
      generalize l.getD i izI = x at *
      obtain ⟨x1, x2⟩ := x
      dsimp only at cq cq2 ST
      have KS := Lib.hid (fun (W : World) (u u' : Value) (d1 : W.cell? ⟨B, 1, none⟩ = some (.slice (some ⟨g, 0, none⟩) ps.length c)) (d3 : W.cell? ⟨B, 3, none⟩ = some (.int .i64 m)) (dq : W.cell? ⟨g, q * 2, none⟩ = some (.int .u64 x1)) (dq2 : W.cell? ⟨g, q * 2 + 1, none⟩ = some (Value.int .i64 x2)) =>
        (⟨(World.cell?_setCell_other _ ⟨w.heap.size, i * 2 + 1, none⟩ ⟨B, 1, none⟩ u' (fun e => by injection e with e1 e2 e3; omega)).trans ((World.cell?_setCell_other W ⟨w.heap.size, i * 2, none⟩ ⟨B, 1, none⟩ u (fun e => by injection e with e1 e2 e3; omega)).trans d1),
          (World.cell?_setCell_other _ ⟨w.heap.size, i * 2 + 1, none⟩ ⟨B, 3, none⟩ u' (fun e => by injection e with e1 e2 e3; omega)).trans ((World.cell?_setCell_other W ⟨w.heap.size, i * 2, none⟩ ⟨B, 3, none⟩ u (fun e => by injection e with e1 e2 e3; omega)).trans d3),
          (World.cell?_setCell_other _ ⟨w.heap.size, i * 2 + 1, none⟩ ⟨g, q * 2, none⟩ u' (fun e => by injection e with e1 e2 e3; omega)).trans ((World.cell?_setCell_other W ⟨w.heap.size, i * 2, none⟩ ⟨g, q * 2, none⟩ u (fun e => by injection e with e1 e2 e3; omega)).trans dq),
          (World.cell?_setCell_other _ ⟨w.heap.size, i * 2 + 1, none⟩ ⟨g, q * 2 + 1, none⟩ u' (fun e => by injection e with e1 e2 e3; omega)).trans ((World.cell?_setCell_other W ⟨w.heap.size, i * 2, none⟩ ⟨g, q * 2 + 1, none⟩ u (fun e => by injection e with e1 e2 e3; omega)).trans dq2)⟩ :
          ((W.setCell ⟨w.heap.size, i * 2, none⟩ u).setCell ⟨w.heap.size, i * 2 + 1, none⟩ u').cell? ⟨B, 1, none⟩ = some (.slice (some ⟨g, 0, none⟩) ps.length c) ∧ ((W.setCell ⟨w.heap.size, i * 2, none⟩ u).setCell ⟨w.heap.size, i * 2 + 1, none⟩ u').cell? ⟨B, 3, none⟩ = some (.int .i64 m) ∧ ((W.setCell ⟨w.heap.size, i * 2, none⟩ u).setCell ⟨w.heap.size, i * 2 + 1, none⟩ u').cell? ⟨g, q * 2, none⟩ = some (.int .u64 x1) ∧ ((W.setCell ⟨w.heap.size, i * 2, none⟩ u).setCell ⟨w.heap.size, i * 2 + 1, none⟩ u').cell? ⟨g, q * 2 + 1, none⟩ = some (Value.int .i64 x2)))
      go_wp2
      go_region_held3 (fun v => v.cell? ⟨B, 1, none⟩ = some (.slice (some ⟨g, 0, none⟩) ps.length c) ∧ v.cell? ⟨B, 3, none⟩ = some (.int .i64 m) ∧ v.cell? ⟨g, q * 2, none⟩ = some (.int .u64 x1) ∧ v.cell? ⟨g, q * 2 + 1, none⟩ = some (Value.int .i64 x2))
        ((first | exact ⟨c1, c3, cq, cq2⟩ | exact KS.out _ _ _ c1 c3 cq cq2 | fail))
        (first | (go_at_call 106; refine (PL.out _ (by rfl)).mono ?_; rintro e w2 ⟨rfl, nd, rfl⟩) | fail)
      go_wp2
      go_roundw
      case rel => exact ⟨i + 1, by omega, by go_num, ST.out, below_drewN _ (HB.out.trans ⟨rfl, rfl, rfl, by simp [World.setCell], fun j hj => (Below.heap_setCell _ ⟨w.heap.size, _, none⟩ _ j (by show j ≠ w.heap.size; omega)).trans (Below.heap_setCell _ ⟨w.heap.size, _, none⟩ _ j (by show j ≠ w.heap.size; omega))⟩)⟩
      case measure => simp [intOf] <;> omega
    · have e : i = m := by omega
      subst e
      rw [qpart_allI l _ HL.out] at ho
      go_wp2
      go_ret
      exact ⟨rfl, ho, hb⟩
theorem qallI {w : World} {base B : Nat} {room : Int} {v : Value} {ps : List (Int × Int)} {f k : Nat} (h : RqAtI w base B room v ps f k) :
    Calls Try.prog 124 #[.pointer (some ⟨B, 0, none⟩)] w fun e w' => e = .returned (.slice (some ⟨w.heap.size, 0, none⟩) k k) ∧ w'.ownsRow w.heap.size 155 2 (.slice (some ⟨w.heap.size, 0, none⟩) k k) k ((cont izI ps f k).flatMap icellI) ∧ Below w.heap.size w w' := by
  have LN := Lib.hid (qlenI h)
  have LA := Lib.hid (qlastI h)
  clear h
  go_enter Try.func124, Try.ntmps124
  go_wp2_with fail
  refine LN.out.mono ?_
  rintro e w' ⟨rfl, rfl⟩
  go_wp2_with fail
  refine LA.out.mono ?_
  rintro e w' ⟨rfl, ho, hb⟩
  go_wp2
  go_ret
  exact ⟨rfl, ho, hb⟩
end Go.Proofs.Ytiogfgkfipekbaa
