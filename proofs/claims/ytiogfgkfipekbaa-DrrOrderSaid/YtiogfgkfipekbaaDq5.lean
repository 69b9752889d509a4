/-
  What package ring does when an item over int is put: it stands behind all others, or there is no room. No block turns but the ring's own. No condition but that the ring is one that New made.
-/
import Derived.Test.YtiogfgkfipekbaaDq4
namespace Go.Proofs.Ytiogfgkfipekbaa
set_option linter.unusedVariables false
set_option linter.unusedSimpArgs false
open Go.ChangeShapes Go.WideShapes Go.ChangeAt Go.RowKit
attribute [local go_sem] alloc_drewN setCell_drewN

theorem RqAtI.ne {w : World} {base B : Nat} {room : Int} {v : Value} {ps : List (Int × Int)} {f k : Nat} (h : RqAtI w base B room v ps f k) : v.ownBlock ≠ some B := own_ne_blk h.own h.blk (by decide)
theorem RqAtI.base {w : World} {base B : Nat} {room : Int} {v : Value} {ps : List (Int × Int)} {f k : Nat} (h : RqAtI w base B room v ps f k) : B < w.heap.size := (Array.getElem?_eq_some_iff.1 h.blk).1
theorem RqAtI.setIt {w : World} {base B : Nat} {room : Int} {g c : Nat} {ps : List (Int × Int)} {f k : Nat} (h : RqAtI w base B room (.slice (some ⟨g, 0, none⟩) ps.length c) ps f k) (i : Nat) (hi : i < ps.length) (x : Int × Int) :
    RqAtI ((w.setCell ⟨g, i * 2, none⟩ (.int .u64 x.1)).setCell ⟨g, i * 2 + 1, none⟩ (Value.int .i64 x.2)) base B room (.slice (some ⟨g, 0, none⟩) ps.length c) (ps.set i x) f k ∧
    Mv w ((w.setCell ⟨g, i * 2, none⟩ (.int .u64 x.1)).setCell ⟨g, i * 2 + 1, none⟩ (Value.int .i64 x.2)) B (.slice (some ⟨g, 0, none⟩) ps.length c) (.slice (some ⟨g, 0, none⟩) ps.length c) := by
  have hne : g ≠ B := fun e => h.ne (by rw [e]; rfl)
  have hst := row_put (row_put h.own (i * 2) (.int .u64 x.1)) (i * 2 + 1) (Value.int .i64 x.2)
  rw [irow_setI ps i x hi] at hst
  have hh : ∀ j, j ≠ g → ((w.setCell ⟨g, i * 2, none⟩ (.int .u64 x.1)).setCell ⟨g, i * 2 + 1, none⟩ (Value.int .i64 x.2)).heap[j]? = w.heap[j]? := fun j hj => (Below.heap_setCell _ ⟨g, _, none⟩ _ j hj).trans (Below.heap_setCell _ ⟨g, _, none⟩ _ j hj)
  refine ⟨⟨(hh B (Ne.symm hne)).trans h.blk, h.low, by rw [List.length_set]; exact hst, h.r0, h.r1, by rw [List.length_set]; exact h.le, by rw [List.length_set]; exact h.lr, by rw [List.length_set]; exact h.fl⟩, ?_⟩
  exact ⟨rfl, rfl, rfl, by simp [World.setCell], fun j _ _ hj => hh j (fun e => hj (by rw [e]; rfl)), fun j hj => Or.inr hj⟩
theorem RqAtI.setK {w : World} {base B : Nat} {room : Int} {v : Value} {ps : List (Int × Int)} {f k : Nat} (h : RqAtI w base B room v ps f k) (k' : Nat) (hk : k' ≤ ps.length) :
    RqAtI (w.setCell ⟨B, 3, none⟩ (.int .i64 k')) base B room v ps f k' ∧ Mv w (w.setCell ⟨B, 3, none⟩ (.int .i64 k')) B v v := by
  refine ⟨⟨?_, h.low, ownsRow_setCell_other (a := ⟨B, 3, none⟩) h.own h.ne _, h.r0, h.r1, hk, h.lr, h.fl⟩, ?_⟩
  · have e := heap_set h.blk 3 (.int .i64 k')
    simpa using e
  · exact ⟨rfl, rfl, rfl, by simp [World.setCell], fun j _ hj _ => Below.heap_setCell _ ⟨B, 3, none⟩ _ j hj, fun j hj => Or.inr hj⟩
theorem RqAtI.setF {w : World} {base B : Nat} {room : Int} {v : Value} {ps : List (Int × Int)} {f k : Nat} (h : RqAtI w base B room v ps f k) (f' : Nat) (hf : f' < ps.length) :
    RqAtI (w.setCell ⟨B, 2, none⟩ (.int .i64 f')) base B room v ps f' k ∧ Mv w (w.setCell ⟨B, 2, none⟩ (.int .i64 f')) B v v := by
  refine ⟨⟨?_, h.low, ownsRow_setCell_other (a := ⟨B, 2, none⟩) h.own h.ne _, h.r0, h.r1, h.le, h.lr, fun _ => hf⟩, ?_⟩
  · have e := heap_set h.blk 2 (.int .i64 f')
    simpa using e
  · exact ⟨rfl, rfl, rfl, by simp [World.setCell], fun j _ hj _ => Below.heap_setCell _ ⟨B, 2, none⟩ _ j hj, fun j hj => Or.inr hj⟩
theorem RqAtI.put {w : World} {base B : Nat} {room : Int} {g c : Nat} {ps : List (Int × Int)} {f k : Nat} (h : RqAtI w base B room (.slice (some ⟨g, 0, none⟩) ps.length c) ps f k) (hk : k < ps.length) (x : Int × Int) :
    RqAtI (((w.setCell ⟨g, (f + k) % ps.length * 2, none⟩ (.int .u64 x.1)).setCell ⟨g, (f + k) % ps.length * 2 + 1, none⟩ (Value.int .i64 x.2)).setCell ⟨B, 3, none⟩ (.int .i64 ((k + 1 : Nat) : Int))) base B room (.slice (some ⟨g, 0, none⟩) ps.length c) (ps.set ((f + k) % ps.length) x) f (k + 1) ∧
    Mv w (((w.setCell ⟨g, (f + k) % ps.length * 2, none⟩ (.int .u64 x.1)).setCell ⟨g, (f + k) % ps.length * 2 + 1, none⟩ (Value.int .i64 x.2)).setCell ⟨B, 3, none⟩ (.int .i64 ((k + 1 : Nat) : Int))) B (.slice (some ⟨g, 0, none⟩) ps.length c) (.slice (some ⟨g, 0, none⟩) ps.length c) := by
  obtain ⟨h1, m1⟩ := h.setIt ((f + k) % ps.length) (Nat.mod_lt _ (by omega)) x
  obtain ⟨h2, m2⟩ := h1.setK (k + 1) (by rw [List.length_set]; omega)
  exact ⟨h2, m1.trans m2⟩

theorem qput_fullI {w : World} {base B : Nat} {room : Int} {v : Value} {ps : List (Int × Int)} {f k : Nat} (h : RqAtI w base B room v ps f k) (hr : (k : Int) = room) (x : Int × Int) :
    Calls Try.prog 87 #[.pointer (some ⟨B, 0, none⟩), iaggI x] w fun e w' => e = .returned (.bool false) ∧ Below w.heap.size w w' := by
  obtain ⟨x1, x2⟩ := x
  unfold iaggI
  dsimp only
  obtain ⟨W, hW⟩ : ∃ W, w.alloc (.cells #[.int .u64 x1, Value.int .i64 x2] 155) = W := ⟨_, rfl⟩
  have hB : Below w.heap.size w W := by rw [← hW]; exact (Below.refl _ w).alloc (Nat.le_refl _) _
  have HB := Lib.hid hB
  have RM := Lib.hid (qroomI (h.below hB))
  rw [show room - (k : Int) = 0 by omega] at RM
  clear h hr hB
  go_enter Try.func87, Try.ntmps87
  go_wp2_with fail
  refine RM.out.mono ?_
  rintro e w' ⟨rfl, n, rfl⟩
  go_wp2
  go_ret
  exact ⟨rfl, below_drewN _ HB.out⟩
set_option maxRecDepth 100000 in
set_option maxHeartbeats 2000000 in
theorem qput_anyI {w : World} {base B : Nat} {room : Int} {v : Value} {ps : List (Int × Int)} {f k : Nat} (h : RqAtI w base B room v ps f k) (hr : (k : Int) < room) (x : Int × Int) (hbase : base ≤ w.heap.size) :
    Calls Try.prog 87 #[.pointer (some ⟨B, 0, none⟩), iaggI x] w fun e w' => e = .returned (.bool true) ∧ ∃ v' ps' f', RqAtI w' base B room v' ps' f' (k + 1) ∧ cont izI ps' f' (k + 1) = cont izI ps f k ++ [x] ∧ Mv w w' B v v' := by
  obtain ⟨X, hX⟩ : ∃ X, w.heap.size = X := ⟨_, rfl⟩
  obtain ⟨W, hW⟩ : ∃ W, w.alloc (.cells #[.int .u64 x.1, Value.int .i64 x.2] 155) = W := ⟨_, rfl⟩
  have hB : Below w.heap.size w W := by rw [← hW]; exact (Below.refl _ w).alloc (Nat.le_refl _) _
  have k1 : W.cell? ⟨X, 0, none⟩ = some (.int .u64 x.1) := by rw [← hW, ← hX]; simp [go_sem]
  have k2 : W.cell? ⟨X, 1, none⟩ = some (Value.int .i64 x.2) := by rw [← hW, ← hX]; simp [go_sem]
  have hXW : X < W.heap.size := by rw [← hW, ← hX]; simp
  have hBX : B < X := by rw [← hX]; exact h.base
  have hgX : ∀ j, v.ownBlock = some j → j < X := fun j hj => by rw [← hX]; exact (h.own.lt j hj).2
  have HX := Lib.hid hX
  have HB := Lib.hid hB
  have h := h.below hB
  have hbase : base ≤ W.heap.size := Nat.le_trans hbase hB.size
  unfold iaggI
  clear hB
  have RM := Lib.hid (qroomI h)
  have hz : ¬ room - (k : Int) = 0 := by omega
  have hz' : (room - (k : Int) == 0) = false := by simp; omega
  have hv : ∃ ao co, v = .slice ao ps.length co := by
    rcases h.own.2 with ⟨rfl, h0⟩ | ⟨g, cap, cur, rfl, _⟩
    · exact ⟨none, 0, by rw [h0]⟩
    · exact ⟨_, _, rfl⟩
  by_cases hk : k < ps.length
  · have hkk : ((k : Int) == (ps.length : Int)) = false := by simp; omega
    clear hv
    obtain ⟨g, c, rfl, hg, hc⟩ := h.form (show 0 < ps.length by omega)
    have hgX := hgX g rfl
    obtain ⟨a0, b1, b2, b3⟩ := h.cell
    have H := Lib.hid h; clear h
    have hR1 := H.out.r1; have hlr := H.out.lr
    have hn : 0 < ps.length := by omega
    have PL := Lib.hid (fun (w2 : World) (e : w2.heap = W.heap) => qplaceI (H.out.heap e) hn (k : Int) (by omega) (by omega))
    rw [Int.toNat_natCast] at PL
    have hne : g ≠ B := fun e => H.out.ne (by rw [e]; rfl)
    have hq : (f + k) % ps.length < ps.length := Nat.mod_lt _ hn
    have cq := hc _ hq
    obtain ⟨cq, cq2⟩ := cq
    have fq := H.out.own.frozenAt ((f + k) % ps.length * 2)
    have fq2 := H.out.own.frozenAt ((f + k) % ps.length * 2 + 1)
    have f3 := frozen_of_row W B 3 _ _ H.out.blk
    have q0 : (0 : Int) ≤ (((f + k) % ps.length : Nat) : Int) := by omega
    have q1 : (((f + k) % ps.length : Nat) : Int) < (ps.length : Int) := by omega
    have PT := Lib.hid (H.out.put hk x)
    have CT := Lib.hid (cont_put izI ps f k x hk)
    have EK := Lib.hid (show ((k : Int) + 1) = ((k + 1 : Nat) : Int) by omega)
    clear hc hq
    generalize (f + k) % ps.length = q at *
    have KS := Lib.hid (fun (W : World) (u u' : Value) (d1 : W.cell? ⟨B, 1, none⟩ = some (.slice (some ⟨g, 0, none⟩) ps.length c)) (d3 : W.cell? ⟨B, 3, none⟩ = some (.int .i64 k)) (e1 : W.cell? ⟨X, 0, none⟩ = some (.int .u64 x.1)) (e2 : W.cell? ⟨X, 1, none⟩ = some (Value.int .i64 x.2)) =>
      (⟨(World.cell?_setCell_other _ ⟨g, q * 2 + 1, none⟩ ⟨B, 1, none⟩ u' (fun e => hne (by injection e))).trans ((World.cell?_setCell_other W ⟨g, q * 2, none⟩ ⟨B, 1, none⟩ u (fun e => hne (by injection e))).trans d1),
        (World.cell?_setCell_other _ ⟨g, q * 2 + 1, none⟩ ⟨B, 3, none⟩ u' (fun e => hne (by injection e))).trans ((World.cell?_setCell_other W ⟨g, q * 2, none⟩ ⟨B, 3, none⟩ u (fun e => hne (by injection e))).trans d3),
        (World.cell?_setCell_other _ ⟨g, q * 2 + 1, none⟩ ⟨X, 0, none⟩ u' (fun e => by injection e with e1 e2 e3; omega)).trans ((World.cell?_setCell_other W ⟨g, q * 2, none⟩ ⟨X, 0, none⟩ u (fun e => by injection e with e1 e2 e3; omega)).trans e1),
        (World.cell?_setCell_other _ ⟨g, q * 2 + 1, none⟩ ⟨X, 1, none⟩ u' (fun e => by injection e with e1 e2 e3; omega)).trans ((World.cell?_setCell_other W ⟨g, q * 2, none⟩ ⟨X, 1, none⟩ u (fun e => by injection e with e1 e2 e3; omega)).trans e2)⟩ :
        ((W.setCell ⟨g, q * 2, none⟩ u).setCell ⟨g, q * 2 + 1, none⟩ u').cell? ⟨B, 1, none⟩ = some (.slice (some ⟨g, 0, none⟩) ps.length c) ∧ ((W.setCell ⟨g, q * 2, none⟩ u).setCell ⟨g, q * 2 + 1, none⟩ u').cell? ⟨B, 3, none⟩ = some (.int .i64 k) ∧ ((W.setCell ⟨g, q * 2, none⟩ u).setCell ⟨g, q * 2 + 1, none⟩ u').cell? ⟨X, 0, none⟩ = some (.int .u64 x.1) ∧ ((W.setCell ⟨g, q * 2, none⟩ u).setCell ⟨g, q * 2 + 1, none⟩ u').cell? ⟨X, 1, none⟩ = some (Value.int .i64 x.2)))
    have hne' : ¬ g = B := hne
    have hne2 : ¬ B = g := fun e => hne e.symm
    go_enter Try.func87, Try.ntmps87
    go_wp2_with fail
    refine RM.out.mono ?_
    rintro e w' ⟨rfl, n, rfl⟩
    go_wp2
    go_quiet (fail)
    go_wp2
    go_region_held3 (fun v => v.cell? ⟨B, 1, none⟩ = some (.slice (some ⟨g, 0, none⟩) ps.length c) ∧ v.cell? ⟨B, 3, none⟩ = some (.int .i64 k) ∧ v.cell? ⟨X, 0, none⟩ = some (.int .u64 x.1) ∧ v.cell? ⟨X, 1, none⟩ = some (Value.int .i64 x.2))
      ((first | exact ⟨b1, b3, k1, k2⟩ | exact KS.out _ _ _ b1 b3 k1 k2 | fail))
      (first | (go_at_call 106; refine (PL.out _ (by rfl)).mono ?_; rintro e w2 ⟨rfl, nd, rfl⟩) | fail)
    go_wp2
    go_ret
    rw [EK.out]
    obtain ⟨p1, p2⟩ := PT.out
    exact ⟨rfl, _, _, f, p1.drewN _, CT.out, ((Mv.of_below B _ HB.out).trans p2).drewN _⟩
  · have hk1 : k = ps.length := by have := h.le; omega
    have hkk : ((k : Int) == (ps.length : Int)) = true := by simp; omega
    obtain ⟨ao, co, hv⟩ := hv
    subst hv
    obtain ⟨a0, b1, b2, b3⟩ := h.cell
    have GR := Lib.hid (fun n => qgrow_anyI (h.drewN n) hk1 hr hbase)
    have H := Lib.hid h; clear h hk hk1
    go_enter Try.func87, Try.ntmps87
    go_wp2_with fail
    refine RM.out.mono ?_
    rintro e w' ⟨rfl, n, rfl⟩
    go_wp2
    go_quiet (fail)
    go_wp2_with fail
    refine (GR.out _).mono ?_
    rintro e w3 ⟨rfl, v3, ps3, h3, hk2, hc3, hm3⟩
    have hbX : w3.heap[X]? = W.heap[X]? := hm3.block X hXW (by omega) (fun e => by have := hgX X e.symm; omega)
    have k1 : w3.cell? ⟨X, 0, none⟩ = some (.int .u64 x.1) := by
      rw [← k1]; unfold World.cell?; rw [hbX]
    have k2 : w3.cell? ⟨X, 1, none⟩ = some (Value.int .i64 x.2) := by
      rw [← k2]; unfold World.cell?; rw [hbX]
    have hg3 : ∀ j, v3.ownBlock = some j → j ≠ X := fun j hj => by
      rcases hm3.own j hj with h | h
      · have h : W.heap.size ≤ j := h
        omega
      · have := hgX j h; omega
    have H2 := Lib.hid h3
    have HC3 := Lib.hid hc3
    have HM3 := Lib.hid hm3
    clear h3 hc3 hm3 a0 b1 b2 b3 hkk hbX
    clear H GR RM
    have hR1 := H2.out.r1; have hlr := H2.out.lr
    have hn : 0 < ps3.length := by omega
    obtain ⟨c0, c1, c2, c3⟩ := H2.out.cell
    have PL := Lib.hid (fun (w2 : World) (e : w2.heap = w3.heap) => qplaceI (H2.out.heap e) hn (k : Int) (by omega) (by omega))
    rw [Int.toNat_natCast] at PL
    obtain ⟨g, c, rfl, hg, hc⟩ := H2.out.form hn
    have hgX3 : g ≠ X := hg3 g rfl
    have hne : g ≠ B := fun e => H2.out.ne (by rw [e]; rfl)
    have hq : (0 + k) % ps3.length < ps3.length := Nat.mod_lt _ hn
    obtain ⟨cq, cq2⟩ := hc _ hq
    have fq := H2.out.own.frozenAt ((0 + k) % ps3.length * 2)
    have fq2 := H2.out.own.frozenAt ((0 + k) % ps3.length * 2 + 1)
    have f3 := frozen_of_row w3 B 3 _ _ H2.out.blk
    have q0 : (0 : Int) ≤ (((0 + k) % ps3.length : Nat) : Int) := by omega
    have q1 : (((0 + k) % ps3.length : Nat) : Int) < (ps3.length : Int) := by omega
    have PT := Lib.hid (H2.out.put hk2 x)
    have CT := Lib.hid (cont_put izI ps3 0 k x hk2)
    have EK := Lib.hid (show ((k : Int) + 1) = ((k + 1 : Nat) : Int) by omega)
    clear hc hq
    generalize (0 + k) % ps3.length = q at *
    have KS := Lib.hid (fun (W : World) (u u' : Value) (d1 : W.cell? ⟨B, 1, none⟩ = some (.slice (some ⟨g, 0, none⟩) ps3.length c)) (d3 : W.cell? ⟨B, 3, none⟩ = some (.int .i64 k)) (e1 : W.cell? ⟨X, 0, none⟩ = some (.int .u64 x.1)) (e2 : W.cell? ⟨X, 1, none⟩ = some (Value.int .i64 x.2)) =>
      (⟨(World.cell?_setCell_other _ ⟨g, q * 2 + 1, none⟩ ⟨B, 1, none⟩ u' (fun e => hne (by injection e))).trans ((World.cell?_setCell_other W ⟨g, q * 2, none⟩ ⟨B, 1, none⟩ u (fun e => hne (by injection e))).trans d1),
        (World.cell?_setCell_other _ ⟨g, q * 2 + 1, none⟩ ⟨B, 3, none⟩ u' (fun e => hne (by injection e))).trans ((World.cell?_setCell_other W ⟨g, q * 2, none⟩ ⟨B, 3, none⟩ u (fun e => hne (by injection e))).trans d3),
        (World.cell?_setCell_other _ ⟨g, q * 2 + 1, none⟩ ⟨X, 0, none⟩ u' (fun e => hgX3 (by injection e))).trans ((World.cell?_setCell_other W ⟨g, q * 2, none⟩ ⟨X, 0, none⟩ u (fun e => hgX3 (by injection e))).trans e1),
        (World.cell?_setCell_other _ ⟨g, q * 2 + 1, none⟩ ⟨X, 1, none⟩ u' (fun e => hgX3 (by injection e))).trans ((World.cell?_setCell_other W ⟨g, q * 2, none⟩ ⟨X, 1, none⟩ u (fun e => hgX3 (by injection e))).trans e2)⟩ :
        ((W.setCell ⟨g, q * 2, none⟩ u).setCell ⟨g, q * 2 + 1, none⟩ u').cell? ⟨B, 1, none⟩ = some (.slice (some ⟨g, 0, none⟩) ps3.length c) ∧ ((W.setCell ⟨g, q * 2, none⟩ u).setCell ⟨g, q * 2 + 1, none⟩ u').cell? ⟨B, 3, none⟩ = some (.int .i64 k) ∧ ((W.setCell ⟨g, q * 2, none⟩ u).setCell ⟨g, q * 2 + 1, none⟩ u').cell? ⟨X, 0, none⟩ = some (.int .u64 x.1) ∧ ((W.setCell ⟨g, q * 2, none⟩ u).setCell ⟨g, q * 2 + 1, none⟩ u').cell? ⟨X, 1, none⟩ = some (Value.int .i64 x.2)))
    have hne' : ¬ g = B := hne
    have hne2 : ¬ B = g := fun e => hne e.symm
    go_wp2
    go_region_held3 (fun v => v.cell? ⟨B, 1, none⟩ = some (.slice (some ⟨g, 0, none⟩) ps3.length c) ∧ v.cell? ⟨B, 3, none⟩ = some (.int .i64 k) ∧ v.cell? ⟨X, 0, none⟩ = some (.int .u64 x.1) ∧ v.cell? ⟨X, 1, none⟩ = some (Value.int .i64 x.2))
      ((first | exact ⟨c1, c3, k1, k2⟩ | exact KS.out _ _ _ c1 c3 k1 k2 | fail))
      (first | (go_at_call 106; refine (PL.out _ (by rfl)).mono ?_; rintro e w2 ⟨rfl, nd, rfl⟩) | fail)
    go_wp2
    go_ret
    rw [EK.out]
    obtain ⟨p1, p2⟩ := PT.out
    exact ⟨rfl, _, _, 0, p1.drewN _, by rw [CT.out, HC3.out], ((Mv.of_below B _ HB.out).trans ((HM3.out.from_heap (w0 := W) rfl rfl rfl rfl).trans p2)).drewN _⟩
end Go.Proofs.Ytiogfgkfipekbaa
