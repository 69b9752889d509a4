/-
  What package ring does when an element of type int is put: it stands behind all others, or there is no room. No block turns but the ring's own. No condition but that the ring is one that New made.
-/
import Derived.Test.YtiogfgkfipekbaaRingI4
namespace Go.Proofs.Ytiogfgkfipekbaa
set_option linter.unusedVariables false
set_option linter.unusedSimpArgs false
open Go.ChangeShapes Go.WideShapes Go.ChangeAt Go.RowKit
attribute [local go_sem] alloc_drewN setCell_drewN

theorem RingAtI.ne {w : World} {base B : Nat} {room : Int} {v : Value} {ps : List Int} {f k : Nat} (h : RingAtI w base B room v ps f k) : v.ownBlock ≠ some B := own_ne_blk h.own h.blk (by decide)
theorem RingAtI.put {w : World} {base B : Nat} {room : Int} {g c : Nat} {ps : List Int} {f k : Nat} (h : RingAtI w base B room (.slice (some ⟨g, 0, none⟩) ps.length c) ps f k) (hk : k < ps.length) (x : Int) :
    RingAtI ((w.setCell ⟨g, (f + k) % ps.length, none⟩ (Value.int .i64 x)).setCell ⟨B, 3, none⟩ (.int .i64 ((k + 1 : Nat) : Int))) base B room (.slice (some ⟨g, 0, none⟩) ps.length c) (ps.set ((f + k) % ps.length) x) f (k + 1) ∧
    Mv w ((w.setCell ⟨g, (f + k) % ps.length, none⟩ (Value.int .i64 x)).setCell ⟨B, 3, none⟩ (.int .i64 ((k + 1 : Nat) : Int))) B (.slice (some ⟨g, 0, none⟩) ps.length c) (.slice (some ⟨g, 0, none⟩) ps.length c) := by
  have hne : g ≠ B := fun e => h.ne (by rw [e]; rfl)
  have hst := h.own.stored ((f + k) % ps.length) (Value.int .i64 x)
  obtain ⟨h1, h2⟩ := hst
  refine ⟨⟨?_, h.low, ?_, h.r0, h.r1, ?_, ?_, ?_⟩, ?_⟩
  · have e := heap_set ((h2.block B (Array.getElem?_eq_some_iff.1 h.blk).1 (fun e => hne (by injection e with e; exact e.symm))).trans h.blk) 3 (.int .i64 ((k + 1 : Nat) : Int))
    simpa using e
  · rw [List.length_set]
    have e := ownsRow_setCell_other (a := ⟨B, 3, none⟩) h1 (fun e => hne (by injection e)) (.int .i64 ((k + 1 : Nat) : Int))
    rw [List.map_set]
    exact e
  · rw [List.length_set]; omega
  · rw [List.length_set]; exact h.lr
  · rw [List.length_set]; exact h.fl
  · refine ⟨rfl, rfl, rfl, by simp [World.setCell], fun i hi h1 h2' => ?_, fun j hj => Or.inr hj⟩
    exact (Below.heap_setCell _ ⟨B, 3, none⟩ _ i h1).trans (Below.heap_setCell _ ⟨g, _, none⟩ _ i (fun e => h2' (by rw [e]; rfl)))

theorem put_fullI {w : World} {base B : Nat} {room : Int} {v : Value} {ps : List Int} {f k : Nat} (h : RingAtI w base B room v ps f k) (hr : (k : Int) = room) (x : Int) :
    Calls Try.prog 88 #[.pointer (some ⟨B, 0, none⟩), Value.int .i64 x] w fun e w' => e = .returned (.bool false) ∧ ∃ n, w' = w.drewN n := by
  have RM := Lib.hid (roomI h)
  rw [show room - (k : Int) = 0 by omega] at RM
  clear h hr
  go_enter Try.func88, Try.ntmps88
  go_wp2_with fail
  refine RM.out.mono ?_
  rintro e w' ⟨rfl, n, rfl⟩
  go_wp2
  go_ret
  exact ⟨rfl, _, rfl⟩
theorem put_nilI (x : Int) (w : World) :
    Calls Try.prog 88 #[.pointer none, Value.int .i64 x] w fun e w' => e = .returned (.bool false) ∧ w = w' := by
  have RM := Lib.hid (room_nilI w)
  go_enter Try.func88, Try.ntmps88
  go_wp2_with fail
  refine RM.out.mono ?_
  rintro e w' ⟨rfl, rfl⟩
  go_wp2
  go_ret
  exact ⟨rfl, rfl⟩
set_option maxRecDepth 100000 in
set_option maxHeartbeats 1000000 in
theorem put_anyI {w : World} {base B : Nat} {room : Int} {v : Value} {ps : List Int} {f k : Nat} (h : RingAtI w base B room v ps f k) (hr : (k : Int) < room) (x : Int) (hbase : base ≤ w.heap.size) :
    Calls Try.prog 88 #[.pointer (some ⟨B, 0, none⟩), Value.int .i64 x] w fun e w' => e = .returned (.bool true) ∧ ∃ v' ps' f', RingAtI w' base B room v' ps' f' (k + 1) ∧ cont 0 ps' f' (k + 1) = cont 0 ps f k ++ [x] ∧ Mv w w' B v v' := by
  have RM := Lib.hid (roomI h)
  have hz : ¬ room - (k : Int) = 0 := by omega
  have hz' : (room - (k : Int) == 0) = false := by simp; omega
  have hv : ∃ ao co, v = .slice ao ps.length co := by
    rcases h.own.2 with ⟨rfl, h0⟩ | ⟨g, cap, cur, rfl, _⟩
    · exact ⟨none, 0, by rw [h0]⟩
    · exact ⟨_, _, rfl⟩
  by_cases hk : k < ps.length
  · have hkk : ((k : Int) == (ps.length : Int)) = false := by simp; omega
    clear hv
    obtain ⟨g, c, rfl, hg, hc⟩ := h.form (show 0 < ps.length by omega)
    obtain ⟨a0, b1, b2, b3⟩ := h.cell
    have H := Lib.hid h; clear h
    go_enter Try.func88, Try.ntmps88
    go_wp2_with fail
    refine RM.out.mono ?_
    rintro e w' ⟨rfl, n, rfl⟩
    go_wp2
    go_quiet (fail)
    have H2 := H
    have hk2 := hk
    have hR1 := H2.out.r1; have hlr := H2.out.lr
    have hn : 0 < ps.length := by omega
    obtain ⟨c0, c1, c2, c3⟩ := H2.out.cell
    have PL := Lib.hid (fun (w2 : World) (e : w2.heap = w.heap) => placeI (H2.out.heap e) hn (k : Int) (by omega) (by omega))
    rw [Int.toNat_natCast] at PL
    have hne : g ≠ B := fun e => H2.out.ne (by rw [e]; rfl)
    have hq : (f + k) % ps.length < ps.length := Nat.mod_lt _ hn
    have cq := hc _ hq
    have fq := H2.out.own.frozenAt ((f + k) % ps.length)
    have f3 := frozen_of_row w B 3 _ _ H2.out.blk
    have q0 : (0 : Int) ≤ (((f + k) % ps.length : Nat) : Int) := by omega
    have q1 : (((f + k) % ps.length : Nat) : Int) < (ps.length : Int) := by omega
    have PT := Lib.hid (H2.out.put hk2 x)
    have CT := Lib.hid (cont_put 0 ps f k x hk2)
    have ek : ((k : Int) + 1) = ((k + 1 : Nat) : Int) := by omega
    have EK := Lib.hid ek
    clear hc hq ek
    generalize (f + k) % ps.length = q at *
    have KS := Lib.hid (fun (W : World) (u : Value) (d1 : W.cell? ⟨B, 1, none⟩ = some (.slice (some ⟨g, 0, none⟩) ps.length c)) (d3 : W.cell? ⟨B, 3, none⟩ = some (.int .i64 k)) =>
      (⟨(World.cell?_setCell_other W ⟨g, q, none⟩ ⟨B, 1, none⟩ u (fun e => hne (by injection e))).trans d1, (World.cell?_setCell_other W ⟨g, q, none⟩ ⟨B, 3, none⟩ u (fun e => hne (by injection e))).trans d3⟩ :
        (W.setCell ⟨g, q, none⟩ u).cell? ⟨B, 1, none⟩ = some (.slice (some ⟨g, 0, none⟩) ps.length c) ∧ (W.setCell ⟨g, q, none⟩ u).cell? ⟨B, 3, none⟩ = some (.int .i64 k)))
    have hne' : ¬ g = B := hne
    have hne2 : ¬ B = g := fun e => hne e.symm
    go_wp2
    go_region_held3 (fun v => v.cell? ⟨B, 1, none⟩ = some (.slice (some ⟨g, 0, none⟩) ps.length c) ∧ v.cell? ⟨B, 3, none⟩ = some (.int .i64 k))
      ((first | exact ⟨c1, c3⟩ | exact KS.out _ _ c1 c3 | fail))
      (first | (go_at_call 112; refine (PL.out _ (by rfl)).mono ?_; rintro e w2 ⟨rfl, nd, rfl⟩) | fail)
    go_wp2
    go_ret
    rw [EK.out]
    obtain ⟨p1, p2⟩ := PT.out
    exact ⟨rfl, _, _, f, p1.drewN _, CT.out, p2.drewN _⟩
  · have hk1 : k = ps.length := by have := h.le; omega
    have hkk : ((k : Int) == (ps.length : Int)) = true := by simp; omega
    obtain ⟨ao, co, hv⟩ := hv
    subst hv
    obtain ⟨a0, b1, b2, b3⟩ := h.cell
    have GR := Lib.hid (fun n => grow_anyI (h.drewN n) hk1 hr hbase)
    have H := Lib.hid h; clear h hk hk1
    go_enter Try.func88, Try.ntmps88
    go_wp2_with fail
    refine RM.out.mono ?_
    rintro e w' ⟨rfl, n, rfl⟩
    go_wp2
    go_quiet (fail)
    go_wp2_with fail
    refine (GR.out _).mono ?_
    rintro e w3 ⟨rfl, v3, ps3, h3, hk2, hc3, hm3⟩
    have H2 := Lib.hid h3
    have HC3 := Lib.hid hc3
    have HM3 := Lib.hid hm3
    clear h3 hc3 hm3 a0 b1 b2 b3 hkk
    clear H GR RM
    have hR1 := H2.out.r1; have hlr := H2.out.lr
    have hn : 0 < ps3.length := by omega
    obtain ⟨c0, c1, c2, c3⟩ := H2.out.cell
    have PL := Lib.hid (fun (w2 : World) (e : w2.heap = w3.heap) => placeI (H2.out.heap e) hn (k : Int) (by omega) (by omega))
    rw [Int.toNat_natCast] at PL
    obtain ⟨g, c, rfl, hg, hc⟩ := H2.out.form hn
    have hne : g ≠ B := fun e => H2.out.ne (by rw [e]; rfl)
    have hq : (0 + k) % ps3.length < ps3.length := Nat.mod_lt _ hn
    have cq := hc _ hq
    have fq := H2.out.own.frozenAt ((0 + k) % ps3.length)
    have f3 := frozen_of_row w3 B 3 _ _ H2.out.blk
    have q0 : (0 : Int) ≤ (((0 + k) % ps3.length : Nat) : Int) := by omega
    have q1 : (((0 + k) % ps3.length : Nat) : Int) < (ps3.length : Int) := by omega
    have PT := Lib.hid (H2.out.put hk2 x)
    have CT := Lib.hid (cont_put 0 ps3 0 k x hk2)
    have ek : ((k : Int) + 1) = ((k + 1 : Nat) : Int) := by omega
    have EK := Lib.hid ek
    clear hc hq ek
    generalize (0 + k) % ps3.length = q at *
    have KS := Lib.hid (fun (W : World) (u : Value) (d1 : W.cell? ⟨B, 1, none⟩ = some (.slice (some ⟨g, 0, none⟩) ps3.length c)) (d3 : W.cell? ⟨B, 3, none⟩ = some (.int .i64 k)) =>
      (⟨(World.cell?_setCell_other W ⟨g, q, none⟩ ⟨B, 1, none⟩ u (fun e => hne (by injection e))).trans d1, (World.cell?_setCell_other W ⟨g, q, none⟩ ⟨B, 3, none⟩ u (fun e => hne (by injection e))).trans d3⟩ :
        (W.setCell ⟨g, q, none⟩ u).cell? ⟨B, 1, none⟩ = some (.slice (some ⟨g, 0, none⟩) ps3.length c) ∧ (W.setCell ⟨g, q, none⟩ u).cell? ⟨B, 3, none⟩ = some (.int .i64 k)))
    have hne' : ¬ g = B := hne
    have hne2 : ¬ B = g := fun e => hne e.symm
    go_wp2
    go_region_held3 (fun v => v.cell? ⟨B, 1, none⟩ = some (.slice (some ⟨g, 0, none⟩) ps3.length c) ∧ v.cell? ⟨B, 3, none⟩ = some (.int .i64 k))
      ((first | exact ⟨c1, c3⟩ | exact KS.out _ _ c1 c3 | fail))
      (first | (go_at_call 112; refine (PL.out _ (by rfl)).mono ?_; rintro e w2 ⟨rfl, nd, rfl⟩) | fail)
    go_wp2
    go_ret
    rw [EK.out]
    obtain ⟨p1, p2⟩ := PT.out
    exact ⟨rfl, _, _, 0, p1.drewN _, by rw [CT.out, HC3.out], ((HM3.out.from_heap (w0 := w) rfl rfl rfl rfl).trans p2).drewN _⟩
end Go.Proofs.Ytiogfgkfipekbaa
