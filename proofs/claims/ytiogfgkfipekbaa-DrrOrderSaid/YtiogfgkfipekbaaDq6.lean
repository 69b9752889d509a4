/-
  What package ring does when an item over int is taken: the first one goes, its place holds nothing; a ring made. No block turns but the ring's own. No condition but that the ring is one that New made.
-/
import Derived.Test.YtiogfgkfipekbaaDq5
import Derived.Lib.SliceRun
import Derived.WalkLawsBesides
namespace Go.Proofs.Ytiogfgkfipekbaa
set_option linter.unusedVariables false
set_option linter.unusedSimpArgs false
open Go.ChangeShapes Go.WideShapes Go.ChangeAt Go.RowKit
attribute [local go_sem] alloc_drewN setCell_drewN

theorem qzero_runI (w : World) : (zeroValue 155).run Try.prog w = .ok (.agg #[.int .u64 0, Value.int .i64 0]) w := by kernel_rfl
theorem qzero_cellsI : (Builtin.zeroCells (Value.agg #[.int .u64 0, Value.int .i64 0]).cells 1).toList = [.int .u64 0, Value.int .i64 0] := by
  simp [Builtin.zeroCells, Value.cells, List.range, List.range.loop]
theorem Mv.setNewI {w w' : World} {B : Nat} {v v' : Value} (h : Mv w w' B v v') (g i : Nat) (u : Value) (hg : w.heap.size ≤ g) : Mv w (w'.setCell ⟨g, i, none⟩ u) B v v' :=
  ⟨h.os, h.tape, h.output, by simpa [World.setCell] using h.size, fun j hj h1 h2 => (Below.heap_setCell w' ⟨g, i, none⟩ u j (by show j ≠ g; omega)).trans (h.block j hj h1 h2), h.own⟩
theorem RqAtI.other {w : World} {base B : Nat} {room : Int} {v : Value} {ps : List (Int × Int)} {f k : Nat} (h : RqAtI w base B room v ps f k) (g i : Nat) (u : Value) (h1 : g ≠ B) (h2 : v.ownBlock ≠ some g) : RqAtI (w.setCell ⟨g, i, none⟩ u) base B room v ps f k :=
  ⟨(Below.heap_setCell w ⟨g, i, none⟩ u B (fun e => h1 e.symm)).trans h.blk, h.low, ownsRow_setCell_other (a := ⟨g, i, none⟩) h.own h2 u, h.r0, h.r1, h.le, h.lr, h.fl⟩
set_option maxRecDepth 100000 in
set_option maxHeartbeats 2000000 in
theorem qtake_inI {w : World} {base B : Nat} {room : Int} {v : Value} {ps : List (Int × Int)} {f k : Nat} (h : RqAtI w base B room v ps f (k + 1)) :
    Calls Try.prog 80 #[.pointer (some ⟨B, 0, none⟩)] w fun e w' => e = .returned (.tuple #[iaggI ((cont izI ps f (k + 1)).getD 0 izI), .bool true]) ∧ ∃ ps' f', RqAtI w' base B room v ps' f' k ∧ cont izI ps' f' k = (cont izI ps f (k + 1)).drop 1 ∧ Mv w w' B v v := by
  have hle := h.le
  have hn : 0 < ps.length := by omega
  have hf := h.fl hn
  have CT := Lib.hid (cont_take izI ps f k izI hle hf)
  have hlr := h.lr; have hr1 := h.r1
  have a1 : IntKind.i64.wrap ((f : Int) + 1) = (f : Int) + 1 := by rw [IntKind.wrap_i64]; omega
  obtain ⟨W, hW⟩ : ∃ W, w.alloc (.cells #[.int .u64 0, Value.int .i64 0] 155) = W := ⟨_, rfl⟩
  obtain ⟨R, hR⟩ : ∃ R, w.heap.size = R := ⟨_, rfl⟩
  have hB : Below w.heap.size w W := by rw [← hW]; exact (Below.refl _ w).alloc (Nat.le_refl _) _
  have r0 : W.cell? ⟨R, 0, none⟩ = some (.int .u64 0) := by rw [← hW, ← hR]; simp [go_sem]
  have r1 : W.cell? ⟨R, 1, none⟩ = some (Value.int .i64 0) := by rw [← hW, ← hR]; simp [go_sem]
  have z0 : W.frozen? ⟨R, 0, none⟩ = false := by rw [← hW, ← hR]; simp [go_sem]
  have z1 : W.frozen? ⟨R, 1, none⟩ = false := by rw [← hW, ← hR]; simp [go_sem]
  have hRW : R < W.heap.size := by rw [← hW, ← hR]; simp
  have hBR : B < R := by have := h.base; omega
  have hgl := fun j hj => (h.own.lt j hj).2
  have HB := Lib.hid hB
  have HR := Lib.hid hR
  have h := h.below0 hB
  have HD := Lib.hid (qhead_inI h (by omega))
  obtain ⟨g, c, rfl, hg, hc⟩ := h.form hn
  have hgR : g < R := by have := hgl g rfl; omega
  have hcap : ps.length ≤ c := by
    rcases h.own.2 with ⟨hh, _⟩ | ⟨_, _, _, hh, _, _, h1, _⟩
    · cases hh
    · injection hh with _ _ h3; omega
  have hmax : c ≤ 9223372036854775807 := by
    rcases h.own.2 with ⟨hh, _⟩ | ⟨_, _, _, hh, _, _, h1, h2, _⟩
    · cases hh
    · injection hh with _ _ h3; unfold maxLen at h2; omega
  have H0 := Lib.hid h
  clear h hc hB hgl
  generalize (cont izI ps f (k + 1)).getD 0 izI = x at *
  obtain ⟨x1, x2⟩ := x
  unfold iaggI at *
  dsimp only at HD ⊢
  go_enter Try.func80, Try.ntmps80
  go_wp2_with fail
  refine HD.out.mono ?_
  rintro e w2 ⟨rfl, hb2⟩
  obtain ⟨X, hX⟩ : ∃ X, w2.heap.size = X := ⟨_, rfl⟩
  obtain ⟨V, hV⟩ : ∃ V, w2.alloc (.cells #[.int .u64 x1, Value.int .i64 x2] 155) = V := ⟨_, rfl⟩
  have hRX : R < X := by rw [← hX]; exact Nat.lt_of_lt_of_le hRW hb2.size
  have hbV : Below W.heap.size W V := by rw [← hV]; exact hb2.alloc hb2.size _
  have x0 : V.cell? ⟨X, 0, none⟩ = some (.int .u64 x1) := by rw [← hV, ← hX]; simp [go_sem]
  have x1' : V.cell? ⟨X, 1, none⟩ = some (Value.int .i64 x2) := by rw [← hV, ← hX]; simp [go_sem]
  have r0 := (hbV.cell (p := ⟨R, 0, none⟩) hRW).trans r0
  have r1 := (hbV.cell (p := ⟨R, 1, none⟩) hRW).trans r1
  have z0 := (hbV.frozen (p := ⟨R, 0, none⟩) hRW).trans z0
  have z1 := (hbV.frozen (p := ⟨R, 1, none⟩) hRW).trans z1
  have hR3 := H0.out.below0 hbV
  have HBV := Lib.hid (HB.out.trans (hbV.mono HB.out.size))
  obtain ⟨c0, c1, c2, c3⟩ := hR3.cell
  have ff := hR3.own.frozenAt (f * 2)
  have ff2 := hR3.own.frozenAt (f * 2 + 1)
  have cf := (hR3.own.cellAt (f * 2 + 0) (by omega)).trans (irow_atI ps f 0 hf (by omega))
  have cf2 := (hR3.own.cellAt (f * 2 + 1) (by omega)).trans (irow_atI ps f 1 hf (by omega))
  have hcl := fun ty => run_clear_one (P := Try.prog) V.drew 185 155 ty (.agg #[.int .u64 0, Value.int .i64 0]) [.int .u64 0, Value.int .i64 0] Try.underlying185 qzero_runI qzero_cellsI (fun v hv => by simp at hv; rcases hv with rfl | rfl <;> rfl) g (f * 2) (c - f) (fun j hj => by
    match j, hj with
    | 0, _ => show (V.cell? ⟨g, f * 2 + 0, none⟩).isSome = true; rw [cf]; rfl
    | 1, _ => show (V.cell? ⟨g, f * 2 + 1, none⟩).isSome = true; rw [cf2]; rfl) (fun j hj => by
    match j, hj with
    | 0, _ => exact ff
    | 1, _ => exact ff2)
  have hset : V.drew.setCells g (f * 2) [.int .u64 0, Value.int .i64 0] = ((V.setCell ⟨g, f * 2, none⟩ (.int .u64 0)).setCell ⟨g, f * 2 + 1, none⟩ (Value.int .i64 0)).drew := rfl
  simp only [hset] at hcl
  have WP := Lib.hid (show RqAtI ((V.setCell ⟨g, f * 2, none⟩ (.int .u64 0)).setCell ⟨g, f * 2 + 1, none⟩ (Value.int .i64 0)) base B room (.slice (some ⟨g, 0, none⟩) ps.length c) (ps.set f izI) f (k + 1) ∧ Mv V ((V.setCell ⟨g, f * 2, none⟩ (.int .u64 0)).setCell ⟨g, f * 2 + 1, none⟩ (Value.int .i64 0)) B (.slice (some ⟨g, 0, none⟩) ps.length c) (.slice (some ⟨g, 0, none⟩) ps.length c) from hR3.setIt f hf izI)
  clear hset hR3 cf cf2 ff ff2 hb2 hbV
  go_wp2
  go_region
  clear hcl c0 c1 c2 c3
  have k0 : ∀ (p q : Nat), g ≠ p → ((V.setCell ⟨g, f * 2, none⟩ (.int .u64 0)).setCell ⟨g, f * 2 + 1, none⟩ (Value.int .i64 0)).cell? ⟨p, q, none⟩ = V.cell? ⟨p, q, none⟩ := fun p q hp => (World.cell?_setCell_other _ ⟨g, f * 2 + 1, none⟩ ⟨p, q, none⟩ _ (fun e => hp (by injection e))).trans (World.cell?_setCell_other V ⟨g, f * 2, none⟩ ⟨p, q, none⟩ _ (fun e => hp (by injection e)))
  have k1 : ∀ (p q : Nat), ((V.setCell ⟨g, f * 2, none⟩ (.int .u64 0)).setCell ⟨g, f * 2 + 1, none⟩ (Value.int .i64 0)).frozen? ⟨p, q, none⟩ = V.frozen? ⟨p, q, none⟩ := fun p q => by rw [World.frozen?_setCell, World.frozen?_setCell]
  have x0 := (k0 X 0 (by omega)).trans x0
  have x1' := (k0 X 1 (by omega)).trans x1'
  have r0 := (k0 R 0 (by omega)).trans r0
  have r1 := (k0 R 1 (by omega)).trans r1
  have z0 := (k1 R 0).trans z0
  have z1 := (k1 R 1).trans z1
  clear k0 k1
  generalize (V.setCell ⟨g, f * 2, none⟩ (.int .u64 0)).setCell ⟨g, f * 2 + 1, none⟩ (Value.int .i64 0) = W2 at *
  have hR2 := WP.out.1
  have PL := Lib.hid (fun (w2 : World) (e : w2.heap = W2.heap) => qplaceI (hR2.heap e) (by rw [List.length_set]; exact hn) 1 (by omega) (by omega))
  rw [List.length_set, show (1 : Int).toNat = 1 from rfl] at PL
  have hq : (f + 1) % ps.length < ps.length := Nat.mod_lt _ hn
  obtain ⟨t1, t2⟩ := hR2.setF ((f + 1) % ps.length) (by rw [List.length_set]; exact hq)
  obtain ⟨t3, t4⟩ := t1.setK k (by rw [List.length_set]; omega)
  have hB2 : B ≠ R := by omega
  have TK := Lib.hid (fun u u' => (⟨(t3.other R 0 u (Ne.symm hB2) (fun e => by injection e with e; have e : g = R := e; omega)).other R 1 u' (Ne.symm hB2) (fun e => by injection e with e; have e : g = R := e; omega), ((t2.trans t4))⟩ : RqAtI ((((W2.setCell ⟨B, 2, none⟩ (.int .i64 (((f + 1) % ps.length : Nat) : Int))).setCell ⟨B, 3, none⟩ (.int .i64 k)).setCell ⟨R, 0, none⟩ u).setCell ⟨R, 1, none⟩ u') base B room _ _ _ _ ∧ Mv W2 _ B _ _))
  obtain ⟨c0, c1, c2, c3⟩ := hR2.cell
  have f2 := frozen_of_row W2 B 2 _ _ hR2.blk
  have f3 := frozen_of_row W2 B 3 _ _ hR2.blk
  have hk1 : ((k + 1 : Nat) : Int) = (k : Int) + 1 := by omega
  rw [hk1] at c3
  have a2 : (k : Int) + 1 - 1 = k := by omega
  have n1 : ¬ B = X := by omega
  have n2 : ¬ B = R := hB2
  have n3 : ¬ X = R := by omega
  have n4 : ¬ R = X := by omega
  have n5 : ¬ X = B := by omega
  have n6 : ¬ R = B := by omega
  clear hR2 hk1 t1 t2 t3 t4 hB2
  generalize (f + 1) % ps.length = q at *
  go_wp2_with fail
  refine (PL.out _ (by rfl)).mono ?_
  rintro e w3 ⟨rfl, nd, rfl⟩
  go_wp2
  refine bodyPost_ret (v := .tuple #[.agg #[.int .u64 x1, Value.int .i64 x2], .bool true]) (by simp [results, Try.results80, go_sem, r0, r1, n2, n6]) rfl ⟨rfl, ?_⟩
  obtain ⟨t1, t2⟩ := TK.out (.int .u64 x1) (Value.int .i64 x2)
  refine ⟨_, q, t1.drewN _, CT.out, ?_⟩
  have hm := ((Mv.of_below B (.slice (some ⟨g, 0, none⟩) ps.length c) HBV.out).trans WP.out.2).trans t2
  exact ((hm.setNewI R 0 _ (Nat.le_of_eq HR.out)).setNewI R 1 _ (Nat.le_of_eq HR.out)).drewN _
theorem qtake_outI {w : World} {base B : Nat} {room : Int} {v : Value} {ps : List (Int × Int)} {f : Nat} (h : RqAtI w base B room v ps f 0) :
    Calls Try.prog 80 #[.pointer (some ⟨B, 0, none⟩)] w fun e w' => e = .returned (.tuple #[iaggI izI, .bool false]) ∧ Below w.heap.size w w' := by
  obtain ⟨W, hW⟩ : ∃ W, w.alloc (.cells #[.int .u64 0, Value.int .i64 0] 155) = W := ⟨_, rfl⟩
  obtain ⟨R, hR⟩ : ∃ R, w.heap.size = R := ⟨_, rfl⟩
  have hB : Below w.heap.size w W := by rw [← hW]; exact (Below.refl _ w).alloc (Nat.le_refl _) _
  have r0 : W.cell? ⟨R, 0, none⟩ = some (.int .u64 0) := by rw [← hW, ← hR]; simp [go_sem]
  have r1 : W.cell? ⟨R, 1, none⟩ = some (Value.int .i64 0) := by rw [← hW, ← hR]; simp [go_sem]
  have z0 : W.frozen? ⟨R, 0, none⟩ = false := by rw [← hW, ← hR]; simp [go_sem]
  have z1 : W.frozen? ⟨R, 1, none⟩ = false := by rw [← hW, ← hR]; simp [go_sem]
  have hRW : R < W.heap.size := by rw [← hW, ← hR]; simp
  have HB := Lib.hid hB
  have HR := Lib.hid hR
  have HD := Lib.hid (qhead_outI (h.below0 hB))
  clear h hB
  unfold iaggI izI at *
  dsimp only at HD ⊢
  rw [hR]
  go_enter Try.func80, Try.ntmps80
  go_wp2_with fail
  refine HD.out.mono ?_
  rintro e w2 ⟨rfl, hb2⟩
  obtain ⟨X, hX⟩ : ∃ X, w2.heap.size = X := ⟨_, rfl⟩
  obtain ⟨V, hV⟩ : ∃ V, w2.alloc (.cells #[.int .u64 0, Value.int .i64 0] 155) = V := ⟨_, rfl⟩
  have hRX : R < X := by rw [← hX]; exact Nat.lt_of_lt_of_le hRW hb2.size
  have hbV : Below W.heap.size W V := by rw [← hV]; exact hb2.alloc hb2.size _
  have x0 : V.cell? ⟨X, 0, none⟩ = some (.int .u64 0) := by rw [← hV, ← hX]; simp [go_sem]
  have x1' : V.cell? ⟨X, 1, none⟩ = some (Value.int .i64 0) := by rw [← hV, ← hX]; simp [go_sem]
  have r0 := (hbV.cell (p := ⟨R, 0, none⟩) hRW).trans r0
  have r1 := (hbV.cell (p := ⟨R, 1, none⟩) hRW).trans r1
  have z0 := (hbV.frozen (p := ⟨R, 0, none⟩) hRW).trans z0
  have z1 := (hbV.frozen (p := ⟨R, 1, none⟩) hRW).trans z1
  have y0 : V.frozen? ⟨X, 0, none⟩ = false := by rw [← hV, ← hX]; simp [go_sem]
  have y1 : V.frozen? ⟨X, 1, none⟩ = false := by rw [← hV, ← hX]; simp [go_sem]
  have HBV := Lib.hid (HB.out.trans (hbV.mono HB.out.size))
  have HXR := Lib.hid (show w.heap.size ≤ X by omega)
  have n3 : ¬ X = R := by omega
  have n4 : ¬ R = X := by omega
  clear hb2 hbV
  go_wp2
  refine bodyPost_ret (v := .tuple #[.agg #[.int .u64 0, Value.int .i64 0], .bool false]) (by simp [results, Try.results80, go_sem, r0, r1, n3, n4]) rfl ⟨rfl, ?_⟩
  rw [← hR]
  first
    | exact HBV.out
    | exact below_set (below_set (below_set (below_set HBV.out HXR.out) HXR.out) (Nat.le_refl _)) (Nat.le_refl _)
    | exact below_set (below_set HBV.out (Nat.le_refl _)) (Nat.le_refl _)
theorem qnew_okI (room : Int) (r0 : 1 ≤ room) (r1 : room ≤ 65536) (w : World) :
    Calls Try.prog 78 #[.int .i64 room] w fun e w' => e = .returned (.tuple #[.pointer (some ⟨w.heap.size, 0, none⟩), .int .i64 0]) ∧ RqAtI w' w.heap.size w.heap.size room (.slice none 0 0) [] 0 0 ∧ Below w.heap.size w w' := by
  have h0 : ¬ room < 1 := by omega
  have h1 : ¬ 65536 < room := by omega
  have R0 := Lib.hid r0; have R1 := Lib.hid r1
  go_enter Try.func78, Try.ntmps78
  go_wp2
  go_ret2
  exact ⟨rfl, ⟨heap_alloc_new w _, Nat.le_refl _, World.ownsRow_nil _ _ _ _, R0.out, R1.out, Nat.le_refl _, by have := R0.out; simp; omega, fun h => absurd h (by simp)⟩, (Below.refl _ _).alloc (Nat.le_refl _) _⟩
end Go.Proofs.Ytiogfgkfipekbaa
