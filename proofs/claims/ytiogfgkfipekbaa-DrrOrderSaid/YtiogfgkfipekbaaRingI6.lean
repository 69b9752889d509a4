/-
  What package ring does when an element of type int is taken: the first one goes, its place holds nothing. No block turns but the ring's own. No condition but that the ring is one that New made.
-/
import Derived.Test.YtiogfgkfipekbaaRingI5
import Derived.Lib.SliceRun
import Derived.WalkLawsBesides
namespace Go.Proofs.Ytiogfgkfipekbaa
set_option linter.unusedVariables false
set_option linter.unusedSimpArgs false
open Go.ChangeShapes Go.WideShapes Go.ChangeAt Go.RowKit
attribute [local go_sem] alloc_drewN setCell_drewN

theorem RingAtI.wipe {w : World} {base B : Nat} {room : Int} {g c : Nat} {ps : List Int} {f k : Nat} (h : RingAtI w base B room (.slice (some ⟨g, 0, none⟩) ps.length c) ps f k) (i : Nat) (x : Int) :
    RingAtI (w.setCell ⟨g, i, none⟩ (Value.int .i64 x)) base B room (.slice (some ⟨g, 0, none⟩) ps.length c) (ps.set i x) f k ∧ Mv w (w.setCell ⟨g, i, none⟩ (Value.int .i64 x)) B (.slice (some ⟨g, 0, none⟩) ps.length c) (.slice (some ⟨g, 0, none⟩) ps.length c) := by
  have hne : g ≠ B := fun e => h.ne (by rw [e]; rfl)
  obtain ⟨h1, h2⟩ := h.own.stored i (Value.int .i64 x)
  refine ⟨⟨(h2.block B (Array.getElem?_eq_some_iff.1 h.blk).1 (fun e => hne (by injection e with e; exact e.symm))).trans h.blk, h.low, ?_, h.r0, h.r1, ?_, ?_, ?_⟩, ?_⟩
  · rw [List.length_set, List.map_set]; exact h1
  · rw [List.length_set]; exact h.le
  · rw [List.length_set]; exact h.lr
  · rw [List.length_set]; exact h.fl
  · exact ⟨rfl, rfl, rfl, by simp [World.setCell], fun j hj h1 h2' => Below.heap_setCell _ ⟨g, _, none⟩ _ j (fun e => h2' (by rw [e]; rfl)), fun j hj => Or.inr hj⟩
theorem RingAtI.took {w : World} {base B : Nat} {room : Int} {v : Value} {ps : List Int} {f k : Nat} (h : RingAtI w base B room v ps f (k + 1)) (f' : Nat) (hf : f' < ps.length) :
    RingAtI ((w.setCell ⟨B, 2, none⟩ (.int .i64 f')).setCell ⟨B, 3, none⟩ (.int .i64 k)) base B room v ps f' k ∧ Mv w ((w.setCell ⟨B, 2, none⟩ (.int .i64 f')).setCell ⟨B, 3, none⟩ (.int .i64 k)) B v v := by
  have hne := h.ne
  refine ⟨⟨?_, h.low, ?_, h.r0, h.r1, by have := h.le; omega, h.lr, fun _ => hf⟩, ?_⟩
  · have e := heap_set (heap_set h.blk 2 (.int .i64 f')) 3 (.int .i64 k)
    simpa using e
  · exact ownsRow_setCell_other (a := ⟨B, 3, none⟩) (ownsRow_setCell_other (a := ⟨B, 2, none⟩) h.own hne _) hne _
  · exact ⟨rfl, rfl, rfl, by simp [World.setCell], fun j hj h1 h2' => (Below.heap_setCell _ ⟨B, 3, none⟩ _ j h1).trans (Below.heap_setCell _ ⟨B, 2, none⟩ _ j h1), fun j hj => Or.inr hj⟩
theorem zero_runI (w : World) : (zeroValue 3).run Try.prog w = .ok (Value.int .i64 0) w := by kernel_rfl

set_option maxRecDepth 100000 in
set_option maxHeartbeats 1000000 in
theorem take_inI {w : World} {base B : Nat} {room : Int} {v : Value} {ps : List Int} {f k : Nat} (h : RingAtI w base B room v ps f (k + 1)) :
    Calls Try.prog 107 #[.pointer (some ⟨B, 0, none⟩)] w fun e w' => e = .returned (.tuple #[Value.int .i64 ((cont 0 ps f (k + 1)).getD 0 0), .bool true]) ∧ ∃ ps' f', RingAtI w' base B room v ps' f' k ∧ cont 0 ps' f' k = (cont 0 ps f (k + 1)).drop 1 ∧ Mv w w' B v v := by
  have hle := h.le
  have hn : 0 < ps.length := by omega
  have HD := Lib.hid (head_inI h (by omega))
  obtain ⟨g, c, rfl, hg, hc⟩ := h.form hn
  have hf := h.fl hn
  have hcap : ps.length ≤ c := by
    rcases h.own.2 with ⟨hh, _⟩ | ⟨_, _, _, hh, _, _, h1, _⟩
    · cases hh
    · injection hh with _ _ h3; omega
  have hmax : c ≤ 9223372036854775807 := by
    rcases h.own.2 with ⟨hh, _⟩ | ⟨_, _, _, hh, _, _, h1, h2, _⟩
    · cases hh
    · injection hh with _ _ h3; unfold maxLen at h2; omega
  have CT := Lib.hid (cont_take 0 ps f k 0 hle hf)
  have hlr := h.lr; have hr1 := h.r1
  have a1 : IntKind.i64.wrap ((f : Int) + 1) = (f : Int) + 1 := by rw [IntKind.wrap_i64]; omega
  have HR := Lib.hid h
  clear h hc
  generalize (cont 0 ps f (k + 1)).getD 0 0 = x at *
  go_enter Try.func107, Try.ntmps107
  go_wp2_with fail
  refine HD.out.mono ?_
  rintro e W ⟨rfl, hW⟩
  have hR : RingAtI W base B room (.slice (some ⟨g, 0, none⟩) ps.length c) ps f (k + 1) := by obtain ⟨n, rfl⟩ := hW; exact HR.out.drewN n
  have HW := Lib.hid hW
  clear hW
  obtain ⟨c0, c1, c2, c3⟩ := hR.cell
  have ff := hR.own.frozenAt f
  have cf : W.cell? ⟨g, f, none⟩ = some (Value.int .i64 (ps.getD f 0)) := by
    rw [hR.own.cellAt f (by omega), List.getElem?_map, List.getElem?_eq_getElem hf, List.getD_eq_getElem?_getD, List.getElem?_eq_getElem hf]; rfl
  have hcl := fun ty => Lib.run_clear_slice (P := Try.prog) W.drew 78 3 ty (Value.int .i64 0) Try.underlying78 zero_runI rfl rfl g f 1 (c - f) (by omega) (fun j hj => by
    have : j = 0 := by omega
    subst this
    rw [Nat.add_zero]
    show (W.cell? _).isSome = true
    rw [cf]; rfl) (fun j hj => by
    have : j = 0 := by omega
    subst this
    rw [Nat.add_zero]
    exact ff)
  have hset : ∀ u : Value, W.drew.setCells g f (List.replicate 1 u) = (W.setCell ⟨g, f, none⟩ u).drew := fun u => rfl
  simp only [hset] at hcl
  have WP := Lib.hid (show RingAtI (W.setCell ⟨g, f, none⟩ (Value.int .i64 0)) base B room (.slice (some ⟨g, 0, none⟩) ps.length c) (ps.set f 0) f (k + 1) ∧ Mv W (W.setCell ⟨g, f, none⟩ (Value.int .i64 0)) B (.slice (some ⟨g, 0, none⟩) ps.length c) (.slice (some ⟨g, 0, none⟩) ps.length c) from hR.wipe f 0)
  have HRR := Lib.hid hR
  clear hset hR cf ff
  go_wp2
  go_region
  clear hcl c0 c1 c2 c3
  generalize W.setCell ⟨g, f, none⟩ (Value.int .i64 0) = W2 at *
  have hR2 := WP.out.1
  have PL := Lib.hid (fun (w2 : World) (e : w2.heap = W2.heap) => placeI (hR2.heap e) (by rw [List.length_set]; exact hn) 1 (by omega) (by omega))
  rw [List.length_set, show (1 : Int).toNat = 1 from rfl] at PL
  have hq : (f + 1) % ps.length < ps.length := Nat.mod_lt _ hn
  have TK := Lib.hid (hR2.took ((f + 1) % ps.length) (by rw [List.length_set]; exact hq))
  obtain ⟨c0, c1, c2, c3⟩ := hR2.cell
  have f2 := frozen_of_row W2 B 2 _ _ hR2.blk
  have f3 := frozen_of_row W2 B 3 _ _ hR2.blk
  have hk1 : ((k + 1 : Nat) : Int) = (k : Int) + 1 := by omega
  rw [hk1] at c3
  have a2 : (k : Int) + 1 - 1 = k := by omega
  clear hR2 hk1
  generalize (f + 1) % ps.length = q at *
  go_wp2_with fail
  refine (PL.out _ (by rfl)).mono ?_
  rintro e w2 ⟨rfl, nd, rfl⟩
  go_wp2
  go_ret2
  obtain ⟨t1, t2⟩ := TK.out
  refine ⟨rfl, _, q, t1.drewN _, CT.out, ?_⟩
  obtain ⟨n, rfl⟩ := HW.out
  exact ((WP.out.2.from_heap (w0 := w) rfl rfl rfl rfl).trans t2).drewN _
theorem take_outI {w : World} {base B : Nat} {room : Int} {v : Value} {ps : List Int} {f : Nat} (h : RingAtI w base B room v ps f 0) :
    Calls Try.prog 107 #[.pointer (some ⟨B, 0, none⟩)] w fun e w' => e = .returned (.tuple #[Value.int .i64 0, .bool false]) ∧ w = w' := by
  have HD := Lib.hid (head_outI h)
  clear h
  go_enter Try.func107, Try.ntmps107
  go_wp2_with fail
  refine HD.out.mono ?_
  rintro e w' ⟨rfl, rfl⟩
  go_wp2
  go_ret2
  exact ⟨rfl, rfl⟩
theorem new_okI (room : Int) (r0 : 1 ≤ room) (r1 : room ≤ 65536) (w : World) :
    Calls Try.prog 77 #[.int .i64 room] w fun e w' => e = .returned (.tuple #[.pointer (some ⟨w.heap.size, 0, none⟩), .int .i64 0]) ∧ RingAtI w' w.heap.size w.heap.size room (.slice none 0 0) [] 0 0 ∧ Below w.heap.size w w' := by
  have h0 : ¬ room < 1 := by omega
  have h1 : ¬ 65536 < room := by omega
  have R0 := Lib.hid r0; have R1 := Lib.hid r1
  go_enter Try.func77, Try.ntmps77
  go_wp2
  go_ret2
  exact ⟨rfl, ⟨heap_alloc_new w _, Nat.le_refl _, World.ownsRow_nil _ _ _ _, R0.out, R1.out, Nat.le_refl _, by have := R0.out; simp; omega, fun h => absurd h (by simp)⟩, (Below.refl _ _).alloc (Nat.le_refl _) _⟩
theorem new_noI (room : Int) (h : room < 1 ∨ 65536 < room) (w : World) :
    Calls Try.prog 77 #[.int .i64 room] w fun e w' => e = .returned (.tuple #[.pointer none, .int .i64 6]) ∧ w = w' := by
  rcases h with h | h
  · go_enter Try.func77, Try.ntmps77
    go_wp2
    go_ret2
    exact ⟨rfl, rfl⟩
  · have h0 : ¬ room < 1 := by omega
    go_enter Try.func77, Try.ntmps77
    go_wp2
    go_ret2
    exact ⟨rfl, rfl⟩
end Go.Proofs.Ytiogfgkfipekbaa
