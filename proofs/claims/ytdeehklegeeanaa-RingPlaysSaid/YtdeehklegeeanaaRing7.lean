/-
  Package ring: what a ring that nobody made answers; what clearing leaves. No block turns but the ring's own. No condition.
-/
import Derived.Test.YtdeehklegeeanaaLives6
namespace Go.Proofs.Ytdeehklegeeanaa
set_option linter.unusedVariables false
set_option linter.unusedSimpArgs false
open Go.ChangeShapes Go.WideShapes Go.ChangeAt Go.RowKit
attribute [local go_sem] alloc_drewN setCell_drewN

theorem at_nil (i : Int) (w : World) :
    Calls Try.prog 17 #[.pointer none, .int .i64 i] w fun e w' => e = .returned (.tuple #[.int .i64 0, .bool false]) ∧ w = w' := by
  have LN := Lib.hid (len_nilI w)
  rcases Int.lt_or_le i 0 with hi | hi
  · go_enter Try.func17, Try.ntmps17
    go_wp2
    go_ret2
    exact ⟨rfl, rfl⟩
  · have hn : ¬ i < 0 := by omega
    go_enter Try.func17, Try.ntmps17
    go_wp2_with fail
    refine LN.out.mono ?_
    rintro e w' ⟨rfl, rfl⟩
    go_wp2
    go_ret2
    exact ⟨rfl, rfl⟩
theorem head_nil (w : World) :
    Calls Try.prog 16 #[.pointer none] w fun e w' => e = .returned (.tuple #[.int .i64 0, .bool false]) ∧ w = w' := by
  go_enter Try.func16, Try.ntmps16
  go_wp2_with fail
  refine (at_nil 0 _).mono ?_
  rintro e w' ⟨rfl, rfl⟩
  go_wp2
  go_ret2
  exact ⟨rfl, rfl⟩
theorem take_nil (w : World) :
    Calls Try.prog 11 #[.pointer none] w fun e w' => e = .returned (.tuple #[.int .i64 0, .bool false]) ∧ w = w' := by
  go_enter Try.func11, Try.ntmps11
  go_wp2_with fail
  refine (head_nil _).mono ?_
  rintro e w' ⟨rfl, rfl⟩
  go_wp2
  go_ret2
  exact ⟨rfl, rfl⟩
theorem clear_nil (w : World) :
    Calls Try.prog 13 #[.pointer none] w fun e w' => e = .returned (.int .i64 0) ∧ w = w' := by
  go_enter Try.func13, Try.ntmps13
  go_wp2_with fail
  refine (len_nilI _).mono ?_
  rintro e w' ⟨rfl, rfl⟩
  go_wp2
  go_ret
  exact ⟨rfl, rfl⟩
set_option maxRecDepth 100000 in
theorem last_nil (n : Int) (w : World) :
    Calls Try.prog 22 #[.pointer none, .int .i64 n] w fun e w' => ∃ a, e = .returned (.slice a 0 0) ∧ Below w.heap.size w w' := by
  obtain ⟨i0, hi, hz0, hz1, hz2⟩ := info_parts infoI
  have hc : n < 0 ∨ (n = 0) ∨ (¬ n < 0 ∧ 0 < n ∧ 0 ≤ n) := by omega
  rcases hc with h1 | rfl | ⟨h1, h2, h3⟩
  all_goals
    go_enter Try.func22, Try.ntmps22
    go_wp2_with fail
    refine (len_nilI _).mono ?_
    rintro e w' ⟨rfl, rfl⟩
    go_upto_region 2 with (fail)
    go_wp2_with (at_make; refine wpList_make_full _ rfl _ _ 28 rfl w.heap.size 3 i0 (.int .i64 0) 1 Try.underlying28 hi hz0 hz1 _ _ 0 0 0 rfl rfl rfl rfl (by simp) (by simp) (Nat.le_refl _) ?_; intro w1 ho1 hg1)
    refine wp_loop_rounds 1 ?_
    rw [rounds_succ]
    go_wp2
    go_ret
    exact ⟨_, rfl, (Below.refl _ _).grown hg1 (Nat.le_refl _) (by simp)⟩
theorem all_nil (w : World) :
    Calls Try.prog 21 #[.pointer none] w fun e w' => ∃ a, e = .returned (.slice a 0 0) ∧ Below w.heap.size w w' := by
  go_enter Try.func21, Try.ntmps21
  go_wp2_with fail
  refine (len_nilI _).mono ?_
  rintro e w' ⟨rfl, rfl⟩
  go_wp2_with fail
  refine (last_nil _ _).mono ?_
  rintro e w1 ⟨a, rfl, hb⟩
  go_wp2
  go_ret
  exact ⟨_, rfl, hb⟩

set_option maxRecDepth 100000 in
set_option maxHeartbeats 1000000 in
theorem walk_ringNobody (n : Int) (n0 : -9223372036854775808 ≤ n) (n1 : n ≤ 9223372036854775807) (w : World) :
    Calls Try.prog 5 #[.int .i64 n] w fun e w' => e = .returned (.bool true) ∧ Below w.heap.size w w' := by
  go_enter Try.func5, Try.ntmps5
  go_wp2_with fail
  refine (take_nil _).mono ?_
  rintro e w' ⟨rfl, rfl⟩
  go_wp2_with fail
  refine (head_nil _).mono ?_
  rintro e w' ⟨rfl, rfl⟩
  go_wp2_with fail
  refine (at_nil _ _).mono ?_
  rintro e w' ⟨rfl, rfl⟩
  go_wp2_with fail
  refine (put_nilI _ _).mono ?_
  rintro e w' ⟨rfl, rfl⟩
  go_wp2_with fail
  refine (len_nilI _).mono ?_
  rintro e w' ⟨rfl, rfl⟩
  go_wp2_with fail
  refine (room_nilI _).mono ?_
  rintro e w' ⟨rfl, rfl⟩
  go_wp2_with fail
  refine (all_nil _).mono ?_
  rintro e w1 ⟨a1, rfl, hb1⟩
  go_wp2_with fail
  refine (last_nil _ _).mono ?_
  rintro e w2 ⟨a2, rfl, hb2⟩
  go_wp2_with fail
  refine (clear_nil _).mono ?_
  rintro e w' ⟨rfl, rfl⟩
  go_wp2_with fail
  refine (lives6 _).mono ?_
  rintro e w3 ⟨rfl, hb3⟩
  go_wp2
  go_ret
  exact ⟨rfl, (hb1.trans (hb2.mono hb1.size)).trans (hb3.mono (Nat.le_trans hb1.size hb2.size))⟩

theorem wipes : ∀ (n o : Nat) {w : World} {base B : Nat} {room : Int} {g c : Nat} {ps : List Int} {f k : Nat} (h : RingAtI w base B room (.slice (some ⟨g, 0, none⟩) ps.length c) ps f k),
    ∃ ps' : List Int, ps'.length = ps.length ∧ RingAtI (w.setCells g o (List.replicate n (.int .i64 0))) base B room (.slice (some ⟨g, 0, none⟩) ps'.length c) ps' f k ∧ Mv w (w.setCells g o (List.replicate n (.int .i64 0))) B (.slice (some ⟨g, 0, none⟩) ps.length c) (.slice (some ⟨g, 0, none⟩) ps.length c)
  | 0, o, w, base, B, room, g, c, ps, f, k, h => ⟨ps, rfl, h, Mv.refl _ _ _⟩
  | n + 1, o, w, base, B, room, g, c, ps, f, k, h => by
    obtain ⟨h1, m1⟩ := h.wipe o 0
    have h1' : RingAtI (w.setCell ⟨g, o, none⟩ (.int .i64 0)) base B room (.slice (some ⟨g, 0, none⟩) (ps.set o 0).length c) (ps.set o 0) f k := by rw [List.length_set]; exact h1
    obtain ⟨ps', hl, h2, m2⟩ := wipes n (o + 1) h1'
    rw [List.length_set] at hl m2
    exact ⟨ps', hl, h2, m1.trans m2⟩
theorem RingAtI.cleared {w : World} {base B : Nat} {room : Int} {v : Value} {ps : List Int} {f k : Nat} (h : RingAtI w base B room v ps f k) :
    RingAtI ((w.setCell ⟨B, 2, none⟩ (.int .i64 0)).setCell ⟨B, 3, none⟩ (.int .i64 0)) base B room v ps 0 0 ∧ Mv w ((w.setCell ⟨B, 2, none⟩ (.int .i64 0)).setCell ⟨B, 3, none⟩ (.int .i64 0)) B v v := by
  have hne := h.ne
  refine ⟨⟨?_, h.low, ?_, h.r0, h.r1, Nat.zero_le _, h.lr, fun hf => hf⟩, ?_⟩
  · have e := heap_set (heap_set h.blk 2 (.int .i64 0)) 3 (.int .i64 0)
    simpa using e
  · exact ownsRow_setCell_other (a := ⟨B, 3, none⟩) (ownsRow_setCell_other (a := ⟨B, 2, none⟩) h.own hne _) hne _
  · exact ⟨rfl, rfl, rfl, by simp [World.setCell], fun j hj h1 h2' => (Below.heap_setCell _ ⟨B, 3, none⟩ _ j h1).trans (Below.heap_setCell _ ⟨B, 2, none⟩ _ j h1), fun j hj => Or.inr hj⟩
theorem clear_none {w : World} {base B : Nat} {room : Int} {v : Value} {ps : List Int} {f : Nat} (h : RingAtI w base B room v ps f 0) :
    Calls Try.prog 13 #[.pointer (some ⟨B, 0, none⟩)] w fun e w' => e = .returned (.int .i64 0) ∧ w = w' := by
  have LN := Lib.hid (lenI h)
  clear h
  go_enter Try.func13, Try.ntmps13
  go_wp2_with fail
  refine LN.out.mono ?_
  rintro e w' ⟨rfl, rfl⟩
  go_wp2
  go_ret
  exact ⟨rfl, rfl⟩
theorem clear_some {w : World} {base B : Nat} {room : Int} {v : Value} {ps : List Int} {f k : Nat} (h : RingAtI w base B room v ps f k) (hk : 0 < k) :
    Calls Try.prog 13 #[.pointer (some ⟨B, 0, none⟩)] w fun e w' => e = .returned (.int .i64 k) ∧ ∃ ps', RingAtI w' base B room v ps' 0 0 ∧ Mv w w' B v v := by
  have LN := Lib.hid (lenI h)
  have hle := h.le
  have hn : 0 < ps.length := by omega
  obtain ⟨g, c, rfl, hg, hc⟩ := h.form hn
  obtain ⟨c0, c1, c2, c3⟩ := h.cell
  have hcl := fun ty => Lib.run_clear_slice (P := Try.prog) w 28 3 ty (.int .i64 0) Try.underlying28 zero_runI rfl rfl g 0 ps.length c hn (fun j hj => by
    rw [Nat.zero_add, hc j hj]; rfl) (fun j hj => by rw [Nat.zero_add]; exact h.own.frozenAt j)
  obtain ⟨ps', hl, h2, m2⟩ := wipes ps.length 0 h
  have HL := Lib.hid hl
  generalize w.setCells g 0 (List.replicate ps.length (.int .i64 0)) = w2 at *
  have hk0 : (0 : Int) < k := by omega
  have f2 := frozen_of_row w2 B 2 _ _ h2.blk
  have f3 := frozen_of_row w2 B 3 _ _ h2.blk
  obtain ⟨d0, d1, d2, d3⟩ := h2.cell
  have H2 := Lib.hid h2; have M2 := Lib.hid m2
  clear h h2 m2 hc hl
  go_enter Try.func13, Try.ntmps13
  go_wp2_with fail
  refine LN.out.mono ?_
  rintro e w' ⟨rfl, rfl⟩
  go_wp2
  go_ret
  obtain ⟨t1, t2⟩ := H2.out.cleared
  rw [HL.out] at t1 t2
  exact ⟨rfl, ps', t1, M2.out.trans t2⟩
end Go.Proofs.Ytdeehklegeeanaa
