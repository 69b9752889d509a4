/-
  Package sppifo for elements of type string: queues with bounds are made. What lay below the heap's end stands. No condition but the numbers that New takes.
-/
import Derived.Test.YtkgiaijcgblpbaaSpT1
import Derived.Maps.AppendAt
namespace Go.Proofs.Ytkgiaijcgblpbaa
set_option linter.unusedVariables false
set_option linter.unusedSimpArgs false
open Go.ChangeShapes Go.WideShapes Go.ChangeAt Go.RowKit
attribute [local go_sem] alloc_drewN setCell_drewN

theorem sinfoBT : (Try.prog.info? 48).map (fun i => (i.zero, i.size, i.bytes)) = some (some (.int .u64 0), 1, 8) := by kernel_rfl
theorem sinfoQT : (Try.prog.info? 183).map (fun i => (i.zero, i.size, i.bytes)) = some (some (.pointer none), 1, 8) := by kernel_rfl
theorem cells_oneST (w : World) (v : Value) (t : TypeId) : ∀ j u, [v][j]? = some u → (w.alloc (.cells #[v] t)).cell? ((⟨w.heap.size, 0, none⟩ : Addr).add j) = some u := by
  intro j u h
  cases j with
  | zero =>
    have : v = u := by simpa using h
    subst this
    simp [go_sem, Addr.add]
  | succ j => simp at h
/-- Such queues while they are made. -/
structure SpRawT (w : World) (base B : Nat) (room : Int) (vb vq : Value) (bs : List Int) (rs : List RgT) : Prop where
  blk : w.heap[B]? = some (.cells #[.int .i64 room, vb, vq] 182 (0, 0))
  low : base ≤ B
  ob : w.ownsRow base 48 1 vb bs.length (bs.map (Value.int .u64))
  oq : w.ownsRow base 183 1 vq rs.length (rs.map rptrT)
  each : ∀ i (h : i < rs.length), RqAtT w base (rs[i]).B room (rs[i]).v (rs[i]).ps (rs[i]).f (rs[i]).k
  ap : ∀ i j (hi : i < rs.length) (hj : j < rs.length), i ≠ j → (rs[i]).B ≠ (rs[j]).B ∧ ((rs[i]).v.ownBlock = none ∨ (rs[i]).v.ownBlock ≠ (rs[j]).v.ownBlock)
  emp : ∀ i (h : i < rs.length), (rs[i]).k = 0 ∧ (rs[i]).v = .slice none 0 0
theorem SpRawT.below {w w' : World} {base B : Nat} {room : Int} {vb vq : Value} {bs : List Int} {rs : List RgT} (h : SpRawT w base B room vb vq bs rs) (hb : Below w.heap.size w w') : SpRawT w' base B room vb vq bs rs :=
  ⟨(hb.block B (Array.getElem?_eq_some_iff.1 h.blk).1).trans h.blk, h.low, own_onST h.ob (fun j hj => hb.block j (World.ownsRow.lt h.ob j hj).2), own_onST h.oq (fun j hj => hb.block j (World.ownsRow.lt h.oq j hj).2),
    fun i hi => (h.each i hi).below0 hb, h.ap, h.emp⟩
theorem SpRawT.pushed {w w' : World} {base B P : Nat} {room : Int} {vb vq v' : Value} {bs : List Int} {rs : List RgT} (h : SpRawT w base B room vb vq bs rs) (h0 : ∀ i (hi : i < rs.length), (rs[i]).B < P)
    (hr : RqAtT w P P room (.slice none 0 0) [] 0 0) (hw0 : base ≤ P) (ho : w'.ownsRow base 183 1 v' (rs.length + 1) (rs.map rptrT ++ [.pointer (some ⟨P, 0, none⟩)])) (hg : w.grownBy w' vq.ownBlock) :
    SpRawT (w'.setCell ⟨B, 2, none⟩ v') base B room vb v' bs (rs ++ [⟨P, .slice none 0 0, [], 0, 0⟩]) := by
  have hBlt : B < w.heap.size := (Array.getElem?_eq_some_iff.1 h.blk).1
  have hne : vq.ownBlock ≠ some B := own_ne_blk h.oq h.blk (by decide)
  have hkeep : ∀ j, j < w.heap.size → vq.ownBlock ≠ some j → w'.heap[j]? = w.heap[j]? := fun j hj hj2 => hg.block j hj (fun e => hj2 e.symm)
  have hset : ∀ j, j ≠ B → (w'.setCell ⟨B, 2, none⟩ v').heap[j]? = w'.heap[j]? := fun j hj => Below.heap_setCell w' ⟨B, 2, none⟩ v' j hj
  have hblk' : w'.heap[B]? = some (.cells #[.int .i64 room, vb, vq] 182 (0, 0)) := (hkeep B hBlt hne).trans h.blk
  have hBr : ∀ i (hi : i < rs.length), (rs[i]).B ≠ B := fun i hi e => by
    have h1 := (h.each i hi).blk
    rw [e, h.blk] at h1
    injection h1 with h1
    injection h1 with _ h2 _
    exact absurd h2 (by decide)
  have hB0 : P ≠ B := fun e => by
    have h1 := hr.blk
    rw [e, h.blk] at h1
    injection h1 with h1
    injection h1 with _ h2 _
    exact absurd h2 (by decide)
  have hvb : ∀ j, vb.ownBlock = some j → (w'.setCell ⟨B, 2, none⟩ v').heap[j]? = w.heap[j]? := fun j hj => by
    have h1 : j ≠ B := fun e => own_ne_blk h.ob h.blk (by decide) (by rw [hj, e])
    have h2 : vq.ownBlock ≠ some j := fun e => by
      rcases row_apart h.oq h.ob (by decide) with h3 | h3
      · rw [h3] at e; cases e
      · exact h3 (by rw [e, hj])
    exact (hset j h1).trans (hkeep j (World.ownsRow.lt h.ob j hj).2 h2)
  refine ⟨?_, h.low, own_onST h.ob hvb, ?_, fun i hi => ?_, fun i j hi hj hij => ?_, fun i hi => ?_⟩
  · have e := heap_set hblk' 2 v'
    simpa using e
  · have h1 : v'.ownBlock ≠ some B := own_ne_blk ho hblk' (by decide)
    rw [List.length_append, List.length_singleton, List.map_append]
    exact ownsRow_setCell_other (a := ⟨B, 2, none⟩) ho h1 _
  · rcases Nat.lt_or_ge i rs.length with hlt | hge
    · rw [List.getElem_append_left hlt]
      have he := h.each i hlt
      refine he.keep ((hset _ (hBr i hlt)).trans (hkeep _ he.base (own_ne_blk h.oq he.blk (by decide)))) (fun j hj => ?_)
      rw [(h.emp i hlt).2] at hj
      cases hj
    · have : i = rs.length := by simp at hi; omega
      subst this
      simp only [List.getElem_append_right (Nat.le_refl _), Nat.sub_self, List.getElem_cons_zero]
      exact ⟨((hset _ hB0).trans (hkeep _ hr.base (own_ne_blk h.oq hr.blk (by decide)))).trans hr.blk, hw0, World.ownsRow_nil _ _ _ _, hr.r0, hr.r1, hr.le, hr.lr, hr.fl⟩
  · rcases Nat.lt_or_ge i rs.length with hlt | hge
    · rw [List.getElem_append_left hlt]
      rcases Nat.lt_or_ge j rs.length with hlt2 | hge2
      · rw [List.getElem_append_left hlt2]; exact h.ap i j hlt hlt2 hij
      · have : j = rs.length := by simp at hj; omega
        subst this
        simp only [List.getElem_append_right (Nat.le_refl _), Nat.sub_self, List.getElem_cons_zero]
        exact ⟨by have := h0 i hlt; omega, Or.inl (by rw [(h.emp i hlt).2]; rfl)⟩
    · have : i = rs.length := by simp at hi; omega
      subst this
      rcases Nat.lt_or_ge j rs.length with hlt2 | hge2
      · rw [List.getElem_append_left hlt2]
        simp only [List.getElem_append_right (Nat.le_refl _), Nat.sub_self, List.getElem_cons_zero]
        exact ⟨by have := h0 j hlt2; omega, Or.inl rfl⟩
      · have : j = rs.length := by simp at hj; omega
        exact absurd this.symm hij
  · rcases Nat.lt_or_ge i rs.length with hlt | hge
    · rw [List.getElem_append_left hlt]; exact h.emp i hlt
    · have : i = rs.length := by simp at hi; omega
      subst this
      simp
set_option maxRecDepth 100000 in
set_option maxHeartbeats 2000000 in
theorem snewT (room : Int) (n : Nat) (r0 : 1 ≤ room) (r1 : room ≤ 4096) (n0 : 1 ≤ n) (n1 : n ≤ 32) (w : World) :
    Calls Try.prog 77 #[.int .i64 room, .int .i64 n] w fun e w' => ∃ B, e = .returned (.tuple #[.pointer (some ⟨B, 0, none⟩), .int .i64 0]) ∧ Below w.heap.size w w' ∧ ∃ vb vq rs, SpAtT w' w.heap.size B room vb vq (List.replicate n 0) rs ∧ rs.length = n ∧ ∀ i (h : i < rs.length), (rs[i]).k = 0 := by
  obtain ⟨i0, hi, hz0, hz1, hz2⟩ := info_parts sinfoBT
  obtain ⟨j0, hj, hy0, hy1, hy2⟩ := info_parts sinfoQT
  have h0 : ¬ room < 1 := by omega
  have h1 : ¬ 4096 < room := by omega
  have h2 : ¬ (n : Int) < 1 := by omega
  have h3 : ¬ (32 : Int) < n := by omega
  have NW := Lib.hid (fun w => qnew_okT room r0 (by omega) w)
  have R0 := Lib.hid r0; have R1 := Lib.hid r1
  go_enter Try.func77, Try.ntmps77
  go_wp2_with (at_make; refine wpList_make_full _ rfl _ _ 82 rfl w.heap.size 48 i0 (.int .u64 0) 1 Try.underlying82 hi hz0 hz1 _ _ _ _ n rfl rfl rfl rfl (by rw [hz2]; omega) (by unfold maxLen; omega) (Nat.le_refl _) ?_; intro w1 ho1 hg1; have HO1 := Lib.hid ho1; have HG1 := Lib.hid hg1; clear ho1 hg1)
  have B1 : Hid (Below w.heap.size w w1) := Lib.hid ((Below.refl _ _).grown HG1.out (Nat.le_refl _) (by simp))
  have RW : Hid (SpRawT (w1.alloc (.cells #[.int .i64 room, .slice (some ⟨w.heap.size, 0, none⟩) n n, .slice none 0 0] 182)) w.heap.size w1.heap.size room (.slice (some ⟨w.heap.size, 0, none⟩) n n) (.slice none 0 0) (List.replicate n 0) []) := by
    have o1 := HO1.out
    have e2 : (madeCells (Value.int .u64 0).cells (n * 1)).toList = (List.replicate n 0).map (Value.int .u64) := by
      simp [madeCells, Value.cells, List.map_const', List.eq_replicate_iff]
      intro a _; rw [Nat.mod_one]; rfl
    rw [e2] at o1
    refine Lib.hid ⟨heap_alloc_new w1 _, B1.out.size, ?_, World.ownsRow_nil _ _ _ _, fun i h => absurd h (by simp), fun i j h => absurd h (by simp), fun i h => absurd h (by simp)⟩
    rw [List.length_replicate]
    exact World.ownsRow.alloc o1 _
  have BB : Hid (Below w.heap.size w (w1.alloc (.cells #[.int .i64 room, .slice (some ⟨w.heap.size, 0, none⟩) n n, .slice none 0 0] 182))) := Lib.hid (B1.out.alloc B1.out.size _)
  clear HO1 HG1 B1
  generalize w1.heap.size = B at *
  generalize (Value.slice (some ⟨w.heap.size, 0, none⟩) n n) = vb at *
  go_loopw [27] (fun x wr => ∃ (i : Nat) (vq : Value) (rs : List RgT), i ≤ n ∧ x = .int .i64 i ∧ rs.length = i ∧ SpRawT wr w.heap.size B room vb vq (List.replicate n 0) rs ∧ Below w.heap.size w wr) (fun x _ => n - (intOf x).toNat)
  case atStart => exact ⟨0, _, [], Nat.zero_le _, rfl, rfl, RW.out, BB.out⟩
  case round =>
    clear RW BB
    obtain ⟨i, vq, rs, him, rfl, hrs, hR, hb⟩ := hrel
    by_cases hlt : i < n
    · have i1 : (i : Int) < n := by omega
      have HR := Lib.hid hR; have HB := Lib.hid hb; have HRS := Lib.hid hrs
      clear hR hb hrs
      go_wp2_with fail
      refine (NW.out _).mono ?_
      rintro e w3 ⟨rfl, hq, b3⟩
      have R3 := Lib.hid (HR.out.below b3)
      have Q3 := Lib.hid hq
      have B3 := Lib.hid (HB.out.trans (b3.mono HB.out.size))
      clear hq b3
      have c2 := cell_of_row w3 B 2 _ _ (0, 0) R3.out.blk
      have f2 := frozen_of_row w3 B 2 _ _ R3.out.blk
      have hBlt : B < w3.heap.size := (Array.getElem?_eq_some_iff.1 R3.out.blk).1
      have hLT : Hid (∀ j (hj : j < rs.length), (rs[j]).B < wr.heap.size) := Lib.hid (fun j hj => (HR.out.each j hj).base)
      have hBL : Hid (w.heap.size ≤ wr.heap.size) := Lib.hid HB.out.size
      have HBQ : Hid (vq.ownBlock ≠ some B) := Lib.hid (own_ne_blk R3.out.oq R3.out.blk (by decide))
      have CB : Hid (∀ w4 : World, (w3.alloc (.cells #[.pointer (some ⟨wr.heap.size, 0, none⟩)] 183)).grownBy w4 vq.ownBlock → w4.cell? ⟨B, 2, none⟩ = some vq ∧ w4.frozen? ⟨B, 2, none⟩ = false) := Lib.hid (fun w4 hg => by
        have hb : w4.heap[B]? = w3.heap[B]? := (hg.block B (by simp; omega) (fun e => HBQ.out e.symm)).trans (((Below.refl _ w3).alloc (Nat.le_refl _) _).block B hBlt)
        have h4 := hb.trans R3.out.blk
        exact ⟨cell_of_row w4 B 2 _ _ (0, 0) h4, frozen_of_row w4 B 2 _ _ h4⟩)
      have OQ : Hid (w3.ownsRow w.heap.size 183 1 vq rs.length (rs.map rptrT)) := Lib.hid R3.out.oq
      generalize wr.heap.size = P at *
      go_wp2_with (at_builtin; refine wpList_append_own _ rfl _ _ 180 rfl w.heap.size 183 j0 (.pointer none) 1 8 Try.underlying180 hj hy0 hy1 hy2 rfl (by decide) vq _ _ rfl (World.ownsRow.alloc OQ.out _) ⟨w3.heap.size, 0, none⟩ 1 1 [.pointer (some ⟨P, 0, none⟩)] rfl rfl (cells_oneST w3 _ _) (fun x hx => by simp at hx; subst hx; rfl) (by have := HRS.out; unfold maxLen; omega) (by have := HRS.out; omega) (by have := B3.out.size; simp; omega) ?_; intro v4 w4 ho4 hg4 hn4; clear hn4; obtain ⟨a4, c4, hv4⟩ := row_slice ho4; subst hv4; have HO4 := Lib.hid ho4; have HG4 := Lib.hid hg4; clear ho4 hg4; obtain ⟨d2, e2⟩ := CB.out w4 HG4.out)
      have F4 : Hid (SpRawT (w4.setCell ⟨B, 2, none⟩ (.slice a4 (rs.length + 1) c4)) w.heap.size B room vb (.slice a4 (rs.length + 1) c4) (List.replicate n 0) (rs ++ [⟨P, .slice none 0 0, [], 0, 0⟩])) := Lib.hid ((R3.out.below (((Below.refl _ w3).alloc (Nat.le_refl _) _))).pushed hLT.out (Q3.out.below0 ((Below.refl _ w3).alloc (Nat.le_refl _) _)) hBL.out HO4.out HG4.out)
      have B4 : Hid (Below w.heap.size w (w4.setCell ⟨B, 2, none⟩ (.slice a4 (rs.length + 1) c4))) := Lib.hid (below_set ((B3.out.alloc B3.out.size _).grown HG4.out (by have := B3.out.size; simp; omega) (fun j hj => (World.ownsRow.lt OQ.out j hj).1)) R3.out.low)
      clear HO4 HG4
      go_wp2
      go_roundw
      case rel => exact ⟨i + 1, _, _, by omega, by go_num, by rw [List.length_append, HRS.out]; rfl, F4.out, B4.out⟩
      case measure => simp [intOf] <;> omega
    · obtain rfl : i = n := by omega
      have HR := Lib.hid hR; have HB := Lib.hid hb; have HRS := Lib.hid hrs
      clear hR hb hrs
      go_wp2
      go_ret2
      refine ⟨B, rfl, HB.out, vb, vq, rs, ⟨HR.out.blk, HR.out.low, HR.out.ob, HR.out.oq, HR.out.each, HR.out.ap, by rw [List.length_replicate, HRS.out], by have := HRS.out; omega, by have := HRS.out; omega, R0.out, R1.out⟩, HRS.out, fun i hi => (HR.out.emp i hi).1⟩
theorem snew_noT (room n : Int) (w : World) :
    (room < 1 ∨ 4096 < room → Calls Try.prog 77 #[.int .i64 room, .int .i64 n] w fun e w' => e = .returned (.tuple #[.pointer none, .int .i64 25]) ∧ w = w') ∧
    (1 ≤ room → room ≤ 4096 → (n < 1 ∨ 32 < n) → Calls Try.prog 77 #[.int .i64 room, .int .i64 n] w fun e w' => e = .returned (.tuple #[.pointer none, .int .i64 24]) ∧ w = w') := by
  constructor
  · intro h
    have h' : room < 1 ∨ (¬ room < 1 ∧ 4096 < room) := by omega
    clear h
    rcases h' with h | ⟨h0, h⟩
    all_goals
      go_enter Try.func77, Try.ntmps77
      go_wp2
      go_ret2
      exact ⟨rfl, rfl⟩
  · intro h0 h1 h
    have g0 : ¬ room < 1 := by omega
    have g1 : ¬ 4096 < room := by omega
    have h' : n < 1 ∨ (¬ n < 1 ∧ 32 < n) := by omega
    clear h h0 h1
    rcases h' with h | ⟨h0, h⟩
    all_goals
      go_enter Try.func77, Try.ntmps77
      go_wp2
      go_ret2
      exact ⟨rfl, rfl⟩
end Go.Proofs.Ytkgiaijcgblpbaa
