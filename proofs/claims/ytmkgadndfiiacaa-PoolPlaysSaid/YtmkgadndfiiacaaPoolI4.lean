/-
  What package pool does for elements of type int: is a handle taken; a taken one that stands in no queue is given back. No block turns but the pool's own. No condition but that the pool is one that New made, and that a place is left for the handle.
-/
import Derived.Test.YtmkgadndfiiacaaPoolI3
namespace Go.Proofs.Ytmkgadndfiiacaa
set_option linter.unusedVariables false
set_option linter.unusedSimpArgs false
open Go.ChangeShapes Go.WideShapes Go.ChangeAt Go.RowKit
attribute [local go_sem] alloc_drewN setCell_drewN

theorem takenP_inI {w : World} {base B : Nat} {most : Int} {ve vf vq : Value} {es : List EntI} {fr : List Int} {qs : List (Int × Int × Int)} (h : PoolAtI w base B most ve vf vq es fr qs) (k : Nat) (hk : k < es.length) :
    Calls Try.prog 118 #[.pointer (some ⟨B, 0, none⟩), .int .i64 k] w fun e w' => e = .returned (.bool (es[k]).tk) ∧ w' = w := by
  have MD := Lib.hid (madePI h)
  obtain ⟨c0, c1, c2, c3⟩ := h.cell
  obtain ⟨ge, ce, rfl, _, _⟩ := h.oe.form (by omega)
  obtain ⟨k0, k1, k2, k3⟩ := h.entAt k hk
  have hm1 := h.m1; have hle := h.le
  have a0 : (0 : Int) ≤ k := by omega
  have a1 : (k : Int) < es.length := by omega
  generalize es[k] = en at *
  clear h
  go_enter Try.func118, Try.ntmps118
  go_wp2_with (go_at_call 117; refine (MD.out).mono ?_; rintro e w' ⟨rfl, rfl⟩)
  go_ret
  exact ⟨rfl, rfl⟩
theorem takenP_outI {w : World} {base B : Nat} {most : Int} {ve vf vq : Value} {es : List EntI} {fr : List Int} {qs : List (Int × Int × Int)} (h : PoolAtI w base B most ve vf vq es fr qs) (k : Int) (hk : k < 0 ∨ (es.length : Int) ≤ k) :
    Calls Try.prog 118 #[.pointer (some ⟨B, 0, none⟩), .int .i64 k] w fun e w' => e = .returned (.bool false) ∧ w' = w := by
  have MD := Lib.hid (madePI h)
  obtain ⟨c0, c1, c2, c3⟩ := h.cell
  obtain ⟨ae, ce, rfl⟩ := row_slice h.oe
  clear h
  rcases hk with hk | hk
  · go_enter Try.func118, Try.ntmps118
    go_wp2_with (go_at_call 117; refine (MD.out).mono ?_; rintro e w' ⟨rfl, rfl⟩)
    go_ret
    exact ⟨rfl, rfl⟩
  · have h0 : ¬ k < (es.length : Int) := by omega
    have h1 : (0 : Int) ≤ k := by omega
    go_enter Try.func118, Try.ntmps118
    go_wp2_with (go_at_call 117; refine (MD.out).mono ?_; rintro e w' ⟨rfl, rfl⟩)
    go_ret
    exact ⟨rfl, rfl⟩
theorem infoNI : (Try.prog.info? 3).map (fun i => (i.zero, i.size, i.bytes)) = some (some (.int .i64 0), 1, 8) := by kernel_rfl
theorem zero_entryI (w : World) : (zeroValue 204).run Try.prog w = .ok (.agg #[Value.int .i64 0, .bool false, .bool false, .int .u16 0]) w := by kernel_rfl
theorem PoolAtI.given {w : World} {base B : Nat} {most : Int} {ve vf vq : Value} {es : List EntI} {fr : List Int} {qs : List (Int × Int × Int)} (h : PoolAtI w base B most ve vf vq es fr qs) (k : Nat) (hk : k < es.length) (hl : fr.length < es.length) (w3 : World) (v' : Value)
    (ho : w3.ownsRow base 3 1 v' (fr.length + 1) (fr.map (.int .i64) ++ [.int .i64 k]))
    (hg : (w.alloc (.cells #[.int .i64 k] 3)).grownBy w3 vf.ownBlock)
    (hb : w3.heap[B]? = some (.cells #[.int .i64 most, ve, vf, vq] 195 (0, 0)))
    (ha : v'.ownBlock = vf.ownBlock ∨ v'.ownBlock = some (w.alloc (.cells #[.int .i64 k] 3)).heap.size) :
    PoolAtI (w3.setCell ⟨B, 2, none⟩ v') base B most ve v' vq es (fr ++ [(k : Int)]) qs ∧ MvS w (w3.setCell ⟨B, 2, none⟩ v') (inP B ve vf vq) (inP B ve v' vq) := by
  have hne : v'.ownBlock ≠ some B := own_ne_blk ho hb (by decide)
  have hsz : w.heap.size ≤ w3.heap.size := Nat.le_trans (by simp) hg.size
  have hB : B < w.heap.size := (Array.getElem?_eq_some_iff.1 h.blk).1
  have el : (fr ++ [(k : Int)]).length = fr.length + 1 := by simp
  refine ⟨⟨?_, h.low, ?_, ?_, ?_, h.m0, h.m1, h.le, ?_, ?_⟩, ?_⟩
  · have e := heap_set hb 2 v'
    simpa using e
  · have o1 : (w.alloc (.cells #[.int .i64 k] 3)).ownsRow base 204 4 ve es.length (entsI es) := h.oe.alloc _
    exact ownsRow_setCell_other (a := ⟨B, 2, none⟩) (o1.kept hg h.apart.2.2.1) h.ne.1 v'
  · rw [el, List.map_append]
    exact ownsRow_setCell_other (a := ⟨B, 2, none⟩) ho hne v'
  · have o1 : (w.alloc (.cells #[.int .i64 k] 3)).ownsRow base 208 3 vq qs.length (qs.flatMap fun q => [.int .u16 q.1, .int .u16 q.2.1, .int .u16 q.2.2]) := h.oq.alloc _
    exact ownsRow_setCell_other (a := ⟨B, 2, none⟩) (o1.kept hg h.apart.2.2.2) h.ne.2.2 v'
  · rw [el]; omega
  · intro j hj
    rcases List.mem_append.1 hj with hj | hj
    · exact h.fi j hj
    · have : j = (k : Int) := by simpa using hj
      omega
  · refine ⟨hg.os, hg.tape, hg.output, by simpa [World.setCell] using hsz, fun i hi h1 => ?_, fun j hj => ?_⟩
    · exact (Below.heap_setCell w3 ⟨B, 2, none⟩ v' i (fun e => h1 (Or.inl e))).trans ((hg.block i (by simp; omega) (fun e => h1 (Or.inr (Or.inr (Or.inl e.symm))))).trans (heap_alloc_old w _ hi))
    · rcases hj with hj | hj | hj | hj
      · exact Or.inr (Or.inl hj)
      · exact Or.inr (Or.inr (Or.inl hj))
      · rcases ha with ha | ha
        · exact Or.inr (Or.inr (Or.inr (Or.inl (ha ▸ hj))))
        · left
          rw [ha] at hj
          injection hj with hj
          rw [← hj]; simp
      · exact Or.inr (Or.inr (Or.inr (Or.inr hj)))
theorem PoolAtI.from_base {w : World} {base B : Nat} {most : Int} {ve vf vq : Value} {es : List EntI} {fr : List Int} {qs : List (Int × Int × Int)} (h : PoolAtI w base B most ve vf vq es fr qs) : ∀ j, inP B ve vf vq j → base ≤ j := fun j hj => by
  rcases hj with rfl | hj | hj | hj
  · exact h.low
  · exact (h.oe.lt j hj).1
  · exact (h.of.lt j hj).1
  · exact (h.oq.lt j hj).1
set_option maxRecDepth 100000 in
set_option maxHeartbeats 1000000 in
theorem give_okPI {w : World} {base B : Nat} {most : Int} {ve vf vq : Value} {es : List EntI} {fr : List Int} {qs : List (Int × Int × Int)} (h : PoolAtI w base B most ve vf vq es fr qs) (k : Nat) (hk : k < es.length) (ht : (es[k]).tk = true) (hq : (es[k]).qd = false) (hl : fr.length < es.length) (hbase : base ≤ w.heap.size) :
    Calls Try.prog 111 #[.pointer (some ⟨B, 0, none⟩), .int .i64 k] w fun e w' => e = .returned (.tuple #[Value.int .i64 (es[k]).x, .int .i64 0]) ∧ ∃ vf', PoolAtI w' base B most ve vf' vq (es.set k ⟨0, false, false, 0⟩) (fr ++ [(k : Int)]) qs ∧ MvS w w' (inP B ve vf vq) (inP B ve vf' vq) := by
  have MD := Lib.hid (madePI h)
  have TK := Lib.hid (takenP_inI h k hk)
  rw [ht] at TK
  obtain ⟨c0, c1, c2, c3⟩ := h.cell
  have hm1 := h.m1; have hle := h.le
  obtain ⟨ge, ce, rfl, _, _⟩ := h.oe.form (by omega)
  obtain ⟨af, cf, rfl⟩ := row_slice h.of
  obtain ⟨k0, k1, k2, k3⟩ := h.entAt k hk
  rw [hq] at k2
  have z0 := h.oe.frozenAt (k * 4)
  have z1 := h.oe.frozenAt (k * 4 + 1)
  have z2 := h.oe.frozenAt (k * 4 + 2)
  have z3 := h.oe.frozenAt (k * 4 + 3)
  have hB1 : ¬ ge = B := fun e => h.ne.1 (by rw [e]; rfl)
  have hB2 : ¬ B = ge := fun e => hB1 e.symm
  have a0 : (0 : Int) ≤ k := by omega
  have a1 : (k : Int) < es.length := by omega
  have a2 : IntKind.i64.wrap ((k : Int) + 1) = (k : Int) + 1 := by rw [IntKind.wrap_i64]; omega
  have hcap : es.length ≤ ce := by
    rcases h.oe.2 with ⟨hh, _⟩ | ⟨_, _, _, hh, _, _, h1, _⟩
    · cases hh
    · injection hh with _ _ h3; omega
  have hmax : ce ≤ 9223372036854775807 := by
    rcases h.oe.2 with ⟨hh, _⟩ | ⟨_, _, _, hh, _, _, h1, h2, _⟩
    · cases hh
    · injection hh with _ _ h3; unfold maxLen at h2; omega
  obtain ⟨i0, hi, hz0, hz1, hz2⟩ := info_parts infoNI
  have hcl := fun ty => run_clear_one (P := Try.prog) w 193 204 ty (.agg #[Value.int .i64 0, .bool false, .bool false, .int .u16 0]) [Value.int .i64 0, .bool false, .bool false, .int .u16 0] Try.underlying193 zero_entryI (zeroCells_one4 _ _ _ _) (fun x hx => by simp at hx; rcases hx with rfl | rfl | rfl | rfl <;> rfl) ge (k * 4) (ce - k)
    (fun j hj => by
      have hj' : j = 0 ∨ j = 1 ∨ j = 2 ∨ j = 3 := by simp at hj; omega
      rcases hj' with rfl | rfl | rfl | rfl
      · rw [Nat.add_zero, k0]; rfl
      · rw [k1]; rfl
      · rw [k2]; rfl
      · rw [k3]; rfl) (fun j _ => h.oe.frozenAt _)
  have SE := h.setEnt k hk ⟨0, false, false, 0⟩
  obtain ⟨W2, hW2⟩ : ∃ W2, W2 = (((w.setCell ⟨ge, k * 4, none⟩ (Value.int .i64 0)).setCell ⟨ge, k * 4 + 1, none⟩ (.bool false)).setCell ⟨ge, k * 4 + 2, none⟩ (.bool false)).setCell ⟨ge, k * 4 + 3, none⟩ (.int .u16 0) := ⟨_, rfl⟩
  have hcl2 : ∀ ty, (Builtin.clear_ #[193] ty #[.slice (some ⟨ge, k * 4, none⟩) 1 (ce - k)]).run Try.prog w = .ok (.tuple #[]) W2 := fun ty => (hcl ty).trans (by rw [hW2]; rfl)
  simp only [← hW2] at SE
  obtain ⟨s1, s2⟩ := SE
  have S2 := Lib.hid s2
  obtain ⟨b0, b1, b2, b3⟩ := s1.cell
  have hs2 := s2.size
  have H2 := Lib.hid s1
  clear hcl hW2 s1 s2 h ht hq
  generalize es[k] = en at *
  have KB := Lib.hid (fun (u : Obj) (w3 : World) (hg : (W2.alloc u).grownBy w3 (Value.slice af fr.length cf).ownBlock) =>
    have hB : B < W2.heap.size := (Array.getElem?_eq_some_iff.1 H2.out.blk).1
    have e1 : (W2.alloc u).heap[B]? = some (.cells #[.int .i64 most, .slice (some ⟨ge, 0, none⟩) es.length ce, .slice af fr.length cf, vq] 195 (0, 0)) := (heap_alloc_old W2 u hB).trans H2.out.blk
    have e2 : w3.heap[B]? = some (.cells #[.int .i64 most, .slice (some ⟨ge, 0, none⟩) es.length ce, .slice af fr.length cf, vq] 195 (0, 0)) := (hg.block B (by simp; omega) (fun e => H2.out.ne.2.1 e.symm)).trans e1
    (⟨cell_of_row w3 B 2 _ _ (0, 0) e2, frozen_of_row w3 B 2 _ _ e2, Lib.hid e2⟩ : w3.cell? ⟨B, 2, none⟩ = some (.slice af fr.length cf) ∧ w3.frozen? ⟨B, 2, none⟩ = false ∧ Hid (w3.heap[B]? = some (.cells #[.int .i64 most, .slice (some ⟨ge, 0, none⟩) es.length ce, .slice af fr.length cf, vq] 195 (0, 0)))))
  have OF := Lib.hid (fun (u : Obj) => show (W2.alloc u).ownsRow base 3 1 (.slice af fr.length cf) fr.length (fr.map (.int .i64)) from H2.out.of.alloc u)
  have hb2 : base ≤ W2.heap.size := Nat.le_trans hbase hs2
  go_enter Try.func111, Try.ntmps111
  go_wp2_with (first
    | (go_at_call 117; refine (MD.out).mono ?_; rintro e w' ⟨rfl, rfl⟩)
    | (go_at_call 118; refine (TK.out).mono ?_; rintro e w' ⟨rfl, rfl⟩)
    | (at_builtin; refine wpList_append_own_at _ rfl _ _ 102 rfl base 3 i0 (.int .i64 0) 1 8 Try.underlying102 hi hz0 hz1 hz2 rfl (by decide) (.slice af fr.length cf) _ _ rfl (OF.out _) ⟨W2.heap.size, 0, none⟩ 1 1 [.int .i64 k] rfl rfl (cells_newA _ _ _) (fun x hx => by simp at hx; subst hx; rfl) (by unfold maxLen; omega) (by omega) (by simp; omega) ?_; intro v' w3 hown' hgrow3 hnil3 hat3; clear hnil3; obtain ⟨d1, d2, HB3⟩ := KB.out _ w3 hgrow3; have HO3 := Lib.hid hown'; have HG3 := Lib.hid hgrow3; have HA3 := Lib.hid hat3; obtain ⟨a3, c3', rfl⟩ := row_slice hown'; clear hown' hgrow3 hat3))
  go_ret2
  obtain ⟨t1, t2⟩ := H2.out.given k (by rw [List.length_set]; exact hk) (by rw [List.length_set]; exact hl) _ _ HO3.out HG3.out HB3.out HA3.out
  exact ⟨rfl, _, t1, S2.out.trans t2⟩
end Go.Proofs.Ytmkgadndfiiacaa
