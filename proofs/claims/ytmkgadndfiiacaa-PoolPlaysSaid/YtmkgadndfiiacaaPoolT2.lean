/-
  What package pool does for elements of type string: a pool is made; a handle is taken that was never taken. No block turns but the pool's own. No condition but that the pool is one that New made.
-/
import Derived.Test.YtmkgadndfiiacaaPoolT1
import Derived.Maps.AppendAt
namespace Go.Proofs.Ytmkgadndfiiacaa
set_option linter.unusedVariables false
set_option linter.unusedSimpArgs false
open Go.ChangeShapes Go.WideShapes Go.ChangeAt Go.RowKit
attribute [local go_sem] alloc_drewN setCell_drewN

theorem infoQT : (Try.prog.info? 208).map (fun i => (i.zero, i.size, i.bytes)) = some (some (.agg #[.int .u16 0, .int .u16 0, .int .u16 0]), 3, 6) := by kernel_rfl
theorem infoET : (Try.prog.info? 254).map (fun i => (i.zero, i.size, i.bytes)) = some (some (.agg #[Value.string ⟨#[]⟩, .bool false, .bool false, .int .u16 0]), 4, 24) := by kernel_rfl
theorem madeQT (m : Nat) : (madeCells (Value.agg #[.int .u16 0, .int .u16 0, .int .u16 0]).cells (m * 3)).toList = (List.replicate m ((0, 0, 0) : Int × Int × Int)).flatMap fun q => [.int .u16 q.1, .int .u16 q.2.1, .int .u16 q.2.2] := by
  have h1 : (List.replicate m ((0, 0, 0) : Int × Int × Int)).flatMap (fun q => [Value.int .u16 q.1, .int .u16 q.2.1, .int .u16 q.2.2]) = List.replicate (m * 3) (.int .u16 0) := by
    induction m with
    | zero => rfl
    | succ m ih =>
      rw [List.replicate_succ, List.flatMap_cons, ih, show (m + 1) * 3 = (m * 3) + 1 + 1 + 1 by omega, List.replicate_succ, List.replicate_succ, List.replicate_succ]; rfl
  rw [h1]
  have hf : (fun x : Nat => (#[Value.int .u16 0, .int .u16 0, .int .u16 0] : Array Value)[x % 3]!) = fun _ => Value.int .u16 0 := by
    funext x
    have hk : x % 3 < 3 := Nat.mod_lt _ (by omega)
    generalize x % 3 = r at *
    match r, hk with
    | 0, _ => rfl
    | 1, _ => rfl
    | 2, _ => rfl
  show ((Array.range (m * 3)).map (fun x : Nat => (#[Value.int .u16 0, .int .u16 0, .int .u16 0] : Array Value)[x % 3]!)).toList = _
  rw [hf]
  simp [List.map_const', List.eq_replicate_iff]
set_option maxRecDepth 100000 in
set_option maxHeartbeats 1000000 in
theorem new_okPT (most : Int) (m : Nat) (m0 : 1 ≤ most) (m1 : most ≤ 4096) (hm : m ≤ 262144) (w : World) :
    Calls Try.prog 105 #[.int .i64 most, .int .i64 m] w fun e w' => ∃ B, e = .returned (.tuple #[.pointer (some ⟨B, 0, none⟩), .int .i64 0]) ∧ PoolAtT w' w.heap.size B most (.slice none 0 0) (.slice none 0 0) (.slice (some ⟨w.heap.size, 0, none⟩) m m) [] [] (List.replicate m (0, 0, 0)) ∧ Below w.heap.size w w' := by
  obtain ⟨i0, hi, hz0, hz1, hz2⟩ := info_parts infoQT
  have h0 : ¬ most < 1 := by omega
  have h1 : ¬ 4096 < most := by omega
  have h2 : ¬ (m : Int) < 0 := by omega
  have h3 : ¬ 262144 < (m : Int) := by omega
  have R0 := Lib.hid m0; have R1 := Lib.hid m1
  have a1 : 0 ≤ m := by omega
  go_enter Try.func105, Try.ntmps105
  go_wp2_with (at_make; refine wpList_make_full _ rfl _ _ 192 rfl w.heap.size 208 i0 (.agg #[.int .u16 0, .int .u16 0, .int .u16 0]) 3 Try.underlying192 hi hz0 hz1 _ _ _ _ m rfl rfl rfl rfl (by rw [hz2]; omega) (by unfold maxLen; omega) (Nat.le_refl _) ?_; intro w1 ho1 hg1)
  go_ret2
  have e3 := madeQT m
  rw [e3] at ho1
  have hb1 : Below w.heap.size w w1 := (Below.refl _ _).grown hg1 (Nat.le_refl _) (by simp)
  have ho : w1.ownsRow w.heap.size 208 3 (.slice (some ⟨w.heap.size, 0, none⟩) m m) (List.replicate m ((0, 0, 0) : Int × Int × Int)).length ((List.replicate m ((0, 0, 0) : Int × Int × Int)).flatMap fun q => [.int .u16 q.1, .int .u16 q.2.1, .int .u16 q.2.2]) := by
    rw [List.length_replicate]; exact ho1
  exact ⟨_, rfl, ⟨heap_alloc_new w1 _, hg1.size, World.ownsRow_nil _ _ _ _, World.ownsRow_nil _ _ _ _, ho.alloc _, R0.out, R1.out, by have := R0.out; simp; omega, Nat.le_refl _, fun h hh => by cases hh⟩, hb1.alloc hg1.size _⟩
theorem PoolAtT.grown {w : World} {base B : Nat} {most : Int} {ve vf vq : Value} {es : List EntT} {fr : List Int} {qs : List (Int × Int × Int)} (h : PoolAtT w base B most ve vf vq es fr qs) (x : ByteArray) (nd : Nat) (w3 : World) (v' : Value)
    (ho : w3.ownsRow base 254 4 v' (es.length + 1) (entsT es ++ [Value.string x, .bool true, .bool false, .int .u16 0]))
    (hg : ((w.alloc (.cells #[Value.string x, .bool true, .bool false, .int .u16 0] 254)).drewN nd).grownBy w3 ve.ownBlock)
    (hb : w3.heap[B]? = some (.cells #[.int .i64 most, ve, vf, vq] 252 (0, 0)))
    (ha : v'.ownBlock = ve.ownBlock ∨ v'.ownBlock = some ((w.alloc (.cells #[Value.string x, .bool true, .bool false, .int .u16 0] 254)).drewN nd).heap.size) (hl : (es.length : Int) < most) :
    PoolAtT (w3.setCell ⟨B, 1, none⟩ v') base B most v' vf vq (es ++ [⟨x, true, false, 0⟩]) fr qs ∧ MvS w (w3.setCell ⟨B, 1, none⟩ v') (inP B ve vf vq) (inP B v' vf vq) := by
  have hne : v'.ownBlock ≠ some B := own_ne_blk ho hb (by decide)
  have hsz : w.heap.size ≤ w3.heap.size := Nat.le_trans (by simp) hg.size
  have hB : B < w.heap.size := (Array.getElem?_eq_some_iff.1 h.blk).1
  have el : (es ++ [(⟨x, true, false, 0⟩ : EntT)]).length = es.length + 1 := by simp
  refine ⟨⟨?_, h.low, ?_, ?_, ?_, h.m0, h.m1, ?_, ?_, ?_⟩, ?_⟩
  · have e := heap_set hb 1 v'
    simpa using e
  · have e : entsT (es ++ [(⟨x, true, false, 0⟩ : EntT)]) = entsT es ++ [Value.string x, .bool true, .bool false, .int .u16 0] := by simp [entsT, EntT.cells]
    rw [el, e]
    exact ownsRow_setCell_other (a := ⟨B, 1, none⟩) ho hne v'
  · have o1 : ((w.alloc (.cells #[Value.string x, .bool true, .bool false, .int .u16 0] 254)).drewN nd).ownsRow base 3 1 vf fr.length (fr.map (.int .i64)) := h.of.alloc _
    exact ownsRow_setCell_other (a := ⟨B, 1, none⟩) (o1.kept hg h.apart.1) h.ne.2.1 v'
  · have o1 : ((w.alloc (.cells #[Value.string x, .bool true, .bool false, .int .u16 0] 254)).drewN nd).ownsRow base 208 3 vq qs.length (qs.flatMap fun q => [.int .u16 q.1, .int .u16 q.2.1, .int .u16 q.2.2]) := h.oq.alloc _
    exact ownsRow_setCell_other (a := ⟨B, 1, none⟩) (o1.kept hg h.apart.2.1) h.ne.2.2 v'
  · rw [el]; omega
  · rw [el]; have := h.lf; omega
  · intro k hk; have := h.fi k hk; rw [el]; omega
  · refine ⟨hg.os, hg.tape, hg.output, by simpa [World.setCell] using hsz, fun i hi h1 => ?_, fun j hj => ?_⟩
    · exact (Below.heap_setCell w3 ⟨B, 1, none⟩ v' i (fun e => h1 (Or.inl e))).trans ((hg.block i (by simp; omega) (fun e => h1 (Or.inr (Or.inl e.symm)))).trans (heap_alloc_old w _ hi))
    · rcases hj with hj | hj | hj | hj
      · exact Or.inr (Or.inl hj)
      · rcases ha with ha | ha
        · exact Or.inr (Or.inr (Or.inl (ha ▸ hj)))
        · left
          rw [ha] at hj
          injection hj with hj
          rw [← hj]; simp
      · exact Or.inr (Or.inr (Or.inr (Or.inl hj)))
      · exact Or.inr (Or.inr (Or.inr (Or.inr hj)))
set_option maxRecDepth 100000 in
set_option maxHeartbeats 1000000 in
theorem take_newPT {w : World} {base B : Nat} {most : Int} {ve vf vq : Value} {es : List EntT} {qs : List (Int × Int × Int)} (h : PoolAtT w base B most ve vf vq es [] qs) (hl : (es.length : Int) < most) (x : ByteArray) (hbase : base ≤ w.heap.size) :
    Calls Try.prog 106 #[.pointer (some ⟨B, 0, none⟩), Value.string x] w fun e w' => e = .returned (.tuple #[.int .i64 es.length, .bool true]) ∧ ∃ ve', PoolAtT w' base B most ve' vf vq (es ++ [⟨x, true, false, 0⟩]) [] qs ∧ MvS w w' (inP B ve vf vq) (inP B ve' vf vq) := by
  obtain ⟨i0, hi, hz0, hz1, hz2⟩ := info_parts infoET
  have MD := Lib.hid (fun n => madePT (h.drewN n))
  have LN := Lib.hid (fun n => lenPT (h.drewN n))
  obtain ⟨c0, c1, c2, c3⟩ := h.cell
  have hv := row_slice h.oe
  have hvf := row_slice h.of
  have H := Lib.hid h
  have hm1 := h.m1
  clear h
  obtain ⟨ae, ce, rfl⟩ := hv
  obtain ⟨af, cf, rfl⟩ := hvf
  have hne : ¬ ((es.length : Int) = most) := by omega
  simp only [List.length_nil, Nat.sub_zero] at LN c2
  have a1 : IntKind.i64.wrap (((es.length + 1 : Nat) : Int) - 1) = (es.length : Int) := by rw [IntKind.wrap_i64]; omega
  have KB := Lib.hid (fun (u : Obj) (nd : Nat) (w3 : World) (hg : ((w.alloc u).drewN nd).grownBy w3 (Value.slice ae es.length ce).ownBlock) =>
    have hB : B < w.heap.size := (Array.getElem?_eq_some_iff.1 H.out.blk).1
    have e1 : ((w.alloc u).drewN nd).heap[B]? = some (.cells #[.int .i64 most, .slice ae es.length ce, .slice af 0 cf, vq] 252 (0, 0)) := (heap_alloc_old w u hB).trans H.out.blk
    have e2 : w3.heap[B]? = some (.cells #[.int .i64 most, .slice ae es.length ce, .slice af 0 cf, vq] 252 (0, 0)) := (hg.block B (by simp; omega) (fun e => H.out.ne.1 e.symm)).trans e1
    (⟨cell_of_row w3 B 1 _ _ (0, 0) e2, frozen_of_row w3 B 1 _ _ e2, Lib.hid e2⟩ : w3.cell? ⟨B, 1, none⟩ = some (.slice ae es.length ce) ∧ w3.frozen? ⟨B, 1, none⟩ = false ∧ Hid (w3.heap[B]? = some (.cells #[.int .i64 most, .slice ae es.length ce, .slice af 0 cf, vq] 252 (0, 0)))))
  have OE := Lib.hid (fun (u : Obj) (nd : Nat) => show ((w.alloc u).drewN nd).ownsRow base 254 4 (.slice ae es.length ce) es.length (entsT es) from H.out.oe.alloc u)
  go_enter Try.func106, Try.ntmps106
  go_wp2
  go_quiet ((first | (go_at_call 147; exact Calls.quiet_of_same (MD.out _)) | (go_at_call 108; exact Calls.quiet_of (LN.out _))))
  go_wp2_with (at_builtin; refine wpList_append_own_at _ rfl _ _ 250 rfl base 254 i0 (.agg #[Value.string ⟨#[]⟩, .bool false, .bool false, .int .u16 0]) 4 24 Try.underlying250 hi hz0 hz1 hz2 rfl (by decide) (.slice ae es.length ce) _ _ rfl (OE.out _ _) ⟨w.heap.size, 0, none⟩ 1 1 [Value.string x, .bool true, .bool false, .int .u16 0] rfl rfl (cells_newP _ _ _ _) (fun x hx => by simp at hx; rcases hx with rfl | rfl | rfl | rfl <;> rfl) (by unfold maxLen; omega) (by omega) (by simp; omega) ?_; intro v' w3 hown' hgrow3 hnil3 hat3; clear hnil3; obtain ⟨d1, d2, HB3⟩ := KB.out _ _ w3 hgrow3; have HO3 := Lib.hid hown'; have HG3 := Lib.hid hgrow3; have HA3 := Lib.hid hat3; obtain ⟨a3, c3', rfl⟩ := row_slice hown'; clear hown' hgrow3 hat3)
  go_ret2
  obtain ⟨t1, t2⟩ := H.out.grown _ _ _ _ HO3.out HG3.out HB3.out HA3.out (by omega)
  exact ⟨rfl, _, t1, t2⟩
end Go.Proofs.Ytmkgadndfiiacaa
