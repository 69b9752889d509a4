/-
  Package trace, the record that 30 bytes are. What lay below the heap's end stands.
-/
import Derived.Test.YtapjebhdgcpdjaaTc5
import Derived.Test.YtapjebhdgcpdjaaWireT1
import Derived.Deep.CutBlock
import Derived.Deep.DeepCutAuto
namespace Go.Proofs.Ytapjebhdgcpdjaa
set_option linter.unusedVariables false
set_option linter.unusedSimpArgs false
open Go.ChangeShapes Go.WideShapes Go.ChangeAt Go.RowKit
attribute [-go_sem] run_index_string binOp_string_eql binOp_string_neq run_string_add_if run_slice_string_from_if run_slice_string_to_if
attribute [local go_sem] index_bt add_fits slice_from slice_to eql_str neq_str alloc_drewN setCell_drewN

def ks39 : List Int := [4, 1, 3, 3, 4, 1]
theorem lit_k39 {w0 W : World} {g n : Nat} {cs : Array Value} {ks : List Int} (hb : w0.heap.size ≤ W.heap.size) (hg : W.heap.size = g) (hn : ks.length = n) (hm : n ≤ maxLen) (hc : cs.toList = ks.map (Value.int .i64)) (hl : cs.size = n * 1) :
    (W.alloc (.cells cs 3)).ownsRow w0.heap.size 3 1 (.slice (some ⟨g, 0, none⟩) n n) ks.length (ks.map (Value.int .i64)) := by
  subst hn hg
  have := World.ownsRow_lit (e := 3) (size := 1) (base := w0.heap.size) W cs ks.length hb hm hl
  rw [hc] at this
  exact this
theorem own_i39 {w : World} {base : Nat} {v : Value} {zs : List Int} (h : w.ownsRow base 3 1 v zs.length (zs.map (Value.int .i64))) :
    (v = .slice none 0 0 ∧ zs = []) ∨ ∃ g cap, v = .slice (some ⟨g, 0, none⟩) zs.length cap ∧ g < w.heap.size ∧ ∀ i, i < zs.length → w.cell? ⟨g, 0 + i, none⟩ = some (.int .i64 (zs.getD i 0)) := by
  have h' := h
  rcases h'.2 with ⟨rfl, h0⟩ | ⟨g, cap, cur, rfl, hb, _⟩
  · exact Or.inl ⟨rfl, List.length_eq_zero_iff.1 h0⟩
  · refine Or.inr ⟨g, cap, rfl, (World.ownsRow.lt h g rfl).2, fun i hi => ?_⟩
    have c0 := h.cells (g := g) rfl i (.int .i64 (zs.getD i 0)) (by rw [List.getElem?_map, List.getElem?_eq_getElem hi, List.getD_eq_getElem?_getD, List.getElem?_eq_getElem hi]; rfl)
    have e : (⟨g, 0, none⟩ : Addr).add i = ⟨g, 0 + i, none⟩ := Go.WideShapes.add_plain _ _ _
    rw [e] at c0
    exact c0
/-- Twenty-six bytes, taken as a record's fields. -/
theorem Take39 (s : ByteArray) (hs : s.size = 26) (base : Nat) (v : Value) (w : World) (h : w.ownsRow base 3 1 v ks39.length (ks39.map (Value.int .i64))) :
    Calls Try.prog 89 #[.string s, v] w fun e w' => ∃ g cap, e = .returned (.tuple #[.slice (some ⟨g, 0, none⟩) 6 cap, .int .i64 26, .int .i64 0]) ∧ w.heap.size ≤ g ∧ g < w'.heap.size ∧ FCells w' g 0 (dec s 0).fds ∧ Below w.heap.size w w' := by
  have ht : tl s ks39 0 = ((dec s 0).fds, 26, 0) := tl_dec s hs
  rcases own_i39 h with ⟨rfl, h0⟩ | ⟨g, cap, rfl, hg, hc⟩
  · cases h0
  · refine (Take_at s g 0 cap ks39 (by omega) (by decide) (by decide) w hg hc).mono ?_
    rintro e w' ⟨v, rfl, ho, hb⟩
    rw [ht] at ho ⊢
    rcases own_fields _ _ _ _ _ ho with ⟨_, h0⟩ | ⟨g2, cap2, rfl, hb2, hg2, hF⟩
    · cases h0
    · exact ⟨g2, cap2, rfl, hb2, hg2, hF, hb⟩
set_option maxRecDepth 100000 in
set_option maxHeartbeats 4000000 in
theorem ttake_any (s : ByteArray) (hs : s.size = 30) (w : World) :
    Calls Try.prog 63 #[.string s] w fun e w' => ∃ y : Rec, e = .returned (.tuple #[y.val, .bool (decide (good s 0))]) ∧ (good s 0 → y = dec s 0) ∧ Below w.heap.size w w' := by
  have OA := Lib.hid (fun W => open_any s (by omega) W)
  by_cases hC : 4 ≤ s.size ∧ seal4 (s.extract 0 (s.size - 4)) = s
  · rw [if_pos hC] at OA
    obtain ⟨hd, hg⟩ := good_seal s hs hC
    have zi : (s.extract 0 (s.size - 4)).size = 26 := by rw [size_ext _ _ _ (by omega)]; omega
    obtain ⟨I, hI⟩ : ∃ I, s.extract 0 (s.size - 4) = I := ⟨_, rfl⟩
    rw [hI] at OA zi hd
    clear hI hC
    have TK := Lib.hid (fun v W h => Take39 I zi w.heap.size v W h)
    rw [hd] at TK
    have hk := dec_ok s 0
    have hby := dec_bytes s 0
    have e1 : decide (good s 0) = decide (dec s 0).rt := by
      by_cases h : (dec s 0).rt
      · rw [decide_eq_true h, decide_eq_true (hg.2 h)]
      · rw [decide_eq_false h, decide_eq_false (fun g => h (hg.1 g))]
    rw [e1]
    have RA := Lib.hid (fun W => tright_any (dec s 0) hk W)
    obtain ⟨y, hy⟩ : ∃ y, dec s 0 = y := ⟨_, rfl⟩
    rw [hy] at hk hby RA TK ⊢
    refine Calls.mono (R := fun e w' => e = .returned (.tuple #[y.val, .bool (decide y.rt)]) ∧ Below w.heap.size w w') ?_ (fun e w' h => ⟨y, h.1, fun _ => rfl, h.2⟩)
    clear hy hg hd e1
    obtain ⟨b8, b25⟩ := hby
    obtain ⟨t, k, f, i, n, c⟩ := y
    obtain ⟨⟨t0, t1⟩, ⟨k0, k1⟩, ⟨f0, f1⟩, ⟨i0, i1⟩, ⟨n0, n1⟩, c0, c1⟩ := hk
    simp only at t0 t1 k0 k1 f0 f1 i0 i1 n0 n1 c0 c1 b8 b25
    obtain ⟨b80, b81⟩ := b8
    obtain ⟨b250, b251⟩ := b25
    clear k0 k1 c0 c1
    unfold Rec.val at RA ⊢
    simp only at RA ⊢
    go_enter Try.func63, Try.ntmps63
    go_wp2_with fail
    refine (OA.out _).mono ?_
    rintro e w1 ⟨rfl, h1⟩
    have X2 := blk_call h1 (heap_alloc_new _ _)
    have HB1 := bel_onto ((Below.refl w.heap.size w).alloc (Nat.le_refl _) _) h1 (by simp)
    go_wp2_with fail
    refine (TK.out _ _ (lit_k39 (ks := ks39) (by have := HB1.size; simp; try omega) (by simp) rfl (show 6 ≤ maxLen by unfold maxLen; decide) rfl rfl)).mono ?_
    rintro e w2 ⟨g, cap, rfl, hg0, hg1, hF, h2⟩
    have X2 := blk_call h2 (blk_old X2)
    have HB2 := bel_onto (HB1.alloc HB1.size _) h2 (by have := HB1.size; simp; omega)
    have q0 : w2.cell? ⟨g, 1, none⟩ = some (.int .u64 t) := (hF 0 (by show 0 < 6; omega)).2.1
    have q1 : w2.cell? ⟨g, 4, none⟩ = some (.int .u64 k) := (hF 1 (by show 1 < 6; omega)).2.1
    have q2 : w2.cell? ⟨g, 7, none⟩ = some (.int .u64 f) := (hF 2 (by show 2 < 6; omega)).2.1
    have q3 : w2.cell? ⟨g, 10, none⟩ = some (.int .u64 i) := (hF 3 (by show 3 < 6; omega)).2.1
    have q4 : w2.cell? ⟨g, 13, none⟩ = some (.int .u64 n) := (hF 4 (by show 4 < 6; omega)).2.1
    have q5 : w2.cell? ⟨g, 16, none⟩ = some (.int .u64 c) := (hF 5 (by show 5 < 6; omega)).2.1
    have gn : ¬ g = w2.heap.size := Nat.ne_of_lt hg1
    have HX2 := Lib.hid X2
    have HB := Lib.hid HB2
    have hsz := HB2.size
    obtain ⟨B2, hB2⟩ : ∃ B, B = w.heap.size := ⟨_, rfl⟩
    rw [← hB2] at HX2
    rw [← hB2]
    have HLT := Lib.hid (lt_blk HX2.out)
    have hb2 : w.heap.size ≤ B2 := by omega
    have hne2 : ¬ B2 = w2.heap.size := by have := HLT.out; omega
    clear hB2
    clear hF h1 h2 HB1 HB2 X2 hg0 OA TK
    have gk : IntKind.i64.wrap k = k := by rw [IntKind.wrap_i64]; omega
    have gc : IntKind.i64.wrap c = c := by rw [IntKind.wrap_i64]; omega
    have gf : IntKind.u32.wrap f = f := wraps_u32 f (by omega) (by omega)
    have gi : IntKind.u32.wrap i = i := wraps_u32 i (by omega) (by omega)
    have SQ : Hid (∀ v, Below w2.heap.size w2 v → v.cell? ⟨g, 1, none⟩ = some (.int .u64 t) ∧ v.cell? ⟨g, 4, none⟩ = some (.int .u64 k) ∧ v.cell? ⟨g, 7, none⟩ = some (.int .u64 f) ∧ v.cell? ⟨g, 10, none⟩ = some (.int .u64 i) ∧ v.cell? ⟨g, 13, none⟩ = some (.int .u64 n) ∧ v.cell? ⟨g, 16, none⟩ = some (.int .u64 c)) := Lib.hid fun v h =>
      ⟨(h.cell (p := ⟨g, 1, none⟩) hg1).trans q0, (h.cell (p := ⟨g, 4, none⟩) hg1).trans q1, (h.cell (p := ⟨g, 7, none⟩) hg1).trans q2, (h.cell (p := ⟨g, 10, none⟩) hg1).trans q3, (h.cell (p := ⟨g, 13, none⟩) hg1).trans q4, (h.cell (p := ⟨g, 16, none⟩) hg1).trans q5⟩
    go_upto_region 7 with (fail)
    go_region_held3 (fun v => v.cell? ⟨g, 1, none⟩ = some (.int .u64 t) ∧ v.cell? ⟨g, 4, none⟩ = some (.int .u64 k) ∧ v.cell? ⟨g, 7, none⟩ = some (.int .u64 f) ∧ v.cell? ⟨g, 10, none⟩ = some (.int .u64 i) ∧ v.cell? ⟨g, 13, none⟩ = some (.int .u64 n) ∧ v.cell? ⟨g, 16, none⟩ = some (.int .u64 c))
      ((first | exact ⟨q0, q1, q2, q3, q4, q5⟩ | exact SQ.out _ (by (repeat' (first | (with_reducible exact Below.refl _ _) | (with_reducible refine below_drewN _ ?_) | (with_reducible refine Below.drew ?_) | (with_reducible refine Below.setCell ?_ (by first | omega | (simp; done) | (simp; omega)) _) | (with_reducible refine Below.alloc ?_ (by first | omega | (simp; done) | (simp; omega)) _)))))) (fail)
    go_upto_region 8 with (fail)
    refine wp_genc ?_
    intro v1 hv1
    have XB : Below w.heap.size w v1 := by
      rw [hv1]
      (repeat' (first | (with_reducible exact HB.out) | (with_reducible refine below_drewN _ ?_) | (with_reducible refine Below.drew ?_) | (with_reducible refine Below.setCell ?_ (by first | omega | (simp; done) | (simp; omega)) _) | (with_reducible refine Below.alloc ?_ (by first | omega | (simp; done) | (simp; omega)) _)))
    have Xz : v1.heap[B2]? = some (.cells #[.int .u64 0, .int .i64 0, .int .u32 0, .int .u32 0, .int .u64 0, .int .i64 0] 64 (0, 0)) := by
      have := HLT.out
      rw [hv1]
      (repeat' (first | (with_reducible exact HX2.out) | (with_reducible refine blk_drew ?_) | (with_reducible refine blk_else (by simp; omega) ?_) | (with_reducible refine blk_old ?_)))
    have X9 : v1.heap[w2.heap.size]? = some (.cells #[.int .u64 t, .int .i64 k, .int .u32 f, .int .u32 i, .int .u64 n, .int .i64 c] 64 (0, 0)) := by
      rw [hv1]
      (repeat' (first | (with_reducible exact heap_alloc_new _ _) | (with_reducible refine blk_drew ?_) | (with_reducible apply put6_0) | (with_reducible apply put6_1) | (with_reducible apply put6_2) | (with_reducible apply put6_3) | (with_reducible apply put6_4) | (with_reducible apply put6_5)))
    obtain ⟨B9, hB9⟩ : ∃ B, B = w2.heap.size := ⟨_, rfl⟩
    rw [← hB9] at X9
    try rw [← hB9]
    have hne : B2 ≠ B9 := by have := HLT.out; omega
    clear hv1 hB9 q0 q1 q2 q3 q4 q5 gn HB HX2 HLT
    have SC : Hid (∀ v, Below v1.heap.size v1 v → v.cell? ⟨B9, 0, none⟩ = some (.int .u64 t) ∧ v.cell? ⟨B9, 1, none⟩ = some (.int .i64 k) ∧ v.cell? ⟨B9, 2, none⟩ = some (.int .u32 f) ∧ v.cell? ⟨B9, 3, none⟩ = some (.int .u32 i) ∧ v.cell? ⟨B9, 4, none⟩ = some (.int .u64 n) ∧ v.cell? ⟨B9, 5, none⟩ = some (.int .i64 c)) := Lib.hid fun v h => by
      have Y := blk_call h X9
      obtain ⟨y0, y1, y2, y3, y4, y5, -⟩ := at6 Y
      exact ⟨y0, y1, y2, y3, y4, y5⟩
    have HZ := Lib.hid Xz
    have HXB := Lib.hid XB
    have hs1 := XB.size
    obtain ⟨z0, z1, z2, z3, z4, z5, zf0, zf1, zf2, zf3, zf4, zf5⟩ := at6 Xz
    obtain ⟨x0, x1, x2, x3, x4, x5, xf0, xf1, xf2, xf3, xf4, xf5⟩ := at6 X9
    clear X9 Xz XB

    refine wp_region_any (by kernel_rfl) ?_
    (try (change wpAny _ _ _ _ _ _ _ (World.drew _)))
    refine wpAny_ready (rs := [0, 1]) (by kernel_rfl) (by simp) ?_
    refine (AllReady.cons rfl (fun K hK => ?_) (AllReady.cons rfl (fun K hK => ?_) AllReady.nil))
    · go_simp
      refine hK _ _ ?_
      clear hK K
      refine wpAny_ready (rs := [1]) (by kernel_rfl) (by simp) ?_
      refine AllReady.cons rfl (fun K hK => ?_) AllReady.nil
      go_simp
      refine hK _ _ ?_
      clear hK K
      refine wpAny_ready (rs := [2]) (by kernel_rfl) (by simp) ?_
      refine AllReady.cons rfl (fun K hK => ?_) AllReady.nil
      go_simp
      refine (RA.out _).mono ?_
      rintro e w3 ⟨rfl, h3⟩
      have h3' : Below v1.heap.size v1 w3 := bel_call h3 (by (repeat' (first | (with_reducible exact Below.refl _ _) | (with_reducible refine below_drewN _ ?_) | (with_reducible refine Below.drew ?_)))) (Nat.le_refl _)
      clear h3 z0 z1 z2 z3 z4 z5 zf0 zf1 zf2 zf3 zf4 zf5 x0 x1 x2 x3 x4 x5 xf0 xf1 xf2 xf3 xf4 xf5
      have Z3 := blk_call h3' HZ.out
      have HB3 := Lib.hid (bel_onto HXB.out h3' hs1)
      have HZ3 := Lib.hid Z3
      obtain ⟨z0, z1, z2, z3, z4, z5, zf0, zf1, zf2, zf3, zf4, zf5⟩ := at6 Z3
      obtain ⟨x0, x1, x2, x3, x4, x5⟩ := SC.out _ h3'
      clear Z3 h3'
      go_simp
      refine hK _ _ ?_
      clear hK K
      refine wpAny_ready (rs := [3]) (by kernel_rfl) (by simp) ?_
      refine AllReady.cons rfl (fun K hK => ?_) AllReady.nil
      go_simp
      refine hK _ _ ?_
      clear hK K
      refine wpAny_ready (rs := [4]) (by kernel_rfl) (by simp) ?_
      refine AllReady.cons rfl (fun K hK => ?_) AllReady.nil
      go_simp
      refine hK _ _ ?_
      clear hK K
      refine wpAny_done (by kernel_rfl) ?_ _
      (try simp only [Exit.then])
      go_wp2
      (try simp only [Exit.inBlock, Exit.then])
      refine bp_gen ?_
      intro v5 hv5
      have XB5 : Below w.heap.size w v5 := by
        have XB3 := HB3.out
        have := XB3.size
        rw [hv5]
        (repeat' (first | (with_reducible exact XB3) | (with_reducible refine below_drewN _ ?_) | (with_reducible refine Below.drew ?_) | (with_reducible refine Below.setCell ?_ (by first | omega | (simp; done) | (simp; omega)) _) | (with_reducible refine Below.alloc ?_ (by first | omega | (simp; done) | (simp; omega)) _)))
      have Z5 : v5.heap[B2]? = some (.cells #[.int .u64 t, .int .i64 k, .int .u32 f, .int .u32 i, .int .u64 n, .int .i64 c] 64 (0, 0)) := by
        rw [hv5]
        (repeat' (first | (with_reducible exact HZ3.out) | (with_reducible refine blk_drew ?_) | (with_reducible apply put6_0) | (with_reducible apply put6_1) | (with_reducible apply put6_2) | (with_reducible apply put6_3) | (with_reducible apply put6_4) | (with_reducible apply put6_5)))
      clear z0 z1 z2 z3 z4 z5 zf0 zf1 zf2 zf3 zf4 zf5 x0 x1 x2 x3 x4 x5
      obtain ⟨y0, y1, y2, y3, y4, y5, -⟩ := at6 Z5
      refine bodyPost_ret (v := .tuple #[.agg #[.int .u64 t, .int .i64 k, .int .u32 f, .int .u32 i, .int .u64 n, .int .i64 c], .bool (decide (Rec.mk t k f i n c).rt)]) (by simp [results, Try.results63, go_sem, y0, y1, y2, y3, y4, y5]) rfl ⟨rfl, XB5⟩
    · go_simp
      refine hK _ _ ?_
      clear hK K
      refine wpAny_ready (rs := [0, 2]) (by kernel_rfl) (by simp) ?_
      refine (AllReady.cons rfl (fun K hK => ?_) (AllReady.cons rfl (fun K hK => ?_) AllReady.nil))
      · go_simp
        refine hK _ _ ?_
        clear hK K
        refine wpAny_ready (rs := [2]) (by kernel_rfl) (by simp) ?_
        refine AllReady.cons rfl (fun K hK => ?_) AllReady.nil
        go_simp
        refine (RA.out _).mono ?_
        rintro e w3 ⟨rfl, h3⟩
        have h3' : Below v1.heap.size v1 w3 := bel_call h3 (by (repeat' (first | (with_reducible exact Below.refl _ _) | (with_reducible refine below_drewN _ ?_) | (with_reducible refine Below.drew ?_)))) (Nat.le_refl _)
        clear h3 z0 z1 z2 z3 z4 z5 zf0 zf1 zf2 zf3 zf4 zf5 x0 x1 x2 x3 x4 x5 xf0 xf1 xf2 xf3 xf4 xf5
        have Z3 := blk_call h3' HZ.out
        have HB3 := Lib.hid (bel_onto HXB.out h3' hs1)
        have HZ3 := Lib.hid Z3
        obtain ⟨z0, z1, z2, z3, z4, z5, zf0, zf1, zf2, zf3, zf4, zf5⟩ := at6 Z3
        obtain ⟨x0, x1, x2, x3, x4, x5⟩ := SC.out _ h3'
        clear Z3 h3'
        go_simp
        refine hK _ _ ?_
        clear hK K
        refine wpAny_ready (rs := [3]) (by kernel_rfl) (by simp) ?_
        refine AllReady.cons rfl (fun K hK => ?_) AllReady.nil
        go_simp
        refine hK _ _ ?_
        clear hK K
        refine wpAny_ready (rs := [4]) (by kernel_rfl) (by simp) ?_
        refine AllReady.cons rfl (fun K hK => ?_) AllReady.nil
        go_simp
        refine hK _ _ ?_
        clear hK K
        refine wpAny_done (by kernel_rfl) ?_ _
        (try simp only [Exit.then])
        go_wp2
        (try simp only [Exit.inBlock, Exit.then])
        refine bp_gen ?_
        intro v5 hv5
        have XB5 : Below w.heap.size w v5 := by
          have XB3 := HB3.out
          have := XB3.size
          rw [hv5]
          (repeat' (first | (with_reducible exact XB3) | (with_reducible refine below_drewN _ ?_) | (with_reducible refine Below.drew ?_) | (with_reducible refine Below.setCell ?_ (by first | omega | (simp; done) | (simp; omega)) _) | (with_reducible refine Below.alloc ?_ (by first | omega | (simp; done) | (simp; omega)) _)))
        have Z5 : v5.heap[B2]? = some (.cells #[.int .u64 t, .int .i64 k, .int .u32 f, .int .u32 i, .int .u64 n, .int .i64 c] 64 (0, 0)) := by
          rw [hv5]
          (repeat' (first | (with_reducible exact HZ3.out) | (with_reducible refine blk_drew ?_) | (with_reducible apply put6_0) | (with_reducible apply put6_1) | (with_reducible apply put6_2) | (with_reducible apply put6_3) | (with_reducible apply put6_4) | (with_reducible apply put6_5)))
        clear z0 z1 z2 z3 z4 z5 zf0 zf1 zf2 zf3 zf4 zf5 x0 x1 x2 x3 x4 x5
        obtain ⟨y0, y1, y2, y3, y4, y5, -⟩ := at6 Z5
        refine bodyPost_ret (v := .tuple #[.agg #[.int .u64 t, .int .i64 k, .int .u32 f, .int .u32 i, .int .u64 n, .int .i64 c], .bool (decide (Rec.mk t k f i n c).rt)]) (by simp [results, Try.results63, go_sem, y0, y1, y2, y3, y4, y5]) rfl ⟨rfl, XB5⟩
      · go_simp
        refine (RA.out _).mono ?_
        rintro e w3 ⟨rfl, h3⟩
        have h3' : Below v1.heap.size v1 w3 := bel_call h3 (by (repeat' (first | (with_reducible exact Below.refl _ _) | (with_reducible refine below_drewN _ ?_) | (with_reducible refine Below.drew ?_)))) (Nat.le_refl _)
        clear h3 z0 z1 z2 z3 z4 z5 zf0 zf1 zf2 zf3 zf4 zf5 x0 x1 x2 x3 x4 x5 xf0 xf1 xf2 xf3 xf4 xf5
        have Z3 := blk_call h3' HZ.out
        have HB3 := Lib.hid (bel_onto HXB.out h3' hs1)
        have HZ3 := Lib.hid Z3
        obtain ⟨z0, z1, z2, z3, z4, z5, zf0, zf1, zf2, zf3, zf4, zf5⟩ := at6 Z3
        obtain ⟨x0, x1, x2, x3, x4, x5⟩ := SC.out _ h3'
        clear Z3 h3'
        go_simp
        refine hK _ _ ?_
        clear hK K
        refine wpAny_ready (rs := [0]) (by kernel_rfl) (by simp) ?_
        refine AllReady.cons rfl (fun K hK => ?_) AllReady.nil
        go_simp
        refine hK _ _ ?_
        clear hK K
        refine wpAny_ready (rs := [3]) (by kernel_rfl) (by simp) ?_
        refine AllReady.cons rfl (fun K hK => ?_) AllReady.nil
        go_simp
        refine hK _ _ ?_
        clear hK K
        refine wpAny_ready (rs := [4]) (by kernel_rfl) (by simp) ?_
        refine AllReady.cons rfl (fun K hK => ?_) AllReady.nil
        go_simp
        refine hK _ _ ?_
        clear hK K
        refine wpAny_done (by kernel_rfl) ?_ _
        (try simp only [Exit.then])
        go_wp2
        (try simp only [Exit.inBlock, Exit.then])
        refine bp_gen ?_
        intro v5 hv5
        have XB5 : Below w.heap.size w v5 := by
          have XB3 := HB3.out
          have := XB3.size
          rw [hv5]
          (repeat' (first | (with_reducible exact XB3) | (with_reducible refine below_drewN _ ?_) | (with_reducible refine Below.drew ?_) | (with_reducible refine Below.setCell ?_ (by first | omega | (simp; done) | (simp; omega)) _) | (with_reducible refine Below.alloc ?_ (by first | omega | (simp; done) | (simp; omega)) _)))
        have Z5 : v5.heap[B2]? = some (.cells #[.int .u64 t, .int .i64 k, .int .u32 f, .int .u32 i, .int .u64 n, .int .i64 c] 64 (0, 0)) := by
          rw [hv5]
          (repeat' (first | (with_reducible exact HZ3.out) | (with_reducible refine blk_drew ?_) | (with_reducible apply put6_0) | (with_reducible apply put6_1) | (with_reducible apply put6_2) | (with_reducible apply put6_3) | (with_reducible apply put6_4) | (with_reducible apply put6_5)))
        clear z0 z1 z2 z3 z4 z5 zf0 zf1 zf2 zf3 zf4 zf5 x0 x1 x2 x3 x4 x5
        obtain ⟨y0, y1, y2, y3, y4, y5, -⟩ := at6 Z5
        refine bodyPost_ret (v := .tuple #[.agg #[.int .u64 t, .int .i64 k, .int .u32 f, .int .u32 i, .int .u64 n, .int .i64 c], .bool (decide (Rec.mk t k f i n c).rt)]) (by simp [results, Try.results63, go_sem, y0, y1, y2, y3, y4, y5]) rfl ⟨rfl, XB5⟩
  · rw [if_neg hC] at OA
    have hng : ¬ good s 0 := fun g => hC (good_sealed s hs g)
    rw [decide_eq_false hng]
    have HN := Lib.hid hng
    clear hC hng
    go_enter Try.func63, Try.ntmps63
    go_wp2_with fail
    refine (OA.out _).mono ?_
    rintro e w1 ⟨rfl, h1⟩
    have X2 := blk_call h1 (heap_alloc_new _ _)
    have HB1 := bel_onto ((Below.refl w.heap.size w).alloc (Nat.le_refl _) _) h1 (by simp)
    obtain ⟨z0, z1, z2, z3, z4, z5, zf0, zf1, zf2, zf3, zf4, zf5⟩ := at6 X2
    have HX := Lib.hid X2
    have HBx := Lib.hid HB1
    clear X2 HB1 h1 OA
    go_wp2
    (try simp only [Exit.inBlock, Exit.then])
    refine bp_gen ?_
    intro v5 hv5
    have XB5 : Below w.heap.size w v5 := by
      have := HBx.out.size
      rw [hv5]
      (repeat' (first | (with_reducible exact HBx.out) | (with_reducible refine below_drewN _ ?_) | (with_reducible refine Below.drew ?_) | (with_reducible refine Below.setCell ?_ (by first | omega | (simp; done) | (simp; omega)) _) | (with_reducible refine Below.alloc ?_ (by first | omega | (simp; done) | (simp; omega)) _)))
    have Z5 : v5.heap[w.heap.size]? = some (.cells #[.int .u64 0, .int .i64 0, .int .u32 0, .int .u32 0, .int .u64 0, .int .i64 0] 64 (0, 0)) := by
      rw [hv5]
      (repeat' (first | (with_reducible exact HX.out) | (with_reducible refine blk_drew ?_) | (with_reducible apply put6_0) | (with_reducible apply put6_1) | (with_reducible apply put6_2) | (with_reducible apply put6_3) | (with_reducible apply put6_4) | (with_reducible apply put6_5)))
    obtain ⟨y0, y1, y2, y3, y4, y5, -⟩ := at6 Z5
    refine bodyPost_ret (v := .tuple #[.agg #[.int .u64 0, .int .i64 0, .int .u32 0, .int .u32 0, .int .u64 0, .int .i64 0], .bool false]) (by simp [results, Try.results63, go_sem, y0, y1, y2, y3, y4, y5]) rfl ⟨Rec.nil, rfl, fun g => absurd g HN.out, XB5⟩
end Go.Proofs.Ytapjebhdgcpdjaa
