/-
  The example of layer 39. What lay below the heap's end stands.
-/
import Derived.Test.YtapjebhdgcpdjaaTc7
import Derived.Test.YtapjebhdgcpdjaaTc9
import Derived.Laws.StructEq
namespace Go.Proofs.Ytapjebhdgcpdjaa
set_option linter.unusedVariables false
set_option linter.unusedSimpArgs false
open Go.ChangeShapes Go.WideShapes Go.ChangeAt Go.RowKit
attribute [-go_sem] run_index_string binOp_string_eql binOp_string_neq run_string_add_if run_slice_string_from_if run_slice_string_to_if
attribute [local go_sem] index_bt add_fits slice_from slice_to eql_str neq_str alloc_drewN setCell_drewN

def x39 : Rec := ⟨7, 2, 1, 2, 3, 0⟩
theorem x39_ok : x39.ok ∧ x39.rt := by unfold Rec.ok Rec.rt x39; decide
theorem two39 : ∀ x ∈ [x39, x39], x.ok := fun x h => by
  simp only [List.mem_cons, List.not_mem_nil, or_false] at h
  rcases h with rfl | rfl <;> exact x39_ok.1
theorem allR_two : allR39 [x39, x39] := fun x h => by
  simp only [List.mem_cons, List.not_mem_nil, or_false] at h
  rcases h with rfl | rfl <;> exact x39_ok.2
theorem allRt_two : allRt [x39, x39] := fun x h => ⟨two39 x h, allR_two x h⟩
theorem rlit39 {W : World} {g n : Nat} {cs : Array Value} {l : List Rec} (hg : W.heap.size = g) (hn : l.length = n) (hm : n ≤ maxLen) (hc : cs.toList = l.flatMap Rec.cells) (hl : cs.size = n * 6) :
    SRc (W.alloc (.cells cs 64)) (.slice (some ⟨g, 0, none⟩) n n) l := by
  subst hn hg
  have := World.ownsRow_lit (e := 64) (size := 6) (base := W.heap.size) W cs l.length (Nat.le_refl _) hm hl
  rw [hc] at this
  exact SRc.of_own this
set_option maxRecDepth 100000 in
set_option maxHeartbeats 4000000 in
theorem lives39 (w : World) : Calls Try.prog 28 #[] w fun e w' => e = .returned (.bool true) ∧ Below w.heap.size w w' := by
  have hm : Try.prog.eqGuardType Try.prog.depth 64 = false := by kernel_rfl
  have PT := Lib.hid (fun (W : World) (v : Value) (h : SRc W v [x39, x39]) => tcPut [x39, x39] (by decide) two39 h #[.string (tput [x39, x39]), .int .i64 0] (fun _ => rfl) (fun h => absurd allR_two h))
  have LF := Lib.hid (fun (W : World) (v : Value) (h : SRc W v [x39, x39]) => tleft [x39, x39] (by decide) two39 h)
  have e1 : lsum [x39, x39] = (2, 6) := by decide
  rw [e1] at LF
  have z60 : (tput [x39, x39]).size = 60 := tput_size _
  have hcut := isrd_cut [x39, x39] allRt_two 59 (by decide)
  have zc := size_ext (tput [x39, x39]) 0 59 (by omega)
  have RD := Lib.hid (fun (W : World) => tcread ((tput [x39, x39]).extract 0 59) (by omega) W)
  obtain ⟨T, hT⟩ : ∃ T, tput [x39, x39] = T := ⟨_, rfl⟩
  rw [hT] at PT RD z60 hcut zc
  clear hT e1 zc
  have hin : InS T 59 := ⟨by omega⟩
  have HCUT := Lib.hid hcut
  clear hcut
  go_enter Try.func28, Try.ntmps28
  go_wp2_with fail
  refine (PT.out _ _ (rlit39 (by simp) rfl (show 2 ≤ maxLen by unfold maxLen; decide) rfl rfl)).mono ?_
  rintro e w1 ⟨rfl, h1⟩
  have X1 := blk_call h1 (blk_old (heap_alloc_new _ _))
  have HX1 := Lib.hid X1
  have HB1 := Lib.hid (bel_onto (((Below.refl w.heap.size w).alloc (Nat.le_refl _) _).alloc (by simp) _) h1 (by simp; omega))
  have hs1 := HB1.out.size
  have hl1 := lt_blk HX1.out
  clear X1 h1
  go_wp2_with fail
  refine (RD.out _).mono ?_
  rintro e w2 ⟨v, k, rfl, hk, ho, h2⟩
  have ek : k = 1 := isrd_one hk HCUT.out.1
  subst ek
  have hrl : rl (T.extract 0 59) 1 = [x39] := HCUT.out.2
  unfold RRow at ho
  rw [hrl] at ho
  have HX2 := Lib.hid (blk_call h2 HX1.out)
  have HB2 := Lib.hid (bel_onto HB1.out h2 hs1)
  rcases own_recs ho with ⟨_, h0⟩ | ⟨g, cap_, rfl, hg, hgc, hc⟩
  · cases h0
  have hg1 : w1.heap.size ≤ g := (World.ownsRow.lt ho g rfl).1
  obtain ⟨r0, r1, r2, r3, r4, r5⟩ := hc 0 (by decide)
  have R2 : Hid (∀ V, Below w2.heap.size w2 V → V.cell? ⟨g, 0, none⟩ = some (.int .u64 7) ∧ V.cell? ⟨g, 1, none⟩ = some (.int .i64 2) ∧ V.cell? ⟨g, 2, none⟩ = some (.int .u32 1) ∧ V.cell? ⟨g, 3, none⟩ = some (.int .u32 2) ∧ V.cell? ⟨g, 4, none⟩ = some (.int .u64 3) ∧ V.cell? ⟨g, 5, none⟩ = some (.int .i64 0)) := Lib.hid fun V h =>
    ⟨(h.cell (p := ⟨g, 0, none⟩) hg).trans r0, (h.cell (p := ⟨g, 1, none⟩) hg).trans r1, (h.cell (p := ⟨g, 2, none⟩) hg).trans r2, (h.cell (p := ⟨g, 3, none⟩) hg).trans r3, (h.cell (p := ⟨g, 4, none⟩) hg).trans r4, (h.cell (p := ⟨g, 5, none⟩) hg).trans r5⟩
  clear r0 r1 r2 r3 r4 r5 hc ho hrl hk h2 hgc RD
  obtain ⟨p0, p1, p2, p3, p4, p5, -⟩ := at6 HX2.out
  have hl2 := lt_blk HX2.out
  have hs2 := HB2.out.size
  go_wp2_with fail
  refine (LF.out _ _ (rlit39 (by simp) rfl (show 2 ≤ maxLen by unfold maxLen; decide) rfl rfl)).mono ?_
  rintro e w3 ⟨rfl, h3⟩
  have B3 : Below w2.heap.size w2 w3 := bel_onto ((Below.refl w2.heap.size w2).alloc (Nat.le_refl _) _) h3 (by simp)
  have HB3 := Lib.hid (HB2.out.trans (B3.mono hs2))
  clear p0 p1 p2 p3 p4 p5
  obtain ⟨p0, p1, p2, p3, p4, p5, -⟩ := at6 (blk_call B3 HX2.out)
  obtain ⟨q0, q1, q2, q3, q4, q5⟩ := R2.out _ B3
  clear h3 B3
  go_wp2
  go_quiet (fail)
  go_wp2
  go_ret
  exact ⟨rfl, below_drewN _ HB3.out⟩
end Go.Proofs.Ytapjebhdgcpdjaa
