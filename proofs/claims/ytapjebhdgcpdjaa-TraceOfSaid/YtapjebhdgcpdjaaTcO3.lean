/-
  The records of operations and replies, by the document's answer for layer 39. What lay below the heap's end stands.
-/
import Derived.Test.YtapjebhdgcpdjaaTcO2
import Derived.Deep.AppendLies
namespace Go.Proofs.Ytapjebhdgcpdjaa
set_option linter.unusedVariables false
set_option linter.unusedSimpArgs false
open Go.ChangeShapes Go.WideShapes Go.ChangeAt Go.RowKit
attribute [-go_sem] run_index_string binOp_string_eql binOp_string_neq run_string_add_if run_slice_string_from_if run_slice_string_to_if
attribute [local go_sem] index_bt add_fits slice_from slice_to eql_str neq_str alloc_drewN setCell_drewN

set_option maxRecDepth 100000 in
set_option maxHeartbeats 4000000 in
theorem rof_at (b1 off1 c1 b2 off2 c2 : Nat) (X : List Opn) (L : List Rep27) (m : Nat) (hm : m = min L.length X.length) (hX : X.length ≤ 1000) (hL : L.length ≤ 1000)
    (ox : ∀ x ∈ X, x.ok) (ol : ∀ x ∈ L, x.ok) (w : World) (hb1 : b1 < w.heap.size) (hb2 : b2 < w.heap.size) (h1 : XC w b1 off1 X) (h2 : LC w b2 off2 L) :
    Calls Try.prog 40 #[.slice (some ⟨b1, off1, none⟩) X.length c1, .slice (some ⟨b2, off2, none⟩) L.length c2] w fun e w' => ∃ v, e = .returned v ∧ RRow w w' v (ofl39 X L m) ∧ Below w.heap.size w w' := by
  obtain ⟨i0, hi, hz0, hz1, hz2⟩ := info_parts infoRc
  have H1 := Lib.hid h1; have H2 := Lib.hid h2; have OX := Lib.hid ox; have OL := Lib.hid ol
  have HM := Lib.hid hm
  have hmL : m ≤ L.length := by omega
  have hmX : m ≤ X.length := by omega
  clear h1 h2 ox ol hm
  go_enter Try.func40, Try.ntmps40
  go_wp2
  go_loopw [5, 6] (fun x z wr => ∃ (v : Value) (j : Nat), v = x ∧ j ≤ m ∧ z = .int .i64 j ∧ RRow w wr v (ofl39 X L j) ∧ Below w.heap.size w wr) (fun _ z _ => m - (intOf z).toNat)
  case atStart => exact ⟨_, 0, rfl, Nat.zero_le _, rfl, World.ownsRow_nil _ _ _ _, Below.refl _ _⟩
  case round =>
    obtain ⟨v, j, rfl, hj, rfl, ho, hbw⟩ := hrel
    have hsize := hbw.size
    by_cases hlt : j < m
    · obtain ⟨c0, c1_, c2_, c3, c4, -⟩ := H2.out j (by omega)
      have LK : Hid (∀ V, Below w.heap.size w V → V.cell? ⟨b2, off2 + j * 42, none⟩ = some (.int .i64 (L.getD j Rep27.nil).k) ∧ V.cell? ⟨b2, off2 + j * 42 + 1, none⟩ = some (.int .i64 (L.getD j Rep27.nil).c) ∧ V.cell? ⟨b2, off2 + j * 42 + 2, none⟩ = some (.int .u32 (L.getD j Rep27.nil).fl) ∧ V.cell? ⟨b2, off2 + j * 42 + 3, none⟩ = some (.int .u32 (L.getD j Rep27.nil).nr) ∧ V.cell? ⟨b2, off2 + j * 42 + 4, none⟩ = some (.int .u64 (L.getD j Rep27.nil).ln)) := Lib.hid fun V h =>
        ⟨(h.cell (p := ⟨b2, off2 + j * 42, none⟩) hb2).trans c0, (h.cell (p := ⟨b2, off2 + j * 42 + 1, none⟩) hb2).trans c1_, (h.cell (p := ⟨b2, off2 + j * 42 + 2, none⟩) hb2).trans c2_, (h.cell (p := ⟨b2, off2 + j * 42 + 3, none⟩) hb2).trans c3, (h.cell (p := ⟨b2, off2 + j * 42 + 4, none⟩) hb2).trans c4⟩
      obtain ⟨tn0, tn1⟩ := tk39_bd X j OX.out
      have hl := OL.out _ (getD_mem_rep (show j < L.length by omega))
      have OS := Lib.hid (ofl_snoc X L j)
      have HLN := ofl_len X L j
      unfold of39 at OS
      obtain ⟨y, hye⟩ : ∃ y, L.getD j Rep27.nil = y := ⟨_, rfl⟩
      rw [hye] at hl OS LK
      obtain ⟨Q, hQ⟩ : ∃ Q, ofl39 X L j = Q := ⟨_, rfl⟩
      rw [hQ] at ho OS HLN
      have HO := Lib.hid ho; have HB := Lib.hid hbw
      have hj2 : (j : Int) < (L.length : Int) := by omega
      have hj3 : (j : Int) < (X.length : Int) := by omega
      clear hye hQ ho hbw c0 c1_ c2_ c3 c4
      obtain ⟨xk, xc, xf, xi, xn⟩ := y
      obtain ⟨⟨k0, k1⟩, ⟨e0, e1⟩, ⟨f0, f1⟩, ⟨g0, g1⟩, l0, l1⟩ := hl
      simp only at LK OS k0 k1 e0 e1 f0 f1 g0 g1 l0 l1
      go_wp2
      go_loopw [7, 8] (fun x z wi => ∃ i : Nat, i ≤ j ∧ x = .int .u64 (tk39 X i) ∧ z = .int .i64 i ∧ Below wr.heap.size wr wi) (fun _ z _ => j - (intOf z).toNat)
      case atStart => exact ⟨0, Nat.zero_le _, rfl, rfl, Below.refl _ _⟩
      case round =>
        obtain ⟨i, hij, rfl, rfl, hbi⟩ := hrel
        have hsi := hbi.size
        have HBI : Hid (Below w.heap.size w _) := Lib.hid (HB.out.trans (hbi.mono hsize))
        by_cases hlt2 : i < j
        · obtain ⟨q0, q4⟩ : _ ∧ _ := ⟨(HBI.out.cell (p := ⟨b1, off1 + i * 5, none⟩) hb1).trans (H1.out i (by omega)).1, (HBI.out.cell (p := ⟨b1, off1 + i * 5 + 4, none⟩) hb1).trans (H1.out i (by omega)).2⟩
          have hx := OX.out _ (getD_mem_op (show i < X.length by omega))
          have TS := Lib.hid (tk39_succ X i (by omega))
          obtain ⟨r0, r1⟩ := tk39_bd X i OX.out
          obtain ⟨tn, htn⟩ : ∃ tn, tk39 X i = tn := ⟨_, rfl⟩
          rw [htn] at r0 r1 TS ⊢
          obtain ⟨x, hxe⟩ : ∃ x, X.getD i Opn.nil = x := ⟨_, rfl⟩
          rw [hxe] at hx TS q0 q4
          obtain ⟨ok, of_, oi, on, ot⟩ := x
          obtain ⟨-, -, -, -, ot0, ot1⟩ := hx
          simp only at q0 q4 ot0 ot1
          have hi1 : (i : Int) < (j : Int) := by omega
          have hi3 : (i : Int) < (X.length : Int) := by omega
          have HBi := Lib.hid hbi
          clear htn hxe hbi
          by_cases h3 : ok = 3
          · subst h3
            have ES : Hid (tk39 X (i + 1) = cap (tn + ot)) := Lib.hid (by rw [TS.out]; rfl)
            go_wp2_with fail
            refine (add_ref tn ot r0 r1 ot0 ot1 _).mono ?_
            rintro e w7 ⟨rfl, h7⟩
            go_wp2
            go_roundw
            case rel => exact ⟨i + 1, by omega, by rw [ES.out], by go_num, HBi.out.trans (h7.mono hsi)⟩
            case measure => simp [intOf] <;> omega
          · have g3 : (ok == 3) = false := by simp [h3]
            have ES : Hid (tk39 X (i + 1) = tn) := Lib.hid (by rw [TS.out]; unfold tkstep; rw [if_neg h3])
            clear h3
            go_wp2
            go_roundw
            case rel => exact ⟨i + 1, by omega, by rw [ES.out], by go_num, HBi.out⟩
            case measure => simp [intOf] <;> omega
        · have ei : i = j := by omega
          subst ei
          obtain ⟨tn, htn⟩ : ∃ tn, tk39 X i = tn := ⟨_, rfl⟩
          rw [htn] at tn0 tn1 OS ⊢
          obtain ⟨c0, c1_, c2_, c3, c4⟩ := LK.out _ HBI.out
          have hin : ¬ ((i : Int) < (i : Int)) := by omega
          have hoI : World.ownsRow _ w.heap.size 64 6 v Q.length (Q.flatMap Rec.cells) :=
            World.ownsRow.kept HO.out (row := some wr.heap.size) ⟨hbi.os, hbi.tape, hbi.output, hbi.size, fun k hk _ => hbi.block k hk⟩ (Or.inr (fun h => by
              have := World.ownsRow.lt HO.out _ h
              omega))
          have HOI := Lib.hid hoI
          clear htn hbi hoI
          go_upto_region 12 with (fail)
          refine wp_genc ?_
          intro v1 hv1
          have X1 : Below wr.heap.size wr v1 := by
            rw [hv1]
            (repeat' (first | (with_reducible exact Below.refl _ _) | (with_reducible refine below_drewN _ ?_) | (with_reducible refine Below.drew ?_) | (with_reducible refine Below.alloc ?_ (by first | omega | (simp; done) | (simp; omega)) _)))
          obtain ⟨B9, hB9, X9⟩ : ∃ B9, B9 = wr.heap.size ∧ v1.heap[B9]? = some (.cells #[.int .u32 xf, .int .u32 xi, .int .u64 xn] 120 (0, 0)) := ⟨_, rfl, by
            rw [hv1]
            (repeat' (first | (with_reducible exact heap_alloc_new _ _) | (with_reducible refine blk_drew ?_)))⟩
          rw [← hB9]
          have hs1 := X1.size
          have HB1 : Hid (Below w.heap.size w v1) := Lib.hid (HBI.out.trans (X1.mono HBI.out.size))
          have ho1 : v1.ownsRow w.heap.size 64 6 v Q.length (Q.flatMap Rec.cells) :=
            World.ownsRow.kept HOI.out (row := some v1.heap.size) ⟨X1.os, X1.tape, X1.output, X1.size, fun k hk _ => X1.block k hk⟩ (Or.inr (fun h => by
              have := World.ownsRow.lt HOI.out _ h
              omega))
          have HOA := Lib.hid ho1
          have H9 := Lib.hid X9
          have SC : Hid (∀ V, Below v1.heap.size v1 V → V.cell? ⟨b2, off2 + i * 42, none⟩ = some (.int .i64 xk) ∧ V.cell? ⟨b2, off2 + i * 42 + 1, none⟩ = some (.int .i64 xc) ∧ V.cell? ⟨B9, 0, none⟩ = some (.int .u32 xf) ∧ V.cell? ⟨B9, 1, none⟩ = some (.int .u32 xi) ∧ V.cell? ⟨B9, 2, none⟩ = some (.int .u64 xn)) := Lib.hid fun V h => by
            obtain ⟨a0, a1, -⟩ := LK.out V (HB1.out.trans (h.mono HB1.out.size))
            obtain ⟨y0, y1, y2, -⟩ := at3 (blk_call h H9.out)
            exact ⟨a0, a1, y0, y1, y2⟩
          have LTV := Lib.hid (fun g h => World.ownsRow.lt HOI.out g h)
          have h9le : wr.heap.size ≤ B9 := by omega
          have SG : Hid (∀ V0 V, Below v1.heap.size v1 V0 → V0.grownBy V v.ownBlock → V.cell? ⟨b2, off2 + i * 42, none⟩ = some (.int .i64 xk) ∧ V.cell? ⟨b2, off2 + i * 42 + 1, none⟩ = some (.int .i64 xc) ∧ V.cell? ⟨B9, 0, none⟩ = some (.int .u32 xf) ∧ V.cell? ⟨B9, 1, none⟩ = some (.int .u32 xi) ∧ V.cell? ⟨B9, 2, none⟩ = some (.int .u64 xn)) := Lib.hid fun V0 V h hg => by
            have hz := h.size
            have hz1 := HB1.out.size
            obtain ⟨a0, a1, -⟩ := LK.out V ((HB1.out.trans (h.mono hz1)).grown hg (by omega) (fun g hg => (LTV.out g hg).1))
            have hb9 := lt_blk H9.out
            have hne : ∀ x : Nat, V.cell? ⟨B9, x, none⟩ = V0.cell? ⟨B9, x, none⟩ := fun x => hg.cell_far (⟨B9, x, none⟩ : Addr) (by show B9 < _; omega) (fun hh => by have := (LTV.out _ hh.symm).2; have h2 : B9 < wr.heap.size := this; omega)
            obtain ⟨-, -, y0, y1, y2⟩ := SC.out V0 h
            exact ⟨a0, a1, (hne 0).trans y0, (hne 1).trans y1, (hne 2).trans y2⟩
          clear hv1 X1 X9 ho1 c0 c1_ c2_ c3 c4 hB9
          obtain ⟨c0, c1_, p0, p1, p2⟩ := SC.out _ (Below.refl _ _)
          have OC := Lib.hid (show ∀ u ∈ ([.int .u64 tn, .int .i64 xk, .int .u32 xf, .int .u32 xi, .int .u64 xn, .int .i64 xc] : List Value), u.oneCell' = true from fun x hx => by simp at hx; rcases hx with rfl | rfl | rfl | rfl | rfl | rfl <;> rfl)
          have m63 : Q.length + 1 ≤ maxLen := by unfold maxLen; omega
          have mby : (Q.length + 1) * 40 ≤ 140737488355328 := by omega
          go_region_held3 (fun V => V.cell? ⟨b2, off2 + i * 42, none⟩ = some (.int .i64 xk) ∧ V.cell? ⟨b2, off2 + i * 42 + 1, none⟩ = some (.int .i64 xc) ∧ V.cell? ⟨B9, 0, none⟩ = some (.int .u32 xf) ∧ V.cell? ⟨B9, 1, none⟩ = some (.int .u32 xi) ∧ V.cell? ⟨B9, 2, none⟩ = some (.int .u64 xn))
            ((first | exact ⟨c0, c1_, p0, p1, p2⟩ | exact SG.out _ _ (by (repeat' (first | (with_reducible exact Below.refl _ _) | (with_reducible refine below_drewN _ ?_) | (with_reducible refine Below.drew ?_) | (with_reducible refine Below.alloc ?_ (by first | omega | (simp; done) | (simp; omega)) _)))) hgrow9 | exact SC.out _ (by (repeat' (first | (with_reducible exact Below.refl _ _) | (with_reducible refine below_drewN _ ?_) | (with_reducible refine Below.drew ?_) | (with_reducible refine Below.alloc ?_ (by first | omega | (simp; done) | (simp; omega)) _))))))
            (first
              | (refine step_append_lies _ (by rfl) _ _ 61 (by rfl) w.heap.size 64 i0 (.agg #[.int .u64 0, .int .i64 0, .int .u32 0, .int .u32 0, .int .u64 0, .int .i64 0]) 6 40 Try.underlying61 hi hz0 hz1 hz2 (by rfl) (by decide) v Q.length (Q.flatMap Rec.cells) (by rfl) (by (repeat' (first | (with_reducible exact HOA.out) | (with_reducible refine World.ownsRow.alloc ?_ _) | (with_reducible refine World.ownsRow.drew ?_)))) _ 1 1 [.int .u64 tn, .int .i64 xk, .int .u32 xf, .int .u32 xi, .int .u64 xn, .int .i64 xc] (by rfl) (by rfl) (by exact World.news_of_block (cs := #[.int .u64 tn, .int .i64 xk, .int .u32 xf, .int .u32 xi, .int .u64 xn, .int .i64 xc]) (by (repeat' (first | (with_reducible exact heap_alloc_new _ _) | (with_reducible exact blk_new (by first | (simp; done) | omega)) | (with_reducible refine blk_drew ?_))))) OC.out (by decide) m63 mby (by have := HB1.out.size; first | omega | (simp; omega)) _ rfl ?_; intro g9 cap9 W9 hown9 hgrow9 hat9 hlt9)
              | fail)
          go_wp2
          go_roundw
          case rel =>
            refine ⟨_, i + 1, rfl, by omega, by go_num, by rw [OS.out]; refine RRow.snoc ?_; rw [HLN] at hown9 ⊢; exact hown9, ?_⟩
            refine Below.grown ?_ hgrow9 (by have := HB1.out.size; first | omega | (simp; omega)) (fun g hg => (World.ownsRow.lt HOA.out g hg).1)
            (repeat' (first | (with_reducible exact HB1.out) | (with_reducible refine below_drewN _ ?_) | (with_reducible refine Below.drew ?_) | (with_reducible refine Below.alloc ?_ (by have := HB1.out.size; first | omega | (simp; done) | (simp; omega)) _)))
          case measure => simp [intOf] <;> omega
    · have ej : j = m := by omega
      subst ej
      have HO := Lib.hid ho; have HB := Lib.hid hbw
      clear ho hbw
      by_cases hc : j < L.length
      · have g1 : (j : Int) < (L.length : Int) := by omega
        have g2 : ¬ (j : Int) < (X.length : Int) := by have := HM.out; omega
        go_wp2
        go_ret
        exact ⟨v, rfl, HO.out, HB.out⟩
      · have g1 : ¬ (j : Int) < (L.length : Int) := by omega
        go_wp2
        go_ret
        exact ⟨v, rfl, HO.out, HB.out⟩
end Go.Proofs.Ytapjebhdgcpdjaa
