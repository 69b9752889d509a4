/-
  The fields that a string begins with, one kind after the other, by the document's answer for layer 4; for at most two hundred kinds. What lay below the heap's end stands.
-/
import Derived.Test.YtdlcipbehalfhaaWireT1
import Derived.Deep.RegionHeld3
namespace Go.Proofs.Ytdlcipbehalfhaa
set_option linter.unusedVariables false
set_option linter.unusedSimpArgs false
open Go.ChangeShapes Go.WideShapes Go.ChangeAt Go.RowKit
attribute [-go_sem] run_index_string binOp_string_eql binOp_string_neq run_string_add_if run_slice_string_from_if run_slice_string_to_if
attribute [local go_sem] index_bt add_fits slice_from slice_to eql_str neq_str alloc_drewN setCell_drewN

set_option maxRecDepth 100000 in
set_option maxHeartbeats 1000000 in
theorem refTake_at (s : ByteArray) (b off c : Nat) (ks : List Int) (hs : s.size ≤ 100000000) (hn : ks.length ≤ 200) (hok : ∀ x ∈ ks, -9223372036854775808 ≤ x ∧ x ≤ 9223372036854775807) (w : World) (hb : b < w.heap.size)
    (hc : ∀ i, i < ks.length → w.cell? ⟨b, off + i, none⟩ = some (.int .i64 (ks.getD i 0))) :
    Calls Try.prog 90 #[.string s, .slice (some ⟨b, off, none⟩) ks.length c] w fun e w' => ∃ v, e = .returned (.tuple #[v, .int .i64 ((tl s ks 0).2.1 : Nat), .int .i64 (tl s ks 0).2.2]) ∧
      w'.ownsRow w.heap.size 165 3 v (tl s ks 0).1.length ((tl s ks 0).1.flatMap Fd.cells) ∧ Below w.heap.size w w' := by
  obtain ⟨i0, hi, hz0, hz1, hz2⟩ := info_parts infoF
  have HC := Lib.hid hc; have HOK := Lib.hid hok
  clear hc hok
  obtain ⟨r, hr0⟩ : ∃ r, tl s ks 0 = r := ⟨_, rfl⟩
  have T0 : Hid (ahead [] (tl s (ks.drop 0) 0) = r) := Lib.hid ((tl_ahead s ks 0).trans hr0)
  rw [hr0]
  clear hr0
  go_enter Try.func90, Try.ntmps90
  go_wp2
  go_loopw [7, 8, 9] (fun x y z wr => ∃ (v : Value) (k d : Nat) (fl : List Fd), v = x ∧ k ≤ ks.length ∧ z = .int .i64 k ∧ y = .int .i64 d ∧ d ≤ s.size ∧ fl.length = k ∧ ahead fl (tl s (ks.drop k) d) = r ∧ wr.ownsRow w.heap.size 165 3 v fl.length (fl.flatMap Fd.cells) ∧ Below w.heap.size w wr) (fun _ _ z _ => ks.length - (intOf z).toNat)
  case atStart => exact ⟨_, 0, 0, [], rfl, Nat.zero_le _, rfl, rfl, Nat.zero_le _, rfl, T0.out, World.ownsRow_nil _ _ _ _, Below.refl _ _⟩
  case round =>
    obtain ⟨v, k, d, fl, rfl, hk, rfl, rfl, hd, hfl, hr, ho, hbw⟩ := hrel
    have hsize := hbw.size
    by_cases hlt : k < ks.length
    · have ck := (hbw.cell (p := ⟨b, off + k, none⟩) hb).trans (HC.out k hlt)
      obtain ⟨q0, q1⟩ := HOK.out (ks.getD k 0) (getD_mem ks k hlt)
      have hdrop : ks.drop k = ks.getD k 0 :: ks.drop (k + 1) := by
        rw [List.drop_eq_getElem_cons hlt, List.getD_eq_getElem?_getD, List.getElem?_eq_getElem hlt]; rfl
      rw [hdrop] at hr
      have hin : InS s (d : Int) := ⟨by omega⟩
      have hxs : (s.extract d s.size).size = s.size - d := size_ext _ _ _ (Nat.le_refl _)
      have TS := Lib.hid (tl_step s (ks.drop (k + 1)) (ks.getD k 0) d fl)
      have HR := Lib.hid hr
      have TLE := Lib.hid (tk_le (s.extract d s.size) (ks.getD k 0))
      have TA := Lib.hid (fun w => read_any (s.extract d s.size) (ks.getD k 0) (by omega) q0 q1 w)
      have KC : Hid (∀ v, Below w.heap.size w v → v.cell? ⟨b, off + k, none⟩ = some (.int .i64 (ks.getD k 0))) := Lib.hid fun v hv => (hv.cell (p := ⟨b, off + k, none⟩) hb).trans (HC.out k hlt)
      have FC : Hid (∀ v, Below (wr.alloc (.cells #[.int .i64 0, .int .u64 0, .string ⟨#[]⟩] 165)).drew.heap.size (wr.alloc (.cells #[.int .i64 0, .int .u64 0, .string ⟨#[]⟩] 165)).drew v →
          v.cell? ⟨wr.heap.size, 0, none⟩ = some (.int .i64 0) ∧ v.cell? ⟨wr.heap.size, 1, none⟩ = some (.int .u64 0) ∧ v.cell? ⟨wr.heap.size, 2, none⟩ = some (.string ⟨#[]⟩) ∧ v.frozen? ⟨wr.heap.size, 0, none⟩ = false ∧ v.frozen? ⟨wr.heap.size, 1, none⟩ = false ∧ v.frozen? ⟨wr.heap.size, 2, none⟩ = false) := Lib.hid fun v hv => by
        refine ⟨(hv.cell (p := ⟨wr.heap.size, 0, none⟩) (by simp)).trans ?_, (hv.cell (p := ⟨wr.heap.size, 1, none⟩) (by simp)).trans ?_, (hv.cell (p := ⟨wr.heap.size, 2, none⟩) (by simp)).trans ?_, (hv.frozen (p := ⟨wr.heap.size, 0, none⟩) (by simp)).trans ?_, (hv.frozen (p := ⟨wr.heap.size, 1, none⟩) (by simp)).trans ?_, (hv.frozen (p := ⟨wr.heap.size, 2, none⟩) (by simp)).trans ?_⟩ <;> simp [go_sem]
      have x0 : (0 : Int) ≤ (k : Int) := by omega
      have x1 : (k : Int) < (ks.length : Int) := by omega
      have HBW := Lib.hid hbw; have HXS := Lib.hid hxs
      clear hr hdrop hbw hxs
      generalize ks.getD k 0 = q at *
      generalize tk (s.extract d s.size) q = t at *
      obtain ⟨⟨fk, fn, fz⟩, cnt, e⟩ := t
      unfold Fd.val at TA
      simp only at TA TS TLE
      have HO := Lib.hid ho; clear ho
      by_cases he : e = 0
      · subst he
        have H1 := Lib.hid (TS.out.2 rfl)
        have hd2 : d + cnt ≤ s.size := by have := TLE.out rfl; have := HXS.out; omega
        have hflat : Hid (fl.flatMap Fd.cells ++ [.int .i64 fk, .int .u64 fn, .string fz] = (fl ++ [Fd.mk fk fn fz]).flatMap Fd.cells) := Lib.hid (by
          rw [List.flatMap_append]; rfl)
        have TA1 := Lib.hid (TA.out wr.drew)
        have TB1 := Lib.hid ((TA.out (wr.alloc (.cells #[.int .i64 0, .int .u64 0, .string ⟨#[]⟩] 165)).drew).mono (fun e w' h => (⟨h.1, h.2, FC.out w' h.2⟩ : _ ∧ _ ∧ _)))
        go_wp2
        go_region_held3 (fun x => x.cell? ⟨b, off + k, none⟩ = some (.int .i64 q))
          ((first
            | assumption
            | exact KC.out _ (((HBW.out.drew.trans (h1.mono hsize)).alloc (Nat.le_trans hsize h1.size) _).setCell (Nat.le_trans hsize h1.size) _)
            | exact KC.out _ ((HBW.out.drew.trans (h1.mono hsize)).alloc (Nat.le_trans hsize h1.size) _)
            | exact KC.out _ (HBW.out.drew.trans (h1.mono hsize))
            | exact KC.out _ HBW.out.drew
            | exact KC.out _ (HBW.out.alloc hsize _).drew
            | exact KC.out _ (((((HBW.out.alloc hsize _).drew.trans (h1.mono (Nat.le_trans hsize (by simp)))).setCell hsize _).setCell hsize _).setCell hsize _)
            | exact KC.out _ ((HBW.out.alloc hsize _).drew.trans (h1.mono (Nat.le_trans hsize (by simp))))
            | fail))
          (first
            | (go_at_call 143; refine TA1.out.mono ?_; rintro e w1 ⟨rfl, h1⟩)
            | (go_at_call 143; refine TB1.out.mono ?_; rintro e w1 ⟨rfl, h1, g0, g1, g2, g3, g4, g5⟩)
            | fail)
        · -- the call first
          have hs1 : wr.heap.size ≤ w1.heap.size := h1.size
          have ho1 : w1.ownsRow w.heap.size 165 3 v fl.length (fl.flatMap Fd.cells) :=
            HO.out.kept (row := some w1.heap.size) ⟨h1.os, h1.tape, h1.output, h1.size, fun k hk _ => h1.block k hk⟩ (Or.inr (fun h => by
              have := World.ownsRow.lt HO.out _ h
              omega))
          have HB1 : Hid (Below w.heap.size w w1) := Lib.hid (HBW.out.drew.trans (h1.mono hsize))
          go_wp2_with (at_builtin; refine wpList_append_own _ rfl _ _ 161 rfl w.heap.size 165 i0 (.agg #[.int .i64 0, .int .u64 0, .string ⟨#[]⟩]) 3 32 Try.underlying161 hi hz0 hz1 hz2 rfl (by decide) _ _ _ rfl ((ho1.alloc _).alloc _) ⟨w1.heap.size + 1, 0, none⟩ 1 1 [.int .i64 fk, .int .u64 fn, .string fz] rfl rfl (cells_new2 _ _ #[.int .i64 fk, .int .u64 fn, .string fz] _) (fun x hx => by simp at hx; rcases hx with rfl | rfl | rfl <;> rfl) (by unfold maxLen; omega) (by omega) (by simp; omega) ?_; intro v' w3 hown' hgrow3 hnil3; clear hnil3)
          go_roundw
          case rel =>
            refine ⟨v', k + 1, d + cnt, fl ++ [Fd.mk fk fn fz], rfl, by omega, by go_num, by go_num, hd2, by rw [List.length_append, hfl]; rfl, ?_, ?_, ?_⟩
            · rw [← H1.out]; exact HR.out
            · rw [← hflat.out, List.length_append]
              exact hown'
            · exact ((HB1.out.alloc (by omega) _).alloc (by simp; omega) _).grown hgrow3 (by simp; omega) (fun g hg => (World.ownsRow.lt HO.out g hg).1)
          case measure => simp [intOf] <;> omega
        · -- the variable first
          have hs1 : wr.heap.size < w1.heap.size := by
            have h := h1.size
            have e : (wr.alloc (.cells #[.int .i64 0, .int .u64 0, .string ⟨#[]⟩] 165)).drew.heap.size = wr.heap.size + 1 := by
              show (wr.alloc _).heap.size = _
              simp
            omega
          have hB1 : Below w.heap.size w w1 := (HBW.out.alloc hsize _).drew.trans (h1.mono (Nat.le_trans hsize (by show wr.heap.size ≤ (wr.alloc _).heap.size; simp)))
          have hno : v.ownBlock ≠ some wr.heap.size := fun h => by have := World.ownsRow.lt HO.out _ h; omega
          have hoA : (wr.alloc (.cells #[.int .i64 0, .int .u64 0, .string ⟨#[]⟩] 165)).drew.ownsRow w.heap.size 165 3 v fl.length (fl.flatMap Fd.cells) := World.ownsRow.alloc HO.out _
          have ho1 : w1.ownsRow w.heap.size 165 3 v fl.length (fl.flatMap Fd.cells) :=
            hoA.kept (row := some w1.heap.size) ⟨h1.os, h1.tape, h1.output, h1.size, fun k hk _ => h1.block k hk⟩ (Or.inr (fun h => by
              have := World.ownsRow.lt HO.out _ h
              omega))
          have hg2 : w1.grownBy (((w1.setCell ⟨wr.heap.size, 0, none⟩ (.int .i64 fk)).setCell ⟨wr.heap.size, 1, none⟩ (.int .u64 fn)).setCell ⟨wr.heap.size, 2, none⟩ (.string fz)) (some wr.heap.size) :=
            ⟨rfl, rfl, rfl, by simp, fun k hk hne => by
              have hne : k ≠ wr.heap.size := fun h => hne (by rw [h])
              rw [Below.heap_setCell _ _ _ _ hne, Below.heap_setCell _ _ _ _ hne, Below.heap_setCell _ _ _ _ hne]⟩
          have ho2 := ho1.kept hg2 (Or.inr hno)
          have hB2 : Below w.heap.size w (((w1.setCell ⟨wr.heap.size, 0, none⟩ (.int .i64 fk)).setCell ⟨wr.heap.size, 1, none⟩ (.int .u64 fn)).setCell ⟨wr.heap.size, 2, none⟩ (.string fz)) := ((hB1.setCell hsize _).setCell hsize _).setCell hsize _
          have hc2 : (((w1.setCell ⟨wr.heap.size, 0, none⟩ (.int .i64 fk)).setCell ⟨wr.heap.size, 1, none⟩ (.int .u64 fn)).setCell ⟨wr.heap.size, 2, none⟩ (.string fz)).cell? ⟨wr.heap.size, 0, none⟩ = some (.int .i64 fk) ∧ (((w1.setCell ⟨wr.heap.size, 0, none⟩ (.int .i64 fk)).setCell ⟨wr.heap.size, 1, none⟩ (.int .u64 fn)).setCell ⟨wr.heap.size, 2, none⟩ (.string fz)).cell? ⟨wr.heap.size, 1, none⟩ = some (.int .u64 fn) ∧ (((w1.setCell ⟨wr.heap.size, 0, none⟩ (.int .i64 fk)).setCell ⟨wr.heap.size, 1, none⟩ (.int .u64 fn)).setCell ⟨wr.heap.size, 2, none⟩ (.string fz)).cell? ⟨wr.heap.size, 2, none⟩ = some (.string fz) := by
            refine ⟨?_, ?_, ?_⟩ <;> simp [go_sem, g0, g1, g2]
          have hs2 := hB2.size
          clear hB1 hoA ho1 hg2 hno
          generalize ((w1.setCell ⟨wr.heap.size, 0, none⟩ (.int .i64 fk)).setCell ⟨wr.heap.size, 1, none⟩ (.int .u64 fn)).setCell ⟨wr.heap.size, 2, none⟩ (.string fz) = W2 at *
          obtain ⟨d0, d1, d2⟩ := hc2
          go_wp2_with (at_builtin; refine wpList_append_own _ rfl _ _ 161 rfl w.heap.size 165 i0 (.agg #[.int .i64 0, .int .u64 0, .string ⟨#[]⟩]) 3 32 Try.underlying161 hi hz0 hz1 hz2 rfl (by decide) _ _ _ rfl (ho2.alloc _) ⟨W2.heap.size, 0, none⟩ 1 1 [.int .i64 fk, .int .u64 fn, .string fz] rfl rfl (cells_new _ #[.int .i64 fk, .int .u64 fn, .string fz] _) (fun x hx => by simp at hx; rcases hx with rfl | rfl | rfl <;> rfl) (by unfold maxLen; omega) (by omega) (by simp; omega) ?_; intro v' w3 hown' hgrow3 hnil3; clear hnil3)
          go_roundw
          case rel =>
            refine ⟨v', k + 1, d + cnt, fl ++ [Fd.mk fk fn fz], rfl, by omega, by go_num, by go_num, hd2, by rw [List.length_append, hfl]; rfl, ?_, ?_, ?_⟩
            · rw [← H1.out]; exact HR.out
            · rw [← hflat.out, List.length_append]
              exact hown'
            · exact (hB2.alloc (by omega) _).grown hgrow3 (by simp; omega) (fun g hg => (World.ownsRow.lt HO.out g hg).1)
          case measure => simp [intOf] <;> omega
      · have g : (e != 0) = true := by simp [he]
        have H1 : Hid (r = ([], 0, e)) := Lib.hid (HR.out.symm.trans (TS.out.1 he))
        clear he
        have TA1 := Lib.hid (TA.out wr.drew)
        have TB1 := Lib.hid ((TA.out (wr.alloc (.cells #[.int .i64 0, .int .u64 0, .string ⟨#[]⟩] 165)).drew).mono (fun e w' h => (⟨h.1, h.2, FC.out w' h.2⟩ : _ ∧ _ ∧ _)))
        go_wp2
        go_region_held3 (fun x => x.cell? ⟨b, off + k, none⟩ = some (.int .i64 q))
          ((first
            | assumption
            | exact KC.out _ (((HBW.out.drew.trans (h1.mono hsize)).alloc (Nat.le_trans hsize h1.size) _).setCell (Nat.le_trans hsize h1.size) _)
            | exact KC.out _ ((HBW.out.drew.trans (h1.mono hsize)).alloc (Nat.le_trans hsize h1.size) _)
            | exact KC.out _ (HBW.out.drew.trans (h1.mono hsize))
            | exact KC.out _ HBW.out.drew
            | exact KC.out _ (HBW.out.alloc hsize _).drew
            | exact KC.out _ (((((HBW.out.alloc hsize _).drew.trans (h1.mono (Nat.le_trans hsize (by simp)))).setCell hsize _).setCell hsize _).setCell hsize _)
            | exact KC.out _ ((HBW.out.alloc hsize _).drew.trans (h1.mono (Nat.le_trans hsize (by simp))))
            | fail))
          (first
            | (go_at_call 143; refine TA1.out.mono ?_; rintro e w1 ⟨rfl, h1⟩)
            | (go_at_call 143; refine TB1.out.mono ?_; rintro e w1 ⟨rfl, h1, g0, g1, g2, g3, g4, g5⟩)
            | fail)
        · have HB1 : Hid (Below w.heap.size w w1) := Lib.hid (HBW.out.drew.trans (h1.mono hsize))
          have hs1 : wr.heap.size ≤ w1.heap.size := h1.size
          go_wp2
          go_ret3
          refine ⟨.slice none 0 0, by rw [H1.out]; rfl, by rw [H1.out]; exact World.ownsRow_nil _ _ _ _, HB1.out.alloc (by omega) _⟩
        · have hB1 : Below w.heap.size w w1 := (HBW.out.alloc hsize _).drew.trans (h1.mono (Nat.le_trans hsize (by show wr.heap.size ≤ (wr.alloc _).heap.size; simp)))
          have HB2 := Lib.hid (((hB1.setCell (p := ⟨wr.heap.size, 0, none⟩) hsize (.int .i64 fk)).setCell (p := ⟨wr.heap.size, 1, none⟩) hsize (.int .u64 fn)).setCell (p := ⟨wr.heap.size, 2, none⟩) hsize (.string fz))
          clear hB1
          go_wp2
          go_ret3
          refine ⟨.slice none 0 0, by rw [H1.out]; rfl, by rw [H1.out]; exact World.ownsRow_nil _ _ _ _, HB2.out⟩
    · have ek : k = ks.length := by omega
      subst ek
      rw [List.drop_length] at hr
      have H1 : Hid (r = (fl, d, 0)) := Lib.hid (by
        rw [← hr]
        show (fl ++ [], d, 0) = _
        rw [List.append_nil])
      have HO := Lib.hid ho
      clear hr ho
      go_wp2
      go_ret3
      exact ⟨v, by rw [H1.out]; rfl, by rw [H1.out]; exact HO.out, hbw⟩
end Go.Proofs.Ytdlcipbehalfhaa
