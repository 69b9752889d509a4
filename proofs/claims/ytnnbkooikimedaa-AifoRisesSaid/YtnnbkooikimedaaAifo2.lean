/-
  Package aifo: one rank is put among those in order. No block turns but those two. No condition but that they stand in order.
-/
import Derived.Test.YtnnbkooikimedaaAifo1
namespace Go.Proofs.Ytnnbkooikimedaa
set_option linter.unusedVariables false
set_option linter.unusedSimpArgs false
open Go.ChangeShapes Go.WideShapes Go.ChangeAt Go.RowKit
attribute [local go_sem] alloc_drewN setCell_drewN

theorem join_row (cur : List Value) (S : List Int) (x : Int) (n i c : Nat) (hn : S.length = n) (hi : lessC S x = i) (hin : i ≤ n) (hc : cur.length = c) (hnc : n + 1 ≤ c) (ht : cur.take (n + 1) = (S ++ [x]).map (Value.int .u64)) :
    ((splice cur (i + 1) ((cur.take n).drop i)).set i (Value.int .u64 x)).take (n + 1) = (joinS S x).map (Value.int .u64) := by
  have h1 : cur.take n = S.map (Value.int .u64) := by
    have e : cur.take n = (cur.take (n + 1)).take n := by rw [List.take_take, Nat.min_eq_left (by omega)]
    rw [e, ht, List.map_append, List.take_append_of_le_length (by rw [List.length_map]; omega), List.take_of_length_le (by rw [List.length_map]; omega)]
  have h2 : cur.take i = (S.take i).map (Value.int .u64) := by
    have e : cur.take i = (cur.take n).take i := by rw [List.take_take, Nat.min_eq_left hin]
    rw [e, h1, List.map_take]
  have hl : (cur.take i).length = i := by rw [List.length_take]; omega
  have hld : ((cur.take n).drop i).length = n - i := by rw [List.length_drop, List.length_take]; omega
  have hci : i < cur.length := by omega
  unfold splice joinS
  rw [hi, List.take_succ_eq_append_getElem hci, List.append_assoc, List.set_append_right _ _ (by omega), hl, Nat.sub_self, List.singleton_append, List.set_cons_zero, hld]
  rw [List.map_append, ← h2, List.map_cons, List.map_drop, ← h1]
  have eA : (cur.take i).take (n + 1) = cur.take i := List.take_of_length_le (by omega)
  have eB : ∀ D : List Value, (Value.int .u64 x :: ((cur.take n).drop i ++ D)).take (n + 1 - (cur.take i).length) = Value.int .u64 x :: (cur.take n).drop i := fun D => by
    rw [hl, show n + 1 - i = (n - i) + 1 by omega, List.take_succ_cons, List.take_append_of_le_length (by omega), List.take_of_length_le (by omega)]
  rw [List.take_append, eA, eB]
set_option maxRecDepth 100000 in
set_option maxHeartbeats 2000000 in
theorem join_any {w : World} {base R : Nat} {pc vs : Value} {S : List Int} (h : SrAt w base R pc vs S) (x : Int) (hlim : S.length < 1024) (hbase : base ≤ w.heap.size) :
    Calls Try.prog 135 #[.pointer (some ⟨R, 0, none⟩), .int .u64 x] w fun e w' => e = .returned (.tuple #[]) ∧ ∃ vs', SrAt w' base R pc vs' (joinS S x) ∧ MvS w w' (inSr R vs) (inSr R vs') := by
  obtain ⟨i0, hi0, hz0, hz1, hz2⟩ := info_parts infoU
  have BL := Lib.hid (below_any h x)
  have HH := Lib.hid h
  have hli := lessC_le S x
  obtain ⟨n, hn⟩ : ∃ n, S.length = n := ⟨_, rfl⟩
  have HN := Lib.hid hn
  generalize hi : lessC S x = i at *
  have HI := Lib.hid hi
  rw [hn] at hlim hli
  have HZ := Lib.hid (show (Try.prog.info? 22).map (·.size) = some 1 by kernel_rfl)
  clear h hn hi
  go_enter Try.func135, Try.ntmps135
  go_wp2_with fail
  refine BL.out.mono ?_
  rintro e w' ⟨rfl, q, rfl⟩
  have HA := Lib.hid (show SrAt (w.drewN q) base R pc vs S from HH.out.heap rfl)
  have HM := Lib.hid (show MvS w (w.drewN q) (inSr R vs) (inSr R vs) from ⟨rfl, rfl, rfl, Nat.le_refl _, fun _ _ _ => rfl, fun _ h => Or.inr h⟩)
  have hbW : base ≤ (w.drewN q).heap.size := hbase
  generalize w.drewN q = W at *
  obtain ⟨c0, c1, f1⟩ := HA.out.cell
  have ho := HA.out.own
  obtain ⟨av, cv, hvs, -, -⟩ := ho.form
  rw [HN.out] at hvs
  subst hvs
  unfold U64s at ho
  rw [HN.out] at ho
  have KB := Lib.hid (show ∀ (w3 : World), (W.alloc (.cells #[.int .u64 x] 22)).grownBy w3 (Value.slice av n cv).ownBlock → w3.heap[R]? = some (.cells #[pc, .slice av n cv] 135 (0, 0)) from fun w3 hg => by
    have hR : R < W.heap.size := (Array.getElem?_eq_some_iff.1 HA.out.blk).1
    exact (hg.block R (by simp; omega) (fun e => HA.out.ne e.symm)).trans ((heap_alloc_old _ _ hR).trans HA.out.blk))
  go_wp2_with (at_builtin; refine wpList_append_own_at _ rfl _ _ 25 rfl base 22 i0 (.int .u64 0) 1 8 Try.underlying25 hi0 hz0 hz1 hz2 rfl (by decide) _ _ _ rfl (ho.alloc _) ⟨W.heap.size, 0, none⟩ 1 1 [.int .u64 x] rfl rfl (cells_one6 _ _ _) (fun x hx => by simp at hx; subst hx; rfl) (by unfold maxLen; omega) (by omega) (by simp; omega) ?_; intro v3 w3 ho3 hg3 hn3 hat3; clear hn3; obtain ⟨g3, c3, rfl, hc3, hg3l⟩ := ho3.form (by omega); have KR := KB.out w3 hg3; have KC := cell_of_row w3 R 1 _ _ (0, 0) KR; have KF : w3.frozen? ⟨R, 1, none⟩ = false := frozen_of_row w3 R 1 _ _ KR)
  have hm4 : MvS W w3 (inSr R (.slice av n cv)) (inSr R (.slice (some ⟨g3, 0, none⟩) (n + 1) c3)) := ⟨hg3.os, hg3.tape, hg3.output, Nat.le_trans (by simp) hg3.size, fun j hj hS => (hg3.block j (by simp; omega) (fun e => hS (Or.inr e.symm))).trans (heap_alloc_old _ _ hj), fun j hj => by
    rcases hj with hj | hj
    · exact Or.inr (Or.inl hj)
    · rcases hat3 with h5 | h5
      · exact Or.inr (Or.inr (h5 ▸ hj))
      · left
        rw [h5] at hj
        injection hj with hj
        rw [← hj]; simp⟩
  have hU : U64s w3 base (.slice (some ⟨g3, 0, none⟩) (n + 1) c3) (S ++ [x]) := by
    unfold U64s
    rw [List.length_append, List.length_singleton, HN.out, List.map_append]
    exact ho3
  obtain ⟨cur, hcur, hcl, hcm, hcn, hcc, hct, hg0⟩ := hU.block
  rw [List.length_append, List.length_singleton, HN.out] at hcc hct
  have hgR : g3 ≠ R := fun e => own_ne_blk ho3 KR (by decide) (by rw [e]; rfl)
  have HB4 := Lib.hid (show (w3.setCell ⟨R, 1, none⟩ (.slice (some ⟨g3, 0, none⟩) (n + 1) c3)).heap[R]? = some (.cells #[pc, .slice (some ⟨g3, 0, none⟩) (n + 1) c3] 135 (0, 0)) by simpa using heap_set KR 1 (.slice (some ⟨g3, 0, none⟩) (n + 1) c3))
  have HG4 := Lib.hid (show (w3.setCell ⟨R, 1, none⟩ (.slice (some ⟨g3, 0, none⟩) (n + 1) c3)).heap[g3]? = some (.cells cur.toArray 22 (0, 0)) from (Below.heap_setCell w3 ⟨R, 1, none⟩ _ g3 hgR).trans hcur)
  have HM4 := Lib.hid (show MvS w (w3.setCell ⟨R, 1, none⟩ (.slice (some ⟨g3, 0, none⟩) (n + 1) c3)) (inSr R (.slice av n cv)) (inSr R (.slice (some ⟨g3, 0, none⟩) (n + 1) c3)) from HM.out.trans (hm4.trans ⟨rfl, rfl, rfl, by simp [World.setCell], fun j _ hS => Below.heap_setCell w3 ⟨R, 1, none⟩ _ j (fun e => hS (Or.inl e)), fun j hj => Or.inr hj⟩))
  clear hcn hm4 hU ho3 hg3 hat3 KR KC KF hcur ho HM KB c0 c1 f1 HA hg3l
  generalize w3.setCell ⟨R, 1, none⟩ (.slice (some ⟨g3, 0, none⟩) (n + 1) c3) = W4 at *
  generalize hn1 : n + 1 = n1 at *
  have d1 : W4.cell? ⟨R, 1, none⟩ = some (.slice (some ⟨g3, 0, none⟩) n1 c3) := cell_of_row W4 R 1 _ _ (0, 0) HB4.out
  have HNL := Lib.hid (show ((cur.take n).drop i).length = Nat.min (n1 - i) (n1 - (i + 1)) by
    rw [List.length_drop, List.length_take]
    have : Nat.min (n1 - i) (n1 - (i + 1)) = n1 - (i + 1) := Nat.min_eq_right (by omega)
    rw [this]; omega)
  have HPOS := Lib.hid (show ∀ w2 : World, w2.heap[g3]? = some (.cells cur.toArray 22 (0, 0)) → 0 < ((cur.take n).drop i).length → ((if c3 = i + 1 then some (⟨g3, 0, none⟩ : Addr) else some ⟨g3, i + 1, none⟩) = some ⟨g3, i + 1, none⟩) ∧ ∃ ad, (some (⟨g3, i, none⟩ : Addr)) = some ad ∧ ∀ j v, ((cur.take n).drop i)[j]? = some v → w2.cell? (ad.add j) = some v from fun w2 hw2 hp => by
    rw [List.length_drop, List.length_take] at hp
    refine ⟨by rw [if_neg (by omega)], ⟨g3, i, none⟩, rfl, fun j v hv => ?_⟩
    rw [Go.WideShapes.add_plain, cell_of_row w2 g3 (i + j) _ _ (0, 0) hw2]
    rw [List.getElem?_drop, List.getElem?_take] at hv
    split at hv
    · simpa using hv
    · cases hv)
  have HFIT := Lib.hid (show i + 1 + ((cur.take n).drop i).length ≤ cur.length by rw [List.length_drop, List.length_take]; omega)
  have H1 := Lib.hid (show ∀ v ∈ (cur.take n).drop i, v.oneCell' = true from fun v hv => by
    have h2 := List.mem_of_mem_drop hv
    have e : cur.take n = (cur.take n1).take n := by rw [List.take_take, Nat.min_eq_left (by omega)]
    rw [e, hct] at h2
    obtain ⟨y, _, rfl⟩ := List.mem_map.1 (List.mem_of_mem_take h2)
    rfl)
  have HJ := Lib.hid (show ((splice cur (i + 1) ((cur.take n).drop i)).set i (Value.int .u64 x)).take n1 = (joinS S x).map (Value.int .u64) by subst hn1; exact join_row cur S x n i c3 HN.out HI.out hli hcl hcc hct)
  have HJL := Lib.hid (show (joinS S x).length = n1 by rw [joinS_length, HN.out, hn1])
  obtain ⟨cs, hcs⟩ : ∃ cs, (cur.take n).drop i = cs := ⟨_, rfl⟩
  rw [hcs] at HNL HPOS HFIT H1 HJ
  have HK := Lib.hid (show ∀ w3, Hid (W4.drew.grownBy w3 (some g3)) → w3.heap[R]? = W4.heap[R]? from fun w3 h => h.out.block R (Array.getElem?_eq_some_iff.1 HB4.out).1 (fun e => hgR (by injection e with e; exact e.symm)))
  have HGD := Lib.hid (show W4.drew.heap[g3]? = some (.cells cur.toArray 22 (0, 0)) from HG4.out)
  have i0' : (0 : Int) ≤ i := by omega
  have i1 : (i : Int) ≤ (n1 : Int) := by omega
  have i2 : (i : Int) + 1 ≤ (n1 : Int) := by omega
  have i3 : (0 : Int) ≤ (i : Int) + 1 := by omega
  have iw : IntKind.i64.wrap ((i : Int) + 1) = (i : Int) + 1 := by rw [IntKind.wrap_i64]; omega
  have e1 : ¬ c3 = i := by omega
  have il : (i : Int) < (n1 : Int) := by omega
  have icl : i < cur.length := by omega
  have HN1 := Lib.hid (show n + 1 ≤ n1 ∧ n1 ≤ n + 1 by omega)
  have HN2 := Lib.hid (show S.length ≤ n ∧ n ≤ S.length by have := HN.out; omega)
  clear hcs hct HG4 hn1 HN
  refine wp_region_still_tail 13 (by kernel_rfl) (by kernel_rfl) ?_
  simp only [List.take_succ_cons, List.take_zero, List.drop_succ_cons, List.drop_zero]
  repeat still_step
  refine wpStill_nil ?_
  change wpList _ _ _ _ _ W4.drew
  refine wpList_copy_grown rfl (.tmp 24) (.tmp 30) 25 25 rfl 22 Try.underlying25 HZ.out (if c3 = i + 1 then some ⟨g3, 0, none⟩ else some ⟨g3, i + 1, none⟩) (some ⟨g3, i, none⟩) (n1 - (i + 1)) (c3 - (i + 1)) (n1 - i) (c3 - i) (by rfl) (by rfl) g3 (i + 1) cur 22 (HGD.out) cs HNL.out (HPOS.out _ HGD.out) HFIT.out H1.out ?_
  intro w5 HG5 HGR5
  refine wpList_nil ?_
  generalize (if c3 = i + 1 then (some ⟨g3, 0, none⟩ : Option Addr) else some ⟨g3, i + 1, none⟩) = sp
  have HB5 := Lib.hid ((HK.out w5 HGR5).trans HB4.out)
  have d5 : w5.cell? ⟨R, 1, none⟩ = some (.slice (some ⟨g3, 0, none⟩) n1 c3) := cell_of_row w5 R 1 _ _ (0, 0) HB5.out
  have hcur2 : (splice cur (i + 1) cs).length = c3 := by rw [length_splice cur (i + 1) cs HFIT.out]; exact hcl
  obtain ⟨old, hold⟩ : ∃ old, (splice cur (i + 1) cs)[i]? = some old := ⟨_, List.getElem?_eq_getElem (by omega)⟩
  have dg : w5.cell? ⟨g3, i, none⟩ = some old := (cell_of_row w5 g3 i _ _ (0, 0) HG5.out).trans (by simpa using hold)
  have fg : w5.frozen? ⟨g3, i, none⟩ = false := frozen_of_row w5 g3 i _ _ HG5.out
  have FIN := Lib.hid (show ∃ vs', SrAt (w5.setCell ⟨g3, i, none⟩ (.int .u64 x)) base R pc vs' (joinS S x) ∧ MvS w (w5.setCell ⟨g3, i, none⟩ (.int .u64 x)) (inSr R (.slice av n cv)) (inSr R vs') by
    refine ⟨.slice (some ⟨g3, 0, none⟩) n1 c3, ⟨(Below.heap_setCell w5 ⟨g3, i, none⟩ _ R (fun e => hgR e.symm)).trans HB5.out, HH.out.low, ?_, joinS_srt HH.out.srt x, by have := HJL.out; have := HN1.out; omega⟩, ?_⟩
    · have h6 : (w5.setCell ⟨g3, i, none⟩ (.int .u64 x)).heap[g3]? = some (.cells ((splice cur (i + 1) cs).set i (.int .u64 x)).toArray 22 (0, 0)) := by
        rw [heap_setCell_same w5 g3 i _ _ _ HG5.out]; simp
      have h7 := U64s.ofBlock (base := base) (xs := joinS S x) h6 (by rw [List.length_set]; exact hcur2) hcm (by have := HJL.out; omega) (by rw [HJL.out]; exact HJ.out) hg0
      rw [HJL.out] at h7
      exact h7
    · refine HM4.out.trans ⟨HGR5.out.os, HGR5.out.tape, HGR5.out.output, ?_, fun j hj hS => ?_, fun j hj => Or.inr hj⟩
      · have := HGR5.out.size
        show W4.heap.size ≤ (w5.setCell _ _).heap.size
        simp [World.setCell]
        exact this
      · exact (Below.heap_setCell w5 ⟨g3, i, none⟩ _ j (fun e => hS (Or.inr (by rw [e]; rfl)))).trans (HGR5.out.block j hj (fun e => hS (Or.inr (by injection e with e; rw [e]; rfl)))))
  clear HM4 HB5 HG5 HGR5 HK HGD HPOS HNL HFIT H1 HJ HJL HB4 HZ hold hcur2 d1 HH HI HN1 HN2 BL
  go_wp2
  first | go_end0 | refine bodyPost_ret (results_none rfl _ _ _) rfl ?_
  exact ⟨rfl, FIN.out⟩
end Go.Proofs.Ytnnbkooikimedaa
