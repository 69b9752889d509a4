/-
  Package rank: the tags of all flows; they are laid. No condition but that New made the ranks.
-/
import Derived.Test.YtnnbkooikimedaaRankU
import Derived.Test.YtnnbkooikimedaaU64s
import Derived.Maps.AppendAt
namespace Go.Proofs.Ytnnbkooikimedaa
set_option linter.unusedVariables false
set_option linter.unusedSimpArgs false
open Go.ChangeShapes Go.WideShapes Go.ChangeAt Go.RowKit
attribute [local go_sem] alloc_drewN setCell_drewN

def fillT (L : List Int) (i : Nat) : List Int := L.take i ++ List.replicate (L.length - i) 0
theorem fillT_zero (L : List Int) : fillT L 0 = List.replicate L.length 0 := by simp [fillT]
theorem fillT_all (L : List Int) : fillT L L.length = L := by simp [fillT]
theorem fillT_len (L : List Int) (i : Nat) (hi : i ≤ L.length) : (fillT L i).length = L.length := by simp [fillT]; omega
theorem fillT_put (L : List Int) (i : Nat) (hi : i < L.length) : (fillT L i).set i (L.getD i 0) = fillT L (i + 1) := by
  have e1 : L.length - i = (L.length - (i + 1)) + 1 := by omega
  have e2 : (L.take i).length = i := by simp; omega
  unfold fillT
  rw [e1, List.replicate_succ, List.set_append_right _ _ (by omega), e2, Nat.sub_self, List.set_cons_zero, List.take_succ_eq_append_getElem hi, List.append_assoc, List.getD_eq_getElem?_getD, List.getElem?_eq_getElem hi]
  rfl
theorem tg_getD (es : List Rf) (i : Nat) (hi : i < es.length) : (es.map Rf.tg).getD i 0 = (es.getD i Rf.nil).tg := by
  rw [List.getD_eq_getElem?_getD, List.getElem?_map, List.getElem?_eq_getElem hi, List.getD_eq_getElem?_getD, List.getElem?_eq_getElem hi]
  rfl
section
variable {w : World} {base B : Nat} {kind virt : Int} {ve : Value} {es : List Rf}
set_option maxRecDepth 100000 in
set_option maxHeartbeats 2000000 in
theorem rtags (h : RanksAt w base B kind virt ve es) (hn : 0 < es.length) : Calls Try.prog 66 #[.pointer (some ⟨B, 0, none⟩)] w fun e w' => ∃ v, e = .returned v ∧ U64s w' w.heap.size v (es.map Rf.tg) ∧ Below w.heap.size w w' := by
  obtain ⟨i0, hif, hz0, hz1, hz2⟩ := info_parts infoU
  have MD := Lib.hid (rmade h hn)
  obtain ⟨c0, c1, c2, -⟩ := h.cell
  obtain ⟨g, c, rfl, _, hgs, hgB, _⟩ := h.at 0 hn
  have hml := h.ml
  have HH := Lib.hid h
  have hB := (h.inlt (Or.inl rfl)).2
  obtain ⟨n, hN⟩ : ∃ n, es.length = n := ⟨_, rfl⟩
  have HN := Lib.hid hN
  rw [hN] at c2 hml hn
  clear h hN
  go_enter Try.func66, Try.ntmps66
  go_wp2_with fail
  refine MD.out.mono ?_
  rintro e w' ⟨rfl, rfl⟩
  have KB := Lib.hid (fun (w1 : World) (hg : w'.grownBy w1 none) => (hg.cell_far (a := ⟨B, 2, none⟩) hB (by simp)).trans c2)
  go_wp2_with (at_make; refine wpList_make_full _ rfl _ _ 25 rfl w'.heap.size 22 i0 (.int .u64 0) 1 Try.underlying25 hif hz0 hz1 _ _ _ _ n rfl rfl rfl rfl (by rw [hz2]; omega) (by unfold maxLen; omega) (Nat.le_refl _) ?_; intro W2 ho2 hg2; have HO2 := Lib.hid ho2; have HG2 := Lib.hid hg2; have kc := KB.out W2 hg2; clear ho2 hg2)
  have hb2 : Below w'.heap.size w' W2 := (Below.refl _ _).grown HG2.out (Nat.le_refl _) (by simp)
  have R0 := Lib.hid (show W2.ownsRow w'.heap.size 22 1 (.slice (some ⟨w'.heap.size, 0, none⟩) n n) n ((fillT (es.map Rf.tg) 0).map (Value.int .u64)) by
    have o2 := HO2.out
    have e2 : (madeCells (Value.int .u64 0).cells (n * 1)).toList = (List.replicate n 0).map (Value.int .u64) := by
      simp [madeCells, Value.cells, List.map_const', List.eq_replicate_iff]
      intro a _; rw [Nat.mod_one]; rfl
    rw [e2] at o2
    rw [fillT_zero, List.length_map, HN.out]
    exact o2)
  have B0 := Lib.hid hb2
  clear hb2 HO2 HG2 KB kc c0 c1 c2
  go_loopw [20] (fun z wr => ∃ i : Nat, i ≤ n ∧ z = .int .i64 i ∧ wr.ownsRow w'.heap.size 22 1 (.slice (some ⟨w'.heap.size, 0, none⟩) n n) n ((fillT (es.map Rf.tg) i).map (Value.int .u64)) ∧ Below w'.heap.size w' wr) (fun z _ => n - (intOf z).toNat)
  case atStart => exact ⟨0, Nat.zero_le _, rfl, R0.out, B0.out⟩
  case round =>
    obtain ⟨i, hi, rfl, ho, hb⟩ := hrel
    have HO := Lib.hid ho; have HB := Lib.hid hb
    by_cases hlt : i < n
    · obtain ⟨g', c', hv, _, hgs', _, d0, d1, d2, d3, _⟩ := (HH.out.below hb).at i (by rw [HN.out]; exact hlt)
      obtain ⟨rfl, rfl⟩ : g = g' ∧ c = c' := by injection hv with e1 e2 e3; injection e1 with e1; injection e1 with e1; exact ⟨e1, e3⟩
      have z0 : (0 : Int) ≤ i := by omega
      have z1 : (i : Int) < n := by omega
      obtain ⟨x, hx⟩ : ∃ x, es.getD i Rf.nil = x := ⟨_, rfl⟩
      rw [hx] at d0 d1 d2 d3
      have PUT := Lib.hid (fun (F : Obj) => show ((wr.setCell ⟨w'.heap.size, i, none⟩ (.int .u64 x.tg)).alloc F).ownsRow w'.heap.size 22 1 (.slice (some ⟨w'.heap.size, 0, none⟩) n n) n ((fillT (es.map Rf.tg) (i + 1)).map (Value.int .u64)) from by
        have h1 := row_put HO.out i (.int .u64 x.tg)
        rw [← List.map_set, ← hx, ← tg_getD es i (by rw [HN.out]; exact hlt), fillT_put _ i (by rw [List.length_map, HN.out]; exact hlt), tg_getD es i (by rw [HN.out]; exact hlt), hx] at h1
        exact h1.alloc F)
      have cw : wr.cell? ⟨w'.heap.size, i, none⟩ = some (.int .u64 ((fillT (es.map Rf.tg) i).getD i 0)) := by
        rw [HO.out.cellAt i (by omega), List.getElem?_map, List.getD_eq_getElem?_getD, List.getElem?_eq_getElem (by rw [fillT_len _ _ (by rw [List.length_map, HN.out]; exact hi), List.length_map, HN.out]; exact hlt)]
        rfl
      have fw := HO.out.frozenAt i
      have lw := (World.ownsRow.lt HO.out w'.heap.size rfl).2
      clear hx hv ho hb
      obtain ⟨xi, xc, xb, xt⟩ := x
      dsimp only at d0 d1 d2 d3 PUT
      generalize (fillT (es.map Rf.tg) i).getD i 0 = y at cw
      go_wp2
      go_roundw
      case rel => exact ⟨i + 1, by omega, by go_num, PUT.out _, (HB.out.trans (show Below w'.heap.size wr (wr.setCell ⟨w'.heap.size, i, none⟩ (.int .u64 xt)) from ⟨rfl, rfl, rfl, by simp [World.setCell], fun q hq => Below.heap_setCell _ ⟨w'.heap.size, i, none⟩ _ q (by show q ≠ w'.heap.size; omega)⟩)).alloc (by simp [World.setCell]; exact HB.out.size) _⟩
      case measure => simp [intOf] <;> omega
    · obtain rfl : i = n := by omega
      have E := Lib.hid (show fillT (es.map Rf.tg) i = es.map Rf.tg by rw [show i = (es.map Rf.tg).length by rw [List.length_map]; exact HN.out.symm]; exact fillT_all _)
      rw [E.out] at HO
      have FIN := Lib.hid (show U64s wr w'.heap.size (.slice (some ⟨w'.heap.size, 0, none⟩) i i) (es.map Rf.tg) by unfold U64s; rw [List.length_map, HN.out]; exact HO.out)
      clear ho hb
      go_wp2
      go_ret
      exact ⟨_, rfl, FIN.out, HB.out⟩
/-- The tags laid up to the i-th. -/
def Laid16 (es : List Rf) (zs : List Int) (i : Nat) (es' : List Rf) : Prop := es'.length = es.length ∧ ∀ j, j < es.length → es'.getD j Rf.nil = if j < i then (es.getD j Rf.nil).wt (zs.getD j 0) else es.getD j Rf.nil
theorem rlay_no (h : RanksAt w base B kind virt ve es) (hn : 0 < es.length) (v : Int) (a : Option Addr) (n c : Nat) (hne : n ≠ es.length) : Calls Try.prog 60 #[.pointer (some ⟨B, 0, none⟩), .int .u64 v, .slice a n c] w fun e w' => e = .returned (.int .i64 6) ∧ w' = w := by
  have MD := Lib.hid (rmade h hn)
  obtain ⟨c0, c1, c2, -⟩ := h.cell
  obtain ⟨ao, co, rfl⟩ := row_slice h.oe
  have hz : ¬ (n : Int) = (es.length : Int) := by omega
  clear h
  go_enter Try.func60, Try.ntmps60
  go_wp2_with fail
  refine MD.out.mono ?_
  rintro e w' ⟨rfl, rfl⟩
  go_wp2
  go_ret
  exact ⟨rfl, rfl⟩
set_option maxRecDepth 100000 in
set_option maxHeartbeats 2000000 in
theorem rlay_ok (h : RanksAt w base B kind virt ve es) (hn : 0 < es.length) (v : Int) (v0 : 0 ≤ v) (v1 : v ≤ 18446744073709551615) (a : Option Addr) (n c : Nat) (zs : List Int) (hr : Row1 .u64 w a n zs) (ha : ∀ g off, a = some ⟨g, off, none⟩ → ¬ inRa B ve g) (he : n = es.length) :
    Calls Try.prog 60 #[.pointer (some ⟨B, 0, none⟩), .int .u64 v, .slice a n c] w fun e w' => e = .returned (.int .i64 0) ∧ ∃ es', RanksAt w' base B kind v ve es' ∧ Laid16 es zs n es' ∧ MvS w w' (inRa B ve) (inRa B ve) := by
  have MD := Lib.hid (rmade h hn)
  have SV := Lib.hid (h.setV v v0 v1)
  obtain ⟨c0, c1, c2, f1, f2⟩ := h.cell
  obtain ⟨g, cc, rfl, _, hgs, hgB, _⟩ := h.at 0 hn
  have hml := h.ml
  have HR := Lib.hid hr; have HA := Lib.hid ha; have HE := Lib.hid he
  rw [← he] at c2 hml
  clear h hr ha he
  go_enter Try.func60, Try.ntmps60
  go_wp2_with fail
  refine MD.out.mono ?_
  rintro e w' ⟨rfl, rfl⟩
  go_wp2
  go_loopw [26] (fun z wr => ∃ (i : Nat) (es' : List Rf), i ≤ n ∧ z = .int .i64 i ∧ RanksAt wr base B kind v (.slice (some ⟨g, 0, none⟩) es'.length cc) es' ∧ Laid16 es zs i es' ∧ MvS w' wr (inRa B (.slice (some ⟨g, 0, none⟩) n cc)) (inRa B (.slice (some ⟨g, 0, none⟩) n cc))) (fun z _ => n - (intOf z).toNat)
  case atStart => exact ⟨0, es, Nat.zero_le _, rfl, SV.out.1, ⟨rfl, fun j hj => by rw [if_neg (Nat.not_lt_zero _)]⟩, by rw [HE.out]; exact SV.out.2⟩
  case round =>
    obtain ⟨i, es', hi, rfl, h, hl, hm⟩ := hrel
    have HH := Lib.hid h; have HL := Lib.hid hl; have HM := Lib.hid hm
    have el : es'.length = n := by rw [hl.1]; exact HE.out.symm
    by_cases hlt : i < n
    · obtain ⟨b, off, ea, hlt2, hcs⟩ := HR.out.2.2.2 (by omega)
      subst ea
      have ci := (hm.cellR b (off + i) hlt2 (by rw [HE.out]; exact HA.out b off rfl)).trans (hcs i hlt)
      have zb : 0 ≤ zs.getD i 0 ∧ zs.getD i 0 ≤ 18446744073709551615 := by
        have := HR.out.2.2.1 (zs.getD i 0) (by rw [List.getD_eq_getElem?_getD, List.getElem?_eq_getElem (by rw [HR.out.1]; exact hlt)]; exact List.getElem_mem _)
        exact bounds_u64 this
      have ST := Lib.hid (h.setTg i (by omega) (zs.getD i 0) zb.1 zb.2)
      obtain ⟨d0, d1, d2, e1, e2⟩ := h.cell
      obtain ⟨g', c', hv, _, _, _, _, _, _, d3, d4⟩ := h.at i (by omega)
      obtain ⟨rfl, rfl⟩ : g = g' ∧ cc = c' := by injection hv with e1 e2 e3; injection e1 with e1; injection e1 with e1; exact ⟨e1, e3⟩
      have z0 : (0 : Int) ≤ i := by omega
      have z1 : (i : Int) < n := by omega
      have NL := Lib.hid (show Laid16 es zs (i + 1) (es'.set i ((es'.getD i Rf.nil).wt (zs.getD i 0))) from ⟨by rw [List.length_set]; exact hl.1, fun j hj => by
        rw [rf_set es' i j _ (by omega)]
        by_cases e : i = j
        · subst e
          rw [if_pos rfl, if_pos (by omega), hl.2 i hj, if_neg (by omega)]
        · rw [if_neg e, hl.2 j hj]
          by_cases e2 : j < i
          · rw [if_pos e2, if_pos (by omega)]
          · rw [if_neg e2, if_neg (by omega)]⟩)
      rw [el] at d2
      clear hcs h hl hm hv
      generalize (es'.getD i Rf.nil).tg = told at d3
      obtain ⟨zi, hzi⟩ : ∃ zi, zs.getD i 0 = zi := ⟨_, rfl⟩
      rw [hzi] at ci ST NL
      clear hzi
      go_wp2
      go_roundw
      case rel => exact ⟨i + 1, _, by omega, by go_num, by have := ST.out.1; rw [List.length_set]; exact this, NL.out, HM.out.trans (by have := ST.out.2; rw [el] at this; exact this)⟩
      case measure => simp [intOf] <;> omega
    · obtain rfl : i = n := by omega
      have FIN := Lib.hid (show RanksAt wr base B kind v (.slice (some ⟨g, 0, none⟩) es.length cc) es' by have := h; rw [hl.1] at this; exact this)
      have FM := Lib.hid (show MvS w' wr (inRa B (.slice (some ⟨g, 0, none⟩) es.length cc)) (inRa B (.slice (some ⟨g, 0, none⟩) es.length cc)) by have := hm; rw [HE.out] at this; exact this)
      clear h hl hm
      go_wp2
      go_ret
      exact ⟨rfl, es', FIN.out, HL.out, FM.out⟩
end
end Go.Proofs.Ytnnbkooikimedaa
