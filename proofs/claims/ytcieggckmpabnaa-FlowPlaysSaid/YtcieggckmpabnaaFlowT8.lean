/-
  Package flow for elements of type string: Get, Set, Drop. No block turns but the table's own. No condition but that New made it.
-/
import Derived.Test.YtcieggckmpabnaaFlowT7
namespace Go.Proofs.Ytcieggckmpabnaa
set_option linter.unusedVariables false
set_option linter.unusedSimpArgs false
open Go.ChangeShapes Go.WideShapes Go.ChangeAt Go.RowKit
attribute [local go_sem] alloc_drewN setCell_drewN

theorem fes_setT (es : List FeT) (h : Nat) (x : ByteArray) (hh : h < es.length) : (fesT es).set (h * 2 + 1) (Value.string x) = fesT (es.set h ⟨(es.getD h FeT.nil).id, x⟩) := by
  apply List.ext_getElem?
  intro j
  rcases Nat.lt_or_ge j (es.length * 2) with hj | hj
  · obtain ⟨q, r, rfl, hr⟩ : ∃ q r, j = q * 2 + r ∧ r < 2 := ⟨j / 2, j % 2, by omega, Nat.mod_lt _ (by omega)⟩
    have hq : q < es.length := by omega
    rw [fes_atT (es.set h _) q r (by rw [List.length_set]; exact hq) hr, fe_getDT es h hh]
    by_cases hqh : h = q
    · subst hqh
      have hL := fes_lenT es
      simp only [List.getElem?_set, List.length_set, hL, List.getElem_set_self]
      match r, hr with
      | 0, _ => rw [if_neg (by omega), fes_atT es h 0 hh (by omega)]; rfl
      | 1, _ => rw [if_pos rfl, if_pos (by omega)]; rfl
    · rw [List.getElem?_set_ne (by omega), fes_atT es q r hq hr, List.getElem_set_ne hqh]
  · rw [List.getElem?_eq_none (by simp [fes_lenT]; omega), List.getElem?_eq_none (by simp [fes_lenT]; omega)]
section
variable {w : World} {base B : Nat} {room : Int} {v : Value} {es : List FeT}
theorem tdrop_noT (h : TbAtT w base B room v es) (id : Int) (hf : isF (es.map FeT.id) id = false) : Calls Try.prog 69 #[.pointer (some ⟨B, 0, none⟩), .int .u32 id] w fun e w' => e = .returned (.tuple #[Value.string ⟨#[]⟩, .bool false]) ∧ Below w.heap.size w w' := by
  have FD := tfindT h id
  rw [hf] at FD
  have FH := Lib.hid FD
  clear h FD hf
  generalize lessC (es.map FeT.id) id = k at *
  go_enter Try.func69, Try.ntmps69
  go_wp2_with fail
  refine FH.out.mono ?_
  rintro e w1 ⟨rfl, b1⟩
  have B1 := Lib.hid b1
  clear b1
  go_wp2
  go_ret2
  exact ⟨rfl, B1.out⟩
set_option maxHeartbeats 1000000 in
theorem tdrop_atT (h : TbAtT w base B room v es) (hbase : base ≤ w.heap.size) (id : Int) (hf : isF (es.map FeT.id) id = true) : Calls Try.prog 69 #[.pointer (some ⟨B, 0, none⟩), .int .u32 id] w fun e w' => e = .returned (.tuple #[Value.string (es.getD (lessC (es.map FeT.id) id) FeT.nil).x, .bool true]) ∧ ∃ v', TbAtT w' base B room v' (es.take (lessC (es.map FeT.id) id) ++ es.drop (lessC (es.map FeT.id) id + 1)) ∧ MvS w w' (inTb B v) (inTb B v') := by
  have FD := tfindT h id
  rw [hf] at FD
  have FH := Lib.hid FD
  have hk := (isF_get hf).1
  rw [List.length_map] at hk
  have CC := Lib.hid (fun W (hb : Below w.heap.size w W) => (h.below hb).cell)
  have AT := Lib.hid (fun W (hb : Below w.heap.size w W) => (h.below hb).fe.at _ hk)
  have SO := Lib.hid (show ((es.take (lessC (es.map FeT.id) id) ++ es.drop (lessC (es.map FeT.id) id + 1)).map FeT.id).Pairwise (· < ·) by
    rw [List.map_append, List.map_take, List.map_drop]
    exact del_rise h.so _)
  have hr1 := h.r1
  have hle := h.le
  obtain ⟨k, hkk⟩ : ∃ k, lessC (es.map FeT.id) id = k := ⟨_, rfl⟩
  rw [hkk] at FH hk SO AT ⊢
  obtain ⟨g, c, hv, _⟩ := World.ownsRow.form (show w.ownsRow base 198 2 v es.length (fesT es) from h.fe) (by omega)
  subst hv
  have IA := Lib.hid (fun (W : World) (hb : Below w.heap.size w W) => delT (h.below hb).fe (by omega) k hk)
  have FIN := Lib.hid (fun w1 w3 v' hb1 hi => h.swap (es.take k ++ es.drop (k + 1)) v' w1 w3 hb1 hi SO.out (by simp; omega))
  have KB := Lib.hid (fun (W w3 : World) (hb : Below w.heap.size w W) (hg : W.grownBy w3 (Value.slice (some ⟨g, 0, none⟩) es.length c).ownBlock) => (hg.cell_far (a := ⟨B, 1, none⟩) (Nat.lt_of_lt_of_le (h.inlt (Or.inl rfl)).2 hb.size) (fun e => h.ne e.symm)).trans ((hb.cell (p := ⟨B, 1, none⟩) (h.inlt (Or.inl rfl)).2).trans h.cell.2.1))
  have KF := Lib.hid (fun (W w3 : World) (hb : Below w.heap.size w W) (hg : W.grownBy w3 (Value.slice (some ⟨g, 0, none⟩) es.length c).ownBlock) => frozen_of_row w3 B 1 _ _ ((hg.block B (Nat.lt_of_lt_of_le (h.inlt (Or.inl rfl)).2 hb.size) (fun e => h.ne e.symm)).trans ((hb.block B (h.inlt (Or.inl rfl)).2).trans h.blk)))
  obtain ⟨ES, hES⟩ : ∃ ES, es.take k ++ es.drop (k + 1) = ES := ⟨_, rfl⟩
  rw [hES] at SO FIN IA ⊢
  have z0 : (0 : Int) ≤ k := by omega
  have z1 : (k : Int) < es.length := by omega
  have z2 : IntKind.i64.wrap ((k : Int) + 1) = (k : Int) + 1 := by rw [IntKind.wrap_i64]; omega
  clear h FD hf hkk hES
  obtain ⟨y, hy⟩ : ∃ y, (es.getD k FeT.nil).x = y := ⟨_, rfl⟩
  rw [hy] at AT ⊢
  clear hy
  go_enter Try.func69, Try.ntmps69
  go_wp2_with fail
  refine FH.out.mono ?_
  rintro e w1 ⟨rfl, b1⟩
  obtain ⟨c0, c1, -⟩ := CC.out w1 b1
  obtain ⟨g', c', hv, _, _, d0, d1, -⟩ := AT.out w1 b1
  obtain ⟨rfl, rfl⟩ : g = g' ∧ c = c' := by injection hv with e1 e2 e3; injection e1 with e1; injection e1 with e1; exact ⟨e1, e3⟩
  have B1 := Lib.hid b1
  clear b1 hv
  generalize (es.getD k FeT.nil).id = yi at *
  go_wp2_with fail
  refine (IA.out w1 B1.out).mono ?_
  rintro e w3 ⟨v', rfl, hI⟩
  have k1 := KB.out _ w3 B1.out hI.2.1
  have k2 := KF.out _ w3 B1.out hI.2.1
  obtain ⟨a3, c3, rfl⟩ := row_slice hI.1
  have F2 := Lib.hid (FIN.out _ w3 _ B1.out hI)
  clear hI c0 c1
  go_wp2
  go_ret2
  exact ⟨rfl, _, F2.out.1, F2.out.2⟩
end
end Go.Proofs.Ytcieggckmpabnaa
