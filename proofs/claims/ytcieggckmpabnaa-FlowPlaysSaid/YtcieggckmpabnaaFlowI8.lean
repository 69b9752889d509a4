/-
  Package flow for elements of type int: Get, Set, Drop. No block turns but the table's own. No condition but that New made it.
-/
import Derived.Test.YtcieggckmpabnaaFlowI7
namespace Go.Proofs.Ytcieggckmpabnaa
set_option linter.unusedVariables false
set_option linter.unusedSimpArgs false
open Go.ChangeShapes Go.WideShapes Go.ChangeAt Go.RowKit
attribute [local go_sem] alloc_drewN setCell_drewN

theorem fes_setI (es : List FeI) (h : Nat) (x : Int) (hh : h < es.length) : (fesI es).set (h * 2 + 1) (Value.int .i64 x) = fesI (es.set h ⟨(es.getD h FeI.nil).id, x⟩) := by
  apply List.ext_getElem?
  intro j
  rcases Nat.lt_or_ge j (es.length * 2) with hj | hj
  · obtain ⟨q, r, rfl, hr⟩ : ∃ q r, j = q * 2 + r ∧ r < 2 := ⟨j / 2, j % 2, by omega, Nat.mod_lt _ (by omega)⟩
    have hq : q < es.length := by omega
    rw [fes_atI (es.set h _) q r (by rw [List.length_set]; exact hq) hr, fe_getDI es h hh]
    by_cases hqh : h = q
    · subst hqh
      have hL := fes_lenI es
      simp only [List.getElem?_set, List.length_set, hL, List.getElem_set_self]
      match r, hr with
      | 0, _ => rw [if_neg (by omega), fes_atI es h 0 hh (by omega)]; rfl
      | 1, _ => rw [if_pos rfl, if_pos (by omega)]; rfl
    · rw [List.getElem?_set_ne (by omega), fes_atI es q r hq hr, List.getElem_set_ne hqh]
  · rw [List.getElem?_eq_none (by simp [fes_lenI]; omega), List.getElem?_eq_none (by simp [fes_lenI]; omega)]
section
variable {w : World} {base B : Nat} {room : Int} {v : Value} {es : List FeI}
theorem tget_noI (h : TbAtI w base B room v es) (id : Int) (hf : isF (es.map FeI.id) id = false) : Calls Try.prog 15 #[.pointer (some ⟨B, 0, none⟩), .int .u32 id] w fun e w' => e = .returned (.tuple #[Value.int .i64 0, .bool false]) ∧ Below w.heap.size w w' := by
  have FD := tfindI h id
  rw [hf] at FD
  have FH := Lib.hid FD
  clear h FD hf
  generalize lessC (es.map FeI.id) id = k at *
  go_enter Try.func15, Try.ntmps15
  go_wp2_with fail
  refine FH.out.mono ?_
  rintro e w1 ⟨rfl, b1⟩
  have B1 := Lib.hid b1
  clear b1
  go_wp2
  go_ret2
  exact ⟨rfl, B1.out⟩
theorem tget_atI (h : TbAtI w base B room v es) (id : Int) (hf : isF (es.map FeI.id) id = true) : Calls Try.prog 15 #[.pointer (some ⟨B, 0, none⟩), .int .u32 id] w fun e w' => e = .returned (.tuple #[Value.int .i64 (es.getD (lessC (es.map FeI.id) id) FeI.nil).x, .bool true]) ∧ Below w.heap.size w w' := by
  have FD := tfindI h id
  rw [hf] at FD
  have FH := Lib.hid FD
  have hk := (isF_get hf).1
  rw [List.length_map] at hk
  have CC := Lib.hid (fun W (hb : Below w.heap.size w W) => (h.below hb).cell)
  have AT := Lib.hid (fun W (hb : Below w.heap.size w W) => (h.below hb).fe.at _ hk)
  clear h FD hf
  generalize lessC (es.map FeI.id) id = k at *
  have z0 : (0 : Int) ≤ k := by omega
  have z1 : (k : Int) < es.length := by omega
  obtain ⟨y, hy⟩ : ∃ y, (es.getD k FeI.nil).x = y := ⟨_, rfl⟩
  rw [hy] at AT ⊢
  clear hy
  go_enter Try.func15, Try.ntmps15
  go_wp2_with fail
  refine FH.out.mono ?_
  rintro e w1 ⟨rfl, b1⟩
  obtain ⟨c0, c1, -⟩ := CC.out w1 b1
  obtain ⟨g, c, rfl, _, _, d0, d1, -⟩ := AT.out w1 b1
  have B1 := Lib.hid b1
  clear b1
  generalize (es.getD k FeI.nil).id = yi at *
  go_wp2
  go_ret2
  exact ⟨rfl, B1.out⟩
theorem tset_noI (h : TbAtI w base B room v es) (id : Int) (x : Int) (hf : isF (es.map FeI.id) id = false) : Calls Try.prog 73 #[.pointer (some ⟨B, 0, none⟩), .int .u32 id, Value.int .i64 x] w fun e w' => e = .returned (.bool false) ∧ Below w.heap.size w w' := by
  have FD := tfindI h id
  rw [hf] at FD
  have FH := Lib.hid FD
  clear h FD hf
  generalize lessC (es.map FeI.id) id = k at *
  go_enter Try.func73, Try.ntmps73
  go_wp2_with fail
  refine FH.out.mono ?_
  rintro e w1 ⟨rfl, b1⟩
  have B1 := Lib.hid b1
  clear b1
  go_wp2
  go_ret
  exact ⟨rfl, B1.out⟩
theorem tset_atI (h : TbAtI w base B room v es) (id : Int) (x : Int) (hf : isF (es.map FeI.id) id = true) : Calls Try.prog 73 #[.pointer (some ⟨B, 0, none⟩), .int .u32 id, Value.int .i64 x] w fun e w' => e = .returned (.bool true) ∧ TbAtI w' base B room v (es.set (lessC (es.map FeI.id) id) ⟨id, x⟩) ∧ MvS w w' (inTb B v) (inTb B v) := by
  have FD := tfindI h id
  rw [hf] at FD
  have FH := Lib.hid FD
  obtain ⟨hk, hid⟩ := isF_get hf
  rw [List.length_map] at hk
  rw [fid_getDI es _ hk] at hid
  have CC := Lib.hid (fun W (hb : Below w.heap.size w W) => (h.below hb).cell)
  have AT := Lib.hid (fun W (hb : Below w.heap.size w W) => (h.below hb).fe.at _ hk)
  have HH := Lib.hid h
  have FS := Lib.hid (fes_setI es (lessC (es.map FeI.id) id) x hk)
  rw [hid] at FS
  have IDS := Lib.hid (show (es.set (lessC (es.map FeI.id) id) (⟨id, x⟩ : FeI)).map FeI.id = es.map FeI.id by
    rw [List.map_set]
    apply List.ext_getElem?
    intro q
    rw [List.getElem?_set]
    split
    · rename_i e; subst e
      rw [if_pos (by rw [List.length_map]; exact hk), List.getElem?_map, List.getElem?_eq_getElem hk, ← fe_getDI es _ hk]
      show some id = some (es.getD _ FeI.nil).id
      rw [hid]
    · rfl)
  clear h FD hf
  obtain ⟨k, hkk⟩ : ∃ k, lessC (es.map FeI.id) id = k := ⟨_, rfl⟩
  rw [hkk] at FH hk AT FS IDS ⊢
  clear hkk hid
  have z0 : (0 : Int) ≤ k := by omega
  have z1 : (k : Int) < es.length := by omega
  go_enter Try.func73, Try.ntmps73
  go_wp2_with fail
  refine FH.out.mono ?_
  rintro e w1 ⟨rfl, b1⟩
  obtain ⟨c0, c1, -⟩ := CC.out w1 b1
  obtain ⟨g, c, rfl, _, _, d0, d1, d2⟩ := AT.out w1 b1
  have H1 := Lib.hid (HH.out.below b1)
  have FIN := Lib.hid (show TbAtI (w1.setCell ⟨g, k * 2 + 1, none⟩ (Value.int .i64 x)) base B room (.slice (some ⟨g, 0, none⟩) es.length c) (es.set k ⟨id, x⟩) ∧ MvS w (w1.setCell ⟨g, k * 2 + 1, none⟩ (Value.int .i64 x)) (inTb B (.slice (some ⟨g, 0, none⟩) es.length c)) (inTb B (.slice (some ⟨g, 0, none⟩) es.length c)) by
    have hgB : g ≠ B := fun e => H1.out.ne (by rw [← e]; rfl)
    have hst := row_put (show w1.ownsRow base 162 2 (.slice (some ⟨g, 0, none⟩) es.length c) es.length (fesI es) from H1.out.fe) (k * 2 + 1) (Value.int .i64 x)
    rw [FS.out] at hst
    have hh : ∀ j, j ≠ g → (w1.setCell ⟨g, k * 2 + 1, none⟩ (Value.int .i64 x)).heap[j]? = w1.heap[j]? := fun j hj => Below.heap_setCell w1 ⟨g, k * 2 + 1, none⟩ _ j hj
    refine ⟨⟨(hh B (fun e => hgB e.symm)).trans H1.out.blk, H1.out.low, by unfold FesAtI; rw [List.length_set]; exact hst, by rw [IDS.out]; exact H1.out.so, H1.out.r0, H1.out.r1, by rw [List.length_set]; exact H1.out.le⟩, ?_⟩
    exact (MvS.of_below _ b1).trans ⟨rfl, rfl, rfl, by simp [World.setCell], fun j _ hS => hh j (fun e => hS (Or.inr (by rw [e]; rfl))), fun j hj => Or.inr hj⟩)
  clear b1
  generalize (es.getD k FeI.nil).x = y at *
  generalize (es.getD k FeI.nil).id = yi at *
  go_wp2
  go_ret
  exact ⟨rfl, FIN.out.1, FIN.out.2⟩
theorem tdrop_noI (h : TbAtI w base B room v es) (id : Int) (hf : isF (es.map FeI.id) id = false) : Calls Try.prog 75 #[.pointer (some ⟨B, 0, none⟩), .int .u32 id] w fun e w' => e = .returned (.tuple #[Value.int .i64 0, .bool false]) ∧ Below w.heap.size w w' := by
  have FD := tfindI h id
  rw [hf] at FD
  have FH := Lib.hid FD
  clear h FD hf
  generalize lessC (es.map FeI.id) id = k at *
  go_enter Try.func75, Try.ntmps75
  go_wp2_with fail
  refine FH.out.mono ?_
  rintro e w1 ⟨rfl, b1⟩
  have B1 := Lib.hid b1
  clear b1
  go_wp2
  go_ret2
  exact ⟨rfl, B1.out⟩
set_option maxHeartbeats 1000000 in
theorem tdrop_atI (h : TbAtI w base B room v es) (hbase : base ≤ w.heap.size) (id : Int) (hf : isF (es.map FeI.id) id = true) : Calls Try.prog 75 #[.pointer (some ⟨B, 0, none⟩), .int .u32 id] w fun e w' => e = .returned (.tuple #[Value.int .i64 (es.getD (lessC (es.map FeI.id) id) FeI.nil).x, .bool true]) ∧ ∃ v', TbAtI w' base B room v' (es.take (lessC (es.map FeI.id) id) ++ es.drop (lessC (es.map FeI.id) id + 1)) ∧ MvS w w' (inTb B v) (inTb B v') := by
  have FD := tfindI h id
  rw [hf] at FD
  have FH := Lib.hid FD
  have hk := (isF_get hf).1
  rw [List.length_map] at hk
  have CC := Lib.hid (fun W (hb : Below w.heap.size w W) => (h.below hb).cell)
  have AT := Lib.hid (fun W (hb : Below w.heap.size w W) => (h.below hb).fe.at _ hk)
  have SO := Lib.hid (show ((es.take (lessC (es.map FeI.id) id) ++ es.drop (lessC (es.map FeI.id) id + 1)).map FeI.id).Pairwise (· < ·) by
    rw [List.map_append, List.map_take, List.map_drop]
    exact del_rise h.so _)
  have hr1 := h.r1
  have hle := h.le
  obtain ⟨k, hkk⟩ : ∃ k, lessC (es.map FeI.id) id = k := ⟨_, rfl⟩
  rw [hkk] at FH hk SO AT ⊢
  obtain ⟨g, c, hv, _⟩ := World.ownsRow.form (show w.ownsRow base 162 2 v es.length (fesI es) from h.fe) (by omega)
  subst hv
  have IA := Lib.hid (fun (W : World) (hb : Below w.heap.size w W) => delI (h.below hb).fe (by omega) k hk)
  have FIN := Lib.hid (fun w1 w3 v' hb1 hi => h.swap (es.take k ++ es.drop (k + 1)) v' w1 w3 hb1 hi SO.out (by simp; omega))
  have KB := Lib.hid (fun (W w3 : World) (hb : Below w.heap.size w W) (hg : W.grownBy w3 (Value.slice (some ⟨g, 0, none⟩) es.length c).ownBlock) => (hg.cell_far (a := ⟨B, 1, none⟩) (Nat.lt_of_lt_of_le (h.inlt (Or.inl rfl)).2 hb.size) (fun e => h.ne e.symm)).trans ((hb.cell (p := ⟨B, 1, none⟩) (h.inlt (Or.inl rfl)).2).trans h.cell.2.1))
  have KF := Lib.hid (fun (W w3 : World) (hb : Below w.heap.size w W) (hg : W.grownBy w3 (Value.slice (some ⟨g, 0, none⟩) es.length c).ownBlock) => frozen_of_row w3 B 1 _ _ ((hg.block B (Nat.lt_of_lt_of_le (h.inlt (Or.inl rfl)).2 hb.size) (fun e => h.ne e.symm)).trans ((hb.block B (h.inlt (Or.inl rfl)).2).trans h.blk)))
  obtain ⟨ES, hES⟩ : ∃ ES, es.take k ++ es.drop (k + 1) = ES := ⟨_, rfl⟩
  rw [hES] at SO FIN IA ⊢
  have z0 : (0 : Int) ≤ k := by omega
  have z1 : (k : Int) < es.length := by omega
  have z2 : IntKind.i64.wrap ((k : Int) + 1) = (k : Int) + 1 := by rw [IntKind.wrap_i64]; omega
  clear h FD hf hkk hES
  obtain ⟨y, hy⟩ : ∃ y, (es.getD k FeI.nil).x = y := ⟨_, rfl⟩
  rw [hy] at AT ⊢
  clear hy
  go_enter Try.func75, Try.ntmps75
  go_wp2_with fail
  refine FH.out.mono ?_
  rintro e w1 ⟨rfl, b1⟩
  obtain ⟨c0, c1, -⟩ := CC.out w1 b1
  obtain ⟨g', c', hv, _, _, d0, d1, -⟩ := AT.out w1 b1
  obtain ⟨rfl, rfl⟩ : g = g' ∧ c = c' := by injection hv with e1 e2 e3; injection e1 with e1; injection e1 with e1; exact ⟨e1, e3⟩
  have B1 := Lib.hid b1
  clear b1 hv
  generalize (es.getD k FeI.nil).id = yi at *
  go_wp2_with fail
  refine (IA.out w1 B1.out).mono ?_
  rintro e w3 ⟨v', rfl, hI⟩
  have k1 := KB.out _ w3 B1.out hI.2.1
  have k2 := KF.out _ w3 B1.out hI.2.1
  obtain ⟨a3, c3, rfl⟩ := row_slice hI.1
  have F2 := Lib.hid (FIN.out _ w3 _ B1.out hI)
  clear hI c0 c1
  go_wp2
  go_ret2
  exact ⟨rfl, _, F2.out.1, F2.out.2⟩
end
end Go.Proofs.Ytcieggckmpabnaa
