/-
  Package flow for elements of type *pacemaker/admit.data: Put, Get, Set, Drop. No block turns but the table's own. No condition but that New made it.
-/
import Derived.Test.YtiogfgkfipekbaaFlowP6
import Derived.Test.YtiogfgkfipekbaaFlowM
namespace Go.Proofs.Ytiogfgkfipekbaa
set_option linter.unusedVariables false
set_option linter.unusedSimpArgs false
open Go.ChangeShapes Go.WideShapes Go.ChangeAt Go.RowKit
attribute [local go_sem] alloc_drewN setCell_drewN

section
variable {w : World} {base B : Nat} {room : Int} {v : Value} {es : List FeP}
theorem tput_thereP (h : TbAtP w base B room v es) (id : Int) (x : Option Addr) (hf : isF (es.map FeP.id) id = true) : Calls Try.prog 92 #[.pointer (some ⟨B, 0, none⟩), .int .u32 id, Value.pointer x] w fun e w' => e = .returned (.int .i64 8) ∧ Below w.heap.size w w' := by
  have MD := Lib.hid (tmadeP h)
  have FD := tfindP h id
  rw [hf] at FD
  have FH := Lib.hid FD
  clear h FD hf
  generalize lessC (es.map FeP.id) id = k at *
  go_enter Try.func92, Try.ntmps92
  go_wp2_with fail
  refine MD.out.mono ?_
  rintro e w' ⟨rfl, rfl⟩
  go_wp2_with fail
  refine FH.out.mono ?_
  rintro e w1 ⟨rfl, b1⟩
  have B1 := Lib.hid b1
  clear b1
  go_wp2
  go_ret
  exact ⟨rfl, B1.out⟩
theorem tput_fullP (h : TbAtP w base B room v es) (id : Int) (x : Option Addr) (hf : isF (es.map FeP.id) id = false) (hl : (es.length : Int) = room) : Calls Try.prog 92 #[.pointer (some ⟨B, 0, none⟩), .int .u32 id, Value.pointer x] w fun e w' => e = .returned (.int .i64 20) ∧ Below w.heap.size w w' := by
  have MD := Lib.hid (tmadeP h)
  have FD := tfindP h id
  rw [hf] at FD
  have FH := Lib.hid FD
  have CC := Lib.hid (fun W (hb : Below w.heap.size w W) => (h.below hb).cell)
  obtain ⟨a, c, rfl⟩ := row_slice h.fe
  subst hl
  clear h FD hf
  generalize lessC (es.map FeP.id) id = k at *
  go_enter Try.func92, Try.ntmps92
  go_wp2_with fail
  refine MD.out.mono ?_
  rintro e w' ⟨rfl, rfl⟩
  go_wp2_with fail
  refine FH.out.mono ?_
  rintro e w1 ⟨rfl, b1⟩
  obtain ⟨c0, c1, -⟩ := CC.out w1 b1
  have B1 := Lib.hid b1
  clear b1
  go_wp2
  go_quiet (fail)
  go_wp2
  go_ret
  exact ⟨rfl, below_drewN _ B1.out⟩
set_option maxRecDepth 100000 in
set_option maxHeartbeats 1000000 in
theorem tput_okP (h : TbAtP w base B room v es) (hbase : base ≤ w.heap.size) (id : Int) (x : Option Addr) (hf : isF (es.map FeP.id) id = false) (hl : (es.length : Int) < room) : Calls Try.prog 92 #[.pointer (some ⟨B, 0, none⟩), .int .u32 id, Value.pointer x] w fun e w' => e = .returned (.int .i64 0) ∧ ∃ v', TbAtP w' base B room v' (es.take (lessC (es.map FeP.id) id) ++ ⟨id, x⟩ :: es.drop (lessC (es.map FeP.id) id)) ∧ MvS w w' (inTb B v) (inTb B v') := by
  have MD := Lib.hid (tmadeP h)
  have FD := tfindP h id
  rw [hf] at FD
  have FH := Lib.hid FD
  have hk := lessC_le (es.map FeP.id) id
  rw [List.length_map] at hk
  have SO := Lib.hid (show ((es.take (lessC (es.map FeP.id) id) ++ (⟨id, x⟩ : FeP) :: es.drop (lessC (es.map FeP.id) id)).map FeP.id).Pairwise (· < ·) by
    rw [List.map_append, List.map_cons, List.map_take, List.map_drop]
    exact ins_rise h.so hf)
  have hr1 := h.r1
  have CC := Lib.hid (fun W (hb : Below w.heap.size w W) => (h.below hb).cell)
  have HH := Lib.hid h
  obtain ⟨k, hkk⟩ : ∃ k, lessC (es.map FeP.id) id = k := ⟨_, rfl⟩
  rw [hkk] at FH hk SO ⊢
  have IA := Lib.hid (fun (W : World) (hb : Below w.heap.size w W) (vb : Nat) (hvb : W.heap[vb]? = some (.cells #[.int .u32 id, Value.pointer x] 171 (0, 0))) (hge : w.heap.size ≤ vb) => ins_anyP (h.below hb).fe (by omega) (Nat.le_trans hbase hb.size) k hk id x vb hvb (fun e => by have := (h.inlt (Or.inr e)).2; omega))
  have FIN := Lib.hid (fun w1 w3 v' hb1 hi => h.swap (es.take k ++ ⟨id, x⟩ :: es.drop k) v' w1 w3 hb1 hi SO.out (by simp; omega))
  obtain ⟨ES, hES⟩ : ∃ ES, es.take k ++ (⟨id, x⟩ : FeP) :: es.drop k = ES := ⟨_, rfl⟩
  rw [hES] at SO FIN ⊢
  have IA2 := IA
  rw [hES] at IA2
  clear hES IA
  have KB := Lib.hid (fun (W w3 : World) (hb : Below w.heap.size w W) (hg : W.grownBy w3 v.ownBlock) => (hg.cell_far (a := ⟨B, 1, none⟩) (Nat.lt_of_lt_of_le (h.inlt (Or.inl rfl)).2 hb.size) (fun e => h.ne e.symm)).trans ((hb.cell (p := ⟨B, 1, none⟩) (h.inlt (Or.inl rfl)).2).trans h.cell.2.1))
  have KF := Lib.hid (fun (W w3 : World) (hb : Below w.heap.size w W) (hg : W.grownBy w3 v.ownBlock) => frozen_of_row w3 B 1 _ _ ((hg.block B (Nat.lt_of_lt_of_le (h.inlt (Or.inl rfl)).2 hb.size) (fun e => h.ne e.symm)).trans ((hb.block B (h.inlt (Or.inl rfl)).2).trans h.blk)))
  obtain ⟨a, c, rfl⟩ := row_slice h.fe
  have hne : ¬ (es.length : Int) = room := by omega
  clear h FD hf hkk
  go_enter Try.func92, Try.ntmps92
  go_wp2_with fail
  refine MD.out.mono ?_
  rintro e w' ⟨rfl, rfl⟩
  go_wp2_with fail
  refine FH.out.mono ?_
  rintro e w1 ⟨rfl, b1⟩
  obtain ⟨c0, c1, -⟩ := CC.out w1 b1
  have B1 := Lib.hid b1
  clear b1
  go_wp2
  go_quiet (fail)
  go_wp2_with fail
  refine (IA2.out _ (below_drewN nq (B1.out.alloc B1.out.size _)) _ (heap_alloc_new w1 _) B1.out.size).mono ?_
  rintro e w3 ⟨v', rfl, hI⟩
  have k1 := KB.out _ w3 (below_drewN nq (B1.out.alloc B1.out.size _)) hI.2.1
  have k2 := KF.out _ w3 (below_drewN nq (B1.out.alloc B1.out.size _)) hI.2.1
  obtain ⟨a3, c3, rfl⟩ := row_slice hI.1
  have F2 := Lib.hid (FIN.out _ w3 _ (below_drewN nq (B1.out.alloc B1.out.size _)) hI)
  clear hI c0 c1
  go_wp2
  go_ret
  exact ⟨rfl, _, F2.out.1, F2.out.2⟩
end
end Go.Proofs.Ytiogfgkfipekbaa
