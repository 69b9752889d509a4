/-
  The records of operations and replies, by package trace. What lay below the heap's end stands.
-/
import Derived.Test.YtapjebhdgcpdjaaTcO1
import Derived.Test.YtapjebhdgcpdjaaTc5b
import Derived.Test.YtapjebhdgcpdjaaOpenOp
import Derived.Test.YtapjebhdgcpdjaaOpen27b
import Derived.Deep.CutBlock
import Derived.Deep.DeepCutAuto
import Derived.Deep.WholeRow
import Derived.Laws.Cells
namespace Go.Proofs.Ytapjebhdgcpdjaa
set_option linter.unusedVariables false
set_option linter.unusedSimpArgs false
open Go.ChangeShapes Go.WideShapes Go.ChangeAt Go.RowKit
attribute [-go_sem] run_index_string binOp_string_eql binOp_string_neq run_string_add_if run_slice_string_from_if run_slice_string_to_if
attribute [local go_sem] index_bt add_fits slice_from slice_to eql_str neq_str alloc_drewN setCell_drewN

def tkstep (n : Int) (x : Opn) : Int := if x.k = 3 then cap (n + x.ti) else n
/-- The time behind so many operations. -/
def tk39 (X : List Opn) (j : Nat) : Int := (X.take j).foldl tkstep 0
theorem tk39_succ (X : List Opn) (j : Nat) (h : j < X.length) : tk39 X (j + 1) = tkstep (tk39 X j) (X.getD j Opn.nil) := by
  unfold tk39
  rw [List.take_succ_eq_append_getElem h, List.foldl_append, List.getD_eq_getElem?_getD, List.getElem?_eq_getElem h]; rfl
theorem tkf_bd : ∀ (l : List Opn) (n : Int), (∀ x ∈ l, x.ok) → (0 ≤ n ∧ n ≤ 18446744073709551615) → 0 ≤ l.foldl tkstep n ∧ l.foldl tkstep n ≤ 18446744073709551615
  | [], n, _, h => h
  | x :: l, n, hx, h => by
    have hn := (hx x (by simp)).2.2.2.2
    rw [List.foldl_cons]
    refine tkf_bd l _ (fun y hy => hx y (by simp [hy])) ?_
    unfold tkstep
    split
    · exact cap_bd9 (n + x.ti) (by omega)
    · exact h
theorem tk39_bd (X : List Opn) (j : Nat) (hx : ∀ x ∈ X, x.ok) : 0 ≤ tk39 X j ∧ tk39 X j ≤ 18446744073709551615 := tkf_bd _ 0 (fun x h => hx x (List.mem_of_mem_take h)) ⟨Int.le_refl _, by decide⟩
def of39 (X : List Opn) (L : List Rep27) (j : Nat) : Rec := ⟨tk39 X j, (L.getD j Rep27.nil).k, (L.getD j Rep27.nil).fl, (L.getD j Rep27.nil).nr, (L.getD j Rep27.nil).ln, (L.getD j Rep27.nil).c⟩
def ofl39 (X : List Opn) (L : List Rep27) (m : Nat) : List Rec := (List.range m).map (of39 X L)
theorem ofl_len (X : List Opn) (L : List Rep27) (m : Nat) : (ofl39 X L m).length = m := by unfold ofl39; simp
theorem ofl_snoc (X : List Opn) (L : List Rep27) (m : Nat) : ofl39 X L (m + 1) = ofl39 X L m ++ [of39 X L m] := by unfold ofl39; rw [List.range_succ, List.map_append]; rfl
theorem getD_mem_op {l : List Opn} {j : Nat} (h : j < l.length) : l.getD j Opn.nil ∈ l := by
  rw [List.getD_eq_getElem?_getD, List.getElem?_eq_getElem h]; exact List.getElem_mem _
theorem getD_mem_rep {l : List Rep27} {j : Nat} (h : j < l.length) : l.getD j Rep27.nil ∈ l := by
  rw [List.getD_eq_getElem?_getD, List.getElem?_eq_getElem h]; exact List.getElem_mem _
/-- What is read of operations, of replies. -/
def XC (w : World) (b off : Nat) (X : List Opn) : Prop := ∀ i, i < X.length → w.cell? ⟨b, off + i * 5, none⟩ = some (.int .i64 (X.getD i Opn.nil).k) ∧ w.cell? ⟨b, off + i * 5 + 4, none⟩ = some (.int .u64 (X.getD i Opn.nil).ti)
def LC (w : World) (b off : Nat) (L : List Rep27) : Prop := ∀ i, i < L.length → w.cell? ⟨b, off + i * 42, none⟩ = some (.int .i64 (L.getD i Rep27.nil).k) ∧ w.cell? ⟨b, off + i * 42 + 1, none⟩ = some (.int .i64 (L.getD i Rep27.nil).c) ∧ w.cell? ⟨b, off + i * 42 + 2, none⟩ = some (.int .u32 (L.getD i Rep27.nil).fl) ∧ w.cell? ⟨b, off + i * 42 + 3, none⟩ = some (.int .u32 (L.getD i Rep27.nil).nr) ∧ w.cell? ⟨b, off + i * 42 + 4, none⟩ = some (.int .u64 (L.getD i Rep27.nil).ln) ∧ ∀ j, 5 ≤ j → j < 42 → ∃ k m, w.cell? ⟨b, off + i * 42 + j, none⟩ = some (.int k m)
theorem cells_list (f : Nat → Option Value) : ∀ n, (∀ o, o < n → ∃ u, f o = some u ∧ u.oneCell' = true) → ∃ C : List Value, C.length = n ∧ (∀ o, o < n → C[o]? = f o) ∧ ∀ v ∈ C, v.oneCell' = true
  | 0, _ => ⟨[], rfl, fun o h => absurd h (by omega), fun v h => by cases h⟩
  | n + 1, h => by
    obtain ⟨C, hl, ha, h1⟩ := cells_list f n (fun o ho => h o (by omega))
    obtain ⟨u, hu, hu1⟩ := h n (by omega)
    refine ⟨C ++ [u], by simp [hl], fun o ho => ?_, fun v hv => ?_⟩
    · by_cases e : o < n
      · rw [List.getElem?_append_left (by omega)]; exact ha o e
      · have e2 : o = n := by omega
        subst e2
        rw [List.getElem?_append_right (by omega), hl, Nat.sub_self, hu]; rfl
    · rcases List.mem_append.1 hv with hv | hv
      · exact h1 v hv
      · rw [List.mem_singleton.1 hv]; exact hu1
/-- Forty-two single cells; what is read of them at an address. -/
structure All42 (C : Array Value) : Prop where
  size : C.size = 42
  one : C.all (·.oneCell') = true
def whole42 (W : World) (a : Addr) : Array Value := ((List.range 42).map fun o => (W.cell? (a.add o)).getD undef).toArray
structure Read42 (W : World) (a : Addr) : Prop where
  at_ : ∀ o, o < 42 → ∃ u, W.cell? (a.add o) = some u
theorem loadVar42 (W : World) (a : Addr) (h : Read42 W a) : (loadVar 125 a).run Try.prog W = .ok (.agg (whole42 W a)) W := by
  have h1 := run_loadCells_list (P := Try.prog) W a (whole42 W a).toList (fun o v hv => by
    have ho : o < 42 := by
      have := (List.getElem?_eq_some_iff.1 hv).1
      simpa [whole42] using this
    obtain ⟨u, hu⟩ := h.at_ o ho
    have hw : (whole42 W a).toList[o]? = some ((W.cell? (a.add o)).getD undef) := by
      unfold whole42
      simp [List.getElem?_map, List.getElem?_range ho]
    rw [hw, hu] at hv
    rw [hu]; exact hv)
  have hl : (whole42 W a).toList.length = 42 := by simp [whole42]
  rw [hl] at h1
  simp only [Sem.run_bind, Sem.run_pure, Result.andThen, loadVar, Try.isAgg125, Try.sizeOf125, ↓reduceIte]
  rw [h1]
theorem wpList_load42 {ops : Array Oper} {rest : List Oper} {op : Oper} {a : Act} {W : World} {Q : Exit → Act → World → Prop} (hgd : op.guard = none) (x : Operand) (ho : op.op = .load 125 x)
    (ad : Addr) (hx : a.eval x = .pointer (some ad)) (hr : Read42 W ad) (h : wpList Try.prog ops Q rest (a.put op.dst (.agg (whole42 W ad))) W) : wpList Try.prog ops Q (op :: rest) a W :=
  wpList_plain hgd fun K hK => by
    unfold Oper.wp execOp
    simp only [ho, hx, Instr.loadAt, Instr.sureAddr, Sem.run_bind, Sem.run_pure, Result.andThen_ok, loadVar42 W ad hr]
    exact hK _ _ h
theorem wpList_store42 {ops : Array Oper} {rest : List Oper} {op : Oper} {a : Act} {W : World} {Q : Exit → Act → World → Prop} (hgd : op.guard = none) (x y : Operand) (ho : op.op = .store 125 x y)
    (c C : Array Value) (hx : a.eval x = .pointer (some ⟨W.heap.size, 0, none⟩)) (hy : a.eval y = .agg C) (hc : c.size = 42) (hC : All42 C)
    (h : wpList Try.prog ops Q rest (a.put op.dst undef) (W.alloc (.cells C 125))) : wpList Try.prog ops Q (op :: rest) a (W.alloc (.cells c 125)) :=
  wpList_plain hgd fun K hK => by
    have hi : (Try.prog.info? 125).map (·.size) = some 42 := by kernel_rfl
    unfold Oper.wp execOp
    simp only [ho, hx, hy, Instr.storeAt, Instr.sureAddr, Sem.run_bind, Sem.run_pure, Result.andThen_ok, run_storeVar_new W 125 c C (by rw [hi, hC.size]) (by rw [hc, hC.size]) hC.one]
    exact hK _ _ h
set_option maxRecDepth 100000 in
set_option maxHeartbeats 4000000 in
theorem tof_at (b1 off1 c1 b2 off2 c2 : Nat) (X : List Opn) (L : List Rep27) (m : Nat) (hm : m = min L.length X.length) (hX : X.length ≤ 1000) (hL : L.length ≤ 1000) (hcap : L.length ≤ c2)
    (ox : ∀ x ∈ X, x.ok) (ol : ∀ x ∈ L, x.ok) (w : World) (hb1 : b1 < w.heap.size) (hb2 : b2 < w.heap.size) (h1 : XC w b1 off1 X) (h2 : LC w b2 off2 L) :
    Calls Try.prog 39 #[.slice (some ⟨b1, off1, none⟩) X.length c1, .slice (some ⟨b2, off2, none⟩) L.length c2] w fun e w' => ∃ v, e = .returned v ∧ RRow w w' v (ofl39 X L m) ∧ Below w.heap.size w w' := by
  obtain ⟨i0, hi, hz0, hz1, hz2⟩ := info_parts infoRc
  have H1 := Lib.hid h1; have H2 := Lib.hid h2; have OX := Lib.hid ox; have OL := Lib.hid ol
  have hmin : min (L.length : Int) (X.length : Int) = (m : Int) := by omega
  have hmL : m ≤ L.length := by omega
  have hmX : m ≤ X.length := by omega
  clear h1 h2 ox ol hm
  go_enter Try.func39, Try.ntmps39
  go_wp2
  go_loopw [5, 6, 17] (fun x y z wr => ∃ (v : Value) (j : Nat), v = x ∧ j ≤ m ∧ y = .int .u64 (tk39 X j) ∧ z = .int .i64 j ∧ RRow w wr v (ofl39 X L j) ∧ Below w.heap.size w wr) (fun _ _ z _ => m - (intOf z).toNat)
  case atStart => exact ⟨_, 0, rfl, Nat.zero_le _, rfl, rfl, World.ownsRow_nil _ _ _ _, Below.refl _ _⟩
  case round =>
    obtain ⟨v, j, rfl, hj, rfl, rfl, ho, hbw⟩ := hrel
    have hsize := hbw.size
    by_cases hlt : j < m
    · obtain ⟨c0, c1_, c2_, c3, c4, hall⟩ := H2.out j (by omega)
      have hall2 : ∀ o, o < 42 → ∃ u, wr.cell? ⟨b2, off2 + j * 42 + o, none⟩ = some u ∧ u.oneCell' = true := fun o ho => by
        have up : ∀ u, w.cell? ⟨b2, off2 + j * 42 + o, none⟩ = some u → wr.cell? ⟨b2, off2 + j * 42 + o, none⟩ = some u := fun u h => (hbw.cell (p := ⟨b2, off2 + j * 42 + o, none⟩) hb2).trans h
        by_cases g0 : o = 0
        · subst g0; exact ⟨_, up _ c0, rfl⟩
        · by_cases g1 : o = 1
          · subst g1; exact ⟨_, up _ c1_, rfl⟩
          · by_cases g2 : o = 2
            · subst g2; exact ⟨_, up _ c2_, rfl⟩
            · by_cases g3 : o = 3
              · subst g3; exact ⟨_, up _ c3, rfl⟩
              · by_cases g4 : o = 4
                · subst g4; exact ⟨_, up _ c4, rfl⟩
                · obtain ⟨k, m', h⟩ := hall o (by omega) ho
                  exact ⟨_, up _ h, rfl⟩
      obtain ⟨C, hCl, hCa, hC1⟩ := cells_list (fun o => wr.cell? ⟨b2, off2 + j * 42 + o, none⟩) 42 hall2
      have k0_ : C[0]? = some (.int .i64 (L.getD j Rep27.nil).k) := (hCa 0 (by omega)).trans ((hbw.cell (p := ⟨b2, off2 + j * 42, none⟩) hb2).trans c0)
      have k1_ : C[1]? = some (.int .i64 (L.getD j Rep27.nil).c) := (hCa 1 (by omega)).trans ((hbw.cell (p := ⟨b2, off2 + j * 42 + 1, none⟩) hb2).trans c1_)
      have k2_ : C[2]? = some (.int .u32 (L.getD j Rep27.nil).fl) := (hCa 2 (by omega)).trans ((hbw.cell (p := ⟨b2, off2 + j * 42 + 2, none⟩) hb2).trans c2_)
      have k3_ : C[3]? = some (.int .u32 (L.getD j Rep27.nil).nr) := (hCa 3 (by omega)).trans ((hbw.cell (p := ⟨b2, off2 + j * 42 + 3, none⟩) hb2).trans c3)
      have k4_ : C[4]? = some (.int .u64 (L.getD j Rep27.nil).ln) := (hCa 4 (by omega)).trans ((hbw.cell (p := ⟨b2, off2 + j * 42 + 4, none⟩) hb2).trans c4)
      have rd : Read42 wr ⟨b2, off2 + j * 42, none⟩ := ⟨fun o ho => by obtain ⟨u, hu, _⟩ := hall2 o ho; exact ⟨u, by rw [Go.WideShapes.add_plain]; exact hu⟩⟩
      have hwh : whole42 wr ⟨b2, off2 + j * 42, none⟩ = C.toArray := by
        unfold whole42
        congr 1
        refine List.ext_getElem? fun o => ?_
        by_cases ho : o < 42
        · rw [List.getElem?_map, List.getElem?_range ho, hCa o ho]
          obtain ⟨u, hu, _⟩ := hall2 o ho
          simp only [Option.map_some, Go.WideShapes.add_plain, hu, Option.getD_some]
        · rw [List.getElem?_eq_none (by simp; omega), List.getElem?_eq_none (by omega)]
      have a42 : All42 C.toArray := ⟨by simp [hCl], by simpa using hC1⟩
      clear hall2 hCa hC1 c0 c1_ c2_ c3 c4
      have XK : Hid (∀ V, Below w.heap.size w V → V.cell? ⟨b1, off1 + j * 5, none⟩ = some (.int .i64 (X.getD j Opn.nil).k) ∧ V.cell? ⟨b1, off1 + j * 5 + 4, none⟩ = some (.int .u64 (X.getD j Opn.nil).ti)) := Lib.hid fun V h =>
        ⟨(h.cell (p := ⟨b1, off1 + j * 5, none⟩) hb1).trans (H1.out j (by omega)).1, (h.cell (p := ⟨b1, off1 + j * 5 + 4, none⟩) hb1).trans (H1.out j (by omega)).2⟩
      obtain ⟨tn0, tn1⟩ := tk39_bd X j OX.out
      have hx := OX.out _ (getD_mem_op (show j < X.length by omega))
      have hl := OL.out _ (getD_mem_rep (show j < L.length by omega))
      have TS := Lib.hid (tk39_succ X j (by omega))
      have OS := Lib.hid (ofl_snoc X L j)
      have HLN := ofl_len X L j
      unfold of39 at OS
      obtain ⟨tn, htn⟩ : ∃ tn, tk39 X j = tn := ⟨_, rfl⟩
      rw [htn] at tn0 tn1 TS OS ⊢
      obtain ⟨x, hxe⟩ : ∃ x, X.getD j Opn.nil = x := ⟨_, rfl⟩
      rw [hxe] at hx XK TS
      obtain ⟨y, hye⟩ : ∃ y, L.getD j Rep27.nil = y := ⟨_, rfl⟩
      rw [hye] at hl OS k0_ k1_ k2_ k3_ k4_
      obtain ⟨Q, hQ⟩ : ∃ Q, ofl39 X L j = Q := ⟨_, rfl⟩
      rw [hQ] at ho OS HLN
      have HO := Lib.hid ho; have HB := Lib.hid hbw
      have hj1 : (j : Int) < (m : Int) := by omega
      have hj2 : (j : Int) < (L.length : Int) := by omega
      have hj3 : (j : Int) < (X.length : Int) := by omega
      clear htn hxe hye hQ ho hbw hall
      obtain ⟨ok, of_, oi, on, ot⟩ := x
      obtain ⟨-, -, -, -, ot0, ot1⟩ := hx
      obtain ⟨xk, xc, xf, xi, xn⟩ := y
      obtain ⟨⟨k0, k1⟩, ⟨e0, e1⟩, ⟨f0, f1⟩, ⟨g0, g1⟩, l0, l1⟩ := hl
      simp only at XK k0_ k1_ k2_ k3_ k4_ OS ot0 ot1 k0 k1 e0 e1 f0 f1 g0 g1 l0 l1
      have HC42 := Lib.hid hCl
      clear hCl
      go_upto_region 5 with (fail)
      refine wp_region_lit ?_
      refine wpList_plain rfl fun K hK => ?_
      go_simp
      refine hK _ _ ?_
      clear hK K
      refine wpList_plain rfl fun K hK => ?_
      go_simp
      refine hK _ _ ?_
      clear hK K
      refine wpList_load42 rfl _ rfl ⟨b2, off2 + j * 42, none⟩ (by rfl) rd ?_
      rw [hwh]
      clear rd hwh
      refine wpList_plain rfl fun K hK => ?_
      go_simp
      refine hK _ _ ?_
      clear hK K
      refine wpList_plain rfl fun K hK => ?_
      go_simp
      refine hK _ _ ?_
      clear hK K
      refine wpList_store42 rfl _ _ rfl _ C.toArray (by rfl) (by rfl) (by rfl) a42 ?_
      clear a42
      go_upto_region 6 with (fail)
      refine wp_genc ?_
      intro v1 hv1
      have X1 : Below wr.heap.size wr v1 := by
        rw [hv1]
        (repeat' (first | (with_reducible exact Below.refl _ _) | (with_reducible refine below_drewN _ ?_) | (with_reducible refine Below.drew ?_) | (with_reducible refine Below.alloc ?_ (by first | omega | (simp; done) | (simp; omega)) _)))
      have X9 : v1.heap[wr.heap.size]? = some (.cells C.toArray 125 (0, 0)) := by
        rw [hv1]
        (repeat' (first | (with_reducible exact heap_alloc_new _ _) | (with_reducible refine blk_drew ?_)))
      have p0 : v1.cell? ⟨wr.heap.size, 0, none⟩ = some (.int .i64 xk) := cell_blk X9 0 (by simpa using k0_)
      have p1 : v1.cell? ⟨wr.heap.size, 1, none⟩ = some (.int .i64 xc) := cell_blk X9 1 (by simpa using k1_)
      have p2 : v1.cell? ⟨wr.heap.size, 2, none⟩ = some (.int .u32 xf) := cell_blk X9 2 (by simpa using k2_)
      have p3 : v1.cell? ⟨wr.heap.size, 3, none⟩ = some (.int .u32 xi) := cell_blk X9 3 (by simpa using k3_)
      have p4 : v1.cell? ⟨wr.heap.size, 4, none⟩ = some (.int .u64 xn) := cell_blk X9 4 (by simpa using k4_)
      have hs1 := X1.size
      have ho1 : v1.ownsRow w.heap.size 64 6 v Q.length (Q.flatMap Rec.cells) :=
        World.ownsRow.kept HO.out (row := some v1.heap.size) ⟨X1.os, X1.tape, X1.output, X1.size, fun k hk _ => X1.block k hk⟩ (Or.inr (fun h => by
          have := World.ownsRow.lt HO.out _ h
          omega))
      have HOA := Lib.hid ho1
      have HB1 : Hid (Below w.heap.size w v1) := Lib.hid (HB.out.trans (X1.mono hsize))
      clear hv1 X1 X9 ho1 k0_ k1_ k2_ k3_ k4_
      by_cases h3 : ok = 3
      · subst h3
        have ES : Hid (tk39 X (j + 1) = cap (tn + ot)) := Lib.hid (by rw [TS.out]; rfl)
        go_wp2_with (first
          | (at_builtin; refine wpList_append_own _ rfl _ _ 61 rfl w.heap.size 64 i0 (.agg #[.int .u64 0, .int .i64 0, .int .u32 0, .int .u32 0, .int .u64 0, .int .i64 0]) 6 40 Try.underlying61 hi hz0 hz1 hz2 rfl (by decide) _ _ _ rfl (HOA.out.alloc _) ⟨v1.heap.size, 0, none⟩ 1 1 [.int .u64 tn, .int .i64 xk, .int .u32 xf, .int .u32 xi, .int .u64 xn, .int .i64 xc] rfl rfl (cells_new _ #[.int .u64 tn, .int .i64 xk, .int .u32 xf, .int .u32 xi, .int .u64 xn, .int .i64 xc] _) (fun x hx => by simp at hx; rcases hx with rfl | rfl | rfl | rfl | rfl | rfl <;> rfl) (by unfold maxLen; omega) (by omega) (by simp; omega) ?_; intro v' w6 hown' hgrow3 hnil3; clear hnil3; have B6 : Below w.heap.size w w6 := (HB1.out.alloc (by omega) _).grown hgrow3 (by simp; omega) (fun g hg => (World.ownsRow.lt HOA.out g hg).1); obtain ⟨q0, q4⟩ := XK.out _ B6)
          | (go_at_call 57; refine (sat_add tn ot tn0 tn1 ot0 ot1 _).mono ?_; rintro e w7 ⟨rfl, rfl⟩))
        go_roundw
        case rel => exact ⟨v', j + 1, rfl, by omega, by rw [ES.out], by go_num, by rw [OS.out]; exact RRow.snoc hown', B6⟩
        case measure => simp [intOf] <;> omega
      · have g3 : (ok == 3) = false := by simp [h3]
        have ES : Hid (tk39 X (j + 1) = tn) := Lib.hid (by rw [TS.out]; unfold tkstep; rw [if_neg h3])
        clear h3
        go_wp2_with (at_builtin; refine wpList_append_own _ rfl _ _ 61 rfl w.heap.size 64 i0 (.agg #[.int .u64 0, .int .i64 0, .int .u32 0, .int .u32 0, .int .u64 0, .int .i64 0]) 6 40 Try.underlying61 hi hz0 hz1 hz2 rfl (by decide) _ _ _ rfl (HOA.out.alloc _) ⟨v1.heap.size, 0, none⟩ 1 1 [.int .u64 tn, .int .i64 xk, .int .u32 xf, .int .u32 xi, .int .u64 xn, .int .i64 xc] rfl rfl (cells_new _ #[.int .u64 tn, .int .i64 xk, .int .u32 xf, .int .u32 xi, .int .u64 xn, .int .i64 xc] _) (fun x hx => by simp at hx; rcases hx with rfl | rfl | rfl | rfl | rfl | rfl <;> rfl) (by unfold maxLen; omega) (by omega) (by simp; omega) ?_; intro v' w6 hown' hgrow3 hnil3; clear hnil3; have B6 : Below w.heap.size w w6 := (HB1.out.alloc (by omega) _).grown hgrow3 (by simp; omega) (fun g hg => (World.ownsRow.lt HOA.out g hg).1); obtain ⟨q0, q4⟩ := XK.out _ B6)
        go_roundw
        case rel => exact ⟨v', j + 1, rfl, by omega, by rw [ES.out], by go_num, by rw [OS.out]; exact RRow.snoc hown', B6⟩
        case measure => simp [intOf] <;> omega
    · have ej : j = m := by omega
      subst ej
      have HO := Lib.hid ho; have HB := Lib.hid hbw
      clear ho hbw
      go_wp2
      go_ret
      exact ⟨v, rfl, HO.out, HB.out⟩
end Go.Proofs.Ytapjebhdgcpdjaa
