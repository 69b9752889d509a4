/-
  The example of layer 19, walked: true; the laws on who is never let go, and on who is let go first: true for any configuration. No condition.
-/
import Derived.Test.YtdokllignldbeaaCod3
import Derived.Test.YtdokllignldbeaaOpen2
namespace Go.Proofs.Ytdokllignldbeaa
set_option linter.unusedVariables false
set_option linter.unusedSimpArgs false
open Go.ChangeShapes Go.WideShapes Go.ChangeAt Go.RowKit
attribute [local go_sem] alloc_drewN setCell_drewN

theorem words_ok {f n c l : Int} {d : Bool} (h : (0 ≤ f ∧ f ≤ 18446744073709551615) ∧ (0 ≤ n ∧ n ≤ 18446744073709551615) ∧ (0 ≤ c ∧ c ≤ 18446744073709551615) ∧ 0 ≤ l ∧ l ≤ 18446744073709551615) : CS.ok ⟨f, n, c, l, d⟩ := h
theorem five_alloc {w : World} {b : Nat} {v0 v1 v2 v3 v4 : Value} {t : TypeId} (h : w.heap[b]? = some (.cells #[v0, v1, v2, v3, v4] t (0, 0))) (u0 u1 u2 u3 u4 : Value) (o : Obj) :
    ((((((w.setCell ⟨b, 0, none⟩ u0).setCell ⟨b, 1, none⟩ u1).setCell ⟨b, 2, none⟩ u2).setCell ⟨b, 3, none⟩ u3).setCell ⟨b, 4, none⟩ u4).alloc o).heap[b]? = some (.cells #[u0, u1, u2, u3, u4] t (0, 0)) :=
  (heap_alloc_old _ _ (by simpa using (Array.getElem?_eq_some_iff.1 h).1)).trans (five_put h u0 u1 u2 u3 u4)
theorem three_only (w : World) (X Y Z : Obj) : (((w.alloc X).alloc Y).alloc Z).heap[w.heap.size]? = some X ∧ (((w.alloc X).alloc Y).alloc Z).heap[w.heap.size + 1]? = some Y ∧ (((w.alloc X).alloc Y).alloc Z).heap[w.heap.size + 1 + 1]? = some Z := by
  have hz := alloc_two (w.alloc X) Y Z
  rw [show (w.alloc X).heap.size = w.heap.size + 1 by simp] at hz
  exact ⟨(heap_alloc_old _ _ (by simp; omega)).trans ((heap_alloc_old _ _ (by simp)).trans (heap_alloc_new w X)), (heap_alloc_old _ _ (by simp)).trans (alloc_two w X Y), hz⟩
theorem five_alloc_else (w : World) (b k : Nat) (hk : k ≠ b) (hl : k < w.heap.size) (u0 u1 u2 u3 u4 : Value) (o : Obj) :
    ((((((w.setCell ⟨b, 0, none⟩ u0).setCell ⟨b, 1, none⟩ u1).setCell ⟨b, 2, none⟩ u2).setCell ⟨b, 3, none⟩ u3).setCell ⟨b, 4, none⟩ u4).alloc o).heap[k]? = w.heap[k]? :=
  (heap_alloc_old _ _ (by simpa using hl)).trans (five_else w b k hk u0 u1 u2 u3 u4)
/-- The example's states. -/
def ex19 : Nat → CS
  | 0 => ⟨0, 0, 0, 0, false⟩
  | 1 => ⟨100, 0, 0, 0, false⟩
  | 2 => ⟨100, 0, 0, 0, false⟩
  | 3 => ⟨100, 0, 0, 0, false⟩
  | 4 => ⟨100, 200, 1, 1, true⟩
  | 5 => ⟨100, 200, 1, 1, true⟩
  | _ => ⟨100, 270, 2, 1, true⟩
def cn19 : Nat → Int
  | 0 => 0
  | 1 => 0
  | 2 => 0
  | 3 => 0
  | 4 => 1
  | 5 => 1
  | _ => 2
def CS.arr (s : CS) : Array Value := #[.int .u64 s.f, .int .u64 s.n, .int .u64 s.c, .int .u64 s.l, .bool s.d]
theorem prt_a : prt 100 1 = 100 := isq_of (by decide) (by decide) (by decide)
theorem prt_b : prt 100 2 = 70 := isq_of (by decide) (by decide) (by decide)
theorem ex_0 : cst 5 100 10 ⟨0, 0, 0, 0, false⟩ 0 9 50 = (⟨100, 0, 0, 0, false⟩, false) := by unfold cst; rw [if_pos (by decide), if_neg (by decide)]; rfl
theorem ex_1 : cst 5 100 10 ⟨100, 0, 0, 0, false⟩ 50 9 50 = (⟨100, 0, 0, 0, false⟩, false) := by unfold cst; rw [if_pos (by decide), if_neg (by decide)]; rfl
theorem ex_2 : cst 5 100 10 ⟨100, 0, 0, 0, false⟩ 99 9 50 = (⟨100, 0, 0, 0, false⟩, false) := by unfold cst; rw [if_pos (by decide), if_neg (by decide)]; rfl
theorem ex_3 : cst 5 100 10 ⟨100, 0, 0, 0, false⟩ 100 9 50 = (⟨100, 200, 1, 1, true⟩, true) := by unfold cst; rw [if_pos (by decide), if_pos (by decide), if_neg (by decide)]; show ((⟨_, cap (100 + prt 100 1), 1, 1, true⟩ : CS), true) = _; rw [prt_a]; rfl
theorem ex_4 : cst 5 100 10 ⟨100, 200, 1, 1, true⟩ 199 9 50 = (⟨100, 200, 1, 1, true⟩, false) := by unfold cst; rw [if_pos (by decide), if_pos (by decide), if_pos (by decide), if_neg (by decide)]; rfl
theorem ex_5 : cst 5 100 10 ⟨100, 200, 1, 1, true⟩ 200 9 50 = (⟨100, 270, 2, 1, true⟩, true) := by unfold cst; rw [if_pos (by decide), if_pos (by decide), if_pos (by decide), if_pos (by decide)]; show ((⟨_, cap (200 + prt 100 2), 2, 1, true⟩ : CS), true) = _; rw [prt_b]; rfl
set_option maxRecDepth 100000 in
set_option maxHeartbeats 2000000 in
theorem lives19 (w : World) : Calls Try.prog 41 #[] w fun e w' => e = .returned (.bool true) ∧ Below w.heap.size w w' := by
  go_enter Try.func41, Try.ntmps41
  go_wp2
  obtain ⟨B2, hB2⟩ : ∃ B2, B2 = w.heap.size + 1 + 1 := ⟨_, rfl⟩
  obtain ⟨B1, hB1⟩ : ∃ B1, B1 = w.heap.size + 1 := ⟨_, rfl⟩
  rw [← hB2, ← hB1]
  have n12 : ¬ B1 = B2 := by omega
  have n21 : ¬ B2 = B1 := by omega
  have n01 : ¬ w.heap.size = B1 := by omega
  have n02 : ¬ w.heap.size = B2 := by omega
  have n10 : ¬ B1 = w.heap.size := by omega
  have n20 : ¬ B2 = w.heap.size := by omega
  have s1_ : w.heap.size ≤ B1 := by omega
  go_loopw [12, 3] (fun x y wr => ∃ i : Nat, x = .int .i64 i ∧ i ≤ 6 ∧ y = .int .i64 (cn19 i) ∧ wr.heap[w.heap.size]? = some (.cells #[.int .u64 5, .int .u64 100, .int .u64 10] 77 (0, 0)) ∧ wr.heap[B1]? = some (.cells (ex19 i).arr 78 (0, 0)) ∧ wr.heap[B2]? = some (.cells #[.int .u64 0, .int .u64 50, .int .u64 99, .int .u64 100, .int .u64 199, .int .u64 200] 22 (0, 0)) ∧ Below w.heap.size w wr) (fun x _ _ => 6 - (intOf x).toNat)
  case atStart =>
    have hx := three_only w (.cells #[.int .u64 5, .int .u64 100, .int .u64 10] 77) (.cells #[.int .u64 0, .int .u64 0, .int .u64 0, .int .u64 0, .bool false] 78) (.cells #[.int .u64 0, .int .u64 50, .int .u64 99, .int .u64 100, .int .u64 199, .int .u64 200] 22)
    rw [← hB2, ← hB1] at hx
    refine ⟨0, rfl, by omega, rfl, hx.1, hx.2.1, hx.2.2, ?_⟩
    repeat' (first | exact Below.refl _ _ | refine Below.alloc ?_ (by simp; try omega) _)
  case round =>
    clear hB1 hB2
    obtain ⟨i, rfl, hi, rfl, x1, x2, x3, hb⟩ := hrel
    have hcs : i = 0 ∨ i = 1 ∨ i = 2 ∨ i = 3 ∨ i = 4 ∨ i = 5 ∨ i = 6 := by omega
    rcases hcs with rfl | rfl | rfl | rfl | rfl | rfl | rfl
    · have x2' : wr.heap[B1]? = some (.cells #[.int .u64 0, .int .u64 0, .int .u64 0, .int .u64 0, .bool false] 78 (0, 0)) := x2
      have STEP := Lib.hid (fun W => cod_step 5 100 10 (by decide) (by decide) (by decide) (by decide) ⟨0, 0, 0, 0, false⟩ (words_ok (by decide)) 0 9 50 (by decide) (by decide) (by decide) (by decide) W)
      rw [ex_0] at STEP
      unfold CS.val at STEP
      dsimp only at STEP
      obtain ⟨a0_, a1_, a2_⟩ := cf_at x1
      obtain ⟨e0_, e1_, e2_, e3_, e4_, -⟩ := cs_at x2'
      have c0_ : wr.cell? ⟨B2, 0, none⟩ = some (.int .u64 0) := cell_of_row wr B2 0 _ _ (0, 0) x3
      have HB := Lib.hid hb
      have X1 := Lib.hid x1; have X2 := Lib.hid x2'; have X3 := Lib.hid x3
      clear hb x1 x2 x2' x3 hi
      rw [show cn19 0 = 0 from rfl]
      go_wp2_with fail
      refine (STEP.out _).mono ?_
      rintro e w5 ⟨rfl, b⟩
      have HB5 := Lib.hid (below_onto HB.out b HB.out.size)
      have Y1 := Lib.hid ((b.block _ (Array.getElem?_eq_some_iff.1 X1.out).1).trans X1.out)
      have Y2 := Lib.hid ((b.block _ (Array.getElem?_eq_some_iff.1 X2.out).1).trans X2.out)
      have Y3 := Lib.hid ((b.block _ (Array.getElem?_eq_some_iff.1 X3.out).1).trans X3.out)
      have z5 : B1 < w5.heap.size := (Array.getElem?_eq_some_iff.1 Y2.out).1
      clear b a0_ a1_ a2_ e0_ e1_ e2_ e3_ e4_ c0_ STEP
      obtain ⟨e0_, e1_, e2_, e3_, e4_, k0_, k1_, k2_, k3_, k4_⟩ := cs_at Y2.out
      go_wp2
      go_roundw
      case rel =>
        have l1_ := (Array.getElem?_eq_some_iff.1 Y1.out).1
        have l3_ := (Array.getElem?_eq_some_iff.1 Y3.out).1
        refine ⟨1, by go_num, by omega, by first | rfl | (show _ = Value.int .i64 0; go_num), (five_alloc_else w5 B1 _ n01 l1_ (.int .u64 100) (.int .u64 0) (.int .u64 0) (.int .u64 0) (.bool false) (.cells #[.int .u64 100, .int .u64 0, .int .u64 0, .int .u64 0, .bool false] 78)).trans Y1.out, five_alloc Y2.out (.int .u64 100) (.int .u64 0) (.int .u64 0) (.int .u64 0) (.bool false) (.cells #[.int .u64 100, .int .u64 0, .int .u64 0, .int .u64 0, .bool false] 78), (five_alloc_else w5 B1 _ n21 l3_ (.int .u64 100) (.int .u64 0) (.int .u64 0) (.int .u64 0) (.bool false) (.cells #[.int .u64 100, .int .u64 0, .int .u64 0, .int .u64 0, .bool false] 78)).trans Y3.out, ?_⟩
        refine Below.alloc ?_ (by have := HB5.out.size; simp; omega) _
        repeat' (first | (with_reducible exact HB5.out) | refine Below.setCell ?_ s1_ _)
      case measure => simp [intOf] <;> omega
    · have x2' : wr.heap[B1]? = some (.cells #[.int .u64 100, .int .u64 0, .int .u64 0, .int .u64 0, .bool false] 78 (0, 0)) := x2
      have STEP := Lib.hid (fun W => cod_step 5 100 10 (by decide) (by decide) (by decide) (by decide) ⟨100, 0, 0, 0, false⟩ (words_ok (by decide)) 50 9 50 (by decide) (by decide) (by decide) (by decide) W)
      rw [ex_1] at STEP
      unfold CS.val at STEP
      dsimp only at STEP
      obtain ⟨a0_, a1_, a2_⟩ := cf_at x1
      obtain ⟨e0_, e1_, e2_, e3_, e4_, -⟩ := cs_at x2'
      have c0_ : wr.cell? ⟨B2, 1, none⟩ = some (.int .u64 50) := cell_of_row wr B2 1 _ _ (0, 0) x3
      have HB := Lib.hid hb
      have X1 := Lib.hid x1; have X2 := Lib.hid x2'; have X3 := Lib.hid x3
      clear hb x1 x2 x2' x3 hi
      rw [show cn19 1 = 0 from rfl]
      go_wp2_with fail
      refine (STEP.out _).mono ?_
      rintro e w5 ⟨rfl, b⟩
      have HB5 := Lib.hid (below_onto HB.out b HB.out.size)
      have Y1 := Lib.hid ((b.block _ (Array.getElem?_eq_some_iff.1 X1.out).1).trans X1.out)
      have Y2 := Lib.hid ((b.block _ (Array.getElem?_eq_some_iff.1 X2.out).1).trans X2.out)
      have Y3 := Lib.hid ((b.block _ (Array.getElem?_eq_some_iff.1 X3.out).1).trans X3.out)
      have z5 : B1 < w5.heap.size := (Array.getElem?_eq_some_iff.1 Y2.out).1
      clear b a0_ a1_ a2_ e0_ e1_ e2_ e3_ e4_ c0_ STEP
      obtain ⟨e0_, e1_, e2_, e3_, e4_, k0_, k1_, k2_, k3_, k4_⟩ := cs_at Y2.out
      go_wp2
      go_roundw
      case rel =>
        have l1_ := (Array.getElem?_eq_some_iff.1 Y1.out).1
        have l3_ := (Array.getElem?_eq_some_iff.1 Y3.out).1
        refine ⟨2, by go_num, by omega, by first | rfl | (show _ = Value.int .i64 0; go_num), (five_alloc_else w5 B1 _ n01 l1_ (.int .u64 100) (.int .u64 0) (.int .u64 0) (.int .u64 0) (.bool false) (.cells #[.int .u64 100, .int .u64 0, .int .u64 0, .int .u64 0, .bool false] 78)).trans Y1.out, five_alloc Y2.out (.int .u64 100) (.int .u64 0) (.int .u64 0) (.int .u64 0) (.bool false) (.cells #[.int .u64 100, .int .u64 0, .int .u64 0, .int .u64 0, .bool false] 78), (five_alloc_else w5 B1 _ n21 l3_ (.int .u64 100) (.int .u64 0) (.int .u64 0) (.int .u64 0) (.bool false) (.cells #[.int .u64 100, .int .u64 0, .int .u64 0, .int .u64 0, .bool false] 78)).trans Y3.out, ?_⟩
        refine Below.alloc ?_ (by have := HB5.out.size; simp; omega) _
        repeat' (first | (with_reducible exact HB5.out) | refine Below.setCell ?_ s1_ _)
      case measure => simp [intOf] <;> omega
    · have x2' : wr.heap[B1]? = some (.cells #[.int .u64 100, .int .u64 0, .int .u64 0, .int .u64 0, .bool false] 78 (0, 0)) := x2
      have STEP := Lib.hid (fun W => cod_step 5 100 10 (by decide) (by decide) (by decide) (by decide) ⟨100, 0, 0, 0, false⟩ (words_ok (by decide)) 99 9 50 (by decide) (by decide) (by decide) (by decide) W)
      rw [ex_2] at STEP
      unfold CS.val at STEP
      dsimp only at STEP
      obtain ⟨a0_, a1_, a2_⟩ := cf_at x1
      obtain ⟨e0_, e1_, e2_, e3_, e4_, -⟩ := cs_at x2'
      have c0_ : wr.cell? ⟨B2, 2, none⟩ = some (.int .u64 99) := cell_of_row wr B2 2 _ _ (0, 0) x3
      have HB := Lib.hid hb
      have X1 := Lib.hid x1; have X2 := Lib.hid x2'; have X3 := Lib.hid x3
      clear hb x1 x2 x2' x3 hi
      rw [show cn19 2 = 0 from rfl]
      go_wp2_with fail
      refine (STEP.out _).mono ?_
      rintro e w5 ⟨rfl, b⟩
      have HB5 := Lib.hid (below_onto HB.out b HB.out.size)
      have Y1 := Lib.hid ((b.block _ (Array.getElem?_eq_some_iff.1 X1.out).1).trans X1.out)
      have Y2 := Lib.hid ((b.block _ (Array.getElem?_eq_some_iff.1 X2.out).1).trans X2.out)
      have Y3 := Lib.hid ((b.block _ (Array.getElem?_eq_some_iff.1 X3.out).1).trans X3.out)
      have z5 : B1 < w5.heap.size := (Array.getElem?_eq_some_iff.1 Y2.out).1
      clear b a0_ a1_ a2_ e0_ e1_ e2_ e3_ e4_ c0_ STEP
      obtain ⟨e0_, e1_, e2_, e3_, e4_, k0_, k1_, k2_, k3_, k4_⟩ := cs_at Y2.out
      go_wp2
      go_roundw
      case rel =>
        have l1_ := (Array.getElem?_eq_some_iff.1 Y1.out).1
        have l3_ := (Array.getElem?_eq_some_iff.1 Y3.out).1
        refine ⟨3, by go_num, by omega, by first | rfl | (show _ = Value.int .i64 0; go_num), (five_alloc_else w5 B1 _ n01 l1_ (.int .u64 100) (.int .u64 0) (.int .u64 0) (.int .u64 0) (.bool false) (.cells #[.int .u64 100, .int .u64 0, .int .u64 0, .int .u64 0, .bool false] 78)).trans Y1.out, five_alloc Y2.out (.int .u64 100) (.int .u64 0) (.int .u64 0) (.int .u64 0) (.bool false) (.cells #[.int .u64 100, .int .u64 0, .int .u64 0, .int .u64 0, .bool false] 78), (five_alloc_else w5 B1 _ n21 l3_ (.int .u64 100) (.int .u64 0) (.int .u64 0) (.int .u64 0) (.bool false) (.cells #[.int .u64 100, .int .u64 0, .int .u64 0, .int .u64 0, .bool false] 78)).trans Y3.out, ?_⟩
        refine Below.alloc ?_ (by have := HB5.out.size; simp; omega) _
        repeat' (first | (with_reducible exact HB5.out) | refine Below.setCell ?_ s1_ _)
      case measure => simp [intOf] <;> omega
    · have x2' : wr.heap[B1]? = some (.cells #[.int .u64 100, .int .u64 0, .int .u64 0, .int .u64 0, .bool false] 78 (0, 0)) := x2
      have STEP := Lib.hid (fun W => cod_step 5 100 10 (by decide) (by decide) (by decide) (by decide) ⟨100, 0, 0, 0, false⟩ (words_ok (by decide)) 100 9 50 (by decide) (by decide) (by decide) (by decide) W)
      rw [ex_3] at STEP
      unfold CS.val at STEP
      dsimp only at STEP
      obtain ⟨a0_, a1_, a2_⟩ := cf_at x1
      obtain ⟨e0_, e1_, e2_, e3_, e4_, -⟩ := cs_at x2'
      have c0_ : wr.cell? ⟨B2, 3, none⟩ = some (.int .u64 100) := cell_of_row wr B2 3 _ _ (0, 0) x3
      have HB := Lib.hid hb
      have X1 := Lib.hid x1; have X2 := Lib.hid x2'; have X3 := Lib.hid x3
      clear hb x1 x2 x2' x3 hi
      rw [show cn19 3 = 0 from rfl]
      go_wp2_with fail
      refine (STEP.out _).mono ?_
      rintro e w5 ⟨rfl, b⟩
      have HB5 := Lib.hid (below_onto HB.out b HB.out.size)
      have Y1 := Lib.hid ((b.block _ (Array.getElem?_eq_some_iff.1 X1.out).1).trans X1.out)
      have Y2 := Lib.hid ((b.block _ (Array.getElem?_eq_some_iff.1 X2.out).1).trans X2.out)
      have Y3 := Lib.hid ((b.block _ (Array.getElem?_eq_some_iff.1 X3.out).1).trans X3.out)
      have z5 : B1 < w5.heap.size := (Array.getElem?_eq_some_iff.1 Y2.out).1
      clear b a0_ a1_ a2_ e0_ e1_ e2_ e3_ e4_ c0_ STEP
      obtain ⟨e0_, e1_, e2_, e3_, e4_, k0_, k1_, k2_, k3_, k4_⟩ := cs_at Y2.out
      go_wp2
      go_roundw
      case rel =>
        have l1_ := (Array.getElem?_eq_some_iff.1 Y1.out).1
        have l3_ := (Array.getElem?_eq_some_iff.1 Y3.out).1
        refine ⟨4, by go_num, by omega, by first | rfl | (show _ = Value.int .i64 1; go_num), (five_alloc_else w5 B1 _ n01 l1_ (.int .u64 100) (.int .u64 200) (.int .u64 1) (.int .u64 1) (.bool true) (.cells #[.int .u64 100, .int .u64 200, .int .u64 1, .int .u64 1, .bool true] 78)).trans Y1.out, five_alloc Y2.out (.int .u64 100) (.int .u64 200) (.int .u64 1) (.int .u64 1) (.bool true) (.cells #[.int .u64 100, .int .u64 200, .int .u64 1, .int .u64 1, .bool true] 78), (five_alloc_else w5 B1 _ n21 l3_ (.int .u64 100) (.int .u64 200) (.int .u64 1) (.int .u64 1) (.bool true) (.cells #[.int .u64 100, .int .u64 200, .int .u64 1, .int .u64 1, .bool true] 78)).trans Y3.out, ?_⟩
        refine Below.alloc ?_ (by have := HB5.out.size; simp; omega) _
        repeat' (first | (with_reducible exact HB5.out) | refine Below.setCell ?_ s1_ _)
      case measure => simp [intOf] <;> omega
    · have x2' : wr.heap[B1]? = some (.cells #[.int .u64 100, .int .u64 200, .int .u64 1, .int .u64 1, .bool true] 78 (0, 0)) := x2
      have STEP := Lib.hid (fun W => cod_step 5 100 10 (by decide) (by decide) (by decide) (by decide) ⟨100, 200, 1, 1, true⟩ (words_ok (by decide)) 199 9 50 (by decide) (by decide) (by decide) (by decide) W)
      rw [ex_4] at STEP
      unfold CS.val at STEP
      dsimp only at STEP
      obtain ⟨a0_, a1_, a2_⟩ := cf_at x1
      obtain ⟨e0_, e1_, e2_, e3_, e4_, -⟩ := cs_at x2'
      have c0_ : wr.cell? ⟨B2, 4, none⟩ = some (.int .u64 199) := cell_of_row wr B2 4 _ _ (0, 0) x3
      have HB := Lib.hid hb
      have X1 := Lib.hid x1; have X2 := Lib.hid x2'; have X3 := Lib.hid x3
      clear hb x1 x2 x2' x3 hi
      rw [show cn19 4 = 1 from rfl]
      go_wp2_with fail
      refine (STEP.out _).mono ?_
      rintro e w5 ⟨rfl, b⟩
      have HB5 := Lib.hid (below_onto HB.out b HB.out.size)
      have Y1 := Lib.hid ((b.block _ (Array.getElem?_eq_some_iff.1 X1.out).1).trans X1.out)
      have Y2 := Lib.hid ((b.block _ (Array.getElem?_eq_some_iff.1 X2.out).1).trans X2.out)
      have Y3 := Lib.hid ((b.block _ (Array.getElem?_eq_some_iff.1 X3.out).1).trans X3.out)
      have z5 : B1 < w5.heap.size := (Array.getElem?_eq_some_iff.1 Y2.out).1
      clear b a0_ a1_ a2_ e0_ e1_ e2_ e3_ e4_ c0_ STEP
      obtain ⟨e0_, e1_, e2_, e3_, e4_, k0_, k1_, k2_, k3_, k4_⟩ := cs_at Y2.out
      go_wp2
      go_roundw
      case rel =>
        have l1_ := (Array.getElem?_eq_some_iff.1 Y1.out).1
        have l3_ := (Array.getElem?_eq_some_iff.1 Y3.out).1
        refine ⟨5, by go_num, by omega, by first | rfl | (show _ = Value.int .i64 1; go_num), (five_alloc_else w5 B1 _ n01 l1_ (.int .u64 100) (.int .u64 200) (.int .u64 1) (.int .u64 1) (.bool true) (.cells #[.int .u64 100, .int .u64 200, .int .u64 1, .int .u64 1, .bool true] 78)).trans Y1.out, five_alloc Y2.out (.int .u64 100) (.int .u64 200) (.int .u64 1) (.int .u64 1) (.bool true) (.cells #[.int .u64 100, .int .u64 200, .int .u64 1, .int .u64 1, .bool true] 78), (five_alloc_else w5 B1 _ n21 l3_ (.int .u64 100) (.int .u64 200) (.int .u64 1) (.int .u64 1) (.bool true) (.cells #[.int .u64 100, .int .u64 200, .int .u64 1, .int .u64 1, .bool true] 78)).trans Y3.out, ?_⟩
        refine Below.alloc ?_ (by have := HB5.out.size; simp; omega) _
        repeat' (first | (with_reducible exact HB5.out) | refine Below.setCell ?_ s1_ _)
      case measure => simp [intOf] <;> omega
    · have x2' : wr.heap[B1]? = some (.cells #[.int .u64 100, .int .u64 200, .int .u64 1, .int .u64 1, .bool true] 78 (0, 0)) := x2
      have STEP := Lib.hid (fun W => cod_step 5 100 10 (by decide) (by decide) (by decide) (by decide) ⟨100, 200, 1, 1, true⟩ (words_ok (by decide)) 200 9 50 (by decide) (by decide) (by decide) (by decide) W)
      rw [ex_5] at STEP
      unfold CS.val at STEP
      dsimp only at STEP
      obtain ⟨a0_, a1_, a2_⟩ := cf_at x1
      obtain ⟨e0_, e1_, e2_, e3_, e4_, -⟩ := cs_at x2'
      have c0_ : wr.cell? ⟨B2, 5, none⟩ = some (.int .u64 200) := cell_of_row wr B2 5 _ _ (0, 0) x3
      have HB := Lib.hid hb
      have X1 := Lib.hid x1; have X2 := Lib.hid x2'; have X3 := Lib.hid x3
      clear hb x1 x2 x2' x3 hi
      rw [show cn19 5 = 1 from rfl]
      go_wp2_with fail
      refine (STEP.out _).mono ?_
      rintro e w5 ⟨rfl, b⟩
      have HB5 := Lib.hid (below_onto HB.out b HB.out.size)
      have Y1 := Lib.hid ((b.block _ (Array.getElem?_eq_some_iff.1 X1.out).1).trans X1.out)
      have Y2 := Lib.hid ((b.block _ (Array.getElem?_eq_some_iff.1 X2.out).1).trans X2.out)
      have Y3 := Lib.hid ((b.block _ (Array.getElem?_eq_some_iff.1 X3.out).1).trans X3.out)
      have z5 : B1 < w5.heap.size := (Array.getElem?_eq_some_iff.1 Y2.out).1
      clear b a0_ a1_ a2_ e0_ e1_ e2_ e3_ e4_ c0_ STEP
      obtain ⟨e0_, e1_, e2_, e3_, e4_, k0_, k1_, k2_, k3_, k4_⟩ := cs_at Y2.out
      go_wp2
      go_roundw
      case rel =>
        have l1_ := (Array.getElem?_eq_some_iff.1 Y1.out).1
        have l3_ := (Array.getElem?_eq_some_iff.1 Y3.out).1
        refine ⟨6, by go_num, by omega, by first | rfl | (show _ = Value.int .i64 2; go_num), (five_alloc_else w5 B1 _ n01 l1_ (.int .u64 100) (.int .u64 270) (.int .u64 2) (.int .u64 1) (.bool true) (.cells #[.int .u64 100, .int .u64 270, .int .u64 2, .int .u64 1, .bool true] 78)).trans Y1.out, five_alloc Y2.out (.int .u64 100) (.int .u64 270) (.int .u64 2) (.int .u64 1) (.bool true) (.cells #[.int .u64 100, .int .u64 270, .int .u64 2, .int .u64 1, .bool true] 78), (five_alloc_else w5 B1 _ n21 l3_ (.int .u64 100) (.int .u64 270) (.int .u64 2) (.int .u64 1) (.bool true) (.cells #[.int .u64 100, .int .u64 270, .int .u64 2, .int .u64 1, .bool true] 78)).trans Y3.out, ?_⟩
        refine Below.alloc ?_ (by have := HB5.out.size; simp; omega) _
        repeat' (first | (with_reducible exact HB5.out) | refine Below.setCell ?_ s1_ _)
      case measure => simp [intOf] <;> omega
    · have HB := Lib.hid hb
      clear hb x1 x2 x3 hi
      rw [show cn19 6 = 2 from rfl]
      go_wp2
      go_ret
      exact ⟨rfl, HB.out⟩
theorem cst_late {tg iv mt now wa be : Int} {s : CS} (h : (cst tg iv mt s now wa be).2 = true) : tg ≤ wa ∧ mt < be := by
  have hl : clate tg mt wa be = true := by
    by_cases hc : ctime tg mt s.f now wa be = true
    · unfold ctime at hc
      exact (Bool.and_eq_true_iff.1 hc).1
    · unfold cst at h
      rw [if_neg hc] at h
      split at h <;> cases h
  unfold clate at hl
  have := Bool.and_eq_true_iff.1 hl
  exact ⟨of_decide_eq_true this.1, of_decide_eq_true this.2⟩
set_option maxRecDepth 100000 in
set_option maxHeartbeats 2000000 in
theorem walk_codelLow (tg : Int) (t0 : 0 ≤ tg) (t1 : tg ≤ 18446744073709551615) (iv : Int) (v0 : 0 ≤ iv) (v1 : iv ≤ 18446744073709551615) (mt : Int) (m0 : 0 ≤ mt) (m1 : mt ≤ 18446744073709551615) (f : Int) (f0 : 0 ≤ f) (f1 : f ≤ 18446744073709551615) (n : Int) (g0 : 0 ≤ n) (g1 : n ≤ 18446744073709551615) (c : Int) (c0 : 0 ≤ c) (c1 : c ≤ 18446744073709551615) (l : Int) (l0 : 0 ≤ l) (l1 : l ≤ 18446744073709551615) (d : Bool) (now : Int) (n0 : 0 ≤ now) (n1 : now ≤ 18446744073709551615) (wa : Int) (a0 : 0 ≤ wa) (a1 : wa ≤ 18446744073709551615) (be : Int) (b0 : 0 ≤ be) (b1 : be ≤ 18446744073709551615) (w : World) :
    Calls Try.prog 11 #[.agg #[.int .u64 tg, .int .u64 iv, .int .u64 mt], .agg #[.int .u64 f, .int .u64 n, .int .u64 c, .int .u64 l, .bool d], .agg #[.int .u64 now, .int .u64 wa, .int .u64 be]] w fun e w' => e = .returned (.bool true) ∧ Below w.heap.size w w' := by
  have STEP := Lib.hid (fun W => cod_step tg iv mt t0 v0 v1 m0 ⟨f, n, c, l, d⟩ ⟨⟨f0, f1⟩, ⟨g0, g1⟩, ⟨c0, c1⟩, l0, l1⟩ now wa be n0 n1 a0 b0 W)
  have LT := Lib.hid (cst_late (tg := tg) (iv := iv) (mt := mt) (now := now) (wa := wa) (be := be) (s := ⟨f, n, c, l, d⟩))
  unfold CS.val at STEP
  dsimp only at STEP
  generalize cst tg iv mt ⟨f, n, c, l, d⟩ now wa be = r at *
  obtain ⟨⟨rf, rn, rc, rl, rd⟩, rb⟩ := r
  dsimp only at STEP LT
  have LV := Lib.hid (fun W => lives19 W)
  have x1 : Hid (∀ v, Below (((w.alloc (.cells #[.int .u64 tg, .int .u64 iv, .int .u64 mt] 71)).alloc (.cells #[.int .u64 f, .int .u64 n, .int .u64 c, .int .u64 l, .bool d] 73)).alloc (.cells #[.int .u64 now, .int .u64 wa, .int .u64 be] 86)).heap.size (((w.alloc (.cells #[.int .u64 tg, .int .u64 iv, .int .u64 mt] 71)).alloc (.cells #[.int .u64 f, .int .u64 n, .int .u64 c, .int .u64 l, .bool d] 73)).alloc (.cells #[.int .u64 now, .int .u64 wa, .int .u64 be] 86)) v → v.heap[w.heap.size]? = some (.cells #[.int .u64 tg, .int .u64 iv, .int .u64 mt] 71 (0, 0)) ∧ Below w.heap.size w v) := Lib.hid fun v hv =>
    ⟨(hv.block _ (by simp; omega)).trans (three_only w _ _ _).1, below_onto (by repeat' (first | exact Below.refl _ _ | refine Below.alloc ?_ (by simp; try omega) _)) hv (by simp; omega)⟩
  cases rb with
  | false =>
    clear LT
    go_enter Try.func11, Try.ntmps11
    go_wp2
    go_quiet (fail)
    go_wp2_with fail
    refine (STEP.out _).mono ?_
    rintro e w5 ⟨rfl, b⟩
    obtain ⟨y1, yb⟩ := x1.out w5 ⟨b.os, b.tape, b.output, b.size, b.block⟩
    have HB5 := Lib.hid yb
    obtain ⟨a0_, a1_, a2_⟩ := cf_at y1
    have HZ := Lib.hid (show w.heap.size ≤ w5.heap.size from yb.size)
    have z5 : w.heap.size < w5.heap.size := (Array.getElem?_eq_some_iff.1 y1).1
    clear b y1 yb STEP x1
    go_wp2_with fail
    refine (LV.out _).mono ?_
    rintro e w9 ⟨rfl, b9⟩
    have HB9 := Lib.hid (below_onto (HB5.out.alloc HZ.out _) b9 (by have := HZ.out; simp; omega))
    clear b9
    go_wp2
    go_ret
    exact ⟨rfl, HB9.out⟩
  | true =>
    obtain ⟨q1, q2⟩ := LT.out rfl
    have g1_ : decide (tg ≤ wa) = true := decide_eq_true q1
    have g2_ : decide (mt < be) = true := decide_eq_true q2
    clear LT
    go_enter Try.func11, Try.ntmps11
    go_wp2
    go_quiet (fail)
    go_wp2_with fail
    refine (STEP.out _).mono ?_
    rintro e w5 ⟨rfl, b⟩
    obtain ⟨y1, yb⟩ := x1.out w5 ⟨b.os, b.tape, b.output, b.size, b.block⟩
    have HB5 := Lib.hid yb
    obtain ⟨a0_, a1_, a2_⟩ := cf_at y1
    have HZ := Lib.hid (show w.heap.size ≤ w5.heap.size from yb.size)
    have z5 : w.heap.size < w5.heap.size := (Array.getElem?_eq_some_iff.1 y1).1
    clear b y1 yb STEP x1
    go_wp2_with fail
    refine (LV.out _).mono ?_
    rintro e w9 ⟨rfl, b9⟩
    have HB9 := Lib.hid (below_onto (HB5.out.alloc HZ.out _) b9 (by have := HZ.out; simp; omega))
    clear b9
    go_wp2
    go_ret
    exact ⟨rfl, HB9.out⟩
end Go.Proofs.Ytdokllignldbeaa
