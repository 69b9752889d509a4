/-
  The answer of layer 9, walked: items pushed, the first, the last, all but one, sorted. What lay below the heap's end stands. No condition.
-/
import Derived.Test.YtkgiaijcgblpbaaRows
import Derived.Test.YtkgiaijcgblpbaaBase
import Derived.Maps.AppendAt
import Derived.Deep.AppendLies
import Derived.Outline
import Derived.Laws.AppendOwnNone
namespace Go.Proofs.Ytkgiaijcgblpbaa
set_option linter.unusedVariables false
set_option linter.unusedSimpArgs false
open Go.ChangeShapes Go.WideShapes Go.ChangeAt Go.RowKit
attribute [local go_sem] alloc_drewN setCell_drewN

theorem infoItem : (Try.prog.info? 95).map (fun i => (i.zero, i.size, i.bytes)) = some (some (.agg #[.int .u64 0, .int .i64 0]), 2, 16) := by kernel_rfl
def itc (p : Int × Int) : List Value := [.int .u64 p.1, .int .i64 p.2]
/-- A slice of items that the call owns. -/
def Its (w : World) (base : Nat) (v : Value) (xs : List (Int × Int)) : Prop := w.ownsRow base 95 2 v xs.length (xs.flatMap itc)
theorem its_len (xs : List (Int × Int)) : (xs.flatMap itc).length = xs.length * 2 := by
  induction xs with
  | nil => rfl
  | cons x xs ih => rw [List.flatMap_cons, List.length_append, ih, List.length_cons]; show 2 + _ = _; omega
theorem its_at (xs : List (Int × Int)) (h i : Nat) (hh : h < xs.length) (hi : i < 2) : (xs.flatMap itc)[h * 2 + i]? = (itc xs[h])[i]? := by
  induction xs generalizing h with
  | nil => exact absurd hh (Nat.not_lt_zero _)
  | cons x xs ih =>
    rw [List.flatMap_cons]
    cases h with
    | zero => rw [Nat.zero_mul, Nat.zero_add, List.getElem?_append_left (by simpa [itc] using hi)]; rfl
    | succ h =>
      rw [List.getElem?_append_right (by simp [itc]; omega)]
      have e4 : (h + 1) * 2 + i - (itc x).length = h * 2 + i := by simp [itc]; omega
      rw [e4, ih h (by simpa using hh)]; rfl
theorem Its.nil (w : World) (base : Nat) : Its w base (.slice none 0 0) [] := World.ownsRow_nil _ _ _ _
theorem Its.form {w : World} {base : Nat} {v : Value} {xs : List (Int × Int)} (h : Its w base v xs) : ∃ a c, v = .slice a xs.length c ∧ xs.length ≤ c ∧ ∀ i (hi : i < xs.length), ∃ g, a = some ⟨g, 0, none⟩ ∧ g < w.heap.size ∧ w.cell? ⟨g, i * 2, none⟩ = some (.int .u64 (xs[i]).1) ∧ w.cell? ⟨g, i * 2 + 1, none⟩ = some (.int .i64 (xs[i]).2) := by
  have h' := h
  unfold Its at h'
  rcases h'.2 with ⟨rfl, h0⟩ | ⟨g, cap, cur, rfl, hb, hg, h1, _⟩
  · exact ⟨none, 0, by rw [h0], by omega, fun i hi => by omega⟩
  · refine ⟨some ⟨g, 0, none⟩, cap, rfl, h1, fun i hi => ⟨g, rfl, (Array.getElem?_eq_some_iff.1 hg).1, ?_, ?_⟩⟩
    · exact (h'.cellAt (i * 2 + 0) (by omega)).trans (its_at xs i 0 hi (by omega))
    · exact (h'.cellAt (i * 2 + 1) (by omega)).trans (its_at xs i 1 hi (by omega))
theorem Its.below {w w' : World} {base : Nat} {v : Value} {xs : List (Int × Int)} (h : Its w base v xs) (hb : Below w.heap.size w w') : Its w' base v xs :=
  World.ownsRow.kept (row := some w.heap.size) h ⟨hb.os, hb.tape, hb.output, hb.size, fun k hk _ => hb.block k hk⟩ (Or.inr (fun hh => by have := World.ownsRow.lt h _ hh; omega))
theorem Its.len {w : World} {base : Nat} {v : Value} {xs : List (Int × Int)} (h : Its w base v xs) : xs.length ≤ maxLen := by
  rcases h.2 with ⟨rfl, h0⟩ | ⟨g, cap, cur, rfl, hb, hg, h1, h2, _⟩ <;> omega
theorem Its.of_append {w' : World} {base : Nat} {v' : Value} {xs : List (Int × Int)} {x : Int × Int} (h : w'.ownsRow base 95 2 v' (xs.length + 1) (xs.flatMap itc ++ [.int .u64 x.1, .int .i64 x.2])) : Its w' base v' (xs ++ [x]) := by
  unfold Its
  rw [List.length_append, List.flatMap_append]
  simpa [itc] using h
/-- Behind all of no greater rank. -/
def insP : List (Int × Int) → Int × Int → List (Int × Int)
  | [], e => [e]
  | m :: ms, e => if e.1 < m.1 then e :: m :: ms else m :: insP ms e
theorem insP_length (e : Int × Int) : ∀ ms, (insP ms e).length = ms.length + 1
  | [] => rfl
  | m :: ms => by
    unfold insP
    split
    · rfl
    · rw [List.length_cons, insP_length e ms, List.length_cons]
theorem first9_no (w : World) (c : Nat) :
    Calls Try.prog 33 #[.slice none 0 c] w fun e w' => e = .returned (.tuple #[.int .u64 0, .int .i64 0, .bool false]) ∧ Below w.heap.size w w' := by
  go_enter Try.func33, Try.ntmps33
  go_wp2
  go_ret3
  exact ⟨rfl, Below.refl _ _⟩
theorem Its.none {w : World} {base : Nat} {v : Value} (h : Its w base v []) : ∃ a c, v = .slice a 0 c := by
  obtain ⟨a, c, hv, _⟩ := h.form
  exact ⟨a, c, hv⟩
theorem first9_nil (base : Nat) (v : Value) (w : World) (h : Its w base v []) :
    Calls Try.prog 33 #[v] w fun e w' => e = .returned (.tuple #[.int .u64 0, .int .i64 0, .bool false]) ∧ Below w.heap.size w w' := by
  obtain ⟨a, c, rfl⟩ := h.none
  clear h
  go_enter Try.func33, Try.ntmps33
  go_wp2
  go_ret3
  exact ⟨rfl, Below.refl _ _⟩
theorem first9 (base : Nat) (v : Value) (x : Int × Int) (xs : List (Int × Int)) (w : World) (h : Its w base v (x :: xs)) :
    Calls Try.prog 33 #[v] w fun e w' => e = .returned (.tuple #[.int .u64 x.1, .int .i64 x.2, .bool true]) ∧ Below w.heap.size w w' := by
  obtain ⟨a, c, rfl, _, hc⟩ := h.form
  obtain ⟨g, rfl, hg, k0, k1⟩ := hc 0 (by simp)
  simp only [Nat.zero_mul, Nat.zero_add, List.getElem_cons_zero] at k0 k1
  clear h hc
  rw [List.length_cons]
  have l0 : ¬ (((xs.length + 1 : Nat) : Int) = 0) := by omega
  have l1 : (0 : Int) < ((xs.length + 1 : Nat) : Int) := by omega
  generalize xs.length = n at *
  obtain ⟨x1, x2⟩ := x
  dsimp only at k0 k1
  go_enter Try.func33, Try.ntmps33
  go_wp2
  go_quiet (fail)
  go_wp2
  go_ret3
  exact ⟨rfl, below_drewN _ (Below.refl _ _)⟩
theorem cells_two9 (w : World) (x y : Value) (t : TypeId) : ∀ j u, [x, y][j]? = some u → (w.alloc (.cells #[x, y] t)).cell? ((⟨w.heap.size, 0, none⟩ : Addr).add j) = some u := by
  intro j u h
  match j with
  | 0 =>
    have : x = u := by simpa using h
    subst this
    simp [go_sem, Addr.add]
  | 1 =>
    have : y = u := by simpa using h
    subst this
    simp [go_sem, Addr.add]
  | j + 2 => simp at h
theorem rest9_step (xs : List (Int × Int)) (k : Nat) (h1 : 1 ≤ k) (h : k < xs.length) : (xs.take k).drop 1 ++ [xs[k]] = (xs.take (k + 1)).drop 1 := by
  rw [List.take_succ_eq_append_getElem h, List.drop_append_of_le_length (by simp; omega)]
set_option maxRecDepth 100000 in
set_option maxHeartbeats 1000000 in
theorem rest9 (base : Nat) (v : Value) (xs : List (Int × Int)) (hn : xs.length ≤ 100000) (w : World) (h : Its w base v xs) :
    Calls Try.prog 34 #[v] w fun e w' => ∃ v', e = .returned v' ∧ Its w' w.heap.size v' (xs.drop 1) ∧ Below w.heap.size w w' := by
  obtain ⟨i0, hi, hz0, hz1, hz2⟩ := info_parts infoItem
  obtain ⟨a, c, rfl, _, hc⟩ := h.form
  have HC := Lib.hid hc
  clear h hc
  go_enter Try.func34, Try.ntmps34
  go_wp2
  go_loopw [3, 4] (fun x y wr => ∃ (vo : Value) (k : Nat), vo = x ∧ 1 ≤ k ∧ (k ≤ xs.length ∨ k = 1) ∧ y = .int .i64 k ∧ Its wr w.heap.size vo ((xs.take k).drop 1) ∧ Below w.heap.size w wr) (fun _ y _ => xs.length - (intOf y).toNat)
  case atStart => exact ⟨_, 1, rfl, Nat.le_refl _, Or.inr rfl, rfl, by
    have e : (xs.take 1).drop 1 = [] := List.drop_eq_nil_of_le (by rw [List.length_take]; omega)
    rw [e]; exact Its.nil _ _, Below.refl _ _⟩
  case round =>
    obtain ⟨vo, k, rfl, hk1, hk, rfl, ho, hb⟩ := hrel
    have hs := hb.size
    by_cases hlt : k < xs.length
    · obtain ⟨g, rfl, hg, cg, cg2⟩ := HC.out k hlt
      have cg := (hb.cell (p := ⟨g, k * 2, none⟩) hg).trans cg
      have cg2 := (hb.cell (p := ⟨g, k * 2 + 1, none⟩) hg).trans cg2
      have ST := Lib.hid (rest9_step xs k hk1 hlt)
      have hzl : ((xs.take k).drop 1).length + 1 ≤ 100000 := by rw [List.length_drop, List.length_take]; omega
      have HB := Lib.hid hb
      clear hb
      generalize (xs.take k).drop 1 = ys at *
      generalize xs[k] = y at *
      obtain ⟨y1, y2⟩ := y
      dsimp only at cg cg2
      have HO := Lib.hid ho
      unfold Its at ho
      go_wp2_with (at_builtin; refine wpList_append_own _ rfl _ _ 58 rfl w.heap.size 95 i0 (.agg #[.int .u64 0, .int .i64 0]) 2 16 Try.underlying58 hi hz0 hz1 hz2 rfl (by decide) vo _ _ rfl (ho.alloc _) ⟨wr.heap.size, 0, none⟩ 1 1 [.int .u64 y1, .int .i64 y2] rfl rfl (cells_two9 _ _ _ _) (fun x hx => by simp at hx; rcases hx with rfl | rfl <;> rfl) (by unfold maxLen; omega) (by omega) (by simp; omega) ?_; intro v3 w3 ho3 hg3 hn3; clear hn3)
      go_roundw
      case rel => exact ⟨v3, k + 1, rfl, by omega, Or.inl (by omega), by go_num, by rw [← ST.out]; exact Its.of_append (x := (y1, y2)) ho3, (HB.out.alloc hs _).grown hg3 (by simp; omega) (fun g hg => (World.ownsRow.lt HO.out g hg).1)⟩
      case measure => simp [intOf] <;> omega
    · have e : (xs.take k).drop 1 = xs.drop 1 := by
        rcases hk with hk | hk
        · rw [List.take_of_length_le (by omega)]
        · subst hk
          rw [List.drop_eq_nil_of_le (by rw [List.length_take]; omega), List.drop_eq_nil_of_le (by omega)]
      rw [e] at ho
      clear e
      go_wp2
      go_ret
      exact ⟨_, rfl, ho, hb⟩
theorem insP_none (e : Int × Int) : ∀ (L M : List (Int × Int)), (∀ m ∈ L, ¬ e.1 < m.1) → insP (L ++ M) e = L ++ insP M e
  | [], _, _ => rfl
  | m :: L, M, h => by
    rw [List.cons_append, insP, if_neg (h m (List.mem_cons_self ..)), insP_none e L M (fun x hx => h x (List.mem_cons_of_mem _ hx))]; rfl
theorem insP_some (e : Int × Int) : ∀ (L M : List (Int × Int)), (∃ m ∈ L, e.1 < m.1) → insP (L ++ M) e = insP L e ++ M
  | [], _, h => by obtain ⟨m, hm, _⟩ := h; cases hm
  | m :: L, M, h => by
    rw [List.cons_append, insP, insP]
    by_cases hx : e.1 < m.1
    · rw [if_pos hx, if_pos hx]; rfl
    · rw [if_neg hx, if_neg hx, insP_some e L M (by
        obtain ⟨y, hy, hl⟩ := h
        rcases List.mem_cons.1 hy with rfl | hy
        · exact absurd hl hx
        · exact ⟨y, hy, hl⟩)]; rfl
/-- How far it has been gone: is the new one put, what stands in the new list. -/
def PutI (xs : List (Int × Int)) (e : Int × Int) (k : Nat) (put : Bool) (ys : List (Int × Int)) : Prop :=
  (put = false ∧ ys = xs.take k ∧ ∀ m ∈ xs.take k, ¬ e.1 < m.1) ∨ (put = true ∧ ys = insP (xs.take k) e ∧ ∃ m ∈ xs.take k, e.1 < m.1)
theorem PutI.now {xs : List (Int × Int)} {e : Int × Int} {k : Nat} {ys : List (Int × Int)} (h : PutI xs e k false ys) (hk : k < xs.length) (hl : e.1 < (xs[k]).1) : PutI xs e (k + 1) true (ys ++ [e] ++ [xs[k]]) := by
  rcases h with ⟨_, rfl, hm⟩ | ⟨h, _⟩
  · refine Or.inr ⟨rfl, ?_, xs[k], ?_, hl⟩
    · rw [List.take_succ_eq_append_getElem hk, insP_none e _ _ hm, insP, if_pos hl, List.append_assoc]; rfl
    · rw [List.take_succ_eq_append_getElem hk]; exact List.mem_append.2 (Or.inr (List.mem_singleton.2 rfl))
  · cases h
theorem PutI.not {xs : List (Int × Int)} {e : Int × Int} {k : Nat} {ys : List (Int × Int)} (h : PutI xs e k false ys) (hk : k < xs.length) (hl : ¬ e.1 < (xs[k]).1) : PutI xs e (k + 1) false (ys ++ [xs[k]]) := by
  rcases h with ⟨_, rfl, hm⟩ | ⟨h, _⟩
  · refine Or.inl ⟨rfl, (List.take_succ_eq_append_getElem hk).symm, fun m hx => ?_⟩
    rw [List.take_succ_eq_append_getElem hk] at hx
    rcases List.mem_append.1 hx with hx | hx
    · exact hm m hx
    · rw [List.mem_singleton.1 hx]; exact hl
  · cases h
theorem PutI.on {xs : List (Int × Int)} {e : Int × Int} {k : Nat} {ys : List (Int × Int)} (h : PutI xs e k true ys) (hk : k < xs.length) : PutI xs e (k + 1) true (ys ++ [xs[k]]) := by
  rcases h with ⟨h, _⟩ | ⟨_, rfl, m, hm, hl⟩
  · cases h
  · refine Or.inr ⟨rfl, ?_, m, ?_, hl⟩
    · rw [List.take_succ_eq_append_getElem hk, insP_some e _ _ ⟨m, hm, hl⟩]
    · rw [List.take_succ_eq_append_getElem hk]; exact List.mem_append.2 (Or.inl hm)
theorem PutI.len {xs : List (Int × Int)} {e : Int × Int} {k : Nat} {put : Bool} {ys : List (Int × Int)} (h : PutI xs e k put ys) : ys.length ≤ xs.length + 1 := by
  rcases h with ⟨_, rfl, _⟩ | ⟨_, rfl, _⟩
  · rw [List.length_take]; omega
  · rw [insP_length, List.length_take]; omega
theorem PutI.endF {xs : List (Int × Int)} {e : Int × Int} {ys : List (Int × Int)} (h : PutI xs e xs.length false ys) : ys ++ [e] = insP xs e := by
  rcases h with ⟨_, rfl, hm⟩ | ⟨h, _⟩
  · rw [List.take_of_length_le (Nat.le_refl _)] at hm ⊢
    have := insP_none e xs [] hm
    rw [List.append_nil] at this
    rw [this]; rfl
  · cases h
theorem PutI.endT {xs : List (Int × Int)} {e : Int × Int} {ys : List (Int × Int)} (h : PutI xs e xs.length true ys) : ys = insP xs e := by
  rcases h with ⟨h, _⟩ | ⟨_, rfl, _⟩
  · cases h
  · rw [List.take_of_length_le (Nat.le_refl _)]
set_option maxRecDepth 100000 in
set_option maxHeartbeats 2000000 in
theorem push9 (base : Nat) (v : Value) (xs : List (Int × Int)) (e1 e2 : Int) (hn : xs.length ≤ 100000) (w : World) (h : Its w base v xs) :
    Calls Try.prog 31 #[v, .int .u64 e1, .int .i64 e2] w fun e w' => ∃ v', e = .returned v' ∧ Its w' w.heap.size v' (insP xs (e1, e2)) ∧ Below w.heap.size w w' := by
  obtain ⟨i0, hi, hz0, hz1, hz2⟩ := info_parts infoItem
  obtain ⟨a, c, rfl, _, hc⟩ := h.form
  have HC := Lib.hid hc
  clear h hc
  go_enter Try.func31, Try.ntmps31
  go_wp2
  go_loopw [7, 8, 9] (fun x z y wr => ∃ (vo : Value) (k : Nat) (put : Bool) (ys : List (Int × Int)), vo = x ∧ z = .bool put ∧ k ≤ xs.length ∧ y = .int .i64 k ∧ PutI xs (e1, e2) k put ys ∧ Its wr w.heap.size vo ys ∧ Below w.heap.size w wr) (fun _ _ y _ => xs.length - (intOf y).toNat)
  case atStart => exact ⟨_, 0, false, [], rfl, rfl, Nat.zero_le _, rfl, Or.inl ⟨rfl, rfl, fun m hm => by cases hm⟩, Its.nil _ _, Below.refl _ _⟩
  case round =>
    obtain ⟨vo, k, put, ys, rfl, rfl, hk, rfl, hP, ho, hb⟩ := hrel
    have hs := hb.size
    have hyl := hP.len
    by_cases hlt : k < xs.length
    · obtain ⟨g, rfl, hg, cg, cg2⟩ := HC.out k hlt
      have CG := Lib.hid (fun W (hW : Below w.heap.size w W) => (⟨(hW.cell (p := ⟨g, k * 2, none⟩) hg).trans cg, (hW.cell (p := ⟨g, k * 2 + 1, none⟩) hg).trans cg2⟩ : W.cell? ⟨g, k * 2, none⟩ = some (.int .u64 (xs[k]).1) ∧ W.cell? ⟨g, k * 2 + 1, none⟩ = some (.int .i64 (xs[k]).2)))
      obtain ⟨cg, cg2⟩ := CG.out wr hb
      have HB := Lib.hid hb
      have HO := Lib.hid ho
      have q1 : (k : Int) < xs.length := by omega
      have q0 : (0 : Int) ≤ k := by omega
      unfold Its at ho
      cases put with
      | false =>
        by_cases hl : e1 < (xs[k]).1
        · have ST := Lib.hid (hP.now hlt hl)
          clear hb hP
          generalize hy : xs[k] = y at *
          obtain ⟨y1, y2⟩ := y
          dsimp only at cg cg2 hl CG
          go_wp2_with (first
            | (at_builtin; refine wpList_append_own _ rfl _ _ 58 rfl w.heap.size 95 i0 (.agg #[.int .u64 0, .int .i64 0]) 2 16 Try.underlying58 hi hz0 hz1 hz2 rfl (by decide) vo _ _ rfl (ho.alloc _) ⟨wr.heap.size, 0, none⟩ 1 1 [.int .u64 e1, .int .i64 e2] rfl rfl (cells_two9 _ _ _ _) (fun x hx => by simp at hx; rcases hx with rfl | rfl <;> rfl) (by unfold maxLen; omega) (by omega) (by simp; omega) ?_; intro v3 w3 ho3 hg3 hn3; clear hn3; have B3 := Lib.hid ((HB.out.alloc hs _).grown hg3 (by simp; omega) (fun g hg => (World.ownsRow.lt HO.out g hg).1)); have HO3 := Lib.hid (Its.of_append (x := (e1, e2)) ho3); clear ho3 hg3; obtain ⟨ch, ch2⟩ := CG.out w3 B3.out; have hs3 := B3.out.size; have ho4 := HO3.out; unfold Its at ho4; rw [List.length_append, List.length_singleton] at ho4)
            | (at_builtin; refine wpList_append_own _ rfl _ _ 58 rfl w.heap.size 95 i0 (.agg #[.int .u64 0, .int .i64 0]) 2 16 Try.underlying58 hi hz0 hz1 hz2 rfl (by decide) v3 _ _ rfl (ho4.alloc _) ⟨w3.heap.size, 0, none⟩ 1 1 [.int .u64 y1, .int .i64 y2] rfl rfl (cells_two9 _ _ _ _) (fun x hx => by simp at hx; rcases hx with rfl | rfl <;> rfl) (by unfold maxLen; omega) (by omega) (by simp; omega) ?_; intro v5 w5 ho5 hg5 hn3; clear hn3; have B5 := Lib.hid ((B3.out.alloc hs3 _).grown hg5 (by simp; omega) (fun g hg => (World.ownsRow.lt HO3.out g hg).1)); have HO5 := Lib.hid (Its.of_append (xs := ys ++ [(e1, e2)]) (x := (y1, y2)) (by rw [List.length_append, List.length_singleton]; exact ho5)); clear ho5 hg5)
            | fail)
          go_roundw
          case rel => exact ⟨v5, k + 1, true, _, rfl, rfl, by omega, by go_num, ST.out, HO5.out, B5.out⟩
          case measure => simp [intOf] <;> omega
        · have ST := Lib.hid (hP.not hlt hl)
          clear hb hP
          generalize hy : xs[k] = y at *
          obtain ⟨y1, y2⟩ := y
          dsimp only at cg cg2 hl CG
          go_wp2_with (at_builtin; refine wpList_append_own _ rfl _ _ 58 rfl w.heap.size 95 i0 (.agg #[.int .u64 0, .int .i64 0]) 2 16 Try.underlying58 hi hz0 hz1 hz2 rfl (by decide) vo _ _ rfl (ho.alloc _) ⟨wr.heap.size, 0, none⟩ 1 1 [.int .u64 y1, .int .i64 y2] rfl rfl (cells_two9 _ _ _ _) (fun x hx => by simp at hx; rcases hx with rfl | rfl <;> rfl) (by unfold maxLen; omega) (by omega) (by simp; omega) ?_; intro v3 w3 ho3 hg3 hn3; clear hn3; have B3 := Lib.hid ((HB.out.alloc hs _).grown hg3 (by simp; omega) (fun g hg => (World.ownsRow.lt HO.out g hg).1)); have HO3 := Lib.hid (Its.of_append (x := (y1, y2)) ho3); clear ho3 hg3)
          go_roundw
          case rel => exact ⟨v3, k + 1, false, _, rfl, rfl, by omega, by go_num, ST.out, HO3.out, B3.out⟩
          case measure => simp [intOf] <;> omega
      | true =>
        have ST := Lib.hid (hP.on hlt)
        clear hb hP
        generalize hy : xs[k] = y at *
        obtain ⟨y1, y2⟩ := y
        dsimp only at cg cg2 CG
        go_wp2_with (at_builtin; refine wpList_append_own _ rfl _ _ 58 rfl w.heap.size 95 i0 (.agg #[.int .u64 0, .int .i64 0]) 2 16 Try.underlying58 hi hz0 hz1 hz2 rfl (by decide) vo _ _ rfl (ho.alloc _) ⟨wr.heap.size, 0, none⟩ 1 1 [.int .u64 y1, .int .i64 y2] rfl rfl (cells_two9 _ _ _ _) (fun x hx => by simp at hx; rcases hx with rfl | rfl <;> rfl) (by unfold maxLen; omega) (by omega) (by simp; omega) ?_; intro v3 w3 ho3 hg3 hn3; clear hn3; have B3 := Lib.hid ((HB.out.alloc hs _).grown hg3 (by simp; omega) (fun g hg => (World.ownsRow.lt HO.out g hg).1)); have HO3 := Lib.hid (Its.of_append (x := (y1, y2)) ho3); clear ho3 hg3)
        go_roundw
        case rel => exact ⟨v3, k + 1, true, _, rfl, rfl, by omega, by go_num, ST.out, HO3.out, B3.out⟩
        case measure => simp [intOf] <;> omega
    · obtain rfl : k = xs.length := by omega
      have HB := Lib.hid hb
      have HO := Lib.hid ho
      unfold Its at ho
      cases put with
      | false =>
        have ST := Lib.hid hP.endF
        clear hb hP
        go_wp2_with (at_builtin; refine wpList_append_own _ rfl _ _ 58 rfl w.heap.size 95 i0 (.agg #[.int .u64 0, .int .i64 0]) 2 16 Try.underlying58 hi hz0 hz1 hz2 rfl (by decide) vo _ _ rfl (ho.alloc _) ⟨wr.heap.size, 0, none⟩ 1 1 [.int .u64 e1, .int .i64 e2] rfl rfl (cells_two9 _ _ _ _) (fun x hx => by simp at hx; rcases hx with rfl | rfl <;> rfl) (by unfold maxLen; omega) (by omega) (by simp; omega) ?_; intro v3 w3 ho3 hg3 hn3; clear hn3; have B3 := Lib.hid ((HB.out.alloc hs _).grown hg3 (by simp; omega) (fun g hg => (World.ownsRow.lt HO.out g hg).1)); have HO3 := Lib.hid (Its.of_append (x := (e1, e2)) ho3); clear ho3 hg3)
        go_ret
        exact ⟨_, rfl, by rw [← ST.out]; exact HO3.out, B3.out⟩
      | true =>
        have ST := Lib.hid hP.endT
        clear hb hP
        go_wp2
        go_ret
        exact ⟨_, rfl, by rw [← ST.out]; exact HO.out, HB.out⟩
end Go.Proofs.Ytkgiaijcgblpbaa
