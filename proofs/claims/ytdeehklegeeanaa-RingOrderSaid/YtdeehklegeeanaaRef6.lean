/-
  The document's answer for layer 6 (ring): a row with one more behind, a row without its first one, its last ones, two rows told the same. What lay below the heap's end stands. No condition but that rows are short.
-/
import Derived.Test.YtdeehklegeeanaaRows
import Derived.Test.YtdeehklegeeanaaBase
import Derived.Maps.AppendAt
import Derived.Deep.AppendLies
import Derived.Outline
import Derived.Laws.AppendOwnNone
namespace Go.Proofs.Ytdeehklegeeanaa
set_option linter.unusedVariables false
set_option linter.unusedSimpArgs false
open Go.ChangeShapes Go.WideShapes Go.ChangeAt Go.RowKit
attribute [local go_sem] alloc_drewN setCell_drewN

theorem infoInt : (Try.prog.info? 3).map (fun i => (i.zero, i.size, i.bytes)) = some (some (.int .i64 0), 1, 8) := by kernel_rfl
/-- A slice of numbers that the call owns. -/
def Ints (w : World) (base : Nat) (v : Value) (xs : List Int) : Prop := w.ownsRow base 3 1 v xs.length (xs.map (Value.int .i64))
theorem Ints.nil (w : World) (base : Nat) : Ints w base (.slice none 0 0) [] := World.ownsRow_nil _ _ _ _
theorem Ints.form {w : World} {base : Nat} {v : Value} {xs : List Int} (h : Ints w base v xs) : ∃ a c, v = .slice a xs.length c ∧ xs.length ≤ c ∧ ∀ i, i < xs.length → ∃ g, a = some ⟨g, 0, none⟩ ∧ g < w.heap.size ∧ w.cell? ⟨g, i, none⟩ = some (.int .i64 (xs.getD i 0)) := by
  have h' := h
  unfold Ints at h'
  rcases h'.2 with ⟨rfl, h0⟩ | ⟨g, cap, cur, rfl, hb, hg, h1, _⟩
  · exact ⟨none, 0, by rw [h0], by omega, fun i hi => by omega⟩
  · refine ⟨some ⟨g, 0, none⟩, cap, rfl, h1, fun i hi => ⟨g, rfl, (Array.getElem?_eq_some_iff.1 hg).1, ?_⟩⟩
    rw [h'.cellAt i (by omega), List.getElem?_map, List.getElem?_eq_getElem hi, List.getD_eq_getElem?_getD, List.getElem?_eq_getElem hi]
    rfl
theorem Ints.below {w w' : World} {base : Nat} {v : Value} {xs : List Int} (h : Ints w base v xs) (hb : Below w.heap.size w w') : Ints w' base v xs :=
  World.ownsRow.kept (row := some w.heap.size) h ⟨hb.os, hb.tape, hb.output, hb.size, fun k hk _ => hb.block k hk⟩ (Or.inr (fun hh => by have := World.ownsRow.lt h _ hh; omega))
theorem Ints.heap {w w' : World} {base : Nat} {v : Value} {xs : List Int} (h : Ints w base v xs) (e : w'.heap = w.heap) : Ints w' base v xs := by
  unfold Ints World.ownsRow at h ⊢
  rw [e]; exact h
theorem Ints.len {w : World} {base : Nat} {v : Value} {xs : List Int} (h : Ints w base v xs) : xs.length ≤ maxLen := by
  rcases h.2 with ⟨rfl, h0⟩ | ⟨g, cap, cur, rfl, hb, hg, h1, h2, _⟩ <;> omega
theorem cells_one6 (w : World) (v : Value) (t : TypeId) : ∀ j u, [v][j]? = some u → (w.alloc (.cells #[v] t)).cell? ((⟨w.heap.size, 0, none⟩ : Addr).add j) = some u := by
  intro j u h
  cases j with
  | zero =>
    have : v = u := by simpa using h
    subst this
    simp [go_sem, Addr.add]
  | succ j => simp at h
theorem Ints.of_append {w' : World} {base : Nat} {v' : Value} {xs : List Int} {x : Int} (h : w'.ownsRow base 3 1 v' (xs.length + 1) (xs.map (Value.int .i64) ++ [.int .i64 x])) : Ints w' base v' (xs ++ [x]) := by
  unfold Ints
  rw [List.length_append, List.map_append]
  exact h

theorem getD_last (xs : List Int) (k : Nat) (h : k < xs.length) : xs.take k ++ [xs.getD k 0] = xs.take (k + 1) := by
  rw [List.take_succ_eq_append_getElem h, List.getD_eq_getElem?_getD, List.getElem?_eq_getElem h]; rfl

set_option maxHeartbeats 1000000 in
theorem with6 (base : Nat) (v : Value) (xs : List Int) (x : Int) (hn : xs.length ≤ 1000000) (w : World) (h : Ints w base v xs) :
    Calls Try.prog 15 #[v, .int .i64 x] w fun e w' => ∃ v', e = .returned v' ∧ Ints w' w.heap.size v' (xs ++ [x]) ∧ Below w.heap.size w w' := by
  obtain ⟨i0, hi, hz0, hz1, hz2⟩ := info_parts infoInt
  have h' := h
  unfold Ints at h'
  rcases h'.2 with ⟨rfl, h0⟩ | ⟨g, cap, cur, rfl, hb, hg, h1, _⟩
  · have hx : xs = [] := List.eq_nil_of_length_eq_zero h0
    subst hx
    clear h h' h0
    go_enter Try.func15, Try.ntmps15
    go_wp2_with (at_builtin; refine wpList_append_own _ rfl _ _ 28 rfl w.heap.size 3 i0 (.int .i64 0) 1 8 Try.underlying28 hi hz0 hz1 hz2 rfl (by decide) (.slice none 0 0) 0 [] rfl (World.ownsRow_nil _ _ _ _) ⟨w.heap.size, 0, none⟩ 1 1 [.int .i64 x] rfl rfl (cells_one6 _ _ _) (fun x hx => by simp at hx; subst hx; rfl) (by unfold maxLen; omega) (by omega) (by simp) ?_; intro v' w3 hown' hgrow3 hnil3; clear hnil3)
    go_ret
    exact ⟨v', rfl, hown', ((Below.refl _ _).alloc (Nat.le_refl _) _).grown hgrow3 (by simp) (fun g hg => by simp [Value.ownBlock] at hg)⟩
  · have hcells := h'.cells (g := g) rfl
    have HC := Lib.hid hcells
    have HL := Lib.hid (show (xs.map (Value.int .i64)).length = xs.length * 1 by simp)
    have H1 := Lib.hid (show ∀ u ∈ xs.map (Value.int .i64), u.oneCell' = true from fun u hu => by obtain ⟨y, _, rfl⟩ := List.mem_map.1 hu; rfl)
    have hn2 : xs.length + 1 ≤ 1000001 := by omega
    clear h h' hcells hg
    go_enter Try.func15, Try.ntmps15
    go_wp2_with (first
      | (at_builtin; refine wpList_append_own _ rfl _ _ 28 rfl w.heap.size 3 i0 (.int .i64 0) 1 8 Try.underlying28 hi hz0 hz1 hz2 rfl (by decide) (.slice none 0 0) 0 [] rfl (World.ownsRow_nil _ _ _ _) ⟨g, 0, none⟩ xs.length cap (xs.map (Value.int .i64)) rfl HL.out HC.out H1.out (by unfold maxLen; omega) (by omega) (by simp) ?_; intro v1 w1 ho1 hg1 hn1; clear hn1; have hs1 := hg1.size; rw [Nat.zero_add, List.nil_append] at ho1)
      | (at_builtin; refine wpList_append_own _ rfl _ _ 28 rfl w.heap.size 3 i0 (.int .i64 0) 1 8 Try.underlying28 hi hz0 hz1 hz2 rfl (by decide) v1 xs.length (xs.map (Value.int .i64)) rfl (ho1.alloc _) ⟨w1.heap.size, 0, none⟩ 1 1 [.int .i64 x] rfl rfl (cells_one6 _ _ _) (fun x hx => by simp at hx; subst hx; rfl) (by unfold maxLen; omega) (by omega) (by simp; omega) ?_; intro v3 w3 ho3 hg3 hn3; clear hn3))
    go_ret
    have hb1 : Below w.heap.size w w1 := (Below.refl _ _).grown hg1 (Nat.le_refl _) (fun g hg => by simp [Value.ownBlock] at hg)
    exact ⟨v3, rfl, Ints.of_append ho3, (hb1.alloc hs1 _).grown hg3 (by simp; omega) (fun g hg => (ho1.lt g hg).1)⟩

theorem rest_step (xs : List Int) (k : Nat) (h1 : 1 ≤ k) (h : k < xs.length) : (xs.take k).drop 1 ++ [xs.getD k 0] = (xs.take (k + 1)).drop 1 := by
  rw [← getD_last xs k h, List.drop_append_of_le_length (by rw [List.length_take]; omega)]
set_option maxHeartbeats 1000000 in
theorem rest6 (base : Nat) (v : Value) (xs : List Int) (hn : xs.length ≤ 1000000) (w : World) (h : Ints w base v xs) :
    Calls Try.prog 12 #[v, .int .i64 1] w fun e w' => ∃ v', e = .returned v' ∧ Ints w' w.heap.size v' (xs.drop 1) ∧ Below w.heap.size w w' := by
  obtain ⟨i0, hi, hz0, hz1, hz2⟩ := info_parts infoInt
  obtain ⟨a, c, rfl, _, hc⟩ := h.form
  have H := Lib.hid h; have HC := Lib.hid hc
  clear h hc
  go_enter Try.func12, Try.ntmps12
  go_wp2
  go_loopw [5, 6] (fun x y wr => ∃ (vo : Value) (k : Nat), vo = x ∧ 1 ≤ k ∧ (k ≤ xs.length ∨ k = 1) ∧ y = .int .i64 k ∧ Ints wr w.heap.size vo ((xs.take k).drop 1) ∧ Below w.heap.size w wr) (fun _ y _ => xs.length - (intOf y).toNat)
  case atStart => exact ⟨_, 1, rfl, Nat.le_refl _, Or.inr rfl, rfl, by
    have e : (xs.take 1).drop 1 = [] := List.drop_eq_nil_of_le (by rw [List.length_take]; omega)
    rw [e]; exact Ints.nil _ _, Below.refl _ _⟩
  case round =>
    obtain ⟨vo, k, rfl, hk1, hk, rfl, ho, hb⟩ := hrel
    have hs := hb.size
    by_cases hlt : k < xs.length
    · obtain ⟨g, rfl, hg, cg⟩ := HC.out k hlt
      have cg := (hb.cell (p := ⟨g, k, none⟩) hg).trans cg
      have ST := Lib.hid (rest_step xs k hk1 hlt)
      have hzl : ((xs.take k).drop 1).length + 1 ≤ 1000000 := by rw [List.length_drop, List.length_take]; omega
      have HB := Lib.hid hb
      clear hb
      generalize (xs.take k).drop 1 = ys at *
      generalize xs.getD k 0 = y at *
      have HO := Lib.hid ho
      unfold Ints at ho
      go_wp2_with (at_builtin; refine wpList_append_own _ rfl _ _ 28 rfl w.heap.size 3 i0 (.int .i64 0) 1 8 Try.underlying28 hi hz0 hz1 hz2 rfl (by decide) vo _ _ rfl (ho.alloc _) ⟨wr.heap.size, 0, none⟩ 1 1 [.int .i64 y] rfl rfl (cells_one6 _ _ _) (fun x hx => by simp at hx; subst hx; rfl) (by unfold maxLen; omega) (by omega) (by simp; omega) ?_; intro v3 w3 ho3 hg3 hn3; clear hn3)
      go_roundw
      case rel => exact ⟨v3, k + 1, rfl, by omega, Or.inl (by omega), by go_num, by rw [← ST.out]; exact Ints.of_append ho3, (HB.out.alloc hs _).grown hg3 (by simp; omega) (fun g hg => (World.ownsRow.lt HO.out g hg).1)⟩
      case measure => simp [intOf] <;> omega
    · have e : (xs.take k).drop 1 = xs.drop 1 := by
        rcases hk with hk | hk
        · rw [List.take_of_length_le (by omega)]
        · subst hk
          rw [List.drop_eq_nil_of_le (by rw [List.length_take]; omega), List.drop_eq_nil_of_le (by omega)]
      rw [e] at ho
      clear e
      go_wp2
      go_ret
      exact ⟨_, rfl, ho, hb⟩

/-- The last ones, as far as they have been gone through. -/
def lastTo (xs : List Int) (n : Int) (k : Nat) : List Int := (xs.take k).drop (xs.length - n.toNat)
theorem last_in (xs : List Int) (n : Int) (k : Nat) (h : k < xs.length) (hn : (xs.length : Int) - k ≤ n) : lastTo xs n k ++ [xs.getD k 0] = lastTo xs n (k + 1) := by
  unfold lastTo
  rw [← getD_last xs k h, List.drop_append_of_le_length (by rw [List.length_take]; omega)]
theorem last_out (xs : List Int) (n : Int) (k : Nat) (h : k < xs.length) (hn : ¬ (xs.length : Int) - k ≤ n) : lastTo xs n (k + 1) = lastTo xs n k := by
  unfold lastTo
  rw [List.drop_eq_nil_of_le (by rw [List.length_take]; omega), List.drop_eq_nil_of_le (by rw [List.length_take]; omega)]
set_option maxHeartbeats 1000000 in
theorem last6 (base : Nat) (v : Value) (xs : List Int) (n : Int) (hn : xs.length ≤ 1000000) (w : World) (h : Ints w base v xs) :
    Calls Try.prog 23 #[v, .int .i64 n] w fun e w' => ∃ v', e = .returned v' ∧ Ints w' w.heap.size v' (xs.drop (xs.length - n.toNat)) ∧ Below w.heap.size w w' := by
  obtain ⟨i0, hi, hz0, hz1, hz2⟩ := info_parts infoInt
  obtain ⟨a, c, rfl, _, hc⟩ := h.form
  have H := Lib.hid h; have HC := Lib.hid hc
  clear h hc
  go_enter Try.func23, Try.ntmps23
  go_wp2
  go_loopw [5, 6] (fun x y wr => ∃ (vo : Value) (k : Nat), vo = x ∧ k ≤ xs.length ∧ y = .int .i64 k ∧ Ints wr w.heap.size vo (lastTo xs n k) ∧ Below w.heap.size w wr) (fun _ y _ => xs.length - (intOf y).toNat)
  case atStart => exact ⟨_, 0, rfl, Nat.zero_le _, rfl, by
    have e : lastTo xs n 0 = [] := by unfold lastTo; rw [List.take_zero, List.drop_nil]
    rw [e]; exact Ints.nil _ _, Below.refl _ _⟩
  case round =>
    obtain ⟨vo, k, rfl, hk, rfl, ho, hb⟩ := hrel
    have hs := hb.size
    by_cases hlt : k < xs.length
    · by_cases hin : (xs.length : Int) - k ≤ n
      · obtain ⟨g, rfl, hg, cg⟩ := HC.out k hlt
        have cg := (hb.cell (p := ⟨g, k, none⟩) hg).trans cg
        have ST := Lib.hid (last_in xs n k hlt hin)
        have hzl : (lastTo xs n k).length + 1 ≤ 1000001 := by unfold lastTo; rw [List.length_drop, List.length_take]; omega
        have HB := Lib.hid hb
        clear hb
        generalize lastTo xs n k = ys at *
        generalize xs.getD k 0 = y at *
        have HO := Lib.hid ho
        unfold Ints at ho
        go_wp2_with (at_builtin; refine wpList_append_own _ rfl _ _ 28 rfl w.heap.size 3 i0 (.int .i64 0) 1 8 Try.underlying28 hi hz0 hz1 hz2 rfl (by decide) vo _ _ rfl (ho.alloc _) ⟨wr.heap.size, 0, none⟩ 1 1 [.int .i64 y] rfl rfl (cells_one6 _ _ _) (fun x hx => by simp at hx; subst hx; rfl) (by unfold maxLen; omega) (by omega) (by simp; omega) ?_; intro v3 w3 ho3 hg3 hn3; clear hn3)
        go_roundw
        case rel => exact ⟨v3, k + 1, rfl, by omega, by go_num, by rw [← ST.out]; exact Ints.of_append ho3, (HB.out.alloc hs _).grown hg3 (by simp; omega) (fun g hg => (World.ownsRow.lt HO.out g hg).1)⟩
        case measure => simp [intOf] <;> omega
      · have ST := Lib.hid (last_out xs n k hlt hin)
        have HO := Lib.hid ho; have HB := Lib.hid hb
        clear ho hb
        go_wp2
        go_roundw
        case rel => exact ⟨vo, k + 1, rfl, by omega, by go_num, by rw [ST.out]; exact HO.out, HB.out⟩
        case measure => simp [intOf] <;> omega
    · have e : lastTo xs n k = xs.drop (xs.length - n.toNat) := by
        unfold lastTo; rw [List.take_of_length_le (by omega)]
      rw [e] at ho
      clear e
      go_wp2
      go_ret
      exact ⟨_, rfl, ho, hb⟩

set_option maxHeartbeats 1000000 in
theorem same6 (base base2 : Nat) (v v2 : Value) (xs : List Int) (hn : xs.length ≤ 1000000) (w : World) (h : Ints w base v xs) (h2 : Ints w base2 v2 xs) :
    Calls Try.prog 20 #[v, v2] w fun e w' => e = .returned (.bool true) ∧ Below w.heap.size w w' := by
  obtain ⟨a, c, rfl, _, hc⟩ := h.form
  obtain ⟨a2, c2, rfl, _, hc2⟩ := h2.form
  have HC := Lib.hid hc; have HC2 := Lib.hid hc2
  clear h h2 hc hc2
  go_enter Try.func20, Try.ntmps20
  go_wp2
  go_loopw [5] (fun x wr => ∃ k : Nat, k ≤ xs.length ∧ x = .int .i64 k ∧ Below w.heap.size w wr) (fun x _ => xs.length - (intOf x).toNat)
  case atStart => exact ⟨0, Nat.zero_le _, rfl, Below.refl _ _⟩
  case round =>
    obtain ⟨k, hk, rfl, hbw⟩ := hrel
    by_cases hlt : k < xs.length
    · obtain ⟨g, rfl, hg, cg⟩ := HC.out k hlt
      obtain ⟨g2, rfl, hg2, cg2⟩ := HC2.out k hlt
      have c0 := (hbw.cell (p := ⟨g, k, none⟩) hg).trans cg
      have d0 := (hbw.cell (p := ⟨g2, k, none⟩) hg2).trans cg2
      clear cg cg2
      generalize xs.getD k 0 = f at *
      have x0 : (0 : Int) ≤ (k : Int) := by omega
      have x1 : (k : Int) < (xs.length : Int) := by omega
      go_wp2
      go_quiet (fail)
      go_wp2
      go_roundw
      case rel => exact ⟨k + 1, by omega, by go_num, below_drewN _ hbw⟩
      case measure => simp [intOf] <;> omega
    · go_wp2
      go_ret
      exact ⟨rfl, hbw⟩
end Go.Proofs.Ytdeehklegeeanaa
