/-
  The answer of layer 15, walked: where a number is, an entry put. What lay below the heap's end stands. No condition.
-/
import Derived.Test.YtcieggckmpabnaaRows
import Derived.Test.YtcieggckmpabnaaBase
import Derived.Maps.AppendAt
import Derived.Deep.AppendLies
import Derived.Outline
import Derived.Laws.AppendOwnNone
namespace Go.Proofs.Ytcieggckmpabnaa
set_option linter.unusedVariables false
set_option linter.unusedSimpArgs false
open Go.ChangeShapes Go.WideShapes Go.ChangeAt Go.RowKit
attribute [local go_sem] alloc_drewN setCell_drewN

theorem infoEnt15 : (Try.prog.info? 39).map (fun i => (i.zero, i.size, i.bytes)) = some (some (.agg #[.int .u32 0, .int .i64 0]), 2, 16) := by kernel_rfl
def itc15 (p : Int × Int) : List Value := [.int .u32 p.1, .int .i64 p.2]
def Its15 (w : World) (base : Nat) (v : Value) (xs : List (Int × Int)) : Prop := w.ownsRow base 39 2 v xs.length (xs.flatMap itc15)
theorem its15_len (xs : List (Int × Int)) : (xs.flatMap itc15).length = xs.length * 2 := by
  induction xs with
  | nil => rfl
  | cons x xs ih => rw [List.flatMap_cons, List.length_append, ih, List.length_cons]; show 2 + _ = _; omega
theorem its15_at (xs : List (Int × Int)) (h i : Nat) (hh : h < xs.length) (hi : i < 2) : (xs.flatMap itc15)[h * 2 + i]? = (itc15 xs[h])[i]? := by
  induction xs generalizing h with
  | nil => exact absurd hh (Nat.not_lt_zero _)
  | cons x xs ih =>
    rw [List.flatMap_cons]
    cases h with
    | zero => rw [Nat.zero_mul, Nat.zero_add, List.getElem?_append_left (by simpa [itc15] using hi)]; rfl
    | succ h =>
      rw [List.getElem?_append_right (by simp [itc15]; omega)]
      have e4 : (h + 1) * 2 + i - (itc15 x).length = h * 2 + i := by simp [itc15]; omega
      rw [e4, ih h (by simpa using hh)]; rfl
theorem Its15.nil (w : World) (base : Nat) : Its15 w base (.slice none 0 0) [] := World.ownsRow_nil _ _ _ _
theorem Its15.form {w : World} {base : Nat} {v : Value} {xs : List (Int × Int)} (h : Its15 w base v xs) : ∃ a c, v = .slice a xs.length c ∧ xs.length ≤ c ∧ ∀ i (hi : i < xs.length), ∃ g, a = some ⟨g, 0, none⟩ ∧ g < w.heap.size ∧ w.cell? ⟨g, i * 2, none⟩ = some (.int .u32 (xs[i]).1) ∧ w.cell? ⟨g, i * 2 + 1, none⟩ = some (.int .i64 (xs[i]).2) := by
  have h' := h
  unfold Its15 at h'
  rcases h'.2 with ⟨rfl, h0⟩ | ⟨g, cap, cur, rfl, hb, hg, h1, _⟩
  · exact ⟨none, 0, by rw [h0], by omega, fun i hi => by omega⟩
  · refine ⟨some ⟨g, 0, none⟩, cap, rfl, h1, fun i hi => ⟨g, rfl, (Array.getElem?_eq_some_iff.1 hg).1, ?_, ?_⟩⟩
    · exact (h'.cellAt (i * 2 + 0) (by omega)).trans (its15_at xs i 0 hi (by omega))
    · exact (h'.cellAt (i * 2 + 1) (by omega)).trans (its15_at xs i 1 hi (by omega))
theorem Its15.below {w w' : World} {base : Nat} {v : Value} {xs : List (Int × Int)} (h : Its15 w base v xs) (hb : Below w.heap.size w w') : Its15 w' base v xs :=
  World.ownsRow.kept (row := some w.heap.size) h ⟨hb.os, hb.tape, hb.output, hb.size, fun k hk _ => hb.block k hk⟩ (Or.inr (fun hh => by have := World.ownsRow.lt h _ hh; omega))
theorem Its15.len {w : World} {base : Nat} {v : Value} {xs : List (Int × Int)} (h : Its15 w base v xs) : xs.length ≤ maxLen := by
  rcases h.2 with ⟨rfl, h0⟩ | ⟨g, cap, cur, rfl, hb, hg, h1, h2, _⟩ <;> omega
theorem Its15.of_append {w' : World} {base : Nat} {v' : Value} {xs : List (Int × Int)} {x : Int × Int} (h : w'.ownsRow base 39 2 v' (xs.length + 1) (xs.flatMap itc15 ++ [.int .u32 x.1, .int .i64 x.2])) : Its15 w' base v' (xs ++ [x]) := by
  unfold Its15
  rw [List.length_append, List.flatMap_append]
  simpa [itc15] using h
def insP15 : List (Int × Int) → Int × Int → List (Int × Int)
  | [], e => [e]
  | m :: ms, e => if e.1 < m.1 then e :: m :: ms else m :: insP15 ms e
theorem insP15_length (e : Int × Int) : ∀ ms, (insP15 ms e).length = ms.length + 1
  | [] => rfl
  | m :: ms => by
    unfold insP15
    split
    · rfl
    · rw [List.length_cons, insP15_length e ms, List.length_cons]
theorem cells_two15 (w : World) (x y : Value) (t : TypeId) : ∀ j u, [x, y][j]? = some u → (w.alloc (.cells #[x, y] t)).cell? ((⟨w.heap.size, 0, none⟩ : Addr).add j) = some u := by
  intro j u h
  match j with
  | 0 =>
    have : x = u := by simpa using h
    subst this
    simp [go_sem, Addr.add]
  | 1 =>
    have : y = u := by simpa using h
    subst this
    simp [go_sem, Addr.add]
  | j + 2 => simp at h
theorem insP15_none (e : Int × Int) : ∀ (L M : List (Int × Int)), (∀ m ∈ L, ¬ e.1 < m.1) → insP15 (L ++ M) e = L ++ insP15 M e
  | [], _, _ => rfl
  | m :: L, M, h => by
    rw [List.cons_append, insP15, if_neg (h m (List.mem_cons_self ..)), insP15_none e L M (fun x hx => h x (List.mem_cons_of_mem _ hx))]; rfl
theorem insP15_some (e : Int × Int) : ∀ (L M : List (Int × Int)), (∃ m ∈ L, e.1 < m.1) → insP15 (L ++ M) e = insP15 L e ++ M
  | [], _, h => by obtain ⟨m, hm, _⟩ := h; cases hm
  | m :: L, M, h => by
    rw [List.cons_append, insP15, insP15]
    by_cases hx : e.1 < m.1
    · rw [if_pos hx, if_pos hx]; rfl
    · rw [if_neg hx, if_neg hx, insP15_some e L M (by
        obtain ⟨y, hy, hl⟩ := h
        rcases List.mem_cons.1 hy with rfl | hy
        · exact absurd hl hx
        · exact ⟨y, hy, hl⟩)]; rfl
def PutI15 (xs : List (Int × Int)) (e : Int × Int) (k : Nat) (put : Bool) (ys : List (Int × Int)) : Prop :=
  (put = false ∧ ys = xs.take k ∧ ∀ m ∈ xs.take k, ¬ e.1 < m.1) ∨ (put = true ∧ ys = insP15 (xs.take k) e ∧ ∃ m ∈ xs.take k, e.1 < m.1)
theorem PutI15.now {xs : List (Int × Int)} {e : Int × Int} {k : Nat} {ys : List (Int × Int)} (h : PutI15 xs e k false ys) (hk : k < xs.length) (hl : e.1 < (xs[k]).1) : PutI15 xs e (k + 1) true (ys ++ [e] ++ [xs[k]]) := by
  rcases h with ⟨_, rfl, hm⟩ | ⟨h, _⟩
  · refine Or.inr ⟨rfl, ?_, xs[k], ?_, hl⟩
    · rw [List.take_succ_eq_append_getElem hk, insP15_none e _ _ hm, insP15, if_pos hl, List.append_assoc]; rfl
    · rw [List.take_succ_eq_append_getElem hk]; exact List.mem_append.2 (Or.inr (List.mem_singleton.2 rfl))
  · cases h
theorem PutI15.not {xs : List (Int × Int)} {e : Int × Int} {k : Nat} {ys : List (Int × Int)} (h : PutI15 xs e k false ys) (hk : k < xs.length) (hl : ¬ e.1 < (xs[k]).1) : PutI15 xs e (k + 1) false (ys ++ [xs[k]]) := by
  rcases h with ⟨_, rfl, hm⟩ | ⟨h, _⟩
  · refine Or.inl ⟨rfl, (List.take_succ_eq_append_getElem hk).symm, fun m hx => ?_⟩
    rw [List.take_succ_eq_append_getElem hk] at hx
    rcases List.mem_append.1 hx with hx | hx
    · exact hm m hx
    · rw [List.mem_singleton.1 hx]; exact hl
  · cases h
theorem PutI15.on {xs : List (Int × Int)} {e : Int × Int} {k : Nat} {ys : List (Int × Int)} (h : PutI15 xs e k true ys) (hk : k < xs.length) : PutI15 xs e (k + 1) true (ys ++ [xs[k]]) := by
  rcases h with ⟨h, _⟩ | ⟨_, rfl, m, hm, hl⟩
  · cases h
  · refine Or.inr ⟨rfl, ?_, m, ?_, hl⟩
    · rw [List.take_succ_eq_append_getElem hk, insP15_some e _ _ ⟨m, hm, hl⟩]
    · rw [List.take_succ_eq_append_getElem hk]; exact List.mem_append.2 (Or.inl hm)
theorem PutI15.len {xs : List (Int × Int)} {e : Int × Int} {k : Nat} {put : Bool} {ys : List (Int × Int)} (h : PutI15 xs e k put ys) : ys.length ≤ xs.length + 1 := by
  rcases h with ⟨_, rfl, _⟩ | ⟨_, rfl, _⟩
  · rw [List.length_take]; omega
  · rw [insP15_length, List.length_take]; omega
theorem PutI15.endF {xs : List (Int × Int)} {e : Int × Int} {ys : List (Int × Int)} (h : PutI15 xs e xs.length false ys) : ys ++ [e] = insP15 xs e := by
  rcases h with ⟨_, rfl, hm⟩ | ⟨h, _⟩
  · rw [List.take_of_length_le (Nat.le_refl _)] at hm ⊢
    have := insP15_none e xs [] hm
    rw [List.append_nil] at this
    rw [this]; rfl
  · cases h
theorem PutI15.endT {xs : List (Int × Int)} {e : Int × Int} {ys : List (Int × Int)} (h : PutI15 xs e xs.length true ys) : ys = insP15 xs e := by
  rcases h with ⟨h, _⟩ | ⟨_, rfl, _⟩
  · cases h
  · rw [List.take_of_length_le (Nat.le_refl _)]
/-- Where the number is; -1: nowhere. -/
def fnd (xs : List (Int × Int)) (id : Int) (r : Int) : Prop := (∃ k : Nat, ∃ h : k < xs.length, r = k ∧ (xs[k]).1 = id) ∨ (r = -1 ∧ ∀ m ∈ xs, m.1 ≠ id)
set_option maxHeartbeats 1000000 in
theorem find15 {w : World} {base : Nat} {v : Value} {xs : List (Int × Int)} (h : Its15 w base v xs) (hn : xs.length ≤ 100000) (id : Int) :
    Calls Try.prog 16 #[v, .int .u32 id] w fun e w' => ∃ r, e = .returned (.int .i64 r) ∧ fnd xs id r ∧ w' = w := by
  obtain ⟨a, c, rfl, _, hc⟩ := h.form
  have HC := Lib.hid hc
  clear h hc
  go_enter Try.func16, Try.ntmps16
  go_wp2
  go_loopw [5] (fun z wr => ∃ i : Nat, i ≤ xs.length ∧ z = .int .i64 i ∧ wr = w ∧ Hid (∀ m ∈ xs.take i, m.1 ≠ id)) (fun z _ => xs.length - (intOf z).toNat)
  case atStart => exact ⟨0, Nat.zero_le _, rfl, rfl, Lib.hid (fun m hm => by cases hm)⟩
  case round =>
    obtain ⟨i, hi, rfl, rfl, HN⟩ := hrel
    by_cases hlt : i < xs.length
    · have z0 : (0 : Int) ≤ i := by omega
      have z1 : (i : Int) < xs.length := by omega
      obtain ⟨g, rfl, hg, c0, c1⟩ := HC.out i hlt
      by_cases e : (xs[i]).1 = id
      · have E := Lib.hid e
        rw [e] at c0
        clear e
        go_wp2
        go_ret
        exact ⟨i, rfl, Or.inl ⟨i, hlt, rfl, E.out⟩, rfl⟩
      · have HE : Hid (∀ m ∈ xs.take (i + 1), m.1 ≠ id) := Lib.hid (fun m hm => by
          rw [List.take_succ_eq_append_getElem hlt] at hm
          rcases List.mem_append.1 hm with hm | hm
          · exact HN.out m hm
          · rw [List.mem_singleton.1 hm]; exact e)
        obtain ⟨y, hy⟩ : ∃ y, (xs[i]).1 = y := ⟨_, rfl⟩
        rw [hy] at c0 e
        clear hy
        go_wp2
        go_roundw
        case rel => exact ⟨i + 1, by omega, by go_num, by first | rfl | trivial, HE⟩
        case measure => simp [intOf] <;> omega
    · obtain rfl : i = xs.length := by omega
      go_wp2
      go_ret
      exact ⟨-1, rfl, Or.inr ⟨rfl, by have := HN.out; rwa [List.take_of_length_le (Nat.le_refl _)] at this⟩, rfl⟩
set_option maxRecDepth 100000 in
set_option maxHeartbeats 2000000 in
theorem put15_ok (base : Nat) (v : Value) (xs : List (Int × Int)) (e1 e2 : Int) (room : Int) (hroom : (xs.length : Int) < room) (hn : xs.length ≤ 100000) (w : World) (h : Its15 w base v xs) (hno : ∀ m ∈ xs, m.1 ≠ e1) :
    Calls Try.prog 70 #[v, .int .i64 room, .int .u32 e1, .int .i64 e2] w fun e w' => ∃ v', e = .returned (.tuple #[v', .int .i64 0]) ∧ Its15 w' w.heap.size v' (insP15 xs (e1, e2)) ∧ Below w.heap.size w w' := by
  obtain ⟨i0, hi, hz0, hz1, hz2⟩ := info_parts infoEnt15
  have FD : Calls Try.prog 16 #[v, .int .u32 e1] w fun e w' => e = .returned (.int .i64 (-1)) ∧ w' = w := (find15 h hn e1).mono (by
    rintro e w' ⟨r, rfl, hf, rfl⟩
    rcases hf with ⟨k, hk, _, he⟩ | ⟨rfl, _⟩
    · exact absurd he (hno _ (List.getElem_mem _))
    · exact ⟨rfl, rfl⟩)
  obtain ⟨a, c, rfl, _, hc⟩ := h.form
  have FH := Lib.hid FD
  have HC := Lib.hid hc
  clear h hc FD hno
  go_enter Try.func70, Try.ntmps70
  have hr9 : ¬ room ≤ (xs.length : Int) := by omega
  go_wp2_with fail
  refine FH.out.mono ?_
  rintro e w' ⟨rfl, rfl⟩
  go_wp2
  go_loopw [10, 11, 12] (fun x z y wr => ∃ (vo : Value) (k : Nat) (put : Bool) (ys : List (Int × Int)), vo = x ∧ z = .bool put ∧ k ≤ xs.length ∧ y = .int .i64 k ∧ PutI15 xs (e1, e2) k put ys ∧ Its15 wr w'.heap.size vo ys ∧ Below w'.heap.size w' wr) (fun _ _ y _ => xs.length - (intOf y).toNat)
  case atStart => exact ⟨_, 0, false, [], rfl, rfl, Nat.zero_le _, rfl, Or.inl ⟨rfl, rfl, fun m hm => by cases hm⟩, Its15.nil _ _, Below.refl _ _⟩
  case round =>
    obtain ⟨vo, k, put, ys, rfl, rfl, hk, rfl, hP, ho, hb⟩ := hrel
    have hs := hb.size
    have hyl := hP.len
    by_cases hlt : k < xs.length
    · obtain ⟨g, rfl, hg, cg, cg2⟩ := HC.out k hlt
      have CG := Lib.hid (fun W (hW : Below w'.heap.size w' W) => (⟨(hW.cell (p := ⟨g, k * 2, none⟩) hg).trans cg, (hW.cell (p := ⟨g, k * 2 + 1, none⟩) hg).trans cg2⟩ : W.cell? ⟨g, k * 2, none⟩ = some (.int .u32 (xs[k]).1) ∧ W.cell? ⟨g, k * 2 + 1, none⟩ = some (.int .i64 (xs[k]).2)))
      obtain ⟨cg, cg2⟩ := CG.out wr hb
      have HB := Lib.hid hb
      have HO := Lib.hid ho
      have q1 : (k : Int) < xs.length := by omega
      have q0 : (0 : Int) ≤ k := by omega
      unfold Its15 at ho
      cases put with
      | false =>
        by_cases hl : e1 < (xs[k]).1
        · have ST := Lib.hid (hP.now hlt hl)
          clear hb hP
          generalize hy : xs[k] = y at *
          obtain ⟨y1, y2⟩ := y
          dsimp only at cg cg2 hl CG
          go_wp2_with (first
            | (at_builtin; refine wpList_append_own _ rfl _ _ 28 rfl w'.heap.size 39 i0 (.agg #[.int .u32 0, .int .i64 0]) 2 16 Try.underlying28 hi hz0 hz1 hz2 rfl (by decide) vo _ _ rfl (ho.alloc _) ⟨wr.heap.size, 0, none⟩ 1 1 [.int .u32 e1, .int .i64 e2] rfl rfl (cells_two15 _ _ _ _) (fun x hx => by simp at hx; rcases hx with rfl | rfl <;> rfl) (by unfold maxLen; omega) (by omega) (by simp; omega) ?_; intro v3 w3 ho3 hg3 hn3; clear hn3; have B3 := Lib.hid ((HB.out.alloc hs _).grown hg3 (by simp; omega) (fun g hg => (World.ownsRow.lt HO.out g hg).1)); have HO3 := Lib.hid (Its15.of_append (x := (e1, e2)) ho3); clear ho3 hg3; obtain ⟨ch, ch2⟩ := CG.out w3 B3.out; have hs3 := B3.out.size; have ho4 := HO3.out; unfold Its15 at ho4; rw [List.length_append, List.length_singleton] at ho4)
            | (at_builtin; refine wpList_append_own _ rfl _ _ 28 rfl w'.heap.size 39 i0 (.agg #[.int .u32 0, .int .i64 0]) 2 16 Try.underlying28 hi hz0 hz1 hz2 rfl (by decide) v3 _ _ rfl (ho4.alloc _) ⟨w3.heap.size, 0, none⟩ 1 1 [.int .u32 y1, .int .i64 y2] rfl rfl (cells_two15 _ _ _ _) (fun x hx => by simp at hx; rcases hx with rfl | rfl <;> rfl) (by unfold maxLen; omega) (by omega) (by simp; omega) ?_; intro v5 w5 ho5 hg5 hn3; clear hn3; have B5 := Lib.hid ((B3.out.alloc hs3 _).grown hg5 (by simp; omega) (fun g hg => (World.ownsRow.lt HO3.out g hg).1)); have HO5 := Lib.hid (Its15.of_append (xs := ys ++ [(e1, e2)]) (x := (y1, y2)) (by rw [List.length_append, List.length_singleton]; exact ho5)); clear ho5 hg5)
            | fail)
          go_roundw
          case rel => exact ⟨v5, k + 1, true, _, rfl, rfl, by omega, by go_num, ST.out, HO5.out, B5.out⟩
          case measure => simp [intOf] <;> omega
        · have ST := Lib.hid (hP.not hlt hl)
          clear hb hP
          generalize hy : xs[k] = y at *
          obtain ⟨y1, y2⟩ := y
          dsimp only at cg cg2 hl CG
          go_wp2_with (at_builtin; refine wpList_append_own _ rfl _ _ 28 rfl w'.heap.size 39 i0 (.agg #[.int .u32 0, .int .i64 0]) 2 16 Try.underlying28 hi hz0 hz1 hz2 rfl (by decide) vo _ _ rfl (ho.alloc _) ⟨wr.heap.size, 0, none⟩ 1 1 [.int .u32 y1, .int .i64 y2] rfl rfl (cells_two15 _ _ _ _) (fun x hx => by simp at hx; rcases hx with rfl | rfl <;> rfl) (by unfold maxLen; omega) (by omega) (by simp; omega) ?_; intro v3 w3 ho3 hg3 hn3; clear hn3; have B3 := Lib.hid ((HB.out.alloc hs _).grown hg3 (by simp; omega) (fun g hg => (World.ownsRow.lt HO.out g hg).1)); have HO3 := Lib.hid (Its15.of_append (x := (y1, y2)) ho3); clear ho3 hg3)
          go_roundw
          case rel => exact ⟨v3, k + 1, false, _, rfl, rfl, by omega, by go_num, ST.out, HO3.out, B3.out⟩
          case measure => simp [intOf] <;> omega
      | true =>
        have ST := Lib.hid (hP.on hlt)
        clear hb hP
        generalize hy : xs[k] = y at *
        obtain ⟨y1, y2⟩ := y
        dsimp only at cg cg2 CG
        go_wp2_with (at_builtin; refine wpList_append_own _ rfl _ _ 28 rfl w'.heap.size 39 i0 (.agg #[.int .u32 0, .int .i64 0]) 2 16 Try.underlying28 hi hz0 hz1 hz2 rfl (by decide) vo _ _ rfl (ho.alloc _) ⟨wr.heap.size, 0, none⟩ 1 1 [.int .u32 y1, .int .i64 y2] rfl rfl (cells_two15 _ _ _ _) (fun x hx => by simp at hx; rcases hx with rfl | rfl <;> rfl) (by unfold maxLen; omega) (by omega) (by simp; omega) ?_; intro v3 w3 ho3 hg3 hn3; clear hn3; have B3 := Lib.hid ((HB.out.alloc hs _).grown hg3 (by simp; omega) (fun g hg => (World.ownsRow.lt HO.out g hg).1)); have HO3 := Lib.hid (Its15.of_append (x := (y1, y2)) ho3); clear ho3 hg3)
        go_roundw
        case rel => exact ⟨v3, k + 1, true, _, rfl, rfl, by omega, by go_num, ST.out, HO3.out, B3.out⟩
        case measure => simp [intOf] <;> omega
    · obtain rfl : k = xs.length := by omega
      have HB := Lib.hid hb
      have HO := Lib.hid ho
      unfold Its15 at ho
      cases put with
      | false =>
        have ST := Lib.hid hP.endF
        clear hb hP
        go_wp2_with (at_builtin; refine wpList_append_own _ rfl _ _ 28 rfl w'.heap.size 39 i0 (.agg #[.int .u32 0, .int .i64 0]) 2 16 Try.underlying28 hi hz0 hz1 hz2 rfl (by decide) vo _ _ rfl (ho.alloc _) ⟨wr.heap.size, 0, none⟩ 1 1 [.int .u32 e1, .int .i64 e2] rfl rfl (cells_two15 _ _ _ _) (fun x hx => by simp at hx; rcases hx with rfl | rfl <;> rfl) (by unfold maxLen; omega) (by omega) (by simp; omega) ?_; intro v3 w3 ho3 hg3 hn3; clear hn3; have B3 := Lib.hid ((HB.out.alloc hs _).grown hg3 (by simp; omega) (fun g hg => (World.ownsRow.lt HO.out g hg).1)); have HO3 := Lib.hid (Its15.of_append (x := (e1, e2)) ho3); clear ho3 hg3)
        go_ret2
        exact ⟨_, rfl, by rw [← ST.out]; exact HO3.out, B3.out⟩
      | true =>
        have ST := Lib.hid hP.endT
        clear hb hP
        go_wp2
        go_ret2
        exact ⟨_, rfl, by rw [← ST.out]; exact HO.out, HB.out⟩
end Go.Proofs.Ytcieggckmpabnaa
