/-
  The answer of layer 32, walked: rows of prefixes with their things; which stands ahead; where a prefix is. What lay below the heap's end stands. No condition.
-/
import Derived.Test.YtfjhcmihjffknaaTrL
import Derived.Test.YtfjhcmihjffknaaTrE
import Derived.Test.YtfjhcmihjffknaaAdr4
import Derived.Test.YtfjhcmihjffknaaRows
import Derived.Test.YtfjhcmihjffknaaBase
import Derived.Maps.AppendAt
import Derived.Deep.AppendLies
import Derived.Outline
import Derived.Laws.AppendOwnNone
import Derived.RegionTactic
import Derived.Deep.RegionWith
import Derived.Deep.RegionHeld3
namespace Go.Proofs.Ytfjhcmihjffknaa
set_option linter.unusedVariables false
set_option linter.unusedSimpArgs false
open Go.ChangeShapes Go.WideShapes Go.ChangeAt Go.RowKit
attribute [local go_sem] alloc_drewN setCell_drewN

theorem infoEnt32 : (Try.prog.info? 91).map (fun i => (i.zero, i.size, i.bytes)) = some (some (.agg #[.int .u32 0, .int .i64 0, .int .i64 0]), 3, 24) := by kernel_rfl
def itc32 (p : Int × Int × Int) : List Value := [.int .u32 p.1, .int .i64 p.2.1, .int .i64 p.2.2]
def Its32 (w : World) (base : Nat) (v : Value) (xs : List (Int × Int × Int)) : Prop := w.ownsRow base 91 3 v xs.length (xs.flatMap itc32)
theorem its32_len (xs : List (Int × Int × Int)) : (xs.flatMap itc32).length = xs.length * 3 := by
  induction xs with
  | nil => rfl
  | cons x xs ih => rw [List.flatMap_cons, List.length_append, ih, List.length_cons]; show 3 + _ = _; omega
theorem its32_at (xs : List (Int × Int × Int)) (h i : Nat) (hh : h < xs.length) (hi : i < 3) : (xs.flatMap itc32)[h * 3 + i]? = (itc32 xs[h])[i]? := by
  induction xs generalizing h with
  | nil => exact absurd hh (Nat.not_lt_zero _)
  | cons x xs ih =>
    rw [List.flatMap_cons]
    cases h with
    | zero => rw [Nat.zero_mul, Nat.zero_add, List.getElem?_append_left (by simpa [itc32] using hi)]; rfl
    | succ h =>
      rw [List.getElem?_append_right (by simp [itc32]; omega)]
      have e4 : (h + 1) * 3 + i - (itc32 x).length = h * 3 + i := by simp [itc32]; omega
      rw [e4, ih h (by simpa using hh)]; rfl
theorem Its32.nil (w : World) (base : Nat) : Its32 w base (.slice none 0 0) [] := World.ownsRow_nil _ _ _ _
theorem Its32.form {w : World} {base : Nat} {v : Value} {xs : List (Int × Int × Int)} (h : Its32 w base v xs) : ∃ a c, v = .slice a xs.length c ∧ xs.length ≤ c ∧ ∀ i (hi : i < xs.length), ∃ g, a = some ⟨g, 0, none⟩ ∧ g < w.heap.size ∧ w.cell? ⟨g, i * 3, none⟩ = some (.int .u32 (xs[i]).1) ∧ w.cell? ⟨g, i * 3 + 1, none⟩ = some (.int .i64 (xs[i]).2.1) ∧ w.cell? ⟨g, i * 3 + 2, none⟩ = some (.int .i64 (xs[i]).2.2) := by
  have h' := h
  unfold Its32 at h'
  rcases h'.2 with ⟨rfl, h0⟩ | ⟨g, cap, cur, rfl, hb, hg, h1, _⟩
  · exact ⟨none, 0, by rw [h0], by omega, fun i hi => by omega⟩
  · refine ⟨some ⟨g, 0, none⟩, cap, rfl, h1, fun i hi => ⟨g, rfl, (Array.getElem?_eq_some_iff.1 hg).1, ?_, ?_, ?_⟩⟩
    · exact (h'.cellAt (i * 3 + 0) (by omega)).trans (its32_at xs i 0 hi (by omega))
    · exact (h'.cellAt (i * 3 + 1) (by omega)).trans (its32_at xs i 1 hi (by omega))
    · exact (h'.cellAt (i * 3 + 2) (by omega)).trans (its32_at xs i 2 hi (by omega))
theorem Its32.below {w w' : World} {base : Nat} {v : Value} {xs : List (Int × Int × Int)} (h : Its32 w base v xs) (hb : Below w.heap.size w w') : Its32 w' base v xs :=
  World.ownsRow.kept (row := some w.heap.size) h ⟨hb.os, hb.tape, hb.output, hb.size, fun k hk _ => hb.block k hk⟩ (Or.inr (fun hh => by have := World.ownsRow.lt h _ hh; omega))
theorem Its32.len {w : World} {base : Nat} {v : Value} {xs : List (Int × Int × Int)} (h : Its32 w base v xs) : xs.length ≤ maxLen := by
  rcases h.2 with ⟨rfl, h0⟩ | ⟨g, cap, cur, rfl, hb, hg, h1, h2, _⟩ <;> omega
theorem Its32.of_append {w' : World} {base : Nat} {v' : Value} {xs : List (Int × Int × Int)} {x : Int × Int × Int} (h : w'.ownsRow base 91 3 v' (xs.length + 1) (xs.flatMap itc32 ++ [.int .u32 x.1, .int .i64 x.2.1, .int .i64 x.2.2])) : Its32 w' base v' (xs ++ [x]) := by
  unfold Its32
  rw [List.length_append, List.flatMap_append]
  simpa [itc32] using h
theorem ins32_length (a n x : Int) : ∀ ms, (ins32 a n x ms).length = ms.length + 1
  | [] => rfl
  | m :: ms => by
    unfold ins32
    split
    · rfl
    · rw [List.length_cons, ins32_length a n x ms, List.length_cons]
theorem cells_three32 (w : World) (x y z : Value) (t : TypeId) : ∀ j u, [x, y, z][j]? = some u → (w.alloc (.cells #[x, y, z] t)).cell? ((⟨w.heap.size, 0, none⟩ : Addr).add j) = some u := by
  intro j u h
  match j with
  | 0 =>
    have : x = u := by simpa using h
    subst this
    simp [go_sem, Addr.add]
  | 1 =>
    have : y = u := by simpa using h
    subst this
    simp [go_sem, Addr.add]
  | 2 =>
    have : z = u := by simpa using h
    subst this
    simp [go_sem, Addr.add]
  | j + 3 => simp at h
theorem ins32_none (a n x : Int) : ∀ (L M : List (Int × Int × Int)), (∀ m ∈ L, ¬ ah a n m.1 m.2.1) → ins32 a n x (L ++ M) = L ++ ins32 a n x M
  | [], _, _ => rfl
  | m :: L, M, h => by
    rw [List.cons_append, ins32, if_neg (h m (List.mem_cons_self ..)), ins32_none a n x L M (fun x hx => h x (List.mem_cons_of_mem _ hx))]; rfl
theorem ins32_some (a n x : Int) : ∀ (L M : List (Int × Int × Int)), (∃ m ∈ L, ah a n m.1 m.2.1) → ins32 a n x (L ++ M) = ins32 a n x L ++ M
  | [], _, h => by obtain ⟨m, hm, _⟩ := h; cases hm
  | m :: L, M, h => by
    rw [List.cons_append, ins32, ins32]
    by_cases hx : ah a n m.1 m.2.1
    · rw [if_pos hx, if_pos hx]; rfl
    · rw [if_neg hx, if_neg hx, ins32_some a n x L M (by
        obtain ⟨y, hy, hl⟩ := h
        rcases List.mem_cons.1 hy with rfl | hy
        · exact absurd hl hx
        · exact ⟨y, hy, hl⟩)]; rfl
def PutI32 (xs : List (Int × Int × Int)) (a n x : Int) (k : Nat) (put : Bool) (ys : List (Int × Int × Int)) : Prop :=
  (put = false ∧ ys = xs.take k ∧ ∀ m ∈ xs.take k, ¬ ah a n m.1 m.2.1) ∨ (put = true ∧ ys = ins32 a n x (xs.take k) ∧ ∃ m ∈ xs.take k, ah a n m.1 m.2.1)
theorem PutI32.now {xs : List (Int × Int × Int)} {a n x : Int} {k : Nat} {ys : List (Int × Int × Int)} (h : PutI32 xs a n x k false ys) (hk : k < xs.length) (hl : ah a n (xs[k]).1 (xs[k]).2.1) : PutI32 xs a n x (k + 1) true (ys ++ [(a, n, x)] ++ [xs[k]]) := by
  rcases h with ⟨_, rfl, hm⟩ | ⟨h, _⟩
  · refine Or.inr ⟨rfl, ?_, xs[k], ?_, hl⟩
    · rw [List.take_succ_eq_append_getElem hk, ins32_none a n x _ _ hm, ins32, if_pos hl, List.append_assoc]; rfl
    · rw [List.take_succ_eq_append_getElem hk]; exact List.mem_append.2 (Or.inr (List.mem_singleton.2 rfl))
  · cases h
theorem PutI32.not {xs : List (Int × Int × Int)} {a n x : Int} {k : Nat} {ys : List (Int × Int × Int)} (h : PutI32 xs a n x k false ys) (hk : k < xs.length) (hl : ¬ ah a n (xs[k]).1 (xs[k]).2.1) : PutI32 xs a n x (k + 1) false (ys ++ [xs[k]]) := by
  rcases h with ⟨_, rfl, hm⟩ | ⟨h, _⟩
  · refine Or.inl ⟨rfl, (List.take_succ_eq_append_getElem hk).symm, fun m hx => ?_⟩
    rw [List.take_succ_eq_append_getElem hk] at hx
    rcases List.mem_append.1 hx with hx | hx
    · exact hm m hx
    · rw [List.mem_singleton.1 hx]; exact hl
  · cases h
theorem PutI32.on {xs : List (Int × Int × Int)} {a n x : Int} {k : Nat} {ys : List (Int × Int × Int)} (h : PutI32 xs a n x k true ys) (hk : k < xs.length) : PutI32 xs a n x (k + 1) true (ys ++ [xs[k]]) := by
  rcases h with ⟨h, _⟩ | ⟨_, rfl, m, hm, hl⟩
  · cases h
  · refine Or.inr ⟨rfl, ?_, m, ?_, hl⟩
    · rw [List.take_succ_eq_append_getElem hk, ins32_some a n x _ _ ⟨m, hm, hl⟩]
    · rw [List.take_succ_eq_append_getElem hk]; exact List.mem_append.2 (Or.inl hm)
theorem PutI32.len {xs : List (Int × Int × Int)} {a n x : Int} {k : Nat} {put : Bool} {ys : List (Int × Int × Int)} (h : PutI32 xs a n x k put ys) : ys.length ≤ xs.length + 1 := by
  rcases h with ⟨_, rfl, _⟩ | ⟨_, rfl, _⟩
  · rw [List.length_take]; omega
  · rw [ins32_length, List.length_take]; omega
theorem PutI32.endF {xs : List (Int × Int × Int)} {a n x : Int} {ys : List (Int × Int × Int)} (h : PutI32 xs a n x xs.length false ys) : ys ++ [(a, n, x)] = ins32 a n x xs := by
  rcases h with ⟨_, rfl, hm⟩ | ⟨h, _⟩
  · rw [List.take_of_length_le (Nat.le_refl _)] at hm ⊢
    have := ins32_none a n x xs [] hm
    rw [List.append_nil] at this
    rw [this]; rfl
  · cases h
theorem PutI32.endT {xs : List (Int × Int × Int)} {a n x : Int} {ys : List (Int × Int × Int)} (h : PutI32 xs a n x xs.length true ys) : ys = ins32 a n x xs := by
  rcases h with ⟨h, _⟩ | ⟨_, rfl, _⟩
  · cases h
  · rw [List.take_of_length_le (Nat.le_refl _)]
/-- Where a prefix is; -1: nowhere. -/
def fd32 (xs : List (Int × Int × Int)) (a n : Int) (r : Int) : Prop := (∃ k : Nat, ∃ h : k < xs.length, r = k ∧ ((xs[k]).1 = a ∧ (xs[k]).2.1 = n)) ∨ (r = -1 ∧ ∀ m ∈ xs, ¬ (m.1 = a ∧ m.2.1 = n))
set_option maxRecDepth 100000 in
set_option maxHeartbeats 2000000 in
theorem ahead32 (a n b m : Int) (w : World) :
    Calls Try.prog 72 #[.agg #[.int .u32 a, .int .i64 n], .agg #[.int .u32 b, .int .i64 m]] w fun e w' => e = .returned (.bool (decide (ah a n b m))) ∧ Below w.heap.size w w' := by
  have F1 := Lib.hid ((Below.refl w.heap.size w).alloc (Nat.le_refl _) (.cells #[.int .u32 a, .int .i64 n] 70))
  have F2 := Lib.hid (F1.out.alloc F1.out.size (.cells #[.int .u32 b, .int .i64 m] 70))
  by_cases h1 : a < b
  · rw [decide_eq_true (show ah a n b m from Or.inl h1)]
    go_enter Try.func72, Try.ntmps72
    go_wp2
    go_ret
    exact ⟨rfl, F2.out⟩
  · by_cases h2 : a = b
    · subst h2
      by_cases h3 : n < m
      · rw [decide_eq_true (show ah a n a m from Or.inr ⟨rfl, h3⟩)]
        go_enter Try.func72, Try.ntmps72
        go_wp2
        go_ret
        exact ⟨rfl, F2.out⟩
      · rw [decide_eq_false (show ¬ ah a n a m from fun h => by unfold ah at h; omega)]
        go_enter Try.func72, Try.ntmps72
        go_wp2
        go_ret
        exact ⟨rfl, F2.out⟩
    · rw [decide_eq_false (show ¬ ah a n b m from fun h => by unfold ah at h; omega)]
      have h2' : (a == b) = false := by simpa using h2
      go_enter Try.func72, Try.ntmps72
      go_wp2
      go_ret
      exact ⟨rfl, F2.out⟩
set_option maxRecDepth 100000 in
set_option maxHeartbeats 4000000 in
theorem at32 {w : World} {base : Nat} {v : Value} {xs : List (Int × Int × Int)} (h : Its32 w base v xs) (hn : xs.length ≤ 100000) (a n : Int) :
    Calls Try.prog 44 #[v, .agg #[.int .u32 a, .int .i64 n]] w fun e w' => ∃ r, e = .returned (.int .i64 r) ∧ fd32 xs a n r ∧ Below w.heap.size w w' := by
  have HB := Lib.hid ((Below.refl _ w).alloc (Nat.le_refl _) (.cells #[.int .u32 a, .int .i64 n] 70))
  have HC := Lib.hid (h.below HB.out).form
  have HP := Lib.hid (heap_alloc_new w (.cells #[.int .u32 a, .int .i64 n] 70))
  obtain ⟨a0, c, rfl, -, -⟩ := h.form
  have HC : Hid (∀ i (hi : i < xs.length), ∃ g, a0 = some ⟨g, 0, none⟩ ∧ (w.alloc (.cells #[.int .u32 a, .int .i64 n] 70)).cell? ⟨g, i * 3, none⟩ = some (.int .u32 (xs[i]).1) ∧ (w.alloc (.cells #[.int .u32 a, .int .i64 n] 70)).cell? ⟨g, i * 3 + 1, none⟩ = some (.int .i64 (xs[i]).2.1)) := Lib.hid (by
    obtain ⟨a1, c1, e1, -, h1⟩ := HC.out
    injection e1 with e1 _ _
    subst e1
    intro i hi
    obtain ⟨g, g1, -, g2, g3, -⟩ := h1 i hi
    exact ⟨g, g1, g2, g3⟩)
  clear h
  go_enter Try.func44, Try.ntmps44
  go_wp2
  generalize hW : w.alloc (.cells #[.int .u32 a, .int .i64 n] 70) = W at *
  have HS := Lib.hid hW
  clear hW
  obtain ⟨p0, p1⟩ := box2 HP.out
  go_loopw [5] (fun z wr => ∃ i : Nat, i ≤ xs.length ∧ z = .int .i64 i ∧ (∃ k, wr = W.drewN k) ∧ Hid (∀ m ∈ xs.take i, ¬ (m.1 = a ∧ m.2.1 = n))) (fun z _ => xs.length - (intOf z).toNat)
  case atStart => exact ⟨0, Nat.zero_le _, rfl, ⟨0, rfl⟩, Lib.hid (fun m hm => by cases hm)⟩
  case round =>
    obtain ⟨i, hi, rfl, ⟨k, rfl⟩, HN⟩ := hrel
    by_cases hlt : i < xs.length
    · have z0 : (0 : Int) ≤ i := by omega
      have z1 : (i : Int) < xs.length := by omega
      obtain ⟨g, rfl, c0, c1⟩ := HC.out i hlt
      by_cases e : (xs[i]).1 = a ∧ (xs[i]).2.1 = n
      · have E := Lib.hid e
        obtain ⟨e1, e2⟩ := e
        rw [e1] at c0
        rw [e2] at c1
        have PE : ∀ W, Sem.run Try.prog (binOp .eql 70 (.agg #[.int .u32 a, .int .i64 n]) (.agg #[.int .u32 a, .int .i64 n])) W = .ok (.bool true) W := fun W => by rw [prefix_eq]; simp
        clear e1 e2
        go_wp2
        go_quiet (fail)
        go_wp2
        go_ret
        exact ⟨i, rfl, Or.inl ⟨i, hlt, rfl, E.out⟩, below_drewN _ (below_drewN _ HB.out)⟩
      · have HE : Hid (∀ m ∈ xs.take (i + 1), ¬ (m.1 = a ∧ m.2.1 = n)) := Lib.hid (fun m hm => by
          rw [List.take_succ_eq_append_getElem hlt] at hm
          rcases List.mem_append.1 hm with hm | hm
          · exact HN.out m hm
          · rw [List.mem_singleton.1 hm]; exact e)
        obtain ⟨y, hy⟩ : ∃ y, xs[i] = y := ⟨_, rfl⟩
        rw [hy] at c0 c1 e
        obtain ⟨y1, y2, y3⟩ := y
        dsimp only at c0 c1 e
        have NE : (y1 == a && y2 == n) = false := by
          rw [Bool.and_eq_false_iff]
          by_cases h : y1 = a
          · exact Or.inr (by simpa using fun h2 => e ⟨h, h2⟩)
          · exact Or.inl (by simpa using h)
        have PE : ∀ W, Sem.run Try.prog (binOp .eql 70 (.agg #[.int .u32 y1, .int .i64 y2]) (.agg #[.int .u32 a, .int .i64 n])) W = .ok (.bool false) W := fun W => by rw [prefix_eq, NE]
        clear hy e NE
        go_wp2
        go_quiet (fail)
        go_wp2
        go_roundw
        case rel => exact ⟨i + 1, by omega, by go_num, ⟨_, rfl⟩, HE⟩
        case measure => simp [intOf] <;> omega
    · obtain rfl : i = xs.length := by omega
      go_wp2
      go_ret
      exact ⟨-1, rfl, Or.inr ⟨rfl, by have := HN.out; rwa [List.take_of_length_le (Nat.le_refl _)] at this⟩, below_drewN _ HB.out⟩
end Go.Proofs.Ytfjhcmihjffknaa
