/-
  A well-formed table, and boxes of prefixes beside it: what each thing that is done leaves of both. No condition but that New made the table.
-/
import Derived.Test.YtfjhcmihjffknaaTr18
import Derived.Test.YtfjhcmihjffknaaTr13
namespace Go.Proofs.Ytfjhcmihjffknaa
set_option linter.unusedVariables false
set_option linter.unusedSimpArgs false
open Go.ChangeShapes Go.WideShapes Go.ChangeAt Go.RowKit
attribute [local go_sem] alloc_drewN setCell_drewN

/-- What a find answers. -/
def fnd : Option (Int × Int × Int) → Int × Int × Int × Bool
  | none => (0, 0, 0, false)
  | some z => (z.1, z.2.1, z.2.2, true)
/-- A well-formed table, and boxes of prefixes beside it. -/
def LvW (w0 w : World) (T : Nat) (t : Tr) (L : List (Nat × Int × Int)) : Prop := Lv w0 w T t (tsz t) L ∧ Wf t ∧ ∃ th x l r, t = .nd 0 0 th x l r
section
variable {w0 w w' : World} {T : Nat} {t : Tr} {L : List (Nat × Int × Int)} {a n : Int}
theorem LvW.on (h : LvW w0 w T t L) (hb : Below w.heap.size w w') : LvW w0 w' T t L := ⟨h.1.on hb, h.2⟩
theorem LvW.bel (h : LvW w0 w T t L) : Below w0.heap.size w0 w := by obtain ⟨⟨bs, h1, h2, h3⟩, -⟩ := h; exact h3
theorem LvW.put (h : LvW w0 w T t L) (ha : 0 ≤ a ∧ a ≤ 4294967295) (hn : -9223372036854775808 ≤ n ∧ n ≤ 9223372036854775807) (x : Int) : Calls Try.prog 35 #[.pointer (some ⟨T, 0, none⟩), .agg #[.int .u32 a, .int .i64 n], .int .i64 x] w fun e w' => ∃ c, e = .returned (.int .i64 c) ∧ ∃ t', LvW w0 w' T t' L ∧ ∀ q, 0 ≤ q → ¬ HsP a n q → tfind q t' = tfind q t := by
  obtain ⟨⟨bs, h1, h2, h3⟩, h4, h5⟩ := h
  exact (tput_W ⟨h1, h4, h5⟩ ha hn x).mono fun e w' ⟨c, g1, t', bs', ⟨g2, g3, g4⟩, g5, g6⟩ => ⟨c, g1, t', ⟨Lv.turn h1 h2 h3 g2 g5, g3, g4⟩, g6⟩
theorem LvW.drop (h : LvW w0 w T t L) (ha : 0 ≤ a ∧ a ≤ 4294967295) (hn : -9223372036854775808 ≤ n ∧ n ≤ 9223372036854775807) : Calls Try.prog 33 #[.pointer (some ⟨T, 0, none⟩), .agg #[.int .u32 a, .int .i64 n]] w fun e w' => ∃ c b, e = .returned (.tuple #[.int .i64 c, .bool b]) ∧ ∃ t', LvW w0 w' T t' L ∧ ∀ q, 0 ≤ q → ¬ HsP a n q → tfind q t' = tfind q t := by
  obtain ⟨⟨bs, h1, h2, h3⟩, h4, h5⟩ := h
  exact (tdrop_W ⟨h1, h4, h5⟩ ha hn).mono fun e w' ⟨c, b, g1, t', bs', ⟨g2, g3, g4⟩, g5, g6⟩ => ⟨c, b, g1, t', ⟨Lv.turn h1 h2 h3 g2 g5, g3, g4⟩, g6⟩
theorem LvW.find (h : LvW w0 w T t L) (ha : 0 ≤ a ∧ a ≤ 4294967295) {fb fm fx : Int} {fi : Bool} (hf : fnd (tfind a t) = (fb, fm, fx, fi)) : Calls Try.prog 34 #[.pointer (some ⟨T, 0, none⟩), .int .u32 a] w fun e w' => e = .returned (.tuple #[.agg #[.int .u32 fb, .int .i64 fm], .int .i64 fx, .bool fi]) ∧ LvW w0 w' T t L := by
  have h' := h
  obtain ⟨⟨bs, h1, h2, h3⟩, h4, h5⟩ := h
  cases hz : tfind a t with
  | none =>
    rw [hz] at hf
    obtain ⟨rfl, rfl, rfl, rfl⟩ : 0 = fb ∧ 0 = fm ∧ 0 = fx ∧ false = fi := by simpa [fnd] using hf
    exact (tfind_none h1 ha hz).mono fun e w' ⟨g1, g2⟩ => ⟨g1, h'.on g2⟩
  | some z =>
    rw [hz] at hf
    obtain ⟨z1, z2, z3⟩ := z
    obtain ⟨rfl, rfl, rfl, rfl⟩ : z1 = fb ∧ z2 = fm ∧ z3 = fx ∧ true = fi := by simpa [fnd] using hf
    exact (tfind_some h1 ha hz).mono fun e w' ⟨g1, g2⟩ => ⟨g1, h'.on g2⟩
theorem LvW.more (h : LvW w0 w T t L) {s : Nat} (hs : w.heap.size ≤ s) (hb : Below w.heap.size w w') (hc : w'.heap[s]? = some (.cells #[.int .u32 a, .int .i64 n] 70 (0, 0))) : LvW w0 w' T t ((s, a, n) :: L) := ⟨h.1.more hs hb hc, h.2⟩
theorem LvW.cells (h : LvW w0 w T t L) {s : Nat} {a n : Int} (hz : (s, a, n) ∈ L) : w.cell? ⟨s, 0, none⟩ = some (.int .u32 a) ∧ w.cell? ⟨s, 1, none⟩ = some (.int .i64 n) := h.1.cells hz
end
theorem tfind_rng {q : Int} : ∀ {t : Tr} {c k x : Int}, Wf t → tfind q t = some (c, k, x) → 0 ≤ c ∧ c ≤ 4294967295
  | .nil, c, k, x, _, h => by cases h
  | .nd b m th y l r, c, k, x, hw, h => by
    rw [tfind] at h
    by_cases hc : HsP b m q
    · rw [if_pos hc] at h
      have key : ∀ o : Option (Int × Int × Int), (∀ c k x, o = some (c, k, x) → 0 ≤ c ∧ c ≤ 4294967295) → (match o with | some z => some z | none => if th then some (b, m, y) else none) = some (c, k, x) → 0 ≤ c ∧ c ≤ 4294967295 := by
        intro o ho hm
        cases o with
        | some z =>
          simp only [Option.some.injEq] at hm
          exact ho c k x (by rw [hm])
        | none =>
          cases th
          · cases hm
          · simp only [if_true, Option.some.injEq, Prod.mk.injEq] at hm
            obtain ⟨rfl, rfl, -⟩ := hm
            exact hw.2.1
      refine key _ (fun c k x ho => ?_) h
      split at ho
      · exact tfind_rng hw.2.2.2.2.1 ho
      · exact tfind_rng hw.2.2.2.2.2 ho
    · rw [if_neg hc] at h
      cases h
theorem prefix_ne (b m : Int) (W : World) : Sem.run Try.prog (binOp .neq 70 (.agg #[.int .u32 b, .int .i64 m]) (.agg #[.int .u32 b, .int .i64 m])) W = .ok (.bool false) W := by
  have hm : Try.prog.eqGuardType Try.prog.depth 70 = false := by kernel_rfl
  go_simp
theorem row5 {v : World} {A : Nat} {d : Bool} {a n x q : Int} {t : TypeId} (h : v.heap[A]? = some (.cells #[.bool d, .int .u32 a, .int .i64 n, .int .i64 x, .int .u32 q] t (0, 0))) : v.cell? ⟨A, 0, none⟩ = some (.bool d) ∧ v.cell? ⟨A, 1, none⟩ = some (.int .u32 a) ∧ v.cell? ⟨A, 2, none⟩ = some (.int .i64 n) ∧ v.cell? ⟨A, 3, none⟩ = some (.int .i64 x) ∧ v.cell? ⟨A, 4, none⟩ = some (.int .u32 q) :=
  ⟨cell_of_row v A 0 _ _ (0, 0) h, cell_of_row v A 1 _ _ (0, 0) h, cell_of_row v A 2 _ _ (0, 0) h, cell_of_row v A 3 _ _ (0, 0) h, cell_of_row v A 4 _ _ (0, 0) h⟩
end Go.Proofs.Ytfjhcmihjffknaa
