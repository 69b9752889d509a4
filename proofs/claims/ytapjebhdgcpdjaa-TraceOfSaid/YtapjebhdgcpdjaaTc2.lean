/-
  Rows of records, and that the same ones are told the same by the document's answer for layer 39. What lay below the heap's end stands.
-/
import Derived.Test.YtapjebhdgcpdjaaTc1
import Derived.Test.YtapjebhdgcpdjaaVal
import Derived.Laws.StructEq
namespace Go.Proofs.Ytapjebhdgcpdjaa
set_option linter.unusedVariables false
set_option linter.unusedSimpArgs false
open Go.ChangeShapes Go.WideShapes Go.ChangeAt Go.RowKit
attribute [-go_sem] run_index_string binOp_string_eql binOp_string_neq run_string_add_if run_slice_string_from_if run_slice_string_to_if
attribute [local go_sem] index_bt add_fits slice_from slice_to eql_str neq_str alloc_drewN setCell_drewN

/-- The cells of a row of records. -/
def RCells (w : World) (b off : Nat) (l : List Rec) : Prop := ∀ i, i < l.length → w.cell? ⟨b, off + i * 6, none⟩ = some (.int .u64 (l.getD i Rec.nil).t) ∧ w.cell? ⟨b, off + i * 6 + 1, none⟩ = some (.int .i64 (l.getD i Rec.nil).k) ∧ w.cell? ⟨b, off + i * 6 + 2, none⟩ = some (.int .u32 (l.getD i Rec.nil).f) ∧ w.cell? ⟨b, off + i * 6 + 3, none⟩ = some (.int .u32 (l.getD i Rec.nil).i) ∧ w.cell? ⟨b, off + i * 6 + 4, none⟩ = some (.int .u64 (l.getD i Rec.nil).n) ∧ w.cell? ⟨b, off + i * 6 + 5, none⟩ = some (.int .i64 (l.getD i Rec.nil).c)
/-- A slice that reads as these records. -/
def SRc (w : World) (v : Value) (l : List Rec) : Prop := ∃ a c, v = .slice a l.length c ∧ (0 < l.length → ∃ b off, a = some ⟨b, off, none⟩ ∧ b < w.heap.size ∧ RCells w b off l)
/-- A row of records that a call owns. -/
def RRow (w0 w : World) (v : Value) (l : List Rec) : Prop := w.ownsRow w0.heap.size 64 6 v l.length (l.flatMap Rec.cells)
theorem flat_get6 (l : List Rec) : ∀ i, i < l.length → (l.flatMap Rec.cells)[i * 6]? = some (.int .u64 (l.getD i Rec.nil).t) ∧ (l.flatMap Rec.cells)[i * 6 + 1]? = some (.int .i64 (l.getD i Rec.nil).k) ∧ (l.flatMap Rec.cells)[i * 6 + 2]? = some (.int .u32 (l.getD i Rec.nil).f) ∧ (l.flatMap Rec.cells)[i * 6 + 3]? = some (.int .u32 (l.getD i Rec.nil).i) ∧ (l.flatMap Rec.cells)[i * 6 + 4]? = some (.int .u64 (l.getD i Rec.nil).n) ∧ (l.flatMap Rec.cells)[i * 6 + 5]? = some (.int .i64 (l.getD i Rec.nil).c) := by
  induction l with
  | nil => intro i h; simp at h
  | cons f l ih =>
    intro i hi
    rw [List.flatMap_cons]
    cases i with
    | zero => exact ⟨rfl, rfl, rfl, rfl, rfl, rfl⟩
    | succ i =>
      have := ih i (by simpa using hi)
      have e : ∀ o, (Rec.cells f ++ l.flatMap Rec.cells)[(i + 1) * 6 + o]? = (l.flatMap Rec.cells)[i * 6 + o]? := fun o => by
        rw [List.getElem?_append_right (by show 6 ≤ _; omega)]
        congr 1
        show (i + 1) * 6 + o - 6 = _
        omega
      have e0 := e 0
      rw [Nat.add_zero, Nat.add_zero] at e0
      rw [e0, e 1, e 2, e 3, e 4, e 5]
      simpa using this
theorem own_recs {w : World} {base : Nat} {t : TypeId} {v : Value} {l : List Rec} (h : w.ownsRow base t 6 v l.length (l.flatMap Rec.cells)) :
    (v = .slice none 0 0 ∧ l = []) ∨ ∃ g cap, v = .slice (some ⟨g, 0, none⟩) l.length cap ∧ g < w.heap.size ∧ l.length ≤ cap ∧ RCells w g 0 l := by
  have h' := h
  rcases h'.2 with ⟨rfl, h0⟩ | ⟨g, cap, cur, rfl, hb, _, hc, _⟩
  · exact Or.inl ⟨rfl, List.length_eq_zero_iff.1 h0⟩
  · refine Or.inr ⟨g, cap, rfl, (World.ownsRow.lt h g rfl).2, hc, fun i hi => ?_⟩
    obtain ⟨h0, h1, h2, h3, h4, h5⟩ := flat_get6 l i hi
    have e : ∀ o, (⟨g, 0, none⟩ : Addr).add o = ⟨g, 0 + o, none⟩ := fun o => Go.WideShapes.add_plain _ _ _
    have c0 := h.cells (g := g) rfl _ _ h0
    have c1 := h.cells (g := g) rfl _ _ h1
    have c2 := h.cells (g := g) rfl _ _ h2
    have c3 := h.cells (g := g) rfl _ _ h3
    have c4 := h.cells (g := g) rfl _ _ h4
    have c5 := h.cells (g := g) rfl _ _ h5
    rw [e] at c0 c1 c2 c3 c4 c5
    exact ⟨c0, c1, c2, c3, c4, c5⟩
theorem SRc.of_own {w : World} {base : Nat} {t : TypeId} {v : Value} {l : List Rec} (h : w.ownsRow base t 6 v l.length (l.flatMap Rec.cells)) : SRc w v l := by
  rcases own_recs h with ⟨rfl, rfl⟩ | ⟨g, cap, rfl, hg, _, hc⟩
  · exact ⟨none, 0, rfl, fun h => absurd h (by decide)⟩
  · exact ⟨_, cap, rfl, fun _ => ⟨g, 0, rfl, hg, hc⟩⟩
theorem SRc.later {W v : World} {x : Value} {l : List Rec} (h : SRc W x l) (hb : Below W.heap.size W v) : SRc v x l := by
  obtain ⟨a, c, rfl, h⟩ := h
  refine ⟨a, c, rfl, fun h0 => ?_⟩
  obtain ⟨b, off, rfl, hg, hc⟩ := h h0
  refine ⟨b, off, rfl, Nat.lt_of_lt_of_le hg hb.size, fun i hi => ?_⟩
  obtain ⟨c0, c1, c2, c3, c4, c5⟩ := hc i hi
  exact ⟨(hb.cell (p := ⟨b, off + i * 6, none⟩) hg).trans c0, (hb.cell (p := ⟨b, off + i * 6 + 1, none⟩) hg).trans c1, (hb.cell (p := ⟨b, off + i * 6 + 2, none⟩) hg).trans c2, (hb.cell (p := ⟨b, off + i * 6 + 3, none⟩) hg).trans c3, (hb.cell (p := ⟨b, off + i * 6 + 4, none⟩) hg).trans c4, (hb.cell (p := ⟨b, off + i * 6 + 5, none⟩) hg).trans c5⟩
theorem SRc.of_row {w : World} {a : Option Addr} {n c : Nat} {l : List Rec} (h : RowRc w a n l) : SRc w (.slice a n c) l := by
  obtain ⟨rfl, _, _, hc⟩ := h
  exact ⟨a, c, rfl, hc⟩
/-- The same list, cut. -/
theorem SRc.front {w : World} {a : Option Addr} {n c c2 : Nat} {l : List Rec} (k : Nat) (hk : k ≤ l.length) (h : SRc w (.slice a l.length c) l) : SRc w (.slice a k c2) (l.take k) := by
  obtain ⟨a', c', e, h⟩ := h
  injection e with e1 e2 e3
  subst e1
  have hl : (l.take k).length = k := by rw [List.length_take]; omega
  refine ⟨a, c2, by rw [hl], fun h0 => ?_⟩
  rw [hl] at h0
  obtain ⟨b, off, rfl, hg, hc⟩ := h (by omega)
  refine ⟨b, off, rfl, hg, fun i hi => ?_⟩
  have := hc i (by omega)
  have e : (l.take k).getD i Rec.nil = l.getD i Rec.nil := by
    rw [List.getD_eq_getElem?_getD, List.getD_eq_getElem?_getD, List.getElem?_take, if_pos (by omega)]
  rw [e]
  exact this
set_option maxRecDepth 100000 in
set_option maxHeartbeats 1000000 in
theorem same39_at (b off c b2 off2 c2 : Nat) (l : List Rec) (hn : l.length ≤ 100000) (w : World) (hb : b < w.heap.size) (hb2 : b2 < w.heap.size) (hc : RCells w b off l) (hc2 : RCells w b2 off2 l) :
    Calls Try.prog 35 #[.slice (some ⟨b, off, none⟩) l.length c, .slice (some ⟨b2, off2, none⟩) l.length c2] w fun e w' => e = .returned (.bool true) ∧ Below w.heap.size w w' := by
  have HC := Lib.hid hc; have HC2 := Lib.hid hc2
  clear hc hc2
  have hm : Try.prog.eqGuardType Try.prog.depth 64 = false := by kernel_rfl
  go_enter Try.func35, Try.ntmps35
  go_wp2
  go_loopw [5] (fun x wr => ∃ k : Nat, k ≤ l.length ∧ x = .int .i64 k ∧ Below w.heap.size w wr) (fun x _ => l.length - (intOf x).toNat)
  case atStart => exact ⟨0, Nat.zero_le _, rfl, Below.refl _ _⟩
  case round =>
    obtain ⟨k, hk, rfl, hbw⟩ := hrel
    by_cases hlt : k < l.length
    · obtain ⟨c0_, c1_, c2_, c3_, c4_, c5_⟩ := HC.out k hlt
      obtain ⟨d0_, d1_, d2_, d3_, d4_, d5_⟩ := HC2.out k hlt
      have c0_ := (hbw.cell (p := ⟨b, off + k * 6, none⟩) hb).trans c0_
      have c1_ := (hbw.cell (p := ⟨b, off + k * 6 + 1, none⟩) hb).trans c1_
      have c2_ := (hbw.cell (p := ⟨b, off + k * 6 + 2, none⟩) hb).trans c2_
      have c3_ := (hbw.cell (p := ⟨b, off + k * 6 + 3, none⟩) hb).trans c3_
      have c4_ := (hbw.cell (p := ⟨b, off + k * 6 + 4, none⟩) hb).trans c4_
      have c5_ := (hbw.cell (p := ⟨b, off + k * 6 + 5, none⟩) hb).trans c5_
      have d0_ := (hbw.cell (p := ⟨b2, off2 + k * 6, none⟩) hb2).trans d0_
      have d1_ := (hbw.cell (p := ⟨b2, off2 + k * 6 + 1, none⟩) hb2).trans d1_
      have d2_ := (hbw.cell (p := ⟨b2, off2 + k * 6 + 2, none⟩) hb2).trans d2_
      have d3_ := (hbw.cell (p := ⟨b2, off2 + k * 6 + 3, none⟩) hb2).trans d3_
      have d4_ := (hbw.cell (p := ⟨b2, off2 + k * 6 + 4, none⟩) hb2).trans d4_
      have d5_ := (hbw.cell (p := ⟨b2, off2 + k * 6 + 5, none⟩) hb2).trans d5_
      generalize l.getD k Rec.nil = f at *
      obtain ⟨f0, f1, f2, f3, f4, f5⟩ := f
      simp only at c0_ c1_ c2_ c3_ c4_ c5_ d0_ d1_ d2_ d3_ d4_ d5_
      have x0 : (0 : Int) ≤ (k : Int) := by omega
      have x1 : (k : Int) < (l.length : Int) := by omega
      go_wp2
      go_quiet (fail)
      go_wp2
      go_roundw
      case rel => exact ⟨k + 1, by omega, by go_num, below_drewN _ hbw⟩
      case measure => simp [intOf] <;> omega
    · go_wp2
      go_ret
      exact ⟨rfl, hbw⟩
theorem same39_none (a a2 : Option Addr) (c c2 : Nat) (w : World) :
    Calls Try.prog 35 #[.slice a 0 c, .slice a2 0 c2] w fun e w' => e = .returned (.bool true) ∧ Below w.heap.size w w' := by
  go_enter Try.func35, Try.ntmps35
  go_wp2
  refine wp_loop_rounds 1 ?_
  rw [rounds_succ]
  go_wp2
  go_ret
  exact ⟨rfl, Below.refl _ _⟩
theorem same39 {w : World} {v1 v2 : Value} {l : List Rec} (hn : l.length ≤ 100000) (h1 : SRc w v1 l) (h2 : SRc w v2 l) :
    Calls Try.prog 35 #[v1, v2] w fun e w' => e = .returned (.bool true) ∧ Below w.heap.size w w' := by
  obtain ⟨a, c, rfl, h1⟩ := h1
  obtain ⟨a2, c2, rfl, h2⟩ := h2
  by_cases h0 : 0 < l.length
  · obtain ⟨b, off, rfl, hb, hc⟩ := h1 h0
    obtain ⟨b2, off2, rfl, hb2, hc2⟩ := h2 h0
    exact same39_at b off c b2 off2 c2 l hn w hb hb2 hc hc2
  · have hl : l = [] := List.length_eq_zero_iff.1 (by omega)
    subst hl
    exact same39_none a a2 c c2 w
end Go.Proofs.Ytapjebhdgcpdjaa
