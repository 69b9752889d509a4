/-
  That the same operations are told the same, by the document's answer for layer 25; its example. What lay below the heap's end stands.
-/
import Derived.Test.YtdlcipbehalfhaaOps7
namespace Go.Proofs.Ytdlcipbehalfhaa
set_option linter.unusedVariables false
set_option linter.unusedSimpArgs false
open Go.ChangeShapes Go.WideShapes Go.ChangeAt Go.RowKit
attribute [-go_sem] run_index_string binOp_string_eql binOp_string_neq run_string_add_if run_slice_string_from_if run_slice_string_to_if
attribute [local go_sem] index_bt add_fits slice_from slice_to eql_str neq_str alloc_drewN setCell_drewN

/-- The cells of a row of operations. -/
def OCells (w : World) (b off : Nat) (l : List Opn) : Prop := ∀ i, i < l.length → w.cell? ⟨b, off + i * 5, none⟩ = some (.int .i64 (l.getD i Opn.nil).k) ∧ w.cell? ⟨b, off + i * 5 + 1, none⟩ = some (.int .u32 (l.getD i Opn.nil).fl) ∧ w.cell? ⟨b, off + i * 5 + 2, none⟩ = some (.int .u32 (l.getD i Opn.nil).nr) ∧ w.cell? ⟨b, off + i * 5 + 3, none⟩ = some (.int .u64 (l.getD i Opn.nil).ln) ∧ w.cell? ⟨b, off + i * 5 + 4, none⟩ = some (.int .u64 (l.getD i Opn.nil).ti)
/-- A slice that reads as these operations. -/
def SRow (w : World) (v : Value) (l : List Opn) : Prop := ∃ a c, v = .slice a l.length c ∧ (0 < l.length → ∃ b off, a = some ⟨b, off, none⟩ ∧ b < w.heap.size ∧ OCells w b off l)
theorem flat_get5 (l : List Opn) : ∀ i, i < l.length → (l.flatMap Opn.cells)[i * 5]? = some (.int .i64 (l.getD i Opn.nil).k) ∧ (l.flatMap Opn.cells)[i * 5 + 1]? = some (.int .u32 (l.getD i Opn.nil).fl) ∧ (l.flatMap Opn.cells)[i * 5 + 2]? = some (.int .u32 (l.getD i Opn.nil).nr) ∧ (l.flatMap Opn.cells)[i * 5 + 3]? = some (.int .u64 (l.getD i Opn.nil).ln) ∧ (l.flatMap Opn.cells)[i * 5 + 4]? = some (.int .u64 (l.getD i Opn.nil).ti) := by
  induction l with
  | nil => intro i h; simp at h
  | cons f l ih =>
    intro i hi
    rw [List.flatMap_cons]
    cases i with
    | zero => exact ⟨rfl, rfl, rfl, rfl, rfl⟩
    | succ i =>
      have := ih i (by simpa using hi)
      have e : ∀ o, (Opn.cells f ++ l.flatMap Opn.cells)[(i + 1) * 5 + o]? = (l.flatMap Opn.cells)[i * 5 + o]? := fun o => by
        rw [List.getElem?_append_right (by show 5 ≤ _; omega)]
        congr 1
        show (i + 1) * 5 + o - 5 = _
        omega
      have e0 := e 0
      rw [Nat.add_zero, Nat.add_zero] at e0
      rw [e0, e 1, e 2, e 3, e 4]
      simpa using this
theorem own_ops {w : World} {base : Nat} {t : TypeId} {v : Value} {l : List Opn} (h : w.ownsRow base t 5 v l.length (l.flatMap Opn.cells)) :
    (v = .slice none 0 0 ∧ l = []) ∨ ∃ g cap, v = .slice (some ⟨g, 0, none⟩) l.length cap ∧ g < w.heap.size ∧ l.length ≤ cap ∧ OCells w g 0 l := by
  have h' := h
  rcases h'.2 with ⟨rfl, h0⟩ | ⟨g, cap, cur, rfl, hb, _, hc, _⟩
  · exact Or.inl ⟨rfl, List.length_eq_zero_iff.1 h0⟩
  · refine Or.inr ⟨g, cap, rfl, (World.ownsRow.lt h g rfl).2, hc, fun i hi => ?_⟩
    obtain ⟨h0, h1, h2, h3, h4⟩ := flat_get5 l i hi
    have e : ∀ o, (⟨g, 0, none⟩ : Addr).add o = ⟨g, 0 + o, none⟩ := fun o => Go.WideShapes.add_plain _ _ _
    have c0 := h.cells (g := g) rfl _ _ h0
    have c1 := h.cells (g := g) rfl _ _ h1
    have c2 := h.cells (g := g) rfl _ _ h2
    have c3 := h.cells (g := g) rfl _ _ h3
    have c4 := h.cells (g := g) rfl _ _ h4
    rw [e] at c0 c1 c2 c3 c4
    exact ⟨c0, c1, c2, c3, c4⟩
theorem SRow.of_own {w : World} {base : Nat} {t : TypeId} {v : Value} {l : List Opn} (h : w.ownsRow base t 5 v l.length (l.flatMap Opn.cells)) : SRow w v l := by
  rcases own_ops h with ⟨rfl, rfl⟩ | ⟨g, cap, rfl, hg, _, hc⟩
  · exact ⟨none, 0, rfl, fun h => absurd h (by decide)⟩
  · exact ⟨_, cap, rfl, fun _ => ⟨g, 0, rfl, hg, hc⟩⟩
theorem SRow.later {W v : World} {x : Value} {l : List Opn} (h : SRow W x l) (hb : Below W.heap.size W v) : SRow v x l := by
  obtain ⟨a, c, rfl, h⟩ := h
  refine ⟨a, c, rfl, fun h0 => ?_⟩
  obtain ⟨b, off, rfl, hg, hc⟩ := h h0
  refine ⟨b, off, rfl, Nat.lt_of_lt_of_le hg hb.size, fun i hi => ?_⟩
  obtain ⟨c0, c1, c2, c3, c4⟩ := hc i hi
  exact ⟨(hb.cell (p := ⟨b, off + i * 5, none⟩) hg).trans c0, (hb.cell (p := ⟨b, off + i * 5 + 1, none⟩) hg).trans c1, (hb.cell (p := ⟨b, off + i * 5 + 2, none⟩) hg).trans c2, (hb.cell (p := ⟨b, off + i * 5 + 3, none⟩) hg).trans c3, (hb.cell (p := ⟨b, off + i * 5 + 4, none⟩) hg).trans c4⟩
theorem SRow.of_row {w : World} {a : Option Addr} {n c : Nat} {l : List Opn} (h : RowOp w a n l) : SRow w (.slice a n c) l := by
  obtain ⟨rfl, _, _, hc⟩ := h
  exact ⟨a, c, rfl, hc⟩
set_option maxRecDepth 100000 in
set_option maxHeartbeats 1000000 in
theorem same25_at (b off c b2 off2 c2 : Nat) (l : List Opn) (hn : l.length ≤ 100000) (w : World) (hb : b < w.heap.size) (hb2 : b2 < w.heap.size) (hc : OCells w b off l) (hc2 : OCells w b2 off2 l) :
    Calls Try.prog 16 #[.slice (some ⟨b, off, none⟩) l.length c, .slice (some ⟨b2, off2, none⟩) l.length c2] w fun e w' => e = .returned (.bool true) ∧ Below w.heap.size w w' := by
  have HC := Lib.hid hc; have HC2 := Lib.hid hc2
  clear hc hc2
  have hm : Try.prog.eqGuardType Try.prog.depth 30 = false := by kernel_rfl
  go_enter Try.func16, Try.ntmps16
  go_wp2
  go_loopw [5] (fun x wr => ∃ k : Nat, k ≤ l.length ∧ x = .int .i64 k ∧ Below w.heap.size w wr) (fun x _ => l.length - (intOf x).toNat)
  case atStart => exact ⟨0, Nat.zero_le _, rfl, Below.refl _ _⟩
  case round =>
    obtain ⟨k, hk, rfl, hbw⟩ := hrel
    by_cases hlt : k < l.length
    · obtain ⟨c0, c1, c2_, c3, c4⟩ := HC.out k hlt
      obtain ⟨d0, d1, d2, d3, d4⟩ := HC2.out k hlt
      have c0 := (hbw.cell (p := ⟨b, off + k * 5, none⟩) hb).trans c0
      have c1 := (hbw.cell (p := ⟨b, off + k * 5 + 1, none⟩) hb).trans c1
      have c2_ := (hbw.cell (p := ⟨b, off + k * 5 + 2, none⟩) hb).trans c2_
      have c3 := (hbw.cell (p := ⟨b, off + k * 5 + 3, none⟩) hb).trans c3
      have c4 := (hbw.cell (p := ⟨b, off + k * 5 + 4, none⟩) hb).trans c4
      have d0 := (hbw.cell (p := ⟨b2, off2 + k * 5, none⟩) hb2).trans d0
      have d1 := (hbw.cell (p := ⟨b2, off2 + k * 5 + 1, none⟩) hb2).trans d1
      have d2 := (hbw.cell (p := ⟨b2, off2 + k * 5 + 2, none⟩) hb2).trans d2
      have d3 := (hbw.cell (p := ⟨b2, off2 + k * 5 + 3, none⟩) hb2).trans d3
      have d4 := (hbw.cell (p := ⟨b2, off2 + k * 5 + 4, none⟩) hb2).trans d4
      generalize l.getD k Opn.nil = f at *
      obtain ⟨f0, f1, f2, f3, f4⟩ := f
      simp only at c0 c1 c2_ c3 c4 d0 d1 d2 d3 d4
      have x0 : (0 : Int) ≤ (k : Int) := by omega
      have x1 : (k : Int) < (l.length : Int) := by omega
      go_wp2
      go_quiet (fail)
      go_wp2
      go_roundw
      case rel => exact ⟨k + 1, by omega, by go_num, below_drewN _ hbw⟩
      case measure => simp [intOf] <;> omega
    · go_wp2
      go_ret
      exact ⟨rfl, hbw⟩
theorem same25_none (a a2 : Option Addr) (c c2 : Nat) (w : World) :
    Calls Try.prog 16 #[.slice a 0 c, .slice a2 0 c2] w fun e w' => e = .returned (.bool true) ∧ Below w.heap.size w w' := by
  go_enter Try.func16, Try.ntmps16
  go_wp2
  refine wp_loop_rounds 1 ?_
  rw [rounds_succ]
  go_wp2
  go_ret
  exact ⟨rfl, Below.refl _ _⟩
theorem same25 {w : World} {v1 v2 : Value} {l : List Opn} (hn : l.length ≤ 100000) (h1 : SRow w v1 l) (h2 : SRow w v2 l) :
    Calls Try.prog 16 #[v1, v2] w fun e w' => e = .returned (.bool true) ∧ Below w.heap.size w w' := by
  obtain ⟨a, c, rfl, h1⟩ := h1
  obtain ⟨a2, c2, rfl, h2⟩ := h2
  by_cases h0 : 0 < l.length
  · obtain ⟨b, off, rfl, hb, hc⟩ := h1 h0
    obtain ⟨b2, off2, rfl, hb2, hc2⟩ := h2 h0
    exact same25_at b off c b2 off2 c2 l hn w hb hb2 hc hc2
  · have : l.length = 0 := by omega
    rw [this]
    exact same25_none _ _ _ _ _
def live25 : List Opn := [⟨2, 0, 0, 0, 0⟩, ⟨0, 0, 0, 9, 0⟩, ⟨3, 0, 0, 0, 5⟩, ⟨5, 0, 0, 0, 0⟩]
theorem live25_is : oread ⟨#[2, 9, 3, 5, 1]⟩ = live25 := by decide +kernel
set_option maxRecDepth 100000 in
set_option maxHeartbeats 1000000 in
theorem lives25 (w : World) : Calls Try.prog 15 #[] w fun e w' => e = .returned (.bool true) ∧ Below w.heap.size w w' := by
  have RD := Lib.hid (fun W => ops_read ⟨#[2, 9, 3, 5, 1]⟩ (by decide) W)
  rw [live25_is] at RD
  go_enter Try.func15, Try.ntmps15
  go_wp2_with fail
  refine (RD.out _).mono ?_
  rintro e w1 ⟨v1, rfl, ho1, h1⟩
  have HS := Lib.hid (SRow.of_own ho1)
  have HB := Lib.hid h1
  clear ho1 h1
  go_wp2_with fail
  have HS2 : SRow (w1.alloc (.cells #[.int .i64 2, .int .u32 0, .int .u32 0, .int .u64 0, .int .u64 0, .int .i64 0, .int .u32 0, .int .u32 0, .int .u64 9, .int .u64 0, .int .i64 3, .int .u32 0, .int .u32 0, .int .u64 0, .int .u64 5, .int .i64 5, .int .u32 0, .int .u32 0, .int .u64 0, .int .u64 0] 30)) (.slice (some ⟨w1.heap.size, 0, none⟩) 4 4) live25 :=
    SRow.of_own (World.ownsRow_lit (e := 30) (size := 5) (base := 0) w1 _ 4 (Nat.zero_le _) (by unfold maxLen; decide) rfl)
  refine (same25 (by decide) (HS.out.later ((Below.refl _ _).alloc (Nat.le_refl _) _)) HS2).mono ?_
  rintro e w3 ⟨rfl, h3⟩
  go_wp2
  go_ret
  exact ⟨rfl, HB.out.trans (((Below.refl _ _).alloc (Nat.le_refl _) _ |>.trans (h3.mono (by simp))).mono HB.out.size)⟩
set_option maxRecDepth 100000 in
set_option maxHeartbeats 1000000 in
theorem walk_opsReads (s : ByteArray) (hs : s.size ≤ maxLen) (w : World) :
    Calls Try.prog 3 #[.string s] w fun e w' => e = .returned (.bool true) ∧ Below w.heap.size w w' := by
  have LV := Lib.hid (fun W => lives25 W)
  unfold maxLen at hs
  by_cases h5 : 5000 < s.size
  · have g : decide ((5000 : Int) < (s.size : Int)) = true := decide_eq_true (by omega)
    clear h5
    go_enter Try.func3, Try.ntmps3
    go_wp2_with fail
    refine (LV.out _).mono ?_
    rintro e w5 ⟨rfl, h5⟩
    go_wp2
    go_ret
    exact ⟨rfl, h5⟩
  · have g : decide ((5000 : Int) < (s.size : Int)) = false := decide_eq_false (by omega)
    have RD := Lib.hid (fun W => ops_read s (by omega) W)
    have RR := Lib.hid (fun W => rops_read s (by omega) W)
    have hl := oread_len s
    have hl2 : (oread s).length ≤ 100000 := by omega
    unfold RdEnd at RR
    clear h5 hl
    generalize oread s = L at *
    have SM := Lib.hid (fun (W : World) (v1 v2 : Value) h1 h2 => same25 (w := W) (v1 := v1) (v2 := v2) hl2 h1 h2)
    clear hl2
    go_enter Try.func3, Try.ntmps3
    go_wp2_with fail
    refine (RD.out _).mono ?_
    rintro e w1 ⟨v1, rfl, ho1, h1⟩
    have HS1 := Lib.hid (SRow.of_own ho1)
    have HB1 := Lib.hid h1
    clear ho1 h1
    go_wp2_with fail
    refine (RR.out _).mono ?_
    rintro e w2 ⟨v2, rfl, ho2, h2⟩
    have HS2 := Lib.hid (SRow.of_own ho2)
    have HS3 := Lib.hid (HS1.out.later h2)
    have HB2 := Lib.hid (Below.go HB1.out h2)
    clear ho2 h2
    go_wp2_with fail
    refine (SM.out _ _ _ HS3.out HS2.out).mono ?_
    rintro e w3 ⟨rfl, h3⟩
    have HB3 := Lib.hid (Below.go HB2.out h3)
    clear h3
    go_wp2_with fail
    refine (LV.out _).mono ?_
    rintro e w5 ⟨rfl, h5⟩
    go_wp2
    go_ret
    exact ⟨rfl, Below.go HB3.out h5⟩
end Go.Proofs.Ytdlcipbehalfhaa
