/-
  The document's answer for layer 16 (pacemakerref16): ranks in memory; why flows may not be; New, Sent. No condition but that New made them.
-/
import Derived.Test.YtnnbkooikimedaaRankT
import Derived.Maps.AppendAt
namespace Go.Proofs.Ytnnbkooikimedaa
set_option linter.unusedVariables false
set_option linter.unusedSimpArgs false
open Go.ChangeShapes Go.WideShapes Go.ChangeAt Go.RowKit
attribute [local go_sem] alloc_drewN setCell_drewN

def FlowsP (fs : List Fl) (code : Int) : Prop := (distF fs fs.length ∧ code = 0) ∨ (¬ distF fs fs.length ∧ code = 30)
set_option maxHeartbeats 2000000 in
theorem flows16 {w : World} {a : Option Addr} {n : Nat} {fs : List Fl} (hr : RowFl w a n fs) (c : Nat) (hn0 : 1 ≤ n) (hn1 : n ≤ 64) :
    Calls Try.prog 125 #[.slice a n c] w fun e w' => ∃ code, e = .returned (.int .i64 code) ∧ FlowsP fs code ∧ Below w.heap.size w w' := by
  have HR := Lib.hid hr
  have HL := Lib.hid hr.1
  have q1 : ¬ (n : Int) < 1 := by omega
  have q2 : ¬ 64 < (n : Int) := by omega
  clear hr
  go_enter Try.func125, Try.ntmps125
  go_wp2
  go_loopw [3] (fun z wr => ∃ (i q : Nat), i ≤ n ∧ z = .int .i64 i ∧ distF fs i ∧ wr = w.drewN q) (fun z _ => n - (intOf z).toNat)
  case atStart => exact ⟨0, 0, Nat.zero_le _, rfl, fun a b _ h => absurd h (Nat.not_lt_zero _), rfl⟩
  case round =>
    obtain ⟨i, q, hi, rfl, hd, rfl⟩ := hrel
    have HD := Lib.hid hd
    clear hd
    by_cases hlt : i < n
    · have z0 : (0 : Int) ≤ i := by omega
      have z1 : (i : Int) < n := by omega
      go_wp2
      go_loopw [4] (fun z wr => ∃ (k q : Nat), k ≤ i ∧ z = .int .i64 k ∧ Hid (∀ j, j < k → ¬ (fs.getD j Fl.nil).id = (fs.getD i Fl.nil).id) ∧ wr = w.drewN q) (fun z _ => i - (intOf z).toNat)
      case atStart => exact ⟨0, q, Nat.zero_le _, rfl, Lib.hid (fun j h => absurd h (Nat.not_lt_zero _)), rfl⟩
      case round =>
        obtain ⟨k, q2, hk, rfl, HN, rfl⟩ := hrel
        by_cases hlt2 : k < i
        · have y0 : (0 : Int) ≤ k := by omega
          have y1 : (k : Int) < n := by omega
          obtain ⟨b, off, rfl, hblt, c0, -, -, -, -⟩ := HR.out.atR (Below.refl _ w) i hlt
          obtain ⟨b2, off2, e2, hblt2, d0, -, -, -, -⟩ := HR.out.atR (Below.refl _ w) k (by omega)
          obtain ⟨rfl, rfl⟩ : b = b2 ∧ off = off2 := by injection e2 with e2; injection e2 with e3 e4 e5; exact ⟨e3, e4⟩
          clear e2
          by_cases e : (fs.getD k Fl.nil).id = (fs.getD i Fl.nil).id
          · have ND := Lib.hid (show ¬ distF fs fs.length from fun hd => hd k i hlt2 (by rw [HL.out]; exact hlt) e)
            rw [e] at d0
            generalize (fs.getD i Fl.nil).id = y at c0 d0
            clear e HN
            go_wp2
            go_quiet (fail)
            go_wp2
            go_ret
            exact ⟨_, rfl, Or.inr ⟨ND.out, rfl⟩, below_drewN _ (below_drewN _ (Below.refl _ w))⟩
          · have HN2 := Lib.hid (show ∀ j, j < k + 1 → ¬ (fs.getD j Fl.nil).id = (fs.getD i Fl.nil).id from fun j hj => by
              by_cases e3 : j = k
              · rw [e3]; exact e
              · exact HN.out j (by omega))
            have e4 : ¬ (fs.getD i Fl.nil).id = (fs.getD k Fl.nil).id := fun h => e h.symm
            obtain ⟨x, hx⟩ : ∃ x, (fs.getD i Fl.nil).id = x := ⟨_, rfl⟩
            obtain ⟨y, hy⟩ : ∃ y, (fs.getD k Fl.nil).id = y := ⟨_, rfl⟩
            rw [hx] at c0 e4
            rw [hy] at d0 e4
            clear hx hy e HN
            go_wp2
            go_quiet (fail)
            go_wp2
            go_roundw
            case rel => exact ⟨k + 1, _, by omega, by go_num, HN2, rfl⟩
            case measure => simp [intOf] <;> omega
        · obtain rfl : k = i := by omega
          have DM := Lib.hid (distF_more HD.out HN.out)
          clear HN
          go_wp2
          go_roundw
          case rel => exact ⟨k + 1, q2, by omega, by go_num, DM.out, rfl⟩
          case measure => simp [intOf] <;> omega
    · obtain rfl : i = n := by omega
      go_wp2
      go_ret
      exact ⟨_, rfl, Or.inl ⟨by rw [HL.out]; exact HD.out, rfl⟩, below_drewN _ (Below.refl _ w)⟩
theorem check16_kind (kind : Int) (hk : kind < 1 ∨ 3 < kind) (s : Value) (w : World) : Calls Try.prog 56 #[.int .i64 kind, s] w fun e w' => e = .returned (.int .i64 22) ∧ w' = w := by
  rcases hk with hk | hk
  · go_enter Try.func56, Try.ntmps56
    go_wp2
    go_ret
    exact ⟨rfl, rfl⟩
  · have : ¬ kind < 1 := by omega
    go_enter Try.func56, Try.ntmps56
    go_wp2
    go_ret
    exact ⟨rfl, rfl⟩
theorem flows16_count (a : Option Addr) (n c : Nat) (hn : n < 1 ∨ 64 < n) (w : World) : Calls Try.prog 125 #[.slice a n c] w fun e w' => e = .returned (.int .i64 29) ∧ w' = w := by
  rcases hn with hn | hn
  · have q3 : (n : Int) < 1 := by omega
    go_enter Try.func125, Try.ntmps125
    go_wp2
    go_ret
    exact ⟨rfl, rfl⟩
  · have q3 : ¬ (n : Int) < 1 := by omega
    have q4 : 64 < (n : Int) := by omega
    go_enter Try.func125, Try.ntmps125
    go_wp2
    go_ret
    exact ⟨rfl, rfl⟩
theorem check16_any (kind : Int) (hk0 : 1 ≤ kind) (hk1 : kind ≤ 3) (s : Value) (w : World) (R : Int → World → Prop) (FL : Calls Try.prog 125 #[s] w fun e w' => ∃ code, e = .returned (.int .i64 code) ∧ R code w') :
    Calls Try.prog 56 #[.int .i64 kind, s] w fun e w' => ∃ code, e = .returned (.int .i64 code) ∧ R code w' := by
  have q1 : ¬ kind < 1 := by omega
  have q2 : ¬ 3 < kind := by omega
  have FH := Lib.hid FL
  clear FL
  go_enter Try.func56, Try.ntmps56
  go_wp2_with fail
  refine FH.out.mono ?_
  rintro e w' ⟨code, rfl, hR⟩
  have HR := Lib.hid hR
  clear hR
  go_wp2
  go_ret
  exact ⟨_, rfl, HR.out⟩
/-- The answer's ranks. -/
structure R16At (w : World) (base R : Nat) (kind virt : Int) (sv vt : Value) (ts : List Int) : Prop where
  blk : w.heap[R]? = some (.cells #[.int .i64 kind, sv, vt, .int .u64 virt] 122 (0, 0))
  low : base ≤ R
  ot : w.ownsRow base 22 1 vt ts.length (ts.map (Value.int .u64))
def inR6 (R : Nat) (vt : Value) (j : Nat) : Prop := j = R ∨ vt.ownBlock = some j
section
variable {w : World} {base R : Nat} {kind virt : Int} {sv vt : Value} {ts : List Int}
theorem R16At.cell (h : R16At w base R kind virt sv vt ts) : w.cell? ⟨R, 0, none⟩ = some (.int .i64 kind) ∧ w.cell? ⟨R, 1, none⟩ = some sv ∧ w.cell? ⟨R, 2, none⟩ = some vt ∧ w.cell? ⟨R, 3, none⟩ = some (.int .u64 virt) ∧ w.frozen? ⟨R, 2, none⟩ = false ∧ w.frozen? ⟨R, 3, none⟩ = false :=
  ⟨cell_of_row w R 0 _ _ (0, 0) h.blk, cell_of_row w R 1 _ _ (0, 0) h.blk, cell_of_row w R 2 _ _ (0, 0) h.blk, cell_of_row w R 3 _ _ (0, 0) h.blk, frozen_of_row w R 2 _ _ h.blk, frozen_of_row w R 3 _ _ h.blk⟩
theorem R16At.inlt (h : R16At w base R kind virt sv vt ts) {j : Nat} (hj : inR6 R vt j) : base ≤ j ∧ j < w.heap.size := by
  rcases hj with rfl | hj
  · exact ⟨h.low, (Array.getElem?_eq_some_iff.1 h.blk).1⟩
  · exact World.ownsRow.lt h.ot j hj
theorem R16At.keep {w' : World} (h : R16At w base R kind virt sv vt ts) (hk : ∀ j, inR6 R vt j → w'.heap[j]? = w.heap[j]?) : R16At w' base R kind virt sv vt ts :=
  ⟨(hk R (Or.inl rfl)).trans h.blk, h.low, own_keep h.ot (fun j hj => hk j (Or.inr hj))⟩
theorem R16At.below {w' : World} (h : R16At w base R kind virt sv vt ts) (hb : Below w.heap.size w w') : R16At w' base R kind virt sv vt ts := h.keep (fun j hj => hb.block j (h.inlt hj).2)
theorem R16At.ne (h : R16At w base R kind virt sv vt ts) : vt.ownBlock ≠ some R := own_ne_blk h.ot h.blk (by decide)
theorem R16At.setV (h : R16At w base R kind virt sv vt ts) (t : Int) : R16At (w.setCell ⟨R, 3, none⟩ (.int .u64 t)) base R kind t sv vt ts ∧ MvS w (w.setCell ⟨R, 3, none⟩ (.int .u64 t)) (inR6 R vt) (inR6 R vt) := by
  have hh : ∀ j, j ≠ R → (w.setCell ⟨R, 3, none⟩ (.int .u64 t)).heap[j]? = w.heap[j]? := fun j hj => Below.heap_setCell w ⟨R, 3, none⟩ _ j hj
  exact ⟨⟨by simpa using heap_set h.blk 3 (.int .u64 t), h.low, own_keep h.ot (fun j hj => hh j (fun e => h.ne (e ▸ hj)))⟩, ⟨rfl, rfl, rfl, by simp [World.setCell], fun j _ hS => hh j (fun e => hS (Or.inl e)), fun j hj => Or.inr hj⟩⟩
/-- Another row of tags, that lies behind. -/
theorem R16At.swap (h : R16At w base R kind virt sv vt ts) (hbase : base ≤ w.heap.size) (w1 : World) (hb1 : Below w.heap.size w w1) (w3 : World) (hg : w1.grownBy w3 none) (v' : Value) (ts' : List Int) (w4 : World) (ho : w4.ownsRow w.heap.size 22 1 v' ts'.length (ts'.map (Value.int .u64))) (h4 : Below w.heap.size w3 w4) :
    R16At (w4.setCell ⟨R, 2, none⟩ v') base R kind virt sv v' ts' ∧ MvS w (w4.setCell ⟨R, 2, none⟩ v') (inR6 R vt) (inR6 R v') := by
  have hR := h.inlt (Or.inl rfl)
  have hb4 : Below w.heap.size w w4 := (hb1.trans ((Below.refl _ w1).grown hg (Nat.le_refl _) (by simp) |>.mono hb1.size)).trans h4
  have hb : w4.heap[R]? = some (.cells #[.int .i64 kind, sv, vt, .int .u64 virt] 122 (0, 0)) := (hb4.block R hR.2).trans h.blk
  have hh : ∀ j, j ≠ R → (w4.setCell ⟨R, 2, none⟩ v').heap[j]? = w4.heap[j]? := fun j hj => Below.heap_setCell w4 ⟨R, 2, none⟩ v' j hj
  have hlo : ∀ j, v'.ownBlock = some j → w.heap.size ≤ j := fun j hj => (World.ownsRow.lt ho j hj).1
  refine ⟨⟨by simpa using heap_set hb 2 v', h.low, ?_⟩, ⟨hb4.os, hb4.tape, hb4.output, by simpa [World.setCell] using hb4.size, fun j hj hS => (hh j (fun e => hS (Or.inl e))).trans (hb4.block j hj), fun j hj => ?_⟩⟩
  · have h5 := own_keep (w' := w4.setCell ⟨R, 2, none⟩ v') ho (fun j hj => hh j (fun e => by have := hlo j hj; omega))
    refine ⟨h5.1, ?_⟩
    rcases h5.2 with hx | ⟨g, cap, cur, e, hg2, rest⟩
    · exact Or.inl hx
    · exact Or.inr ⟨g, cap, cur, e, Nat.le_trans hbase hg2, rest⟩
  · rcases hj with hj | hj
    · exact Or.inr (Or.inl hj)
    · exact Or.inl (hlo j hj)
theorem R16At.grown (h : R16At w base R kind virt sv vt ts) (x : Int) (w1 w3 : World) (v' : Value) (hb1 : Below w.heap.size w w1)
    (ho : w3.ownsRow base 22 1 v' (ts.length + 1) (ts.map (Value.int .u64) ++ [.int .u64 x])) (hg : w1.grownBy w3 vt.ownBlock) (hbase : base ≤ w.heap.size) :
    R16At (w3.setCell ⟨R, 2, none⟩ v') base R kind virt sv v' (ts ++ [x]) ∧ Below base w (w3.setCell ⟨R, 2, none⟩ v') := by
  have hR := h.inlt (Or.inl rfl)
  have hb : w3.heap[R]? = some (.cells #[.int .i64 kind, sv, vt, .int .u64 virt] 122 (0, 0)) := (hg.block R (Nat.lt_of_lt_of_le hR.2 hb1.size) (fun e => h.ne e.symm)).trans ((hb1.block R hR.2).trans h.blk)
  have hne : v'.ownBlock ≠ some R := own_ne_blk ho hb (by decide)
  have hh : ∀ j, j ≠ R → (w3.setCell ⟨R, 2, none⟩ v').heap[j]? = w3.heap[j]? := fun j hj => Below.heap_setCell w3 ⟨R, 2, none⟩ v' j hj
  refine ⟨⟨by simpa using heap_set hb 2 v', h.low, ?_⟩, ?_⟩
  · rw [List.length_append, List.map_append]
    exact own_keep ho (fun j hj => hh j (fun e => hne (e ▸ hj)))
  · refine ⟨hg.os.trans hb1.os, hg.tape.trans hb1.tape, hg.output.trans hb1.output, ?_, fun j hj => ?_⟩
    · simpa [World.setCell] using Nat.le_trans hb1.size hg.size
    · refine (hh j (fun e => by have := hR.1; omega)).trans ((hg.block j (Nat.lt_of_lt_of_le (by omega) hb1.size) (fun e => ?_)).trans (hb1.block j (by omega)))
      have := (h.inlt (Or.inr e.symm)).1
      omega
theorem sent16 (h : R16At w base R kind virt sv vt ts) (v : Int) : Calls Try.prog 59 #[.pointer (some ⟨R, 0, none⟩), .int .u64 v] w fun e w' => e = .returned (.tuple #[]) ∧ R16At w' base R kind (if kind = 1 then v else virt) sv vt ts ∧ MvS w w' (inR6 R vt) (inR6 R vt) := by
  have SV := Lib.hid (h.setV v)
  obtain ⟨c0, c1, c2, c3, f2, f3⟩ := h.cell
  have HH := Lib.hid h
  clear h
  by_cases hk : kind = 1
  · rw [if_pos hk]
    subst hk
    go_enter Try.func59, Try.ntmps59
    go_wp2
    first | go_end0 | refine bodyPost_ret (results_none rfl _ _ _) rfl ?_
    exact ⟨rfl, SV.out.1, SV.out.2⟩
  · rw [if_neg hk]
    go_enter Try.func59, Try.ntmps59
    go_wp2
    first | go_end0 | refine bodyPost_ret (results_none rfl _ _ _) rfl ?_
    exact ⟨rfl, HH.out, MvS.refl _ _⟩
end
end Go.Proofs.Ytnnbkooikimedaa
