/-
  The answer of layer 12: how queues with bounds over lists stand in memory; how many items they have, which list is the first that is not empty, what is first there. No block turns. No condition but that the answer's New made them.
-/
import Derived.Test.YtkgiaijcgblpbaaRef9
import Derived.Test.YtkgiaijcgblpbaaSpB
namespace Go.Proofs.Ytkgiaijcgblpbaa
set_option linter.unusedVariables false
set_option linter.unusedSimpArgs false
open Go.ChangeShapes Go.WideShapes Go.ChangeAt Go.RowKit
attribute [local go_sem] alloc_drewN setCell_drewN

def sl12 (ls : List (List (Int × Int))) : Nat := (ls.map List.length).sum
theorem sl12_take (ls : List (List (Int × Int))) (i : Nat) (h : i < ls.length) : sl12 (ls.take (i + 1)) = sl12 (ls.take i) + (ls.getD i []).length := by
  unfold sl12
  rw [List.take_succ_eq_append_getElem h, List.map_append, List.sum_append, List.getD_eq_getElem?_getD, List.getElem?_eq_getElem h]
  simp
theorem sl12_mono (ls : List (List (Int × Int))) : ∀ i, i ≤ ls.length → sl12 (ls.take i) ≤ sl12 ls := fun i _ => by
  have e : sl12 ls = sl12 (ls.take i) + sl12 (ls.drop i) := by
    unfold sl12
    rw [← List.sum_append, ← List.map_append, List.take_append_drop]
  omega
theorem sl12_one (ls : List (List (Int × Int))) (i : Nat) (h : i < ls.length) : (ls.getD i []).length ≤ sl12 ls := by
  have h1 := sl12_take ls i h
  have h2 := sl12_mono ls (i + 1) h
  omega
/-- The blocks of such an answer. -/
def inR12 (M : Nat) (ub ul : Value) (vs : List Value) : Nat → Prop := fun j => j = M ∨ ub.ownBlock = some j ∨ ul.ownBlock = some j ∨ ∃ i, ∃ (h : i < vs.length), (vs[i]).ownBlock = some j
structure R12 (w : World) (base M : Nat) (room : Int) (ub ul : Value) (bs : List Int) (vs : List Value) (ls : List (List (Int × Int))) : Prop where
  blk : w.heap[M]? = some (.cells #[.int .i64 room, ub, ul] 150 (0, 0))
  low : base ≤ M
  ob : w.ownsRow base 48 1 ub bs.length (bs.map (Value.int .u64))
  ol : w.ownsRow base 58 1 ul vs.length vs
  each : ∀ i (h : i < vs.length), Its w base (vs[i]) (ls.getD i [])
  lv : vs.length = ls.length
  lb : bs.length = ls.length
  n0 : 1 ≤ ls.length
  n1 : ls.length ≤ 32
  sm : sl12 ls ≤ 4096
theorem R12.inlt {w : World} {base M : Nat} {room : Int} {ub ul : Value} {bs : List Int} {vs : List Value} {ls : List (List (Int × Int))} (h : R12 w base M room ub ul bs vs ls) {j : Nat} (hj : inR12 M ub ul vs j) : base ≤ j ∧ j < w.heap.size := by
  rcases hj with rfl | hj | hj | ⟨i, hi, hj⟩
  · exact ⟨h.low, (Array.getElem?_eq_some_iff.1 h.blk).1⟩
  · exact World.ownsRow.lt h.ob j hj
  · exact World.ownsRow.lt h.ol j hj
  · exact World.ownsRow.lt (h.each i hi) j hj
theorem R12.keep {w w' : World} {base M : Nat} {room : Int} {ub ul : Value} {bs : List Int} {vs : List Value} {ls : List (List (Int × Int))} (h : R12 w base M room ub ul bs vs ls) (hk : ∀ j, inR12 M ub ul vs j → w'.heap[j]? = w.heap[j]?) : R12 w' base M room ub ul bs vs ls :=
  ⟨(hk M (Or.inl rfl)).trans h.blk, h.low, own_onSI h.ob (fun j hj => hk j (Or.inr (Or.inl hj))), own_onSI h.ol (fun j hj => hk j (Or.inr (Or.inr (Or.inl hj)))),
    fun i hi => own_onSI (h.each i hi) (fun j hj => hk j (Or.inr (Or.inr (Or.inr ⟨i, hi, hj⟩)))), h.lv, h.lb, h.n0, h.n1, h.sm⟩
theorem R12.below {w w' : World} {base M : Nat} {room : Int} {ub ul : Value} {bs : List Int} {vs : List Value} {ls : List (List (Int × Int))} (h : R12 w base M room ub ul bs vs ls) (hb : Below w.heap.size w w') : R12 w' base M room ub ul bs vs ls :=
  h.keep (fun j hj => hb.block j (h.inlt hj).2)
theorem R12.cell {w : World} {base M : Nat} {room : Int} {ub ul : Value} {bs : List Int} {vs : List Value} {ls : List (List (Int × Int))} (h : R12 w base M room ub ul bs vs ls) :
    w.cell? ⟨M, 0, none⟩ = some (.int .i64 room) ∧ w.cell? ⟨M, 1, none⟩ = some ub ∧ w.cell? ⟨M, 2, none⟩ = some ul :=
  ⟨cell_of_row w M 0 _ _ (0, 0) h.blk, cell_of_row w M 1 _ _ (0, 0) h.blk, cell_of_row w M 2 _ _ (0, 0) h.blk⟩
theorem R12.formB {w : World} {base M : Nat} {room : Int} {ub ul : Value} {bs : List Int} {vs : List Value} {ls : List (List (Int × Int))} (h : R12 w base M room ub ul bs vs ls) :
    ∃ g c, ub = .slice (some ⟨g, 0, none⟩) bs.length c ∧ ∀ i, i < bs.length → w.cell? ⟨g, i, none⟩ = some (.int .u64 (bs.getD i 0)) := by
  obtain ⟨g, c, rfl, _, _⟩ := h.ob.form (by have := h.n0; have := h.lb; omega)
  refine ⟨g, c, rfl, fun i hi => ?_⟩
  rw [World.ownsRow.cellAt h.ob i (by omega), List.getElem?_map, List.getElem?_eq_getElem hi, List.getD_eq_getElem?_getD, List.getElem?_eq_getElem hi]; rfl
theorem R12.formL {w : World} {base M : Nat} {room : Int} {ub ul : Value} {bs : List Int} {vs : List Value} {ls : List (List (Int × Int))} (h : R12 w base M room ub ul bs vs ls) :
    ∃ g c, ul = .slice (some ⟨g, 0, none⟩) ls.length c ∧ ∀ i (hi : i < ls.length), ∃ a n, n = (ls.getD i []).length ∧ ∃ c, w.cell? ⟨g, i, none⟩ = some (.slice a n c) ∧ Its w base (.slice a n c) (ls.getD i []) := by
  have hl := h.lv
  obtain ⟨g, c, rfl, _, _⟩ := h.ol.form (by have := h.n0; omega)
  refine ⟨g, c, by rw [hl], fun i hi => ?_⟩
  have hi' : i < vs.length := by omega
  obtain ⟨a, c2, hv, -, -⟩ := (h.each i hi').form
  refine ⟨a, _, rfl, c2, ?_, by rw [← hv]; exact h.each i hi'⟩
  rw [World.ownsRow.cellAt h.ol i (by omega), List.getElem?_eq_getElem hi', hv]
set_option maxHeartbeats 1000000 in
theorem len12 {w : World} {base M : Nat} {room : Int} {ub ul : Value} {bs : List Int} {vs : List Value} {ls : List (List (Int × Int))} (h : R12 w base M room ub ul bs vs ls) :
    Calls Try.prog 84 #[.pointer (some ⟨M, 0, none⟩)] w fun e w' => e = .returned (.int .i64 (sl12 ls)) ∧ w' = w := by
  obtain ⟨c0, c1, c2⟩ := h.cell
  obtain ⟨g, c, rfl, hq⟩ := h.formL
  have HQ := Lib.hid hq
  have TL := Lib.hid (sl12_mono ls)
  have hn1 := h.n1; have hsm := h.sm
  clear h hq c0 c1
  go_enter Try.func84, Try.ntmps84
  go_wp2
  go_loopw [3, 4] (fun y x wr => ∃ i : Nat, i ≤ ls.length ∧ x = .int .i64 i ∧ y = .int .i64 (sl12 (ls.take i)) ∧ w = wr) (fun _ x _ => ls.length - (intOf x).toNat)
  case atStart => exact ⟨0, Nat.zero_le _, rfl, rfl, rfl⟩
  case round =>
    obtain ⟨i, hi, rfl, rfl, rfl⟩ := hrel
    by_cases hlt : i < ls.length
    · obtain ⟨a, n, hn, cv, cq, -⟩ := HQ.out i hlt
      have i0 : (0 : Int) ≤ i := by omega
      have i1 : (i : Int) < ls.length := by omega
      have t2 := TL.out (i + 1) hlt
      have ST := Lib.hid (sl12_take ls i hlt)
      rw [ST.out, ← hn] at t2
      have HN := Lib.hid hn
      have a1 : IntKind.i64.wrap ((sl12 (ls.take i) : Nat) + (n : Nat) : Int) = ((sl12 (ls.take i) : Nat) + (n : Nat) : Int) := by rw [IntKind.wrap_i64]; omega
      clear hn
      go_wp2
      go_roundw
      case rel => exact ⟨i + 1, by omega, by go_num, by rw [ST.out, ← HN.out]; go_num, by first | trivial | rfl⟩
      case measure => simp [intOf] <;> omega
    · obtain rfl : i = ls.length := by omega
      go_wp2
      go_ret
      first | exact ⟨rfl, rfl⟩ | exact ⟨by simp, rfl⟩ | (refine ⟨?_, ?_⟩ <;> simp)
/-- The first list that is not empty; -1: there is none. -/
def First12 (ls : List (List (Int × Int))) (r : Int) : Prop := (r = -1 ∧ ∀ i, i < ls.length → ls.getD i [] = []) ∨ ∃ i : Nat, r = i ∧ i < ls.length ∧ ls.getD i [] ≠ [] ∧ ∀ j, j < i → ls.getD j [] = []
set_option maxHeartbeats 1000000 in
theorem first12 {w : World} {base M : Nat} {room : Int} {ub ul : Value} {bs : List Int} {vs : List Value} {ls : List (List (Int × Int))} (h : R12 w base M room ub ul bs vs ls) :
    Calls Try.prog 87 #[.pointer (some ⟨M, 0, none⟩)] w fun e w' => ∃ r, e = .returned (.int .i64 r) ∧ First12 ls r ∧ w = w' := by
  obtain ⟨c0, c1, c2⟩ := h.cell
  obtain ⟨g, c, rfl, hq⟩ := h.formL
  have HQ := Lib.hid hq
  have hn1 := h.n1
  clear h hq c0 c1
  go_enter Try.func87, Try.ntmps87
  go_wp2
  go_loopw [3] (fun x wr => ∃ i : Nat, i ≤ ls.length ∧ x = .int .i64 i ∧ (∀ j, j < i → ls.getD j [] = []) ∧ w = wr) (fun x _ => ls.length - (intOf x).toNat)
  case atStart => exact ⟨0, Nat.zero_le _, rfl, fun j h => absurd h (Nat.not_lt_zero _), rfl⟩
  case round =>
    obtain ⟨i, hi, rfl, hz, rfl⟩ := hrel
    by_cases hlt : i < ls.length
    · obtain ⟨a, n, hn, cv, cq, -⟩ := HQ.out i hlt
      have i0 : (0 : Int) ≤ i := by omega
      have i1 : (i : Int) < ls.length := by omega
      have Z := Lib.hid hz; have HN := Lib.hid hn
      clear hz hn
      by_cases hk : n = 0
      · subst hk
        go_wp2
        go_roundw
        case rel => exact ⟨i + 1, by omega, by go_num, fun j h => by
          rcases Nat.lt_or_ge j i with h1 | h1
          · exact Z.out j h1
          · obtain rfl : j = i := by omega
            exact List.eq_nil_of_length_eq_zero HN.out.symm, by first | trivial | rfl⟩
        case measure => simp [intOf] <;> omega
      · have hk' : (0 : Int) < (n : Int) := by omega
        have FIN : Hid (First12 ls i) := Lib.hid (Or.inr ⟨i, rfl, hlt, fun e => hk (by rw [HN.out, e]; rfl), Z.out⟩)
        clear hk
        go_wp2
        go_ret
        exact ⟨_, rfl, FIN.out, rfl⟩
    · obtain rfl : i = ls.length := by omega
      have Z := Lib.hid hz
      clear hz
      go_wp2
      go_ret
      exact ⟨_, rfl, Or.inl ⟨rfl, fun j hj => Z.out j hj⟩, rfl⟩
/-- What is first. -/
def Front12 (ls : List (List (Int × Int))) (y : Int × Int) : Prop := ∃ (i : Nat) (t : List (Int × Int)), i < ls.length ∧ ls.getD i [] = y :: t ∧ ∀ j, j < i → ls.getD j [] = []
set_option maxHeartbeats 1000000 in
theorem peek12 {w : World} {base M : Nat} {room : Int} {ub ul : Value} {bs : List Int} {vs : List Value} {ls : List (List (Int × Int))} (h : R12 w base M room ub ul bs vs ls) :
    Calls Try.prog 48 #[.pointer (some ⟨M, 0, none⟩)] w fun e w' =>
      ((∀ i, i < ls.length → ls.getD i [] = []) ∧ e = .returned (.tuple #[.int .u64 0, .int .i64 0, .bool false]) ∧ Below w.heap.size w w') ∨
      (∃ y, Front12 ls y ∧ e = .returned (.tuple #[.int .u64 y.1, .int .i64 y.2, .bool true]) ∧ Below w.heap.size w w') := by
  obtain ⟨c0, c1, c2⟩ := h.cell
  obtain ⟨g, c, rfl, hq⟩ := h.formL
  have FS := Lib.hid (first12 h)
  have hn1 := h.n1
  have HQ := Lib.hid hq
  clear h hq c0 c1
  go_enter Try.func48, Try.ntmps48
  go_wp2_with fail
  refine FS.out.mono ?_
  rintro e w' ⟨r, rfl, hr, rfl⟩
  rcases hr with ⟨rfl, hz⟩ | ⟨i, rfl, hlt, hne, hz⟩
  · have Z := Lib.hid hz
    clear hz
    go_wp2
    go_ret3
    exact Or.inl ⟨Z.out, rfl, Below.refl _ _⟩
  · obtain ⟨a, n, hn, cv, cq, hI⟩ := HQ.out i hlt
    have i0 : ¬ (i : Int) < 0 := by omega
    have i1 : (i : Int) < ls.length := by omega
    obtain ⟨y, t, hy⟩ : ∃ y t, ls.getD i [] = y :: t := by
      cases hc : ls.getD i [] with
      | nil => exact absurd hc hne
      | cons y t => exact ⟨y, t, rfl⟩
    rw [hy] at hI
    have F9 := Lib.hid (first9 _ _ y t w hI)
    have FIN : Hid (Front12 ls y) := Lib.hid ⟨i, t, hlt, hy, hz⟩
    clear hn hI hne hz hy
    go_wp2_with fail
    refine F9.out.mono ?_
    rintro e w2 ⟨rfl, hb⟩
    go_wp2
    go_ret3
    exact Or.inr ⟨y, FIN.out, rfl, hb⟩
theorem may12_yes (room n : Int) (r0 : 1 ≤ room) (r1 : room ≤ 4096) (n0 : 1 ≤ n) (n1 : n ≤ 32) (w : World) :
    Calls Try.prog 40 #[.int .i64 room, .int .i64 n] w fun e w' => e = .returned (.int .i64 0) ∧ w = w' := by
  have a1 : ¬ room < 1 := by omega
  have a2 : ¬ 4096 < room := by omega
  have a3 : ¬ n < 1 := by omega
  have a4 : ¬ 32 < n := by omega
  go_enter Try.func40, Try.ntmps40
  go_wp2
  go_ret
  exact ⟨rfl, rfl⟩
theorem may12_room (room n : Int) (h : room < 1 ∨ 4096 < room) (w : World) :
    Calls Try.prog 40 #[.int .i64 room, .int .i64 n] w fun e w' => e = .returned (.int .i64 25) ∧ w = w' := by
  rcases h with h | h
  · go_enter Try.func40, Try.ntmps40
    go_wp2
    go_ret
    exact ⟨rfl, rfl⟩
  · have a1 : ¬ room < 1 := by omega
    go_enter Try.func40, Try.ntmps40
    go_wp2
    go_ret
    exact ⟨rfl, rfl⟩
theorem may12_queues (room n : Int) (r0 : 1 ≤ room) (r1 : room ≤ 4096) (h : n < 1 ∨ 32 < n) (w : World) :
    Calls Try.prog 40 #[.int .i64 room, .int .i64 n] w fun e w' => e = .returned (.int .i64 24) ∧ w = w' := by
  have a1 : ¬ room < 1 := by omega
  have a2 : ¬ 4096 < room := by omega
  rcases h with h | h
  · go_enter Try.func40, Try.ntmps40
    go_wp2
    go_ret
    exact ⟨rfl, rfl⟩
  · have a3 : ¬ n < 1 := by omega
    go_enter Try.func40, Try.ntmps40
    go_wp2
    go_ret
    exact ⟨rfl, rfl⟩
end Go.Proofs.Ytkgiaijcgblpbaa
