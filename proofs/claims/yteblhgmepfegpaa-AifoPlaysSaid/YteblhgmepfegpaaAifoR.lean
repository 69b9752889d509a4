/-
  The answer of layer 13, walked: whether a gate may be, what may come, what is offered. No block turns but the answer's own. No condition but that the numbers are in their bounds.
-/
import Derived.Test.YteblhgmepfegpaaAifo5
namespace Go.Proofs.Yteblhgmepfegpaa
set_option linter.unusedVariables false
set_option linter.unusedSimpArgs false
open Go.ChangeShapes Go.WideShapes Go.ChangeAt Go.RowKit
attribute [local go_sem] alloc_drewN setCell_drewN

set_option maxRecDepth 100000 in
set_option maxHeartbeats 1000000 in
theorem rcheck (room win num den : Int) (w : World) : Calls Try.prog 30 #[.int .i64 room, .int .i64 win, .int .u64 num, .int .u64 den] w fun e w' => e = .returned (.int .i64 (chk room win num den)) ∧ w' = w := by
  unfold chk
  have hc : room < 1 ∨ (¬ room < 1 ∧ 4096 < room) ∨ (¬ room < 1 ∧ ¬ 4096 < room ∧ win < 1) ∨ (¬ room < 1 ∧ ¬ 4096 < room ∧ ¬ win < 1 ∧ 1024 < win) ∨ (¬ room < 1 ∧ ¬ 4096 < room ∧ ¬ win < 1 ∧ ¬ 1024 < win) := by omega
  have hd : den < 1 ∨ (¬ den < 1 ∧ 65536 < den) ∨ (¬ den < 1 ∧ ¬ 65536 < den ∧ den ≤ num) ∨ (¬ den < 1 ∧ ¬ 65536 < den ∧ ¬ den ≤ num) := by omega
  rcases hc with h1 | ⟨h0, h1⟩ | ⟨h0, h00, h1⟩ | ⟨h0, h00, h000, h1⟩ | ⟨h0, h00, h000, h0000⟩
  · rw [if_pos (by omega)]
    clear hd
    go_enter Try.func30, Try.ntmps30
    go_wp2
    go_ret
    exact ⟨rfl, rfl⟩
  · rw [if_pos (by omega)]
    clear hd
    go_enter Try.func30, Try.ntmps30
    go_wp2
    go_ret
    exact ⟨rfl, rfl⟩
  · rw [if_pos (by omega)]
    clear hd
    go_enter Try.func30, Try.ntmps30
    go_wp2
    go_ret
    exact ⟨rfl, rfl⟩
  · rw [if_pos (by omega)]
    clear hd
    go_enter Try.func30, Try.ntmps30
    go_wp2
    go_ret
    exact ⟨rfl, rfl⟩
  · rw [if_neg (by omega)]
    rcases hd with g1 | ⟨g0, g1⟩ | ⟨g0, g00, g1⟩ | ⟨g0, g00, g000⟩
    · rw [if_pos (by omega)]
      go_enter Try.func30, Try.ntmps30
      go_wp2
      go_ret
      exact ⟨rfl, rfl⟩
    · rw [if_pos (by omega)]
      go_enter Try.func30, Try.ntmps30
      go_wp2
      go_ret
      exact ⟨rfl, rfl⟩
    · rw [if_pos (by omega)]
      go_enter Try.func30, Try.ntmps30
      go_wp2
      go_ret
      exact ⟨rfl, rfl⟩
    · rw [if_neg (by omega)]
      go_enter Try.func30, Try.ntmps30
      go_wp2
      go_ret
      exact ⟨rfl, rfl⟩
structure R13 (w : World) (base M : Nat) (room win num den : Int) (wait : Nat) (vm : Value) (W : List Int) : Prop where
  blk : w.heap[M]? = some (.cells #[.int .i64 room, .int .i64 win, .int .u64 num, .int .u64 den, .int .i64 wait, vm] 81 (0, 0))
  low : base ≤ M
  own : U64s w base vm W
  r0 : 1 ≤ room
  r1 : room ≤ 4096
  w0 : 1 ≤ win
  w1 : win ≤ 1024
  n0 : 0 ≤ num
  n1 : num < den
  d1 : den ≤ 65536
  wt : (wait : Int) ≤ room
  wl : (W.length : Int) ≤ win
def inM (M : Nat) (vm : Value) (j : Nat) : Prop := j = M ∨ vm.ownBlock = some j
section
variable {w : World} {base M : Nat} {room win num den : Int} {wait : Nat} {vm : Value} {W : List Int}
theorem R13.cell (h : R13 w base M room win num den wait vm W) : w.cell? ⟨M, 0, none⟩ = some (.int .i64 room) ∧ w.cell? ⟨M, 1, none⟩ = some (.int .i64 win) ∧ w.cell? ⟨M, 2, none⟩ = some (.int .u64 num) ∧ w.cell? ⟨M, 3, none⟩ = some (.int .u64 den) ∧ w.cell? ⟨M, 4, none⟩ = some (.int .i64 wait) ∧ w.cell? ⟨M, 5, none⟩ = some vm :=
  ⟨cell_of_row w M 0 _ _ (0, 0) h.blk, cell_of_row w M 1 _ _ (0, 0) h.blk, cell_of_row w M 2 _ _ (0, 0) h.blk, cell_of_row w M 3 _ _ (0, 0) h.blk, cell_of_row w M 4 _ _ (0, 0) h.blk, cell_of_row w M 5 _ _ (0, 0) h.blk⟩
theorem R13.frz (h : R13 w base M room win num den wait vm W) (i : Nat) : w.frozen? ⟨M, i, none⟩ = false := frozen_of_row w M i _ _ h.blk
theorem R13.keep {w' : World} (h : R13 w base M room win num den wait vm W) (hk : ∀ j, inM M vm j → w'.heap[j]? = w.heap[j]?) : R13 w' base M room win num den wait vm W :=
  ⟨(hk M (Or.inl rfl)).trans h.blk, h.low, own_keepU h.own (fun j hj => hk j (Or.inr hj)), h.r0, h.r1, h.w0, h.w1, h.n0, h.n1, h.d1, h.wt, h.wl⟩
theorem R13.inlt (h : R13 w base M room win num den wait vm W) {j : Nat} (hj : inM M vm j) : base ≤ j ∧ j < w.heap.size := by
  rcases hj with rfl | hj
  · exact ⟨h.low, (Array.getElem?_eq_some_iff.1 h.blk).1⟩
  · exact World.ownsRow.lt h.own j hj
theorem R13.setW (h : R13 w base M room win num den wait vm W) (q : Nat) (hq : (q : Int) ≤ room) : R13 (w.setCell ⟨M, 4, none⟩ (.int .i64 q)) base M room win num den q vm W ∧ MvS w (w.setCell ⟨M, 4, none⟩ (.int .i64 q)) (inM M vm) (inM M vm) := by
  have hh : ∀ j, j ≠ M → (w.setCell ⟨M, 4, none⟩ (.int .i64 q)).heap[j]? = w.heap[j]? := fun j hj => Below.heap_setCell w ⟨M, 4, none⟩ _ j hj
  have hne : vm.ownBlock ≠ some M := own_ne_blk h.own h.blk (by decide)
  refine ⟨⟨by simpa using heap_set h.blk 4 (.int .i64 q), h.low, own_keepU h.own (fun j hj => hh j (fun e => hne (by rw [hj, e]))), h.r0, h.r1, h.w0, h.w1, h.n0, h.n1, h.d1, hq, h.wl⟩, ⟨rfl, rfl, rfl, by simp [World.setCell], fun j _ hS => hh j (fun e => hS (Or.inl e)), fun j hj => Or.inr hj⟩⟩
theorem lessC_take (W : List Int) (x : Int) (i : Nat) (h : i < W.length) : lessC (W.take (i + 1)) x = lessC (W.take i) x + if W.getD i 0 < x then 1 else 0 := by
  unfold lessC
  rw [List.take_succ_eq_append_getElem h, List.countP_append, List.countP_singleton, List.getD_eq_getElem?_getD, List.getElem?_eq_getElem h]
  simp
set_option maxRecDepth 100000 in
set_option maxHeartbeats 2000000 in
theorem rmay (h : R13 w base M room win num den wait vm W) (x : Int) : Calls Try.prog 33 #[.pointer (some ⟨M, 0, none⟩), .int .u64 x] w fun e w' => e = .returned (.bool (mayP room num den wait W x)) ∧ ∃ q, w' = w.drewN q := by
  have hr0 := h.r0; have hr1 := h.r1; have hn0 := h.n0; have hn1 := h.n1; have hd1 := h.d1; have hwt := h.wt; have hwl := h.wl; have hw1 := h.w1
  obtain ⟨c0, c1, c2, c3, c4, c5⟩ := h.cell
  obtain ⟨a, c, rfl, -, hc⟩ := h.own.form
  have HC := Lib.hid hc
  obtain ⟨n, hn⟩ : ∃ n, W.length = n := ⟨_, rfl⟩
  have HN := Lib.hid hn
  have hle := lessC_le W x
  rw [hn] at c5 hwl hle
  have HFULL := Lib.hid (show lessC (W.take n) x = lessC W x by rw [List.take_of_length_le (by omega)])
  have HP := Lib.hid (show mayP room num den wait W x = (decide ((wait : Int) < room) && decide ((lessC W x : Int) * (den - num) * room ≤ (room - wait) * den * (n : Int))) by unfold mayP; rw [hn])
  clear h hc hn
  go_enter Try.func33, Try.ntmps33
  go_wp2
  go_loopw [5, 6] (fun y z wr => ∃ i : Nat, i ≤ n ∧ y = .int .u64 (lessC (W.take i) x : Nat) ∧ z = .int .i64 i ∧ wr = w) (fun _ z _ => n - (intOf z).toNat)
  case atStart => exact ⟨0, Nat.zero_le _, rfl, rfl, by first | rfl | trivial⟩
  case round =>
    obtain ⟨i, hi, rfl, rfl, rfl⟩ := hrel
    by_cases hlt : i < n
    · obtain ⟨g, rfl, _, hg, cg, _⟩ := HC.out i (by have := HN.out; omega)
      have LT := lessC_take W x i (by have := HN.out; omega)
      have hcl := lessC_le (W.take i) x
      rw [List.length_take] at hcl
      have hcl2 : lessC (W.take i) x ≤ 1024 := by omega
      generalize W.getD i 0 = y at *
      generalize hb0 : lessC (W.take i) x = b0 at *
      have bw : IntKind.u64.wrap ((b0 : Int) + 1) = (b0 : Int) + 1 := by rw [IntKind.wrap_u64]; omega
      have i0 : (0 : Int) ≤ i := by omega
      have i1 : (i : Int) < n := by omega
      by_cases hy : y < x
      · rw [if_pos hy] at LT
        have HL := Lib.hid LT
        clear LT hcl hb0
        go_wp2
        go_roundw
        case rel => exact ⟨i + 1, by omega, by rw [HL.out]; go_num, by go_num, by first | rfl | trivial⟩
        case measure => simp [intOf] <;> omega
      · rw [if_neg hy] at LT
        have HL := Lib.hid LT
        clear LT hcl hb0
        go_wp2
        go_roundw
        case rel => exact ⟨i + 1, by omega, by rw [HL.out]; go_num, by go_num, by first | rfl | trivial⟩
        case measure => simp [intOf] <;> omega
    · obtain rfl : i = n := by omega
      rw [HFULL.out]
      generalize lessC W x = b at *
      by_cases hw : (wait : Int) < room
      · have hwd : decide ((wait : Int) < room) = true := decide_eq_true hw
        obtain ⟨p1, p2⟩ := mul_bd (a := (b : Int)) (b := den - num) (A := 1024) (B := 65536) (by omega) (by omega) (by omega) (by omega)
        obtain ⟨p3, p4⟩ := mul_bd (a := (b : Int) * (den - num)) (b := room) (A := 67108864) (B := 4096) p1 (by omega) (by omega) (by omega)
        obtain ⟨q1, q2⟩ := mul_bd (a := room - wait) (b := den) (A := 4096) (B := 65536) (by omega) (by omega) (by omega) (by omega)
        obtain ⟨q3, q4⟩ := mul_bd (a := (room - wait) * den) (b := (i : Int)) (A := 268435456) (B := 1024) q1 (by omega) (by omega) (by omega)
        have v2 : IntKind.u64.wrap (i : Int) = i := by rw [IntKind.wrap_u64]; omega
        have v3 : IntKind.u64.wrap (den - num) = den - num := by rw [IntKind.wrap_u64]; omega
        have v4 : IntKind.u64.wrap room = room := by rw [IntKind.wrap_u64]; omega
        have v5 : IntKind.u64.wrap (wait : Int) = wait := by rw [IntKind.wrap_u64]; omega
        have v6 : IntKind.u64.wrap (room - wait) = room - wait := by rw [IntKind.wrap_u64]; omega
        have v7 : IntKind.u64.wrap ((b : Int) * (den - num)) = (b : Int) * (den - num) := by rw [IntKind.wrap_u64]; omega
        have v8 : IntKind.u64.wrap ((b : Int) * (den - num) * room) = (b : Int) * (den - num) * room := by rw [IntKind.wrap_u64]; omega
        have v9 : IntKind.u64.wrap ((room - wait) * den) = (room - wait) * den := by rw [IntKind.wrap_u64]; omega
        have v10 : IntKind.u64.wrap ((room - wait) * den * (i : Int)) = (room - wait) * den * (i : Int) := by rw [IntKind.wrap_u64]; omega
        go_wp2
        go_quiet (fail)
        go_wp2
        go_ret
        exact ⟨by first | (rw [HP.out, decide_eq_true hw, Bool.true_and]; done) | (rw [HP.out, decide_eq_true hw, Bool.true_and]; rfl), _, rfl⟩
      · have hwd : decide ((wait : Int) < room) = false := decide_eq_false hw
        go_wp2
        go_quiet (fail)
        go_wp2
        go_ret
        exact ⟨by first | (rw [HP.out, decide_eq_false (show ¬ (wait : Int) < room by omega), Bool.false_and]; done) | (rw [HP.out, decide_eq_false (show ¬ (wait : Int) < room by omega), Bool.false_and]; rfl), _, rfl⟩
end
end Go.Proofs.Yteblhgmepfegpaa
