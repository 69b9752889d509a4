/-
  Layer 7, the document's answer in memory: its things, its places, what came back; where a handle is found. No condition.
-/
import Derived.Test.YtmkgadndfiiacaaKeep7
import Derived.Test.YtmkgadndfiiacaaVal
namespace Go.Proofs.Ytmkgadndfiiacaa
set_option linter.unusedVariables false
set_option linter.unusedSimpArgs false
open Go.ChangeShapes Go.WideShapes Go.ChangeAt Go.RowKit
attribute [local go_sem] alloc_drewN setCell_drewN

def pr7 (p : Int × Int) : List Value := [.int .i64 p.1, .int .i64 p.2]
theorem pr7_len (l : List (Int × Int)) : (l.flatMap pr7).length = l.length * 2 := by
  induction l with
  | nil => rfl
  | cons x l ih => simp only [List.flatMap_cons, List.length_append, ih, List.length_cons]; simp [pr7]; omega
def fst7 (l : List (Int × Int)) (i : Nat) : Int := (l.getD i (0, 0)).1
def snd7 (l : List (Int × Int)) (i : Nat) : Int := (l.getD i (0, 0)).2
theorem pr7_at (l : List (Int × Int)) : ∀ i, i < l.length → (l.flatMap pr7)[i * 2]? = some (.int .i64 (fst7 l i)) ∧ (l.flatMap pr7)[i * 2 + 1]? = some (.int .i64 (snd7 l i)) := by
  induction l with
  | nil => intro i h; exact absurd h (Nat.not_lt_zero _)
  | cons x l ih =>
    intro i hi
    cases i with
    | zero => exact ⟨rfl, rfl⟩
    | succ i =>
      have h := ih i (by simpa using hi)
      simp only [List.flatMap_cons]
      have e : (pr7 x).length = 2 := rfl
      rw [List.getElem?_append_right (by rw [e]; omega), List.getElem?_append_right (by rw [e]; omega), e, show (i + 1) * 2 - 2 = i * 2 by omega, show (i + 1) * 2 + 1 - 2 = i * 2 + 1 by omega]
      exact h
/-- The answer in memory. -/
structure R7 (base : Nat) (w : World) (M : Nat) (most queues : Int) (vi vn vb : Value) (its ins : List (Int × Int)) (back : List Int) (nev : Int) : Prop where
  low : base ≤ M
  blk : w.heap[M]? = some (.cells #[.int .i64 most, .int .i64 queues, vi, vn, vb, .int .i64 nev] 104 (0, 0))
  it : w.ownsRow base 114 2 vi its.length (its.flatMap pr7)
  pl : w.ownsRow base 206 2 vn ins.length (ins.flatMap pr7)
  bk : w.ownsRow base 3 1 vb back.length (back.map (Value.int .i64))
/-- Its blocks. -/
def inR (M : Nat) (vi vn vb : Value) (j : Nat) : Prop := j = M ∨ vi.ownBlock = some j ∨ vn.ownBlock = some j ∨ vb.ownBlock = some j
section
variable {w w' : World} {base M : Nat} {most queues : Int} {vi vn vb : Value} {its ins : List (Int × Int)} {back : List Int} {nev : Int}
theorem R7.inlt (h : R7 base w M most queues vi vn vb its ins back nev) {j : Nat} (hj : inR M vi vn vb j) : base ≤ j ∧ j < w.heap.size := by
  rcases hj with rfl | hj | hj | hj
  · exact ⟨h.low, lt_blk h.blk⟩
  · exact World.ownsRow.lt h.it j hj
  · exact World.ownsRow.lt h.pl j hj
  · exact World.ownsRow.lt h.bk j hj
theorem R7.keep (h : R7 base w M most queues vi vn vb its ins back nev) (hk : ∀ j, inR M vi vn vb j → w'.heap[j]? = w.heap[j]?) : R7 base w' M most queues vi vn vb its ins back nev :=
  ⟨h.low, (hk M (Or.inl rfl)).trans h.blk, own_on h.it (fun j hj => hk j (Or.inr (Or.inl hj))), own_on h.pl (fun j hj => hk j (Or.inr (Or.inr (Or.inl hj)))), own_on h.bk (fun j hj => hk j (Or.inr (Or.inr (Or.inr hj))))⟩
theorem R7.below (h : R7 base w M most queues vi vn vb its ins back nev) (hb : Below w.heap.size w w') : R7 base w' M most queues vi vn vb its ins back nev :=
  h.keep (fun j hj => hb.block j (h.inlt hj).2)
theorem row2 {e : TypeId} {v : Value} {l : List (Int × Int)} (h : w.ownsRow base e 2 v l.length (l.flatMap pr7)) : ∃ a c, v = .slice a l.length c ∧ l.length ≤ c ∧ ∀ i, i < l.length → ∃ g, a = some ⟨g, 0, none⟩ ∧ base ≤ g ∧ g < w.heap.size ∧ w.cell? ⟨g, i * 2, none⟩ = some (.int .i64 (fst7 l i)) ∧ w.cell? ⟨g, i * 2 + 1, none⟩ = some (.int .i64 (snd7 l i)) := by
  have h' := h
  rcases h'.2 with ⟨rfl, h0⟩ | ⟨g, cap, cur, rfl, hb, hg, h1, _⟩
  · exact ⟨none, 0, by rw [h0], by omega, fun i hi => by omega⟩
  · refine ⟨some ⟨g, 0, none⟩, cap, rfl, h1, fun i hi => ⟨g, rfl, hb, (Array.getElem?_eq_some_iff.1 hg).1, ?_⟩⟩
    obtain ⟨c0, c1⟩ := pr7_at l i hi
    have e : ∀ o, (⟨g, 0, none⟩ : Addr).add o = ⟨g, 0 + o, none⟩ := fun o => Go.WideShapes.add_plain _ _ _
    have d0 := h.cells (g := g) rfl _ _ c0
    have d1 := h.cells (g := g) rfl _ _ c1
    rw [e, Nat.zero_add] at d0 d1
    exact ⟨d0, d1⟩
end
set_option maxHeartbeats 1000000 in
theorem find7_go {w : World} {base M : Nat} {most queues : Int} {vi vn vb : Value} {its ins : List (Int × Int)} {back : List Int} {nev : Int} (h : R7 base w M most queues vi vn vb its ins back nev) (hl : its.length ≤ 1000000) (x : Int) {r : Int}
    (hr : (∃ k : Nat, k < its.length ∧ r = k ∧ fst7 its k = x ∧ ∀ j, j < k → fst7 its j ≠ x) ∨ (r = -1 ∧ ∀ j, j < its.length → fst7 its j ≠ x)) :
    Calls Try.prog 61 #[.pointer (some ⟨M, 0, none⟩), .int .i64 x] w fun e w' => e = .returned (.int .i64 r) ∧ w' = w := by
  obtain ⟨c0, c1, c2, c3, c4, c5, -, -, -, -, -, -⟩ := at6 h.blk
  obtain ⟨a, c, rfl, hc, hcell⟩ := row2 h.it
  have HC := Lib.hid hcell; have HR := Lib.hid hr
  obtain ⟨n, hn⟩ : ∃ n, its.length = n := ⟨_, rfl⟩
  rw [hn] at c2 HC HR hl hc
  clear h hcell hr c0 c1 c3 c4 c5 hn
  go_enter Try.func61, Try.ntmps61
  go_wp2
  go_loopw [5] (fun y wr => ∃ i : Nat, i ≤ n ∧ y = .int .i64 i ∧ wr = w ∧ Hid (∀ j, j < i → fst7 its j ≠ x)) (fun y _ => n - (intOf y).toNat)
  case atStart => exact ⟨0, Nat.zero_le _, rfl, rfl, Lib.hid (fun j hj => absurd hj (Nat.not_lt_zero _))⟩
  case round =>
    obtain ⟨i, hi, rfl, hw, HJ⟩ := hrel
    obtain rfl := hw.symm
    have z0 : (0 : Int) ≤ i := by omega
    by_cases hlt : i < n
    · have z1 : (i : Int) < n := by omega
      obtain ⟨g, rfl, -, hg, d0, -⟩ := HC.out i hlt
      by_cases hx : fst7 its i = x
      · have hri : r = i := by
          rcases HR.out with ⟨k, k1, k2, k3, k4⟩ | ⟨-, k4⟩
          · by_cases e1 : k < i
            · exact absurd k3 (HJ.out k e1)
            · by_cases e2 : i < k
              · exact absurd hx (k4 i e2)
              · omega
          · exact absurd hx (k4 i hlt)
        rw [hx] at d0
        go_wp2
        go_ret
        exact ⟨by first | rfl | (rw [hri]; rfl), rfl⟩
      · obtain ⟨y, hy⟩ : ∃ y, fst7 its i = y := ⟨_, rfl⟩
        rw [hy] at d0
        have hne : ¬ y = x := by rw [← hy]; exact hx
        have HX := Lib.hid hx
        clear hx hy
        go_wp2
        go_roundw
        case rel => exact ⟨i + 1, hlt, by go_num, trivial, Lib.hid (fun j hj => by
          by_cases e : j = i
          · rw [e]; exact HX.out
          · exact HJ.out j (by omega))⟩
        case measure => simp [intOf] <;> omega
    · obtain rfl : i = n := by omega
      have hri : r = -1 := by
        rcases HR.out with ⟨k, k1, k2, k3, k4⟩ | ⟨k4, -⟩
        · exact absurd k3 (HJ.out k k1)
        · exact k4
      go_wp2
      go_ret
      exact ⟨by first | rfl | (rw [hri]; rfl), rfl⟩
set_option maxHeartbeats 1000000 in
theorem queued7_go {w : World} {base M : Nat} {most queues : Int} {vi vn vb : Value} {its ins : List (Int × Int)} {back : List Int} {nev : Int} (h : R7 base w M most queues vi vn vb its ins back nev) (hl : ins.length ≤ 1000000) (x : Int) {r : Int}
    (hr : (∃ k : Nat, k < ins.length ∧ r = k ∧ snd7 ins k = x ∧ ∀ j, j < k → snd7 ins j ≠ x) ∨ (r = -1 ∧ ∀ j, j < ins.length → snd7 ins j ≠ x)) :
    Calls Try.prog 149 #[.pointer (some ⟨M, 0, none⟩), .int .i64 x] w fun e w' => e = .returned (.int .i64 r) ∧ w' = w := by
  obtain ⟨c0, c1, c2, c3, c4, c5, -, -, -, -, -, -⟩ := at6 h.blk
  obtain ⟨a, c, rfl, hc, hcell⟩ := row2 h.pl
  have HC := Lib.hid hcell; have HR := Lib.hid hr
  obtain ⟨n, hn⟩ : ∃ n, ins.length = n := ⟨_, rfl⟩
  rw [hn] at c3 HC HR hl hc
  clear h hcell hr c0 c1 c2 c4 c5 hn
  go_enter Try.func149, Try.ntmps149
  go_wp2
  go_loopw [5] (fun y wr => ∃ i : Nat, i ≤ n ∧ y = .int .i64 i ∧ wr = w ∧ Hid (∀ j, j < i → snd7 ins j ≠ x)) (fun y _ => n - (intOf y).toNat)
  case atStart => exact ⟨0, Nat.zero_le _, rfl, rfl, Lib.hid (fun j hj => absurd hj (Nat.not_lt_zero _))⟩
  case round =>
    obtain ⟨i, hi, rfl, hw, HJ⟩ := hrel
    obtain rfl := hw.symm
    have z0 : (0 : Int) ≤ i := by omega
    by_cases hlt : i < n
    · have z1 : (i : Int) < n := by omega
      obtain ⟨g, rfl, -, hg, -, d0⟩ := HC.out i hlt
      by_cases hx : snd7 ins i = x
      · have hri : r = i := by
          rcases HR.out with ⟨k, k1, k2, k3, k4⟩ | ⟨-, k4⟩
          · by_cases e1 : k < i
            · exact absurd k3 (HJ.out k e1)
            · by_cases e2 : i < k
              · exact absurd hx (k4 i e2)
              · omega
          · exact absurd hx (k4 i hlt)
        rw [hx] at d0
        go_wp2
        go_ret
        exact ⟨by first | rfl | (rw [hri]; rfl), rfl⟩
      · obtain ⟨y, hy⟩ : ∃ y, snd7 ins i = y := ⟨_, rfl⟩
        rw [hy] at d0
        have hne : ¬ y = x := by rw [← hy]; exact hx
        have HX := Lib.hid hx
        clear hx hy
        go_wp2
        go_roundw
        case rel => exact ⟨i + 1, hlt, by go_num, trivial, Lib.hid (fun j hj => by
          by_cases e : j = i
          · rw [e]; exact HX.out
          · exact HJ.out j (by omega))⟩
        case measure => simp [intOf] <;> omega
    · obtain rfl : i = n := by omega
      have hri : r = -1 := by
        rcases HR.out with ⟨k, k1, k2, k3, k4⟩ | ⟨k4, -⟩
        · exact absurd k3 (HJ.out k k1)
        · exact k4
      go_wp2
      go_ret
      exact ⟨by first | rfl | (rw [hri]; rfl), rfl⟩
end Go.Proofs.Ytmkgadndfiiacaa
