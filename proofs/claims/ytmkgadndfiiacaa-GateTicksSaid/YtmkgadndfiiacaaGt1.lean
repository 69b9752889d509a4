/-
  Layer 22: which plans may be, and how long a round is. No condition.
-/
import Derived.Test.YtmkgadndfiiacaaOpen22
import Derived.Test.YtmkgadndfiiacaaRef1
import Derived.Test.YtmkgadndfiiacaaBase
namespace Go.Proofs.Ytmkgadndfiiacaa
set_option linter.unusedVariables false
set_option linter.unusedSimpArgs false
open Go.ChangeShapes Go.WideShapes Go.ChangeAt Go.RowKit
attribute [local go_sem] alloc_drewN setCell_drewN

def Slot22.good (x : Slot22) : Prop := 1 ≤ x.s ∧ x.s ≤ 4294967296
instance (x : Slot22) : Decidable x.good := inferInstanceAs (Decidable (_ ∧ _))
def slotN (fs : List Slot22) (i : Nat) : Slot22 := fs.getD i Slot22.nil
/-- A plan that may be. -/
def PlanOk (fs : List Slot22) (n : Nat) : Prop := (1 ≤ n ∧ n ≤ 64) ∧ ∀ i, i < n → (slotN fs i).good
instance (fs : List Slot22) (n : Nat) : Decidable (PlanOk fs n) := inferInstanceAs (Decidable (_ ∧ _))
/-- How long so many slots are. -/
def spans (fs : List Slot22) : Nat → Int
  | 0 => 0
  | i + 1 => spans fs i + (slotN fs i).s
theorem spans_nn {fs : List Slot22} {n : Nat} (h : ∀ i, i < n → (slotN fs i).good) : ∀ i, i ≤ n → (i : Int) ≤ spans fs i ∧ spans fs i ≤ i * 4294967296
  | 0, _ => ⟨by simp [spans], by simp [spans]⟩
  | i + 1, hi => by
    obtain ⟨h1, h2⟩ := spans_nn h i (by omega)
    obtain ⟨g1, g2⟩ := h i (by omega)
    simp only [spans]
    omega
theorem RowSl.atS {w w' : World} {a : Option Addr} {n : Nat} {fs : List Slot22} (h : RowSl w a n fs) (hb : Below w.heap.size w w') (i : Nat) (hi : i < n) : ∃ b off, a = some ⟨b, off, none⟩ ∧ b < w.heap.size ∧
    w'.cell? ⟨b, off + i * 2, none⟩ = some (.int .u8 (slotN fs i).o) ∧ w'.cell? ⟨b, off + i * 2 + 1, none⟩ = some (.int .u64 (slotN fs i).s) := by
  obtain ⟨b, off, e, hlt, hc⟩ := h.2.2.2 (by omega)
  obtain ⟨c0, c1⟩ := hc i hi
  exact ⟨b, off, e, hlt, (hb.cell (p := ⟨b, _, none⟩) hlt).trans c0, (hb.cell (p := ⟨b, _, none⟩) hlt).trans c1⟩
theorem RowSl.okS {w : World} {a : Option Addr} {n : Nat} {fs : List Slot22} (h : RowSl w a n fs) (i : Nat) (hi : i < n) : (slotN fs i).ok := by
  unfold slotN
  rw [List.getD_eq_getElem?_getD, List.getElem?_eq_getElem (by rw [h.1]; exact hi)]
  exact h.2.2.1 _ (List.getElem_mem _)
theorem RowSl.below {w w' : World} {a : Option Addr} {n : Nat} {fs : List Slot22} (h : RowSl w a n fs) (hb : Below w.heap.size w w') : RowSl w' a n fs := by
  refine ⟨h.1, h.2.1, h.2.2.1, fun hn => ?_⟩
  obtain ⟨b, off, e, hlt, hc⟩ := h.2.2.2 hn
  exact ⟨b, off, e, Nat.lt_of_lt_of_le hlt hb.size, fun i hi => ⟨(hb.cell (p := ⟨b, _, none⟩) hlt).trans (hc i hi).1, (hb.cell (p := ⟨b, _, none⟩) hlt).trans (hc i hi).2⟩⟩
set_option maxHeartbeats 1000000 in
/-- The document's answer: whether a plan may be. -/
theorem rmay22 {w : World} {a : Option Addr} {n : Nat} {fs : List Slot22} (hr : RowSl w a n fs) (c : Nat) :
    Calls Try.prog 25 #[.slice a n c] w fun e w' => e = .returned (.bool (decide (PlanOk fs n))) ∧ w' = w := by
  have HR := Lib.hid hr
  have hm := hr.2.1
  unfold maxLen at hm
  clear hr
  go_enter Try.func25, Try.ntmps25
  go_wp2
  go_loopw [3] (fun z wr => ∃ i : Nat, i ≤ n ∧ z = .int .i64 i ∧ wr = w ∧ Hid (∀ k, k < i → (slotN fs k).good)) (fun z _ => n - (intOf z).toNat)
  case atStart => exact ⟨0, Nat.zero_le _, rfl, rfl, Lib.hid (fun k hk => absurd hk (Nat.not_lt_zero _))⟩
  case round =>
    obtain ⟨i, hi, rfl, rfl, HG⟩ := hrel
    by_cases hlt : i < n
    · have z0 : (0 : Int) ≤ i := by omega
      have z1 : (i : Int) < n := by omega
      obtain ⟨b, off, rfl, hb, c0, c1⟩ := HR.out.atS (Below.refl _ _) i hlt
      have HO := HR.out.okS i hlt
      obtain ⟨-, s0, s1⟩ := HO
      clear c0
      by_cases hg : (slotN fs i).good
      · have HH : Hid (∀ k, k < i + 1 → (slotN fs k).good) := Lib.hid (fun k hk => by
          by_cases e : k = i
          · rw [e]; exact hg
          · exact HG.out k (by omega))
        obtain ⟨g0, g1⟩ := hg
        obtain ⟨y, hy⟩ : ∃ y, (slotN fs i).s = y := ⟨_, rfl⟩
        rw [hy] at c1 g0 g1 s0 s1
        have q0 : ¬ y < 1 := by omega
        have q1 : ¬ 4294967296 < y := by omega
        clear hy
        go_wp2
        go_roundw
        case rel => exact ⟨i + 1, by omega, by go_num, by first | rfl | trivial, HH⟩
        case measure => simp [intOf] <;> omega
      · have HE : Hid (decide (PlanOk fs n) = false) := Lib.hid (decide_eq_false (fun h => hg (h.2 i hlt)))
        have hg' : (slotN fs i).s < 1 ∨ 4294967296 < (slotN fs i).s := by
          unfold Slot22.good at hg; omega
        obtain ⟨y, hy⟩ : ∃ y, (slotN fs i).s = y := ⟨_, rfl⟩
        rw [hy] at c1 hg' s0 s1
        clear hy hg
        rcases hg' with q | q
        · go_wp2
          go_ret
          exact ⟨show Ending.returned (.bool false) = _ by rw [HE.out], rfl⟩
        · have q0 : ¬ y < 1 := by omega
          go_wp2
          go_ret
          exact ⟨show Ending.returned (.bool false) = _ by rw [HE.out], rfl⟩
    · obtain rfl : i = n := by omega
      have HE : Hid (decide (PlanOk fs i) = (decide ((1 : Int) ≤ i) && decide ((i : Int) ≤ 64))) := Lib.hid (by
        by_cases p1 : 1 ≤ i
        · by_cases p2 : i ≤ 64
          · rw [decide_eq_true (show PlanOk fs i from ⟨⟨p1, p2⟩, HG.out⟩), decide_eq_true (by omega : (1 : Int) ≤ i), decide_eq_true (by omega : (i : Int) ≤ 64)]; rfl
          · rw [decide_eq_false (fun h : PlanOk fs i => p2 h.1.2), decide_eq_false (by omega : ¬ (i : Int) ≤ 64), Bool.and_false]
        · rw [decide_eq_false (fun h : PlanOk fs i => p1 h.1.1), decide_eq_false (by omega : ¬ (1 : Int) ≤ i), Bool.false_and])
      by_cases p1 : 1 ≤ (i : Int)
      · go_wp2
        go_ret
        exact ⟨show Ending.returned (.bool (decide ((i : Int) ≤ 64))) = _ by rw [HE.out, decide_eq_true p1, Bool.true_and], rfl⟩
      · go_wp2
        go_ret
        exact ⟨show Ending.returned (.bool false) = _ by rw [HE.out, decide_eq_false (show ¬ (1 : Int) ≤ i by omega), Bool.false_and], rfl⟩
set_option maxHeartbeats 1000000 in
theorem gcheck22 {w : World} {a : Option Addr} {n : Nat} {fs : List Slot22} (hr : RowSl w a n fs) (c : Nat) :
    Calls Try.prog 26 #[.slice a n c] w fun e w' => e = .returned (.int .i64 (if PlanOk fs n then 0 else 6)) ∧ Below w.heap.size w w' := by
  have HR := Lib.hid hr
  have hm := hr.2.1
  unfold maxLen at hm
  clear hr
  by_cases hn : 1 ≤ n ∧ n ≤ 64
  · have p1 : ¬ (n : Int) < 1 := by omega
    have p2 : ¬ (64 : Int) < n := by omega
    have HN := Lib.hid hn
    clear hn
    go_enter Try.func26, Try.ntmps26
    go_wp2
    go_loopw [15] (fun z wr => ∃ i : Nat, i ≤ n ∧ z = .int .i64 i ∧ Below w.heap.size w wr ∧ Hid (∀ k, k < i → (slotN fs k).good)) (fun z _ => n - (intOf z).toNat)
    case atStart => exact ⟨0, Nat.zero_le _, rfl, Below.refl _ _, Lib.hid (fun k hk => absurd hk (Nat.not_lt_zero _))⟩
    case round =>
      obtain ⟨i, hi, rfl, hbw, HG⟩ := hrel
      have HB := Lib.hid hbw
      by_cases hlt : i < n
      · have z0 : (0 : Int) ≤ i := by omega
        have z1 : (i : Int) < n := by omega
        obtain ⟨b, off, rfl, hb, c0, c1⟩ := HR.out.atS hbw i hlt
        have HO := HR.out.okS i hlt
        obtain ⟨⟨o0, o1⟩, s0, s1⟩ := HO
        have hsz := hbw.size
        clear hbw
        by_cases hg : (slotN fs i).good
        · have HH : Hid (∀ k, k < i + 1 → (slotN fs k).good) := Lib.hid (fun k hk => by
            by_cases e : k = i
            · rw [e]; exact hg
            · exact HG.out k (by omega))
          obtain ⟨g0, g1⟩ := hg
          obtain ⟨y, hy⟩ : ∃ y, (slotN fs i).s = y := ⟨_, rfl⟩
          obtain ⟨x, hx⟩ : ∃ x, (slotN fs i).o = x := ⟨_, rfl⟩
          rw [hy] at c1 g0 g1 s0 s1
          rw [hx] at c0 o0 o1
          have q0 : ¬ y < 1 := by omega
          have q1 : ¬ 4294967296 < y := by omega
          have BB := Lib.hid (HB.out.alloc hsz (.cells #[.int .u8 x, .int .u64 y] 67))
          clear hy hx
          go_wp2
          go_roundw
          case rel => exact ⟨i + 1, by omega, by go_num, BB.out, HH⟩
          case measure => simp [intOf] <;> omega
        · have HE : Hid (¬ PlanOk fs n) := Lib.hid (fun h => hg (h.2 i hlt))
          have hg' : (slotN fs i).s < 1 ∨ 4294967296 < (slotN fs i).s := by
            unfold Slot22.good at hg; omega
          obtain ⟨y, hy⟩ : ∃ y, (slotN fs i).s = y := ⟨_, rfl⟩
          obtain ⟨x, hx⟩ : ∃ x, (slotN fs i).o = x := ⟨_, rfl⟩
          rw [hy] at c1 hg' s0 s1
          rw [hx] at c0 o0 o1
          have BB := Lib.hid (HB.out.alloc hsz (.cells #[.int .u8 x, .int .u64 y] 67))
          clear hy hx hg
          rcases hg' with q | q
          · go_wp2
            go_ret
            exact ⟨by first | rfl | (rw [if_neg HE.out]), BB.out⟩
          · have q0 : ¬ y < 1 := by omega
            go_wp2
            go_ret
            exact ⟨by first | rfl | (rw [if_neg HE.out]), BB.out⟩
      · obtain rfl : i = n := by omega
        have HE : Hid (PlanOk fs i) := Lib.hid ⟨HN.out, HG.out⟩
        clear hbw
        go_wp2
        go_ret
        exact ⟨by first | rfl | (rw [if_pos HE.out]), HB.out⟩
  · have HE : Hid (¬ PlanOk fs n) := Lib.hid (fun h => hn h.1)
    by_cases p1 : (n : Int) < 1
    · clear hn
      go_enter Try.func26, Try.ntmps26
      go_wp2
      go_ret
      exact ⟨by first | rfl | (rw [if_neg HE.out]), Below.refl _ _⟩
    · have p2 : (64 : Int) < n := by omega
      clear hn
      go_enter Try.func26, Try.ntmps26
      go_wp2
      go_ret
      exact ⟨by first | rfl | (rw [if_neg HE.out]), Below.refl _ _⟩
end Go.Proofs.Ytmkgadndfiiacaa
