/-
  Package admit: whether any configuration may be; a gate of any configuration. Nothing turns below the heap's end. No condition but that the numbers are words.
-/
import Derived.Test.YtiogfgkfipekbaaAdm8
namespace Go.Proofs.Ytiogfgkfipekbaa
set_option linter.unusedVariables false
set_option linter.unusedSimpArgs false
open Go.ChangeShapes Go.WideShapes Go.ChangeAt Go.RowKit
attribute [local go_sem] alloc_drewN setCell_drewN

/-- Whether two flows have one number. -/
def dupB (fs : List Fl) (n : Nat) : Bool := (List.range n).any fun j => (List.range j).any fun k => decide ((fs.getD j Fl.nil).id = (fs.getD k Fl.nil).id)
theorem dupB_iff {fs : List Fl} {n : Nat} : dupB fs n = true ↔ ∃ j, j < n ∧ ∃ k, k < j ∧ (fs.getD j Fl.nil).id = (fs.getD k Fl.nil).id := by
  unfold dupB
  rw [List.any_eq_true]
  constructor
  · rintro ⟨j, hj, h⟩
    rw [List.any_eq_true] at h
    obtain ⟨k, hk, e⟩ := h
    exact ⟨j, List.mem_range.1 hj, k, List.mem_range.1 hk, of_decide_eq_true e⟩
  · rintro ⟨j, hj, k, hk, e⟩
    exact ⟨j, List.mem_range.2 hj, List.any_eq_true.2 ⟨k, List.mem_range.2 hk, decide_eq_true e⟩⟩
theorem cells11 {w : World} {b : Nat} {t : TypeId} {v0 v1 v2 v3 v4 v5 v6 v7 v8 v9 v10 : Value} (h : w.heap[b]? = some (.cells #[v0, v1, v2, v3, v4, v5, v6, v7, v8, v9, v10] t (0, 0))) :
    w.cell? ⟨b, 0, none⟩ = some v0 ∧ w.cell? ⟨b, 1, none⟩ = some v1 ∧ w.cell? ⟨b, 2, none⟩ = some v2 ∧ w.cell? ⟨b, 3, none⟩ = some v3 ∧ w.cell? ⟨b, 4, none⟩ = some v4 ∧ w.cell? ⟨b, 5, none⟩ = some v5 ∧ w.cell? ⟨b, 6, none⟩ = some v6 ∧ w.cell? ⟨b, 7, none⟩ = some v7 ∧ w.cell? ⟨b, 8, none⟩ = some v8 ∧ w.cell? ⟨b, 9, none⟩ = some v9 ∧ w.cell? ⟨b, 10, none⟩ = some v10 :=
  ⟨cell_of_row w b 0 _ _ (0, 0) h, cell_of_row w b 1 _ _ (0, 0) h, cell_of_row w b 2 _ _ (0, 0) h, cell_of_row w b 3 _ _ (0, 0) h, cell_of_row w b 4 _ _ (0, 0) h, cell_of_row w b 5 _ _ (0, 0) h, cell_of_row w b 6 _ _ (0, 0) h, cell_of_row w b 7 _ _ (0, 0) h, cell_of_row w b 8 _ _ (0, 0) h, cell_of_row w b 9 _ _ (0, 0) h, cell_of_row w b 10 _ _ (0, 0) h⟩
theorem rowfl_below {w w' : World} {a : Option Addr} {n : Nat} {fs : List Fl} (h : RowFl w a n fs) (hb : Below w.heap.size w w') : RowFl w' a n fs := by
  obtain ⟨h1, h2, h3, h4⟩ := h
  refine ⟨h1, h2, h3, fun hn => ?_⟩
  obtain ⟨b, off, e, hlt, hc⟩ := h4 hn
  refine ⟨b, off, e, Nat.lt_of_lt_of_le hlt hb.size, fun i hi => ?_⟩
  obtain ⟨x0, x1, x2, x3, x4⟩ := hc i hi
  exact ⟨(hb.cell (p := ⟨b, off + i * 5, none⟩) hlt).trans x0, (hb.cell (p := ⟨b, off + i * 5 + 1, none⟩) hlt).trans x1, (hb.cell (p := ⟨b, off + i * 5 + 2, none⟩) hlt).trans x2, (hb.cell (p := ⟨b, off + i * 5 + 3, none⟩) hlt).trans x3, (hb.cell (p := ⟨b, off + i * 5 + 4, none⟩) hlt).trans x4⟩
theorem anewT_no (a : Option Addr) (n c : Nat) (w : World) (hm : n ≤ maxLen) (h : n < 1 ∨ 64 < n) : Calls Try.prog 48 #[.slice a n c] w fun e w' => w' = w ∧ e = .returned (.tuple #[.pointer none, .int .i64 29]) := by
  unfold maxLen at hm
  rcases h with h | h
  · obtain rfl : n = 0 := by omega
    go_enter Try.func48, Try.ntmps48
    go_wp2
    go_ret2
    exact ⟨rfl, rfl⟩
  · have h1 : (64 : Int) < n := by omega
    have h2 : ¬ (n : Int) < 1 := by omega
    go_enter Try.func48, Try.ntmps48
    go_wp2
    go_ret2
    exact ⟨rfl, rfl⟩
/-- What newTable says: its error, and the table where there is none. -/
def tabC (fs : List Fl) (n : Nat) : Int := if n < 1 then 29 else if 64 < n then 29 else if dupB fs n = true then 30 else 0
theorem NtAt.nodup {w : World} {B n : Nat} {fs : List Fl} {v : Value} {es : List FeP} {bl : Int → Nat} (h : NtAt w B n fs n v es bl) : dupB fs n = false := by
  cases e : dupB fs n with
  | false => rfl
  | true =>
    obtain ⟨j, hj, k, hk, x⟩ := dupB_iff.1 e
    exact absurd x (h.one j hj k hk)
theorem anewTab (a : Option Addr) (n c : Nat) (fs : List Fl) (w : World) (hr : RowFl w a n fs) : Calls Try.prog 48 #[.slice a n c] w fun e w' => Below w.heap.size w w' ∧ e = .returned (.tuple #[.pointer (if tabC fs n = 0 then some ⟨w.heap.size, 0, none⟩ else none), .int .i64 (tabC fs n)]) ∧ (tabC fs n = 0 → ∃ v es bl, NtAt w' w.heap.size n fs n v es bl) := by
  unfold tabC
  by_cases h1 : n < 1
  · rw [if_pos h1, if_neg (by decide)]
    exact (anewT_no a n c w hr.2.1 (Or.inl h1)).mono (by rintro e w' ⟨rfl, rfl⟩; exact ⟨Below.refl _ _, rfl, fun h => by cases h⟩)
  · rw [if_neg h1]
    by_cases h2 : 64 < n
    · rw [if_pos h2, if_neg (by decide)]
      exact (anewT_no a n c w hr.2.1 (Or.inr h2)).mono (by rintro e w' ⟨rfl, rfl⟩; exact ⟨Below.refl _ _, rfl, fun h => by cases h⟩)
    · rw [if_neg h2]
      refine (anewT a n c fs w hr (by omega) (by omega)).mono ?_
      rintro e w' ⟨hb, (⟨hd, rfl⟩ | ⟨rfl, v, es, bl, hn⟩)⟩
      · rw [dupB_iff.2 hd, if_pos rfl, if_neg (by decide)]
        exact ⟨hb, rfl, fun h => by cases h⟩
      · rw [hn.nodup, if_neg (show ¬ (false = true) by decide), if_pos rfl]
        exact ⟨hb, rfl, fun _ => ⟨v, es, bl, hn⟩⟩
/-- Why a configuration may not be; 0: it may. -/
def chkC (pk by_ sh mtu : Int) (n : Nat) (fs : List Fl) : Int := if capsC pk by_ sh = false then 25 else if mtu < 1 then 26 else if 65535 < mtu then 26 else tabC fs n
set_option maxRecDepth 100000 in
set_option maxHeartbeats 1000000 in
theorem acheck (r bk lv qu pk by_ sh mtu rate burst : Int) (a : Option Addr) (n cc : Nat) (fs : List Fl) (b0 : 0 ≤ by_) (b1 : by_ ≤ 18446744073709551615) (m0 : 0 ≤ mtu) (w : World) (hr : RowFl w a n fs) : Calls Try.prog 12 #[.agg #[.int .i64 r, .int .i64 bk, .int .i64 lv, .int .i64 qu, .int .i64 pk, .int .u64 by_, .int .i64 sh, .int .u64 mtu, .int .u64 rate, .int .u64 burst, .slice a n cc]] w fun e w' => e = .returned (.int .i64 (chkC pk by_ sh mtu n fs)) ∧ Below w.heap.size w w' := by
  obtain ⟨W0, hW0⟩ : ∃ W0, w.alloc (.cells #[.int .i64 r, .int .i64 bk, .int .i64 lv, .int .i64 qu, .int .i64 pk, .int .u64 by_, .int .i64 sh, .int .u64 mtu, .int .u64 rate, .int .u64 burst, .slice a n cc] 25) = W0 := ⟨_, rfl⟩
  have hc : W0.heap[w.heap.size]? = some (.cells #[.int .i64 r, .int .i64 bk, .int .i64 lv, .int .i64 qu, .int .i64 pk, .int .u64 by_, .int .i64 sh, .int .u64 mtu, .int .u64 rate, .int .u64 burst, .slice a n cc] 25 (0, 0)) := by rw [← hW0]; exact heap_alloc_new w _
  have bb : Below w.heap.size w W0 := by rw [← hW0]; exact (Below.refl _ w).alloc (Nat.le_refl _) _
  have HC := Lib.hid hc; have BB := Lib.hid bb
  have hlt := (Array.getElem?_eq_some_iff.1 hc).1
  have HL := Lib.hid hlt
  have RB := Lib.hid (fun (u : World) (hu : Below w.heap.size w u) => rowfl_below hr hu)
  have CP := Lib.hid (acaps r bk lv qu pk by_ sh mtu rate burst a n cc b0 b1 W0)
  have NT := Lib.hid (fun (u : World) (hu : Below w.heap.size w u) => anewTab a n cc fs u (RB.out u hu))
  clear hc bb hr hlt
  unfold chkC
  generalize tabC fs n = tc at *
  obtain ⟨c0, c1, c2, c3, c4, c5, c6, c7, c8, c9, c10⟩ := cells11 HC.out
  cases hcap : capsC pk by_ sh with
  | false =>
    rw [if_pos rfl]
    rw [hcap] at CP
    clear hcap
    go_enter Try.func12, Try.ntmps12
    go_wp2_with fail
    refine CP.out.mono ?_
    rintro e w1 ⟨rfl, b1_⟩
    have B1 := Lib.hid (below_ontoF BB.out b1_ BB.out.size)
    have X1 := Lib.hid ((b1_.block _ HL.out).trans HC.out)
    clear b1_ c0 c1 c2 c3 c4 c5 c6 c7 c8 c9 c10
    obtain ⟨d0, d1, d2, d3, d4, d5, d6, d7, d8, d9, d10⟩ := cells11 X1.out
    go_wp2
    go_ret
    exact ⟨rfl, B1.out⟩
  | true =>
    rw [if_neg (by decide)]
    rw [hcap] at CP
    clear hcap
    by_cases h1 : mtu < 1
    · rw [if_pos h1]
      go_enter Try.func12, Try.ntmps12
      go_wp2_with fail
      refine CP.out.mono ?_
      rintro e w1 ⟨rfl, b1_⟩
      have B1 := Lib.hid (below_ontoF BB.out b1_ BB.out.size)
      have X1 := Lib.hid ((b1_.block _ HL.out).trans HC.out)
      clear b1_ c0 c1 c2 c3 c4 c5 c6 c7 c8 c9 c10
      obtain ⟨d0, d1, d2, d3, d4, d5, d6, d7, d8, d9, d10⟩ := cells11 X1.out
      go_wp2
      go_ret
      exact ⟨rfl, B1.out⟩
    · rw [if_neg h1]
      by_cases h2 : 65535 < mtu
      · rw [if_pos h2]
        have g1 : decide (mtu < 1) = false := decide_eq_false h1
        have g2 : decide (65535 < mtu) = true := decide_eq_true h2
        go_enter Try.func12, Try.ntmps12
        go_wp2_with fail
        refine CP.out.mono ?_
        rintro e w1 ⟨rfl, b1_⟩
        have B1 := Lib.hid (below_ontoF BB.out b1_ BB.out.size)
        have X1 := Lib.hid ((b1_.block _ HL.out).trans HC.out)
        clear b1_ c0 c1 c2 c3 c4 c5 c6 c7 c8 c9 c10
        obtain ⟨d0, d1, d2, d3, d4, d5, d6, d7, d8, d9, d10⟩ := cells11 X1.out
        go_wp2
        go_ret
        exact ⟨rfl, B1.out⟩
      · rw [if_neg h2]
        have g1 : decide (mtu < 1) = false := decide_eq_false h1
        have g2 : decide (65535 < mtu) = false := decide_eq_false h2
        go_enter Try.func12, Try.ntmps12
        go_wp2_with fail
        refine CP.out.mono ?_
        rintro e w1 ⟨rfl, b1_⟩
        have B1 := Lib.hid (below_ontoF BB.out b1_ BB.out.size)
        have X1 := Lib.hid ((b1_.block _ HL.out).trans HC.out)
        clear b1_ c0 c1 c2 c3 c4 c5 c6 c7 c8 c9 c10
        obtain ⟨d0, d1, d2, d3, d4, d5, d6, d7, d8, d9, d10⟩ := cells11 X1.out
        go_wp2_with fail
        refine (NT.out _ B1.out).mono ?_
        rintro e w2 ⟨b2, rfl, -⟩
        have B2 := Lib.hid (below_ontoF B1.out b2 B1.out.size)
        clear b2
        generalize (if tc = 0 then (some ⟨w1.heap.size, 0, none⟩ : Option Addr) else none) = pp
        go_wp2
        go_ret
        exact ⟨rfl, B2.out⟩
end Go.Proofs.Ytiogfgkfipekbaa
