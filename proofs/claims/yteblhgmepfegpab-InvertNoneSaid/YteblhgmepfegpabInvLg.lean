/-
  Package invert: the longest row of numbers that do not fall. Nothing below the heap's end turns. No condition but that the row has at most 400 numbers.
-/
import Derived.Test.YteblhgmepfegpabInvR
import Derived.Test.YteblhgmepfegpabShelf
import Derived.Test.YteblhgmepfegpabOpen
import Derived.Test.YteblhgmepfegpabPoolMath
namespace Go.Proofs.Yteblhgmepfegpab
set_option linter.unusedVariables false
set_option linter.unusedSimpArgs false
open Go.ChangeShapes Go.WideShapes Go.ChangeAt Go.RowKit Go.Sort Go.Lib
attribute [local go_sem] alloc_drewN setCell_drewN

theorem infoU : (Try.prog.info? 24).map (fun i => (i.zero, i.size, i.bytes)) = some (some (.int .u64 0), 1, 8) := by kernel_rfl
def U64s (w : World) (base : Nat) (v : Value) (xs : List Int) : Prop := w.ownsRow base 24 1 v xs.length (xs.map (Value.int .u64))
theorem U64s.form {w : World} {base : Nat} {v : Value} {xs : List Int} (h : U64s w base v xs) : ∃ a c, v = .slice a xs.length c ∧ xs.length ≤ c ∧ ∀ i, i < xs.length → ∃ g, a = some ⟨g, 0, none⟩ ∧ base ≤ g ∧ g < w.heap.size ∧ w.cell? ⟨g, i, none⟩ = some (.int .u64 (xs.getD i 0)) ∧ w.frozen? ⟨g, i, none⟩ = false := by
  have h' := h
  unfold U64s at h'
  rcases h'.2 with ⟨rfl, h0⟩ | ⟨g, cap, cur, rfl, hb, hg, h1, _⟩
  · exact ⟨none, 0, by rw [h0], by omega, fun i hi => by omega⟩
  · refine ⟨some ⟨g, 0, none⟩, cap, rfl, h1, fun i hi => ⟨g, rfl, hb, (Array.getElem?_eq_some_iff.1 hg).1, ?_, h'.frozenAt i⟩⟩
    rw [h'.cellAt i (by omega), List.getElem?_map, List.getElem?_eq_getElem hi, List.getD_eq_getElem?_getD, List.getElem?_eq_getElem hi]
    rfl
theorem U64s.below {w w' : World} {base : Nat} {v : Value} {xs : List Int} (h : U64s w base v xs) (hb : Below w.heap.size w w') : U64s w' base v xs :=
  World.ownsRow.kept (row := some w.heap.size) h ⟨hb.os, hb.tape, hb.output, hb.size, fun k hk _ => hb.block k hk⟩ (Or.inr (fun hh => by have := World.ownsRow.lt h _ hh; omega))
theorem U64s.of_append {w' : World} {base : Nat} {v' : Value} {xs : List Int} {x : Int} (h : w'.ownsRow base 24 1 v' (xs.length + 1) (xs.map (Value.int .u64) ++ [.int .u64 x])) : U64s w' base v' (xs ++ [x]) := by
  unfold U64s
  rw [List.length_append, List.map_append]
  exact h
theorem low1_range (T : List Int) (x : Int) : (List.range T.length).countP (fun i => !decide (x < T.getD i 0)) = low1 T x := by
  have e : T = (List.range T.length).map (fun i => T.getD i 0) := by
    apply List.ext_getElem
    · simp
    · intro i h1 h2
      rw [List.getElem_map, List.getElem_range, List.getD_eq_getElem?_getD, List.getElem?_eq_getElem h1]; rfl
  unfold low1
  conv => rhs; rw [e]
  rw [List.countP_map]
  refine List.countP_congr (fun i _ => ?_)
  simp only [Function.comp]
  by_cases h : x < T.getD i 0
  · simp [h]
  · simp [h]
theorem clos14 (V : World) (E N g : Nat) (i n c : Nat) (x t : Int) (hi : i < n) (h1 : V.cell? ⟨E, 0, none⟩ = some (.slice (some ⟨g, 0, none⟩) n c)) (h2 : V.cell? ⟨N, 0, none⟩ = some (.int .u64 x)) (h3 : V.cell? ⟨g, i, none⟩ = some (.int .u64 t)) :
    Calls Try.prog 17 #[.int .i64 i, .pointer (some ⟨E, 0, none⟩), .pointer (some ⟨N, 0, none⟩)] V fun e w' => e = .returned (.bool (decide (x < t))) ∧ ∃ q, w' = V.drewN q := by
  have i0 : (0 : Int) ≤ i := by omega
  have i1 : (i : Int) < n := by omega
  go_enter Try.func17, Try.ntmps17
  go_wp2
  go_quiet (fail)
  go_wp2
  go_ret
  exact ⟨rfl, _, rfl⟩
theorem search14 (W : World) (E N : Nat) (v : Value) (T : List Int) (base : Nat) (x : Int) (hn : T.length ≤ 400) (h1 : W.cell? ⟨E, 0, none⟩ = some v) (h2 : W.cell? ⟨N, 0, none⟩ = some (.int .u64 x)) (hv : U64s W base v T) (hs : T.Pairwise (· ≤ ·)) :
    Calls Try.prog 18 #[.int .i64 T.length, .func (.func 17) #[] #[.pointer (some ⟨E, 0, none⟩), .pointer (some ⟨N, 0, none⟩)]] W fun e w' => e = .returned (.int .i64 (low1 T x : Nat)) ∧ Below W.heap.size W w' := by
  have hE := block_lt h1
  have hN := block_lt h2
  have hcon := Any.sort_Search Try.search 17 #[.pointer (some ⟨E, 0, none⟩), .pointer (some ⟨N, 0, none⟩)] T.length (fun i => decide (x < T.getD i 0)) W (enters_of Try.func17 (by kernel_rfl) rfl) (by omega)
    (fun m os i hi => by
      obtain ⟨a, c, rfl, hc, hh⟩ := hv.form
      obtain ⟨g, rfl, hg0, hg, cg, _⟩ := hh i hi
      refine (clos14 (grow (W.drewN m) os) E N g i T.length c x (T.getD i 0) hi (cell_grown hE h1 m os) (cell_grown hN h2 m os) (cell_grown hg cg m os)).mono ?_
      rintro e w' ⟨rfl, q, rfl⟩
      exact ⟨rfl, q, #[], by rw [Go.Sort.grow_empty]⟩)
    (fun a b hab hb ha => by
      have e : ∀ j, j < T.length → T.getD j 0 = T[j]! := fun j hj => by rw [List.getD_eq_getElem?_getD, List.getElem?_eq_getElem hj, getElem!_pos T j hj]; rfl
      have ha' := of_decide_eq_true ha
      have : T.getD a 0 ≤ T.getD b 0 := by
        by_cases hh : a = b
        · rw [hh]; exact Int.le_refl _
        · have := List.pairwise_iff_getElem.1 hs a b (by omega) hb (by omega)
          rw [List.getD_eq_getElem?_getD, List.getElem?_eq_getElem (by omega), List.getD_eq_getElem?_getD, List.getElem?_eq_getElem hb]
          exact this
      exact decide_eq_true (by omega))
  rw [low1_range] at hcon
  refine Calls.mono hcon ?_
  rintro e w' ⟨rfl, q, os, rfl⟩
  exact ⟨rfl, below_grown_sl _ _ _ _ (Nat.le_refl _)⟩
set_option maxRecDepth 100000 in
set_option maxHeartbeats 1000000 in
theorem longest14 {z : Nat → Int} {n : Nat} (hn : n ≤ 400) (a : Option Addr) (c : Nat) (w : World) (hN : NumAt w w.heap.size (.slice a n c) z n) :
    Calls Try.prog 14 #[.slice a n c] w fun e w' => e = .returned (.int .i64 ((tls z n).length : Nat)) ∧ Below w.heap.size w w' := by
  obtain ⟨i0, hi0, hz0, hz1, hz2⟩ := info_parts infoU
  have HC := Lib.hid hN.open
  clear hN
  go_enter Try.func14, Try.ntmps14
  go_wp2
  go_loopw [10] (fun y wr => ∃ (vT : Value) (i : Nat), i ≤ n ∧ y = .int .i64 i ∧ wr.heap[w.heap.size]? = some (.cells #[vT] 22 (0, 0)) ∧ U64s wr w.heap.size vT (tls z i) ∧ Below w.heap.size w wr) (fun y _ => n - (intOf y).toNat)
  case atStart => exact ⟨.slice none 0 0, 0, Nat.zero_le _, rfl, heap_alloc_new _ _, World.ownsRow_nil _ _ _ _, (Below.refl _ _).alloc (Nat.le_refl _) _⟩
  case round =>
    obtain ⟨vT, i, hi, rfl, hE, hT, hb⟩ := hrel
    by_cases hlt : i < n
    · obtain ⟨b, off, rfl, hb1, hb2, ci⟩ := HC.out i hlt
      have cb := (hb.cell (p := ⟨b, off + i, none⟩) hb1).trans ci
      have cE := cell_of_row wr w.heap.size 0 _ _ (0, 0) hE
      obtain ⟨aT, cT, rfl, hcT, hTf⟩ := hT.form
      have i00 : (0 : Int) ≤ i := by omega
      have i1 : (i : Int) < n := by omega
      have hEl := (Array.getElem?_eq_some_iff.1 hE).1
      have B2 : Below wr.heap.size wr (wr.alloc (.cells #[.int .u64 (z i)] 24)) := (Below.refl _ wr).alloc (Nat.le_refl _) _
      have cE2 := (B2.cell (p := ⟨w.heap.size, 0, none⟩) hEl).trans cE
      have cN2 : (wr.alloc (.cells #[.int .u64 (z i)] 24)).cell? ⟨wr.heap.size, 0, none⟩ = some (.int .u64 (z i)) := by simp [go_sem]
      have SE := Lib.hid (search14 _ w.heap.size wr.heap.size _ (tls z i) w.heap.size (z i) (by have := tls_le z i; omega) cE2 cN2 (hT.below B2) (tls_all z i).srt)
      have HT := Lib.hid (hT.below B2)
      have hE2 := (B2.block _ hEl).trans hE
      have BB := Lib.hid (hb.trans (B2.mono hb.size))
      have hs0 := hb.size
      clear hT hTf hE cE hb B2
      have HW2 := Lib.hid (show wr.heap.size < (wr.alloc (.cells #[.int .u64 (z i)] 24)).heap.size by simp)
      have HS := Lib.hid (show tls z (i + 1) = stp (tls z i) (z i) from rfl)
      have hle := low1_le (tls z i) (z i)
      have htl := tls_le z i
      generalize hT : tls z i = T at *
      clear hT
      generalize z i = x at *
      go_wp2_with fail
      refine SE.out.mono ?_
      rintro e w4 ⟨rfl, hb4⟩
      have cE4 := (hb4.cell (p := ⟨w.heap.size, 0, none⟩) (Nat.lt_trans hEl HW2.out)).trans cE2
      have cN4 := (hb4.cell (p := ⟨wr.heap.size, 0, none⟩) HW2.out).trans cN2
      have fE4 : w4.frozen? ⟨w.heap.size, 0, none⟩ = false := frozen_of_row w4 w.heap.size 0 _ _ ((hb4.block _ (Nat.lt_trans hEl HW2.out)).trans hE2)
      have hE4 := (hb4.block _ (Nat.lt_trans hEl HW2.out)).trans hE2
      have HT4 := Lib.hid (HT.out.below hb4)
      have BB4 := Lib.hid (BB.out.trans (hb4.mono BB.out.size))
      have hsz4 : w.heap.size < w4.heap.size := Nat.lt_of_lt_of_le (Nat.lt_trans hEl HW2.out) hb4.size
      clear hb4 cE2 cN2 hE2 SE HT BB
      by_cases hl : low1 T x = T.length
      · have HST := Lib.hid (show stp T x = T ++ [x] by unfold stp; rw [if_pos hl])
        rw [hl]
        have ho := HT4.out
        unfold U64s at ho
        have hxl : T.length ≤ 400 := by omega
        go_wp2_with (at_builtin; refine wpList_append_own_at _ rfl _ _ 22 rfl w.heap.size 24 i0 (.int .u64 0) 1 8 Try.underlying22 hi0 hz0 hz1 hz2 rfl (by decide) _ _ _ rfl (ho.alloc _) ⟨w4.heap.size, 0, none⟩ 1 1 [.int .u64 x] rfl rfl (cells_one6 _ _ _) (fun x hx => by simp at hx; subst hx; rfl) (by unfold maxLen; omega) (by omega) (by simp; omega) ?_; intro v3 w3 ho3 hg3 hn3 hat3; clear hn3; obtain ⟨g3, c3, rfl, hc3, hg3l⟩ := ho3.form (by omega); have KE : w3.heap[w.heap.size]? = some (.cells #[.slice aT T.length cT] 22 (0, 0)) := (hg3.block w.heap.size (by simp; omega) (fun e => own_ne_blk HT4.out hE4 (by decide) e.symm)).trans ((heap_alloc_old _ _ hsz4).trans hE4); have KC := cell_of_row w3 w.heap.size 0 _ _ (0, 0) KE; have KF : w3.frozen? ⟨w.heap.size, 0, none⟩ = false := frozen_of_row w3 w.heap.size 0 _ _ KE)
        have hvE : (Value.slice (some ⟨g3, 0, none⟩) (T.length + 1) c3).ownBlock ≠ some w.heap.size := own_ne_blk ho3 KE (by decide)
        go_roundw
        case rel => exact ⟨_, i + 1, by omega, by go_num, by simpa using heap_set KE 0 (.slice (some ⟨g3, 0, none⟩) (T.length + 1) c3), by
          rw [HS.out, HST.out]
          exact ownsRow_setCell_other (a := ⟨w.heap.size, 0, none⟩) (U64s.of_append ho3) hvE _, below_set ((BB4.out.alloc (Nat.le_of_lt hsz4) _).grown hg3 (by simp; omega) (fun g hg => (World.ownsRow.lt HT4.out g hg).1)) (Nat.le_refl _)⟩
        case measure => simp [intOf] <;> omega
      · have HST := Lib.hid (show stp T x = T.set (low1 T x) x by unfold stp; rw [if_neg hl])
        obtain ⟨a5, c5, e5, _, hc5⟩ := HT4.out.form
        injection e5 with e6 e7 e8
        subst e6; subst e8
        obtain ⟨g, rfl, hg0, hg, cg, fg⟩ := hc5 (low1 T x) (by omega)
        generalize hp : low1 T x = p at *
        have p0 : (0 : Int) ≤ p := by omega
        have p1 : (p : Int) < T.length := by omega
        have pn : ¬ (p : Int) = T.length := by omega
        have ho := HT4.out
        unfold U64s at ho
        have SR := Lib.hid (row_put ho p (.int .u64 x))
        have hgE : g ≠ w.heap.size := fun e => own_ne_blk ho hE4 (by decide) (by rw [e]; rfl)
        clear hc5 ho
        generalize T.getD p 0 = old at *
        go_wp2
        go_roundw
        case rel => exact ⟨_, i + 1, by omega, by go_num, (Below.heap_setCell w4 ⟨g, p, none⟩ _ w.heap.size (Ne.symm hgE)).trans hE4, by
          rw [HS.out, HST.out]
          unfold U64s
          rw [List.length_set, List.map_set]
          exact SR.out, below_set BB4.out hg0⟩
        case measure => simp [intOf] <;> omega
    · obtain rfl : i = n := by omega
      have cE := cell_of_row wr w.heap.size 0 _ _ (0, 0) hE
      obtain ⟨aT, cT, rfl, hcT, hTf⟩ := hT.form
      clear hT hTf
      go_wp2
      go_ret
      exact ⟨rfl, hb⟩
end Go.Proofs.Yteblhgmepfegpab
