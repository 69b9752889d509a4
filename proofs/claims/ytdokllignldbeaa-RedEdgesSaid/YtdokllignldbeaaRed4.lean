/-
  What red.Play returns for any configuration and numbers: whether each packet is let go. No condition but that the numbers are words.
-/
import Derived.Test.YtdokllignldbeaaRed3
import Derived.Test.YtdokllignldbeaaOpen2
import Derived.Test.YtdokllignldbeaaSat2
import Derived.Deep.AppendLies
import Derived.Laws.OwnMore
import Derived.Deep.OwnRows
namespace Go.Proofs.Ytdokllignldbeaa
set_option linter.unusedVariables false
set_option linter.unusedSimpArgs false
open Go.ChangeShapes Go.WideShapes Go.ChangeAt Go.RowKit
attribute [local go_sem] alloc_drewN setCell_drewN

/-- The state behind some packets. -/
def rsq (lo hi mo sw : Int) (l : List Int) : Int × Int := l.foldl (fun s x => ((rst lo hi mo sw s.1 s.2 x).1, (rst lo hi mo sw s.1 s.2 x).2.1)) (0, 0)
def rsb (lo hi mo sw : Int) (zs : List Int) (i : Nat) : Bool := (rst lo hi mo sw (rsq lo hi mo sw (zs.take i)).1 (rsq lo hi mo sw (zs.take i)).2 (zs.getD i 0)).2.2
theorem rsq_snoc (lo hi mo sw : Int) (l : List Int) (x : Int) : rsq lo hi mo sw (l ++ [x]) = ((rst lo hi mo sw (rsq lo hi mo sw l).1 (rsq lo hi mo sw l).2 x).1, (rst lo hi mo sw (rsq lo hi mo sw l).1 (rsq lo hi mo sw l).2 x).2.1) := by
  unfold rsq; rw [List.foldl_append]; rfl
theorem rst_wd (lo hi mo sw mean count x : Int) (n0 : 0 ≤ mean) (n1 : mean ≤ 18446744073709551615) (c0 : 0 ≤ count) (c1 : count ≤ 18446744073709551615) (x0 : 0 ≤ x) :
    (0 ≤ (rst lo hi mo sw mean count x).1 ∧ (rst lo hi mo sw mean count x).1 ≤ 18446744073709551615) ∧ 0 ≤ (rst lo hi mo sw mean count x).2.1 ∧ (rst lo hi mo sw mean count x).2.1 ≤ 18446744073709551615 := by
  obtain ⟨q0, q1⟩ := shr_bd (sl sw) n0
  obtain ⟨f0, f1⟩ := cap_wd (show 0 ≤ mean - mean / 2 ^ sl sw + x by omega)
  obtain ⟨k0, k1⟩ := cap_wd (show 0 ≤ count + 1 by omega)
  unfold rst
  split
  · split
    · exact ⟨⟨f0, f1⟩, (by decide : (0 : Int) ≤ 0), (by decide : (0 : Int) ≤ 18446744073709551615)⟩
    · split
      · exact ⟨⟨f0, f1⟩, (by decide : (0 : Int) ≤ 0), (by decide : (0 : Int) ≤ 18446744073709551615)⟩
      · split
        · exact ⟨⟨f0, f1⟩, (by decide : (0 : Int) ≤ 0), (by decide : (0 : Int) ≤ 18446744073709551615)⟩
        · exact ⟨⟨f0, f1⟩, k0, k1⟩
  · exact ⟨⟨n0, n1⟩, c0, c1⟩
theorem rsq_wd (lo hi mo sw : Int) (l : List Int) (h : ∀ x ∈ l, 0 ≤ x) : ∀ a b : Int, (0 ≤ a ∧ a ≤ 18446744073709551615) → (0 ≤ b ∧ b ≤ 18446744073709551615) →
    (fun s : Int × Int => (0 ≤ s.1 ∧ s.1 ≤ 18446744073709551615) ∧ 0 ≤ s.2 ∧ s.2 ≤ 18446744073709551615) (l.foldl (fun s x => ((rst lo hi mo sw s.1 s.2 x).1, (rst lo hi mo sw s.1 s.2 x).2.1)) (a, b)) := by
  induction l with
  | nil => intro a b ha hb; exact ⟨ha, hb⟩
  | cons x l ih =>
    intro a b ha hb
    obtain ⟨k1, k2⟩ := rst_wd lo hi mo sw a b x ha.1 ha.2 hb.1 hb.2 (h x (List.mem_cons_self))
    exact ih (fun y hy => h y (List.mem_cons_of_mem _ hy)) _ _ k1 k2
/-- A row of truths in a block. -/
def BlAt (w : World) (g n : Nat) (p : Nat → Bool) : Prop := ∃ cs : Array Value, w.heap[g]? = some (.cells cs 4 (0, 0)) ∧ cs.size = n ∧ ∀ i, i < n → cs[i]? = some (.bool (p i))
theorem BlAt.keep {w w' : World} {g n : Nat} {p : Nat → Bool} (h : BlAt w g n p) (e : w'.heap[g]? = w.heap[g]?) : BlAt w' g n p := by
  obtain ⟨cs, h1, h2, h3⟩ := h
  exact ⟨cs, e.trans h1, h2, h3⟩
theorem BlAt.lt {w : World} {g n : Nat} {p : Nat → Bool} (h : BlAt w g n p) : g < w.heap.size := by
  obtain ⟨cs, h1, _⟩ := h
  exact (Array.getElem?_eq_some_iff.1 h1).1
theorem BlAt.at {w : World} {g n : Nat} {p : Nat → Bool} (h : BlAt w g n p) (i : Nat) (hi : i < n) : w.cell? ⟨g, i, none⟩ = some (.bool (p i)) ∧ w.frozen? ⟨g, i, none⟩ = false := by
  obtain ⟨cs, h1, h2, h3⟩ := h
  exact ⟨(cell_of_row w g i cs _ (0, 0) h1).trans (h3 i hi), frozen_of_row w g i cs _ h1⟩
theorem BlAt.put {w : World} {g n : Nat} {p : Nat → Bool} (h : BlAt w g n p) (i : Nat) (b : Bool) : BlAt (w.setCell ⟨g, i, none⟩ (.bool b)) g n (fun j => if j = i then b else p j) := by
  obtain ⟨cs, h1, h2, h3⟩ := h
  refine ⟨cs.setIfInBounds i (.bool b), heap_setCell_same w g i cs _ _ h1, by simpa using h2, fun j hj => ?_⟩
  show _ = some (Value.bool (if j = i then b else p j))
  by_cases e : j = i
  · subst e
    rw [if_pos rfl, Array.getElem?_setIfInBounds_self_of_lt (by omega)]
  · rw [if_neg e, Array.getElem?_setIfInBounds_ne (fun k => e k.symm)]
    exact h3 j hj
theorem BlAt.new (w : World) (n : Nat) : BlAt (w.alloc (.cells (madeCells #[Value.bool false] n) 4)) w.heap.size n (fun _ => false) := by
  refine ⟨_, heap_alloc_new w _, by simp [madeCells], fun i hi => ?_⟩
  simp [madeCells, hi, Nat.mod_one]

/-- A state in a block. -/
def StAt (w : World) (b : Nat) (m k : Int) : Prop := w.heap[b]? = some (.cells #[.int .u64 m, .int .u64 k] 54 (0, 0))
theorem StAt.at {w : World} {b : Nat} {m k : Int} (h : StAt w b m k) : b < w.heap.size ∧ w.cell? ⟨b, 0, none⟩ = some (.int .u64 m) ∧ w.cell? ⟨b, 1, none⟩ = some (.int .u64 k) ∧ w.frozen? ⟨b, 0, none⟩ = false ∧ w.frozen? ⟨b, 1, none⟩ = false :=
  ⟨(Array.getElem?_eq_some_iff.1 h).1, cell_of_row w b 0 _ _ (0, 0) h, cell_of_row w b 1 _ _ (0, 0) h, frozen_of_row w b 0 _ _ h, frozen_of_row w b 1 _ _ h⟩
theorem red_play_no (lo hi mo sw : Int) (l0 : 0 ≤ lo) (g0 : 0 ≤ hi) (m0 : 0 ≤ mo) (hok : rok lo hi mo sw = false) (a : Option Addr) (n c : Nat) (w : World) :
    Calls Try.prog 38 #[.agg #[.int .u64 lo, .int .u64 hi, .int .u64 mo, .int .i64 sw], .slice a n c] w fun e w' => e = .returned (.slice none 0 0) ∧ Below w.heap.size w w' := by
  have CK := Lib.hid (fun W => red_check lo hi mo sw l0 g0 m0 W)
  rw [hok] at CK
  rw [if_neg (by decide)] at CK
  go_enter Try.func38, Try.ntmps38
  go_wp2_with fail
  refine (CK.out _).mono ?_
  rintro e w' ⟨rfl, rfl⟩
  go_wp2
  go_ret
  refine ⟨rfl, ?_⟩
  repeat' (first | exact Below.refl _ _ | refine Below.alloc ?_ (by simp; try omega) _)

set_option maxRecDepth 100000 in
set_option maxHeartbeats 2000000 in
theorem red_play (lo hi mo sw : Int) (l0 : 0 ≤ lo) (g0 : 0 ≤ hi) (m0 : 0 ≤ mo) (s0 : -9223372036854775808 ≤ sw) (s1 : sw ≤ 9223372036854775807) (hok : rok lo hi mo sw = true) (a : Option Addr) (n c : Nat) (zs : List Int) (w : World) (hr : Row1 .u64 w a n zs) (hn : n ≤ 300) :
    Calls Try.prog 38 #[.agg #[.int .u64 lo, .int .u64 hi, .int .u64 mo, .int .i64 sw], .slice a n c] w fun e w' => ∃ g p, e = .returned (.slice (some ⟨g, 0, none⟩) n n) ∧ w.heap.size ≤ g ∧ BlAt w' g n p ∧ (∀ i, i < n → p i = rsb lo hi mo sw zs i) ∧ Below w.heap.size w w' := by
  have CK := Lib.hid (fun W => red_check lo hi mo sw l0 g0 m0 W)
  rw [hok, if_pos rfl] at CK
  have hmk := fun W => run_make_row' (P := Try.prog) 63 4 (.bool false) 1 Try.underlying63 (by kernel_rfl) rfl .i64 .i64 n (by omega) (by omega) W
  have HR := Lib.hid hr
  clear hr
  go_enter Try.func38, Try.ntmps38
  go_wp2_with fail
  refine (CK.out _).mono ?_
  rintro e w' ⟨rfl, rfl⟩
  go_wp2
  generalize hB2 : w.heap.size + 1 + 1 = B2
  have b2a : w.heap.size < B2 := by omega
  have b2b : w.heap.size ≤ B2 := by omega
  have b2c : w.heap.size ≤ B2 + 1 := by omega
  go_loopw [17] (fun x wr => ∃ (i : Nat) (m k : Int) (p : Nat → Bool), x = .int .i64 i ∧ i ≤ n ∧ rsq lo hi mo sw (zs.take i) = (m, k) ∧ (∀ j, j < i → p j = rsb lo hi mo sw zs j) ∧
    At4 wr w.heap.size lo hi mo sw ∧ StAt wr B2 m k ∧ BlAt wr (B2 + 1) n p ∧ Below w.heap.size w wr) (fun x _ => n - (intOf x).toNat)
  case atStart =>
    refine ⟨0, 0, 0, fun _ => false, rfl, Nat.zero_le _, rfl, fun j hj => absurd hj (Nat.not_lt_zero _), ?_, ?_, ?_, ?_⟩
    · refine ⟨by simp; omega, ?_, ?_, ?_, ?_⟩ <;> simp [go_sem]
    · subst hB2
      exact (heap_alloc_old _ _ (by simp)).trans (by simpa using heap_alloc_new (((w.alloc (.cells #[.int .u64 lo, .int .u64 hi, .int .u64 mo, .int .i64 sw] 56))).alloc (.cells #[.int .u64 lo, .int .u64 hi, .int .u64 mo, .int .i64 sw] 56)) (.cells #[.int .u64 0, .int .u64 0] 54))
    · subst hB2
      simpa using BlAt.new ((((w.alloc (.cells #[.int .u64 lo, .int .u64 hi, .int .u64 mo, .int .i64 sw] 56))).alloc (.cells #[.int .u64 lo, .int .u64 hi, .int .u64 mo, .int .i64 sw] 56)).alloc (.cells #[.int .u64 0, .int .u64 0] 54)) n
    · repeat' (first | exact Below.refl _ _ | refine Below.alloc ?_ (by simp; try omega) _)
  case round =>
    obtain ⟨i, m, k, p, rfl, hi1, hq, hp, hA, hS, hB, hb⟩ := hrel
    by_cases hlt : i < n
    · obtain ⟨hzl, hzm, hzw, hzc⟩ := HR.out
      obtain ⟨b, off, rfl, hb0, hc⟩ := hzc (by omega)
      have cx := (hb.cell (p := ⟨b, off + i, none⟩) hb0).trans (hc i hlt)
      have hxw := bounds_u64 (hzw (zs.getD i 0) (by rw [List.getD_eq_getElem?_getD, List.getElem?_eq_getElem (by omega : i < zs.length)]; exact List.getElem_mem _))
      have HS := Lib.hid (take_snoc zs i (by omega))
      obtain ⟨x, hx⟩ : ∃ x, zs.getD i 0 = x := ⟨_, rfl⟩
      have wd := rsq_wd lo hi mo sw (zs.take i) (fun y hy => (bounds_u64 (hzw y (List.mem_of_mem_take hy))).1) 0 0 ⟨by decide, by decide⟩ ⟨by decide, by decide⟩
      change (fun s : Int × Int => (0 ≤ s.1 ∧ s.1 ≤ 18446744073709551615) ∧ 0 ≤ s.2 ∧ s.2 ≤ 18446744073709551615) (rsq lo hi mo sw (zs.take i)) at wd
      rw [hq] at wd
      obtain ⟨⟨w0, w1⟩, w2, w3⟩ := wd
      have hbi : rsb lo hi mo sw zs i = (rst lo hi mo sw m k x).2.2 := by unfold rsb; rw [hq, hx]
      have hqi : rsq lo hi mo sw (zs.take (i + 1)) = ((rst lo hi mo sw m k x).1, (rst lo hi mo sw m k x).2.1) := by rw [HS.out, rsq_snoc, hq, hx]
      rw [hx] at cx hxw
      have STEP := Lib.hid (fun W => red_step lo hi mo sw m k x l0 g0 m0 s0 s1 w0 w1 w2 w3 hxw.1 hxw.2 W)
      have HBI := Lib.hid hbi; have HQI := Lib.hid hqi
      generalize rst lo hi mo sw m k x = r at *
      obtain ⟨r0, r1, r2⟩ := r
      dsimp only at STEP HBI HQI
      have HA := Lib.hid hA; have HSS := Lib.hid hS; have HBL := Lib.hid hB; have HB := Lib.hid hb; have HP := Lib.hid hp
      obtain ⟨z, a0, a1, a2, a3⟩ := hA
      obtain ⟨z2, e0, e1, f0, f1⟩ := hS.at
      clear hS hB hb hp hq hbi hqi hzc hc hzw hzl hzm hx
      go_wp2_with fail
      refine (STEP.out _).mono ?_
      rintro e w5 ⟨rfl, b5⟩
      have HB5 := Lib.hid b5
      have HS5 := Lib.hid (show StAt w5 B2 m k from (b5.block B2 z2).trans HSS.out)
      have HL5 := Lib.hid (HBL.out.keep (b5.block (B2 + 1) HBL.out.lt))
      have HA5 := Lib.hid (HA.out.below b5 z)
      obtain ⟨z5, e50, e51, f50, f51⟩ := HS5.out.at
      obtain ⟨g5, g51⟩ := HL5.out.at i hlt
      clear a0 a1 a2 a3 e0 e1 f0 f1 z2 z b5 cx STEP
      go_wp2
      go_roundw
      case rel =>
        have FX : Below B2 w5 (((w5.setCell ⟨B2, 0, none⟩ (.int .u64 r0)).setCell ⟨B2, 1, none⟩ (.int .u64 r1)).setCell ⟨B2 + 1, i, none⟩ (.bool r2)) := by
          refine Below.setCell (Below.setCell (Below.setCell (Below.refl _ _) ?_ _) ?_ _) ?_ _ <;> simp
        refine ⟨i + 1, r0, r1, _, by go_num, by omega, HQI.out, fun j hj => ?_, HA5.out.below FX b2a, ?_, ((HL5.out.keep ?_).put i r2), ?_⟩
        · show (if j = i then r2 else p j) = _
          by_cases e : j = i
          · rw [if_pos e, e]; exact HBI.out.symm
          · rw [if_neg e]; exact HP.out j (by omega)
        · refine (heap_setCell_other _ ⟨B2 + 1, i, none⟩ _ _ (by simp)).trans ?_
          have q1 := heap_setCell_same w5 B2 0 _ _ (.int .u64 r0) HS5.out
          simpa using heap_setCell_same _ B2 1 _ _ (.int .u64 r1) q1
        · exact (heap_setCell_other _ ⟨B2, 1, none⟩ _ _ (by simp)).trans (heap_setCell_other _ ⟨B2, 0, none⟩ _ _ (by simp))
        · exact (below_onto HB.out HB5.out HB.out.size).trans (FX.mono b2b)
      case measure => simp [intOf] <;> omega
    · obtain rfl : i = n := by omega
      have HBL := Lib.hid hB; have HB := Lib.hid hb; have HP := Lib.hid hp
      clear hB hb hp hq hA hS
      go_wp2
      go_ret
      exact ⟨B2 + 1, p, rfl, b2c, HBL.out, HP.out, HB.out⟩
end Go.Proofs.Ytdokllignldbeaa
