/-
  What package flow keeps for elements of type *pacemaker/admit.data: entries by rising numbers; where a number stands. What lay below the heap's end stands. No condition but that the numbers rise.
-/
import Derived.Test.YtiogfgkfipekbaaCmp32
import Derived.Test.YtiogfgkfipekbaaFlowC
import Derived.Test.YtiogfgkfipekbaaPoolMath
import Derived.Lib.SliceRun
import Derived.Outline
namespace Go.Proofs.Ytiogfgkfipekbaa
set_option linter.unusedVariables false
set_option linter.unusedSimpArgs false
open Go.ChangeShapes Go.WideShapes Go.ChangeAt Go.RowKit
attribute [local go_sem] alloc_drewN setCell_drewN

/-- A number and its element. -/
structure FeP where
  id : Int
  x : Option Addr
def FeP.cells (e : FeP) : List Value := [.int .u32 e.id, Value.pointer e.x]
def FeP.nil : FeP := ⟨0, none⟩
def fesP (es : List FeP) : List Value := es.flatMap FeP.cells
theorem fes_lenP (es : List FeP) : (fesP es).length = es.length * 2 := by
  induction es with
  | nil => rfl
  | cons e es ih =>
    show (FeP.cells e ++ fesP es).length = _
    rw [List.length_append, ih, List.length_cons]
    show 2 + _ = _
    omega
theorem fes_atP (es : List FeP) (h i : Nat) (hh : h < es.length) (hi : i < 2) : (fesP es)[h * 2 + i]? = (es[h]).cells[i]? := by
  induction es generalizing h with
  | nil => exact absurd hh (Nat.not_lt_zero _)
  | cons e es ih =>
    show (FeP.cells e ++ fesP es)[h * 2 + i]? = _
    cases h with
    | zero => rw [Nat.zero_mul, Nat.zero_add, List.getElem?_append_left (by simpa [FeP.cells] using hi)]; rfl
    | succ h =>
      rw [List.getElem?_append_right (by simp [FeP.cells]; omega)]
      have e4 : (h + 1) * 2 + i - (FeP.cells e).length = h * 2 + i := by simp [FeP.cells]; omega
      rw [e4, ih h (by simpa using hh)]; rfl
theorem fe_getDP (es : List FeP) (i : Nat) (hi : i < es.length) : es.getD i FeP.nil = es[i] := by
  rw [List.getD_eq_getElem?_getD, List.getElem?_eq_getElem hi]; rfl
theorem fid_getDP (es : List FeP) (i : Nat) (hi : i < es.length) : (es.map FeP.id).getD i 0 = (es.getD i FeP.nil).id := by
  rw [List.getD_eq_getElem?_getD, List.getElem?_map, List.getElem?_eq_getElem hi, List.getD_eq_getElem?_getD, List.getElem?_eq_getElem hi]
  rfl
/-- The entries in memory. -/
def FesAtP (w : World) (base : Nat) (v : Value) (es : List FeP) : Prop := w.ownsRow base 171 2 v es.length (fesP es)
theorem FesAtP.at {w : World} {base : Nat} {v : Value} {es : List FeP} (h : FesAtP w base v es) (i : Nat) (hi : i < es.length) : ∃ g c, v = .slice (some ⟨g, 0, none⟩) es.length c ∧ base ≤ g ∧ g < w.heap.size ∧
    w.cell? ⟨g, i * 2, none⟩ = some (.int .u32 (es.getD i FeP.nil).id) ∧ w.cell? ⟨g, i * 2 + 1, none⟩ = some (Value.pointer (es.getD i FeP.nil).x) ∧ w.frozen? ⟨g, i * 2 + 1, none⟩ = false := by
  unfold FesAtP at h
  obtain ⟨g, c, rfl, hb, _⟩ := h.form (by omega)
  have hlt := World.ownsRow.lt h g rfl
  rw [fe_getDP es i hi]
  have hc := fun j (hj : j < 2) => (h.cellAt (i * 2 + j) (by omega)).trans (fes_atP es i j hi hj)
  exact ⟨g, c, rfl, hlt.1, hlt.2, hc 0 (by omega), hc 1 (by omega), h.frozenAt _⟩
theorem fcmpP (id : Int) (x : Option Addr) (y : Int) (w : World) : Calls Try.prog 118 #[.agg #[.int .u32 id, Value.pointer x], .int .u32 y] w fun e w' => e = .returned (.int .i64 (cmp32 id y)) ∧ w' = w.alloc (.cells #[.int .u32 id, Value.pointer x] 171) := by
  have CC := Lib.hid (fun W => compare_u32 id y W)
  go_enter Try.func118, Try.ntmps118
  go_wp2_with fail
  refine (CC.out _).mono ?_
  rintro e w' ⟨rfl, rfl⟩
  go_wp2
  go_ret
  exact ⟨rfl, rfl⟩
set_option maxRecDepth 100000 in
set_option maxHeartbeats 2000000 in
theorem bsfP {w : World} {base : Nat} {v : Value} {es : List FeP} (h : FesAtP w base v es) (hs : (es.map FeP.id).Pairwise (· < ·)) (hn : es.length ≤ 100000) (x : Int) :
    Calls Try.prog 117 #[v, .int .u32 x, .func (.func 118) #[] #[]] w fun e w' => e = .returned (.tuple #[.int .i64 (lessC (es.map FeP.id) x : Nat), .bool (isF (es.map FeP.id) x)]) ∧ Below w.heap.size w w' := by
  obtain ⟨ao, co, hv⟩ := row_slice h
  subst hv
  have HH := Lib.hid h
  have HS := Lib.hid hs
  have SL := Lib.hid (hs.imp (fun {a b} (hab : a < b) => (by omega : a ≤ b)))
  have LM := Lib.hid (show (es.map FeP.id).length = es.length from List.length_map _)
  clear h hs
  obtain ⟨n, hN⟩ : ∃ n, n = es.length := ⟨_, rfl⟩
  have HN := Lib.hid hN
  rw [← hN] at hn ⊢
  clear hN
  go_enter Try.func117, Try.ntmps117
  go_wp2
  go_loopw [9, 10] (fun s7 s8 wr => ∃ lo hi : Nat, s7 = .int .i64 lo ∧ s8 = .int .i64 hi ∧ lo ≤ hi ∧ hi ≤ n ∧ Below w.heap.size w wr ∧ Hid ((∀ t, t < lo → (es.map FeP.id).getD t 0 < x) ∧ (∀ t, hi ≤ t → t < (es.map FeP.id).length → x ≤ (es.map FeP.id).getD t 0))) (fun s7 s8 _ => (intOf s8).toNat - (intOf s7).toNat)
  case atStart => exact ⟨0, n, rfl, rfl, Nat.zero_le _, Nat.le_refl _, Below.refl _ w, Lib.hid ⟨fun t ht => absurd ht (Nat.not_lt_zero _), fun t h1 h2 => by have := HN.out; have := LM.out; omega⟩⟩
  case round =>
    obtain ⟨lo, hi, rfl, rfl, hlh, hin, hb, I⟩ := hrel
    have HB := Lib.hid hb
    by_cases hlt : lo < hi
    · obtain ⟨g, c', hv, _, hg, c0, c1, _⟩ := HH.out.at ((lo + hi) / 2) (by have := HN.out; omega)
      obtain ⟨e1, e2⟩ : ao = some ⟨g, 0, none⟩ ∧ co = c' := by injection hv with e1 e2 e3; exact ⟨e1, e3⟩
      subst e1 e2
      have d0 := (hb.cell (p := ⟨g, (lo + hi) / 2 * 2, none⟩) hg).trans c0
      have d1 := (hb.cell (p := ⟨g, (lo + hi) / 2 * 2 + 1, none⟩) hg).trans c1
      have SS := Lib.hid (fun a b (hab : a ≤ b) (hb : b < (es.map FeP.id).length) => (by
        by_cases e : a = b
        · rw [e]; exact Int.le_refl _
        · have := List.pairwise_iff_getElem.1 SL.out a b (by omega) hb (by omega)
          rw [List.getD_eq_getElem?_getD, List.getElem?_eq_getElem (by omega), List.getD_eq_getElem?_getD, List.getElem?_eq_getElem hb]
          exact this : (es.map FeP.id).getD a 0 ≤ (es.map FeP.id).getD b 0))
      have YE := Lib.hid (fid_getDP es ((lo + hi) / 2) (by have := HN.out; omega))
      obtain ⟨y, hy⟩ : ∃ y, es.getD ((lo + hi) / 2) FeP.nil = y := ⟨_, rfl⟩
      rw [hy] at d0 d1 YE
      obtain ⟨yi, yx⟩ := y
      dsimp only at d0 d1 YE
      clear hy c0 c1 hv hb
      have FC := Lib.hid (fun W => fcmpP yi yx x W)
      by_cases hyx : yi < x
      · rw [show cmp32 yi x = -1 from if_pos hyx] at FC
        go_wp2_with fail
        refine (FC.out _).mono ?_
        rintro e w' ⟨rfl, hw'⟩
        have HB2 := Lib.hid (show Below w.heap.size w w' by rw [hw']; exact HB.out.alloc HB.out.size _)
        clear hw'
        go_wp2
        go_roundw
        case rel =>
          refine ⟨(lo + hi) / 2 + 1, hi, by rw [show ((lo : Int) + (hi : Int)) / 2 + 1 = (((lo + hi) / 2 + 1 : Nat) : Int) by omega], rfl, by omega, hin, HB2.out, Lib.hid ⟨fun t ht => ?_, I.out.2⟩⟩
          have := SS.out t ((lo + hi) / 2) (by omega) (by have := HN.out; have := LM.out; omega)
          rw [YE.out] at this
          omega
        case measure => simp [intOf] <;> omega
      · obtain ⟨cv, hcv⟩ : ∃ cv, cmp32 yi x = cv := ⟨_, rfl⟩
        have cv0 : ¬ cv < 0 := by rw [← hcv]; unfold cmp32; rw [if_neg hyx]; split <;> omega
        rw [hcv] at FC
        clear hcv
        go_wp2_with fail
        refine (FC.out _).mono ?_
        rintro e w' ⟨rfl, hw'⟩
        have HB2 := Lib.hid (show Below w.heap.size w w' by rw [hw']; exact HB.out.alloc HB.out.size _)
        clear hw'
        go_wp2
        go_roundw
        case rel =>
          refine ⟨lo, (lo + hi) / 2, rfl, by rw [show ((lo : Int) + (hi : Int)) / 2 = (((lo + hi) / 2 : Nat) : Int) by omega], by omega, by omega, HB2.out, Lib.hid ⟨I.out.1, fun t ht htn => ?_⟩⟩
          have := SS.out ((lo + hi) / 2) t ht htn
          rw [YE.out] at this
          omega
        case measure => simp [intOf] <;> omega
    · have : hi = lo := by omega
      subst this
      have E := Lib.hid (less_end (es.map FeP.id) SL.out x hi (by have := HN.out; have := LM.out; omega) I.out.1 I.out.2)
      by_cases hlt2 : hi < n
      · obtain ⟨g, c', hv, _, hg, c0, c1, _⟩ := HH.out.at hi (by have := HN.out; omega)
        obtain ⟨e1, e2⟩ : ao = some ⟨g, 0, none⟩ ∧ co = c' := by injection hv with e1 e2 e3; exact ⟨e1, e3⟩
        subst e1 e2
        have d0 := (hb.cell (p := ⟨g, hi * 2, none⟩) hg).trans c0
        have d1 := (hb.cell (p := ⟨g, hi * 2 + 1, none⟩) hg).trans c1
        have YE := Lib.hid (fid_getDP es hi (by have := HN.out; omega))
        have LT := Lib.hid (show decide (hi < (es.map FeP.id).length) = true from decide_eq_true (by rw [LM.out, ← HN.out]; exact hlt2))
        obtain ⟨y, hy⟩ : ∃ y, es.getD hi FeP.nil = y := ⟨_, rfl⟩
        rw [hy] at d0 d1 YE
        obtain ⟨yi, yx⟩ := y
        dsimp only at d0 d1 YE
        clear hy c0 c1 hv hb
        have FC := Lib.hid (fun W => fcmpP yi yx x W)
        by_cases hyx : yi = x
        · rw [show cmp32 yi x = 0 by unfold cmp32; rw [if_neg (by omega), if_neg (by omega)]] at FC
          have FE := Lib.hid (show isF (es.map FeP.id) x = true by unfold isF; rw [E.out, LT.out, YE.out, hyx]; simp)
          clear hyx
          go_wp2_with fail
          refine (FC.out _).mono ?_
          rintro e w' ⟨rfl, hw'⟩
          have HB2 := Lib.hid (show Below w.heap.size w w' by rw [hw']; exact HB.out.alloc HB.out.size _)
          clear hw'
          go_wp2
          go_ret2
          exact ⟨by first | (rw [E.out, FE.out]; done) | (rw [E.out, FE.out]; simp; done) | (rw [E.out, FE.out]; simp [cv0]; done), HB2.out⟩
        · obtain ⟨cv, hcv⟩ : ∃ cv, cmp32 yi x = cv := ⟨_, rfl⟩
          have cv0 : ¬ cv = 0 := by rw [← hcv]; unfold cmp32; split <;> (try split) <;> omega
          rw [hcv] at FC
          have FE := Lib.hid (show isF (es.map FeP.id) x = false by unfold isF; rw [E.out, LT.out, YE.out, decide_eq_false hyx]; rfl)
          clear hcv hyx
          go_wp2_with fail
          refine (FC.out _).mono ?_
          rintro e w' ⟨rfl, hw'⟩
          have HB2 := Lib.hid (show Below w.heap.size w w' by rw [hw']; exact HB.out.alloc HB.out.size _)
          clear hw'
          go_wp2
          go_ret2
          exact ⟨by first | (rw [E.out, FE.out]; done) | (rw [E.out, FE.out]; simp; done) | (rw [E.out, FE.out]; simp [cv0]; done), HB2.out⟩
      · have FE := Lib.hid (show isF (es.map FeP.id) x = false by unfold isF; rw [E.out, decide_eq_false (by have := HN.out; have := LM.out; omega)]; rfl)
        clear hb
        go_wp2
        go_ret2
        exact ⟨by first | (rw [E.out, FE.out]; done) | (rw [E.out, FE.out]; simp; done), HB.out⟩
end Go.Proofs.Ytiogfgkfipekbaa
