/-
  Which meters may be: what package meter and the document's answer return for any. No condition.
-/
import Derived.Test.YtmkgadndfiiacaaVal
import Derived.Test.YtmkgadndfiiacaaSat
import Derived.Shelf.Spec.BitsCarry
namespace Go.Proofs.Ytmkgadndfiiacaa
set_option linter.unusedVariables false
set_option linter.unusedSimpArgs false
open Go.ChangeShapes Go.WideShapes Go.ChangeAt Go.RowKit
attribute [local go_sem] alloc_drewN setCell_drewN

/-- A meter of one rate; one of two. -/
structure MO where
  r : Int
  n : Int
  f : Int
  a : Int
  b : Int
deriving DecidableEq
structure MT where
  s : Int
  q : Int
  n : Int
  f : Int
  a : Int
  b : Int
deriving DecidableEq
def MO.val (m : MO) : Value := .agg #[.int .u64 m.r, .int .u64 m.n, .int .u64 m.f, .int .u64 m.a, .int .u64 m.b]
def MT.val (m : MT) : Value := .agg #[.int .u64 m.s, .int .u64 m.q, .int .u64 m.n, .int .u64 m.f, .int .u64 m.a, .int .u64 m.b]
theorem mo_val (r n f a b : Int) : (MO.mk r n f a b).val = .agg #[.int .u64 r, .int .u64 n, .int .u64 f, .int .u64 a, .int .u64 b] := rfl
theorem mt_val (s q n f a b : Int) : (MT.mk s q n f a b).val = .agg #[.int .u64 s, .int .u64 q, .int .u64 n, .int .u64 f, .int .u64 a, .int .u64 b] := rfl
def MO.wd (m : MO) : Prop := (0 ≤ m.r ∧ m.r ≤ 18446744073709551615) ∧ (0 ≤ m.n ∧ m.n ≤ 18446744073709551615) ∧ (0 ≤ m.f ∧ m.f ≤ 18446744073709551615) ∧ (0 ≤ m.a ∧ m.a ≤ 18446744073709551615) ∧ 0 ≤ m.b ∧ m.b ≤ 18446744073709551615
def MT.wd (m : MT) : Prop := (0 ≤ m.s ∧ m.s ≤ 18446744073709551615) ∧ (0 ≤ m.q ∧ m.q ≤ 18446744073709551615) ∧ (0 ≤ m.n ∧ m.n ≤ 18446744073709551615) ∧ (0 ≤ m.f ∧ m.f ≤ 18446744073709551615) ∧ (0 ≤ m.a ∧ m.a ≤ 18446744073709551615) ∧ 0 ≤ m.b ∧ m.b ≤ 18446744073709551615
def moe (r n f : Int) : Int := if r = 0 then 27 else if n = 0 ∧ f = 0 then 28 else 0
def mte (s q n f : Int) : Int := if s = 0 then 27 else if q < s then 27 else if n = 0 then 28 else if f = 0 then 28 else 0
def MO.ok (m : MO) : Prop := moe m.r m.n m.f = 0 ∧ m.a ≤ m.n ∧ m.b ≤ m.f
def MT.ok (m : MT) : Prop := mte m.s m.q m.n m.f = 0 ∧ m.a ≤ m.n ∧ m.b ≤ m.f
instance (m : MO) : Decidable m.ok := inferInstanceAs (Decidable (_ ∧ _ ∧ _))
instance (m : MT) : Decidable m.ok := inferInstanceAs (Decidable (_ ∧ _ ∧ _))
/-- What the document's answer says of a meter. -/
def mor (r n f a b : Int) : Int := if r = 0 then 27 else if moe r n f = 0 ∧ a ≤ n ∧ b ≤ f then 0 else 28
def mtr (s q n f a b : Int) : Int := if s = 0 then 27 else if q < s then 27 else if mte s q n f = 0 ∧ a ≤ n ∧ b ≤ f then 0 else 28
theorem mor_ok {r n f a b : Int} : mor r n f a b = 0 ↔ MO.ok ⟨r, n, f, a, b⟩ := by
  unfold mor MO.ok
  dsimp only
  by_cases h : r = 0
  · subst h; rw [if_pos rfl]; unfold moe; rw [if_pos rfl]; omega
  · rw [if_neg h]
    by_cases k : moe r n f = 0 ∧ a ≤ n ∧ b ≤ f
    · rw [if_pos k]; exact ⟨fun _ => k, fun _ => rfl⟩
    · rw [if_neg k]; exact ⟨fun x => absurd x (by decide), fun x => absurd x k⟩
theorem mtr_ok {s q n f a b : Int} : mtr s q n f a b = 0 ↔ MT.ok ⟨s, q, n, f, a, b⟩ := by
  unfold mtr MT.ok
  dsimp only
  by_cases h : s = 0
  · subst h; rw [if_pos rfl]; unfold mte; rw [if_pos rfl]; omega
  · rw [if_neg h]
    by_cases h2 : q < s
    · rw [if_pos h2]; unfold mte; rw [if_neg h, if_pos h2]; omega
    · rw [if_neg h2]
      by_cases k : mte s q n f = 0 ∧ a ≤ n ∧ b ≤ f
      · rw [if_pos k]; exact ⟨fun _ => k, fun _ => rfl⟩
      · rw [if_neg k]; exact ⟨fun x => absurd x (by decide), fun x => absurd x k⟩
set_option maxRecDepth 100000 in
theorem mo_check (r n f a b : Int) (w : World) :
    Calls Try.prog 75 #[.agg #[.int .u64 r, .int .u64 n, .int .u64 f, .int .u64 a, .int .u64 b]] w fun e w' => e = .returned (.int .i64 (moe r n f)) ∧ w' = w.alloc (.cells #[.int .u64 r, .int .u64 n, .int .u64 f, .int .u64 a, .int .u64 b] 29) := by
  by_cases h0 : r = 0
  · have g0 : (r == 0) = true := by simp [h0]
    rw [show moe r n f = 27 from by unfold moe; rw [if_pos h0]]
    clear h0
    go_enter Try.func75, Try.ntmps75
    go_wp2
    go_ret
    exact ⟨rfl, rfl⟩
  · have g0 : (r == 0) = false := by simp [h0]
    by_cases h1 : n = 0
    · have g1 : (n == 0) = true := by simp [h1]
      by_cases h2 : f = 0
      · have g2 : (f == 0) = true := by simp [h2]
        rw [show moe r n f = 28 from by unfold moe; rw [if_neg h0, if_pos ⟨h1, h2⟩]]
        clear h0 h1 h2
        go_enter Try.func75, Try.ntmps75
        go_wp2
        go_ret
        exact ⟨rfl, rfl⟩
      · have g2 : (f == 0) = false := by simp [h2]
        rw [show moe r n f = 0 from by unfold moe; rw [if_neg h0, if_neg (fun x => h2 x.2)]]
        clear h0 h1 h2
        go_enter Try.func75, Try.ntmps75
        go_wp2
        go_ret
        exact ⟨rfl, rfl⟩
    · have g1 : (n == 0) = false := by simp [h1]
      rw [show moe r n f = 0 from by unfold moe; rw [if_neg h0, if_neg (fun x => h1 x.1)]]
      clear h0 h1
      go_enter Try.func75, Try.ntmps75
      go_wp2
      go_ret
      exact ⟨rfl, rfl⟩
set_option maxRecDepth 100000 in
theorem mt_check (s q n f a b : Int) (w : World) :
    Calls Try.prog 76 #[.agg #[.int .u64 s, .int .u64 q, .int .u64 n, .int .u64 f, .int .u64 a, .int .u64 b]] w fun e w' => e = .returned (.int .i64 (mte s q n f)) ∧ w' = w.alloc (.cells #[.int .u64 s, .int .u64 q, .int .u64 n, .int .u64 f, .int .u64 a, .int .u64 b] 34) := by
  by_cases h0 : s = 0
  · have g0 : (s == 0) = true := by simp [h0]
    rw [show mte s q n f = 27 from by unfold mte; rw [if_pos h0]]
    clear h0
    go_enter Try.func76, Try.ntmps76
    go_wp2
    go_ret
    exact ⟨rfl, rfl⟩
  · have g0 : (s == 0) = false := by simp [h0]
    by_cases h1 : q < s
    · have g1 : decide (q < s) = true := decide_eq_true h1
      rw [show mte s q n f = 27 from by unfold mte; rw [if_neg h0, if_pos h1]]
      clear h0 h1
      go_enter Try.func76, Try.ntmps76
      go_wp2
      go_ret
      exact ⟨rfl, rfl⟩
    · have g1 : decide (q < s) = false := decide_eq_false h1
      by_cases h2 : n = 0
      · have g2 : (n == 0) = true := by simp [h2]
        rw [show mte s q n f = 28 from by unfold mte; rw [if_neg h0, if_neg h1, if_pos h2]]
        clear h0 h1 h2
        go_enter Try.func76, Try.ntmps76
        go_wp2
        go_ret
        exact ⟨rfl, rfl⟩
      · have g2 : (n == 0) = false := by simp [h2]
        by_cases h3 : f = 0
        · have g3 : (f == 0) = true := by simp [h3]
          rw [show mte s q n f = 28 from by unfold mte; rw [if_neg h0, if_neg h1, if_neg h2, if_pos h3]]
          clear h0 h1 h2 h3
          go_enter Try.func76, Try.ntmps76
          go_wp2
          go_ret
          exact ⟨rfl, rfl⟩
        · have g3 : (f == 0) = false := by simp [h3]
          rw [show mte s q n f = 0 from by unfold mte; rw [if_neg h0, if_neg h1, if_neg h2, if_neg h3]]
          clear h0 h1 h2 h3
          go_enter Try.func76, Try.ntmps76
          go_wp2
          go_ret
          exact ⟨rfl, rfl⟩
set_option maxRecDepth 100000 in
theorem mo_rmay (r n f a b : Int) (w : World) :
    Calls Try.prog 13 #[.agg #[.int .u64 r, .int .u64 n, .int .u64 f, .int .u64 a, .int .u64 b]] w fun e w' => e = .returned (.int .i64 (mor r n f a b)) ∧ w' = w.alloc (.cells #[.int .u64 r, .int .u64 n, .int .u64 f, .int .u64 a, .int .u64 b] 24) := by
  by_cases h0 : r = 0
  · have g0 : (r == 0) = true := by simp [h0]
    rw [show mor r n f a b = 27 from by unfold mor; rw [if_pos h0]]
    clear h0
    go_enter Try.func13, Try.ntmps13
    go_wp2
    go_ret
    exact ⟨rfl, rfl⟩
  · have g0 : (r == 0) = false := by simp [h0]
    by_cases h1 : n = 0
    · have g1 : (n == 0) = true := by simp [h1]
      by_cases h2 : f = 0
      · have g2 : (f == 0) = true := by simp [h2]
        rw [show mor r n f a b = 28 from by unfold mor moe; rw [if_neg h0, if_neg (fun x => by have := x.1; rw [if_neg h0, if_pos ⟨h1, h2⟩] at this; omega)]]
        clear h0 h1 h2
        go_enter Try.func13, Try.ntmps13
        go_wp2
        go_ret
        exact ⟨rfl, rfl⟩
      · have g2 : (f == 0) = false := by simp [h2]
        by_cases h3 : n < a
        · have g3 : decide (n < a) = true := decide_eq_true h3
          rw [show mor r n f a b = 28 from by unfold mor; rw [if_neg h0, if_neg (fun x => absurd x.2.1 (by omega))]]
          clear h0 h1 h2 h3
          go_enter Try.func13, Try.ntmps13
          go_wp2
          go_ret
          exact ⟨rfl, rfl⟩
        · have g3 : decide (n < a) = false := decide_eq_false h3
          by_cases h4 : f < b
          · have g4 : decide (f < b) = true := decide_eq_true h4
            rw [show mor r n f a b = 28 from by unfold mor; rw [if_neg h0, if_neg (fun x => absurd x.2.2 (by omega))]]
            clear h0 h1 h2 h3 h4
            go_enter Try.func13, Try.ntmps13
            go_wp2
            go_ret
            exact ⟨rfl, rfl⟩
          · have g4 : decide (f < b) = false := decide_eq_false h4
            rw [show mor r n f a b = 0 from by unfold mor; rw [if_neg h0, if_pos ⟨by unfold moe; rw [if_neg h0, if_neg (fun x => h2 x.2)], by omega, by omega⟩]]
            clear h0 h1 h2 h3 h4
            go_enter Try.func13, Try.ntmps13
            go_wp2
            go_ret
            exact ⟨rfl, rfl⟩
    · have g1 : (n == 0) = false := by simp [h1]
      by_cases h2 : n < a
      · have g2 : decide (n < a) = true := decide_eq_true h2
        rw [show mor r n f a b = 28 from by unfold mor; rw [if_neg h0, if_neg (fun x => absurd x.2.1 (by omega))]]
        clear h0 h1 h2
        go_enter Try.func13, Try.ntmps13
        go_wp2
        go_ret
        exact ⟨rfl, rfl⟩
      · have g2 : decide (n < a) = false := decide_eq_false h2
        by_cases h3 : f < b
        · have g3 : decide (f < b) = true := decide_eq_true h3
          rw [show mor r n f a b = 28 from by unfold mor; rw [if_neg h0, if_neg (fun x => absurd x.2.2 (by omega))]]
          clear h0 h1 h2 h3
          go_enter Try.func13, Try.ntmps13
          go_wp2
          go_ret
          exact ⟨rfl, rfl⟩
        · have g3 : decide (f < b) = false := decide_eq_false h3
          rw [show mor r n f a b = 0 from by unfold mor; rw [if_neg h0, if_pos ⟨by unfold moe; rw [if_neg h0, if_neg (fun x => h1 x.1)], by omega, by omega⟩]]
          clear h0 h1 h2 h3
          go_enter Try.func13, Try.ntmps13
          go_wp2
          go_ret
          exact ⟨rfl, rfl⟩
set_option maxRecDepth 100000 in
theorem mt_rmay (s q n f a b : Int) (w : World) :
    Calls Try.prog 15 #[.agg #[.int .u64 s, .int .u64 q, .int .u64 n, .int .u64 f, .int .u64 a, .int .u64 b]] w fun e w' => e = .returned (.int .i64 (mtr s q n f a b)) ∧ w' = w.alloc (.cells #[.int .u64 s, .int .u64 q, .int .u64 n, .int .u64 f, .int .u64 a, .int .u64 b] 26) := by
  by_cases h0 : s = 0
  · have g0 : (s == 0) = true := by simp [h0]
    rw [show mtr s q n f a b = 27 from by unfold mtr; rw [if_pos h0]]
    clear h0
    go_enter Try.func15, Try.ntmps15
    go_wp2
    go_ret
    exact ⟨rfl, rfl⟩
  · have g0 : (s == 0) = false := by simp [h0]
    by_cases h1 : q < s
    · have g1 : decide (q < s) = true := decide_eq_true h1
      rw [show mtr s q n f a b = 27 from by unfold mtr; rw [if_neg h0, if_pos h1]]
      clear h0 h1
      go_enter Try.func15, Try.ntmps15
      go_wp2
      go_ret
      exact ⟨rfl, rfl⟩
    · have g1 : decide (q < s) = false := decide_eq_false h1
      by_cases h2 : n = 0
      · have g2 : (n == 0) = true := by simp [h2]
        rw [show mtr s q n f a b = 28 from by unfold mtr mte; rw [if_neg h0, if_neg h1, if_neg (fun x => by have := x.1; rw [if_neg h0, if_neg h1, if_pos h2] at this; omega)]]
        clear h0 h1 h2
        go_enter Try.func15, Try.ntmps15
        go_wp2
        go_ret
        exact ⟨rfl, rfl⟩
      · have g2 : (n == 0) = false := by simp [h2]
        by_cases h3 : f = 0
        · have g3 : (f == 0) = true := by simp [h3]
          rw [show mtr s q n f a b = 28 from by unfold mtr mte; rw [if_neg h0, if_neg h1, if_neg (fun x => by have := x.1; rw [if_neg h0, if_neg h1, if_neg h2, if_pos h3] at this; omega)]]
          clear h0 h1 h2 h3
          go_enter Try.func15, Try.ntmps15
          go_wp2
          go_ret
          exact ⟨rfl, rfl⟩
        · have g3 : (f == 0) = false := by simp [h3]
          by_cases h4 : n < a
          · have g4 : decide (n < a) = true := decide_eq_true h4
            rw [show mtr s q n f a b = 28 from by unfold mtr; rw [if_neg h0, if_neg h1, if_neg (fun x => absurd x.2.1 (by omega))]]
            clear h0 h1 h2 h3 h4
            go_enter Try.func15, Try.ntmps15
            go_wp2
            go_ret
            exact ⟨rfl, rfl⟩
          · have g4 : decide (n < a) = false := decide_eq_false h4
            by_cases h5 : f < b
            · have g5 : decide (f < b) = true := decide_eq_true h5
              rw [show mtr s q n f a b = 28 from by unfold mtr; rw [if_neg h0, if_neg h1, if_neg (fun x => absurd x.2.2 (by omega))]]
              clear h0 h1 h2 h3 h4 h5
              go_enter Try.func15, Try.ntmps15
              go_wp2
              go_ret
              exact ⟨rfl, rfl⟩
            · have g5 : decide (f < b) = false := decide_eq_false h5
              rw [show mtr s q n f a b = 0 from by unfold mtr mte; rw [if_neg h0, if_neg h1, if_pos ⟨by rw [if_neg h0, if_neg h1, if_neg h2, if_neg h3], by omega, by omega⟩]]
              clear h0 h1 h2 h3 h4 h5
              go_enter Try.func15, Try.ntmps15
              go_wp2
              go_ret
              exact ⟨rfl, rfl⟩
set_option maxRecDepth 100000 in
theorem mo_valid (r n f a b : Int) (w : World) :
    Calls Try.prog 77 #[.agg #[.int .u64 r, .int .u64 n, .int .u64 f, .int .u64 a, .int .u64 b]] w fun e w' => e = .returned (.bool (decide (MO.ok ⟨r, n, f, a, b⟩))) ∧ Below w.heap.size w w' := by
  have CK := Lib.hid (fun W => mo_check r n f a b W)
  obtain ⟨c, e⟩ : ∃ c, c = moe r n f := ⟨_, rfl⟩
  rw [← e] at CK
  by_cases hc : c = 0
  · by_cases ha : a ≤ n
    · by_cases hb : b ≤ f
      · rw [decide_eq_true (show MO.ok ⟨r, n, f, a, b⟩ from ⟨e ▸ hc, ha, hb⟩)]
        have g1 : decide (a ≤ n) = true := decide_eq_true ha
        have g2 : decide (b ≤ f) = true := decide_eq_true hb
        have g3 : (c == 0) = true := by simp [hc]
        clear hc ha hb e
        go_enter Try.func77, Try.ntmps77
        go_wp2_with fail
        refine (CK.out _).mono ?_
        rintro e w2 ⟨rfl, rfl⟩
        go_wp2
        go_ret
        exact ⟨rfl, by (repeat' (first | exact Below.refl _ _ | (with_reducible assumption) | refine below_drewN _ ?_ | refine Below.drew ?_ | refine Below.setCell ?_ (by simp) _ | refine Below.alloc ?_ (by simp; try omega) _))⟩
      · rw [decide_eq_false (show ¬ MO.ok ⟨r, n, f, a, b⟩ from fun x => hb x.2.2)]
        have g1 : decide (a ≤ n) = true := decide_eq_true ha
        have g2 : decide (b ≤ f) = false := decide_eq_false hb
        have g3 : (c == 0) = true := by simp [hc]
        clear hc ha hb e
        go_enter Try.func77, Try.ntmps77
        go_wp2_with fail
        refine (CK.out _).mono ?_
        rintro e w2 ⟨rfl, rfl⟩
        go_wp2
        go_ret
        exact ⟨rfl, by (repeat' (first | exact Below.refl _ _ | (with_reducible assumption) | refine below_drewN _ ?_ | refine Below.drew ?_ | refine Below.setCell ?_ (by simp) _ | refine Below.alloc ?_ (by simp; try omega) _))⟩
    · rw [decide_eq_false (show ¬ MO.ok ⟨r, n, f, a, b⟩ from fun x => ha x.2.1)]
      have g1 : decide (a ≤ n) = false := decide_eq_false ha
      have g3 : (c == 0) = true := by simp [hc]
      clear hc ha e
      go_enter Try.func77, Try.ntmps77
      go_wp2_with fail
      refine (CK.out _).mono ?_
      rintro e w2 ⟨rfl, rfl⟩
      go_wp2
      go_ret
      exact ⟨rfl, by (repeat' (first | exact Below.refl _ _ | (with_reducible assumption) | refine below_drewN _ ?_ | refine Below.drew ?_ | refine Below.setCell ?_ (by simp) _ | refine Below.alloc ?_ (by simp; try omega) _))⟩
  · rw [decide_eq_false (show ¬ MO.ok ⟨r, n, f, a, b⟩ from fun x => hc (e.trans x.1))]
    have g3 : (c == 0) = false := by simp [hc]
    clear hc e
    go_enter Try.func77, Try.ntmps77
    go_wp2_with fail
    refine (CK.out _).mono ?_
    rintro e w2 ⟨rfl, rfl⟩
    go_wp2
    go_ret
    exact ⟨rfl, by (repeat' (first | exact Below.refl _ _ | (with_reducible assumption) | refine below_drewN _ ?_ | refine Below.drew ?_ | refine Below.setCell ?_ (by simp) _ | refine Below.alloc ?_ (by simp; try omega) _))⟩
set_option maxRecDepth 100000 in
theorem mt_valid (s q n f a b : Int) (w : World) :
    Calls Try.prog 81 #[.agg #[.int .u64 s, .int .u64 q, .int .u64 n, .int .u64 f, .int .u64 a, .int .u64 b]] w fun e w' => e = .returned (.bool (decide (MT.ok ⟨s, q, n, f, a, b⟩))) ∧ Below w.heap.size w w' := by
  have CK := Lib.hid (fun W => mt_check s q n f a b W)
  obtain ⟨c, e⟩ : ∃ c, c = mte s q n f := ⟨_, rfl⟩
  rw [← e] at CK
  by_cases hc : c = 0
  · by_cases ha : a ≤ n
    · by_cases hb : b ≤ f
      · rw [decide_eq_true (show MT.ok ⟨s, q, n, f, a, b⟩ from ⟨e ▸ hc, ha, hb⟩)]
        have g1 : decide (a ≤ n) = true := decide_eq_true ha
        have g2 : decide (b ≤ f) = true := decide_eq_true hb
        have g3 : (c == 0) = true := by simp [hc]
        clear hc ha hb e
        go_enter Try.func81, Try.ntmps81
        go_wp2_with fail
        refine (CK.out _).mono ?_
        rintro e w2 ⟨rfl, rfl⟩
        go_wp2
        go_ret
        exact ⟨rfl, by (repeat' (first | exact Below.refl _ _ | (with_reducible assumption) | refine below_drewN _ ?_ | refine Below.drew ?_ | refine Below.setCell ?_ (by simp) _ | refine Below.alloc ?_ (by simp; try omega) _))⟩
      · rw [decide_eq_false (show ¬ MT.ok ⟨s, q, n, f, a, b⟩ from fun x => hb x.2.2)]
        have g1 : decide (a ≤ n) = true := decide_eq_true ha
        have g2 : decide (b ≤ f) = false := decide_eq_false hb
        have g3 : (c == 0) = true := by simp [hc]
        clear hc ha hb e
        go_enter Try.func81, Try.ntmps81
        go_wp2_with fail
        refine (CK.out _).mono ?_
        rintro e w2 ⟨rfl, rfl⟩
        go_wp2
        go_ret
        exact ⟨rfl, by (repeat' (first | exact Below.refl _ _ | (with_reducible assumption) | refine below_drewN _ ?_ | refine Below.drew ?_ | refine Below.setCell ?_ (by simp) _ | refine Below.alloc ?_ (by simp; try omega) _))⟩
    · rw [decide_eq_false (show ¬ MT.ok ⟨s, q, n, f, a, b⟩ from fun x => ha x.2.1)]
      have g1 : decide (a ≤ n) = false := decide_eq_false ha
      have g3 : (c == 0) = true := by simp [hc]
      clear hc ha e
      go_enter Try.func81, Try.ntmps81
      go_wp2_with fail
      refine (CK.out _).mono ?_
      rintro e w2 ⟨rfl, rfl⟩
      go_wp2
      go_ret
      exact ⟨rfl, by (repeat' (first | exact Below.refl _ _ | (with_reducible assumption) | refine below_drewN _ ?_ | refine Below.drew ?_ | refine Below.setCell ?_ (by simp) _ | refine Below.alloc ?_ (by simp; try omega) _))⟩
  · rw [decide_eq_false (show ¬ MT.ok ⟨s, q, n, f, a, b⟩ from fun x => hc (e.trans x.1))]
    have g3 : (c == 0) = false := by simp [hc]
    clear hc e
    go_enter Try.func81, Try.ntmps81
    go_wp2_with fail
    refine (CK.out _).mono ?_
    rintro e w2 ⟨rfl, rfl⟩
    go_wp2
    go_ret
    exact ⟨rfl, by (repeat' (first | exact Below.refl _ _ | (with_reducible assumption) | refine below_drewN _ ?_ | refine Below.drew ?_ | refine Below.setCell ?_ (by simp) _ | refine Below.alloc ?_ (by simp; try omega) _))⟩
end Go.Proofs.Ytmkgadndfiiacaa
