/-
  The law on a gate and the document's answer: true for any plan. No condition.
-/
import Derived.Test.YtmkgadndfiiacaaGt14
import Derived.Test.YtmkgadndfiiacaaGt16
import Derived.Test.YtmkgadndfiiacaaGt17
import Derived.Deep.CutBlock
import Derived.Deep.DeepCutAuto
namespace Go.Proofs.Ytmkgadndfiiacaa
set_option linter.unusedVariables false
set_option linter.unusedSimpArgs false
open Go.ChangeShapes Go.WideShapes Go.ChangeAt Go.RowKit
attribute [local go_sem] alloc_drewN setCell_drewN

theorem same_below {P : Program} {f : FuncId} {args : Array Value} {w : World} {r : Ending} (h : Calls P f args w fun e w' => e = r ∧ w' = w) : Calls P f args w fun e w' => e = r ∧ Below w.heap.size w w' :=
  h.mono fun e w' h => ⟨h.1, by rw [h.2]; exact Below.refl _ w⟩
theorem all_opj {fs : List Slot22} {n k0 : Nat} {t : Int} {cl : Nat} (hk : InSlot fs n t k0) (hao : AllOpen fs n cl) (i : Nat) : opj fs n k0 t cl i = true := by
  rw [opj_is hk.1]
  exact hao _ (Nat.mod_lt _ (by have := hk.1; omega))
theorem all_stays {fs : List Slot22} {n k0 : Nat} {t : Int} {cl : Nat} (hok : PlanOk fs n) (hk : InSlot fs n t k0) (hao : AllOpen fs n cl) : ∃ j, StaysIs fs n k0 t cl (spans fs n) j 0 false := by
  obtain ⟨j, v, b, h⟩ := stays_ex (cl := cl) hok hk (spans fs n)
  rcases h with ⟨h1, ⟨h2, -⟩ | ⟨h2, h3, h4, h5⟩⟩
  · rw [all_opj hk hao] at h2; cases h2
  · exact ⟨j, h1, Or.inr ⟨h2, h3, rfl, rfl⟩⟩
theorem st_all {fs : List Slot22} {n k0 : Nat} {t : Int} {cl : Nat} (hk : InSlot fs n t k0) (hao : AllOpen fs n cl) : ∀ j, (st22 fs n k0 t cl j).1 = 0
  | 0 => rfl
  | j + 1 => by
    simp only [st22, all_opj hk hao, if_true]
    exact st_all hk hao j
theorem all_next {fs : List Slot22} {n k0 : Nat} {t : Int} {cl : Nat} {E : Int} (hok : PlanOk fs n) (hk : InSlot fs n t k0) (hao : AllOpen fs n cl) (hR : 0 < spans fs n) (hE : 0 < E) : ∃ j, NextIs fs n k0 t cl (spans fs n) E j true 0 := by
  obtain ⟨j, b, g, h⟩ := next_ex (cl := cl) hok hk (spans fs n) E hR hE
  rcases h with ⟨h1, ⟨h2, h3, h4, h5⟩ | ⟨h2, h3, h4, h5⟩⟩
  · exact ⟨j, h1, Or.inl ⟨h2, h3, rfl, (st_all hk hao j).symm⟩⟩
  · rw [st_all hk hao] at h3; omega
theorem no_stays {fs : List Slot22} {n k0 : Nat} {t : Int} {cl : Nat} (hok : PlanOk fs n) (hk : InSlot fs n t k0) (t0 : 0 ≤ t) (hno : ¬ AllOpen fs n cl) : ∃ j v, StaysIs fs n k0 t cl (spans fs n) j v true := by
  obtain ⟨j, v, b, h⟩ := stays_ex (cl := cl) hok hk (spans fs n)
  rcases h with ⟨h1, ⟨h2, h3, h4⟩ | ⟨h2, h3, h4, h5⟩⟩
  · exact ⟨j, v, h1, Or.inl ⟨h2, h3, rfl⟩⟩
  · exfalso
    have h6 := run_lt hok hk hno (Nat.zero_le (j + 1)) (fun y _ g2 => by
      by_cases e : y = j
      · rw [e]; exact h2
      · exact (h1 y (by omega)).1)
    simp only [pos22] at h6 h3
    omega
theorem rnext22 {w : World} {a : Option Addr} {n : Nat} {fs : List Slot22} (hr : RowSl w a n fs) (c : Nat) (hok : PlanOk fs n) (cl : Nat) (hcl : cl ≤ 7) (t : Int) (t0 : 0 ≤ t) (t1 : t ≤ 9223372036854775808) (need : Int) (need0 : 0 ≤ need) (need1 : need ≤ 18446744073709551615) {k0 : Nat} (hk : InSlot fs n (t % spans fs n) k0)
    (hno : ¬ AllOpen fs n cl) {top : Nat} {v : Int} {ok : Bool} (hlt : ∀ i, i < top → ∃ c, Wit fs n k0 (t % spans fs n) cl i c ∧ pos22 fs n k0 (t % spans fs n) c - pos22 fs n k0 (t % spans fs n) i < max need 1)
    (htop : (top ≤ n ∧ (∃ c, Wit fs n k0 (t % spans fs n) cl top c ∧ max need 1 ≤ pos22 fs n k0 (t % spans fs n) c - pos22 fs n k0 (t % spans fs n) top) ∧ v = t + pos22 fs n k0 (t % spans fs n) top ∧ ok = decide (t + pos22 fs n k0 (t % spans fs n) top ≤ 9223372036854775808)) ∨ (top = n + 1 ∧ v = 0 ∧ ok = false)) :
    Calls Try.prog 36 #[.slice a n c, .int .i64 cl, .int .u64 t, .int .u64 need] w fun e w' => e = .returned (.tuple #[.int .u64 v, .bool ok]) ∧ w' = w := by
  by_cases hz : need = 0
  · rw [show max need 1 = 1 by omega] at hlt htop
    exact rnext22_z hr c hok cl hcl t t0 t1 need need0 need1 hk hno hz hlt htop
  · rw [show max need 1 = need by omega] at hlt htop
    exact rnext22_p hr c hok cl hcl t t0 t1 need need0 need1 hk hno hz hlt htop
set_option maxRecDepth 100000 in
theorem plays22_a (a : Option Addr) (n c : Nat) (fs : List Slot22) {w : World} (hr : RowSl w a n fs) (hcap : n ≤ c) (cl : Int) (cl0 : -9223372036854775808 ≤ cl) (cl1 : cl ≤ 9223372036854775807) (at_ : Int) (at0 : 0 ≤ at_) (at1 : at_ ≤ 18446744073709551615) (need : Int) (need0 : 0 ≤ need) (need1 : need ≤ 18446744073709551615) (hn : 100 < n) :
    Calls Try.prog 4 #[.slice a n c, .agg #[.int .i64 cl, .int .u64 at_, .int .u64 need]] w fun e w' => e = .returned (.bool true) ∧ Below w.heap.size w w' := by
  have LV := Lib.hid (fun (W : World) (h : Below w.heap.size w W) => lives22 W)
  have g100 : (100 : Int) < n := by omega
  go_enter Try.func4, Try.ntmps4
  go_wp2_with fail
  go_quiet (fail)
  obtain ⟨W1, hW1⟩ : ∃ W1, W1 = (w.alloc (.cells #[.int .i64 cl, .int .u64 at_, .int .u64 need] 55)).drewN nq := ⟨_, rfl⟩
  have hb1 : Below w.heap.size w W1 := by rw [hW1]; exact below_drewN _ ((Below.refl _ w).alloc (Nat.le_refl _) _)
  rw [← hW1]
  clear hW1
  have HB1 := Lib.hid hb1
  clear hb1
  go_wp2_with fail
  refine (LV.out _ HB1.out).mono ?_
  rintro e W2 ⟨rfl, hb2⟩
  have HB2 := Lib.hid (HB1.out.trans (hb2.mono HB1.out.size))
  clear hb2
  go_wp2
  go_ret
  exact ⟨rfl, HB2.out⟩
set_option maxRecDepth 100000 in
set_option maxHeartbeats 2000000 in
theorem plays22_b (a : Option Addr) (n c : Nat) (fs : List Slot22) {w : World} (hr : RowSl w a n fs) (hcap : n ≤ c) (cl : Int) (cl0 : -9223372036854775808 ≤ cl) (cl1 : cl ≤ 9223372036854775807) (at_ : Int) (at0 : 0 ≤ at_) (at1 : at_ ≤ 18446744073709551615) (need : Int) (need0 : 0 ≤ need) (need1 : need ≤ 18446744073709551615) (hn : n ≤ 100) (hok : ¬ PlanOk fs n) :
    Calls Try.prog 4 #[.slice a n c, .agg #[.int .i64 cl, .int .u64 at_, .int .u64 need]] w fun e w' => e = .returned (.bool true) ∧ Below w.heap.size w w' := by
  have g100 : ¬ (100 : Int) < n := by omega
  have hm : ¬ (PlanOk fs n ∧ 0 ≤ cl ∧ cl ≤ 7) := fun h => hok h.1
  have RM := Lib.hid (fun (W : World) (h : Below w.heap.size w W) => (same_below (by have h1 := rmay22 (hr.below h) c; rw [decide_eq_false hok] at h1; exact h1) : Calls Try.prog 25 #[.slice a n c] W fun e w' => e = .returned (.bool false) ∧ Below W.heap.size W w'))
  have GC := Lib.hid (fun (W : World) (h : Below w.heap.size w W) => (by have h1 := gcheck22 (hr.below h) c; rw [if_neg hok] at h1; exact h1 : Calls Try.prog 26 #[.slice a n c] W fun e w' => e = .returned (.int .i64 6) ∧ Below W.heap.size W w'))
  have MY := Lib.hid (fun (W : World) (h : Below w.heap.size w W) => (same_below (by have h1 := may22 (hr.below h) c cl; rw [decide_eq_false (show ¬ (PlanOk fs n ∧ 0 ≤ cl ∧ cl ≤ 7) from hm)] at h1; exact h1) : Calls Try.prog 29 #[.slice a n c, .int .i64 cl] W fun e w' => e = .returned (.bool false) ∧ Below W.heap.size W w'))
  have LV := Lib.hid (fun (W : World) (h : Below w.heap.size w W) => lives22 W)
  have SA := Lib.hid (fun (W : World) (h : Below w.heap.size w W) => (by
      by_cases hcl : 0 ≤ cl ∧ cl ≤ 7
      · have h1 := gstays22_no (c := c) (hr.below h) hok cl.toNat (by omega) at_
        rw [show ((cl.toNat : Nat) : Int) = cl by omega] at h1
        exact h1
      · exact gstays22_nc a n c cl hcl at_ W : Calls Try.prog 27 #[.slice a n c, .int .i64 cl, .int .u64 at_] W fun e w' => e = .returned (.tuple #[.int .u64 0, .bool false]) ∧ Below W.heap.size W w'))
  have NA := Lib.hid (fun (W : World) (h : Below w.heap.size w W) => (by
      by_cases hcl : 0 ≤ cl ∧ cl ≤ 7
      · by_cases hl : 9223372036854775808 < at_
        · exact gnext22_late a n c cl hcl at_ need hl W
        · have h1 := gnext22_no (c := c) (hr.below h) hok cl.toNat (by omega) at_ (by omega) need
          rw [show ((cl.toNat : Nat) : Int) = cl by omega] at h1
          exact h1
      · exact gnext22_nc a n c cl hcl at_ need W : Calls Try.prog 28 #[.slice a n c, .int .i64 cl, .int .u64 at_, .int .u64 need] W fun e w' => e = .returned (.tuple #[.int .u64 0, .bool false]) ∧ Below W.heap.size W w'))
  have RD := Lib.hid (fun (W : World) (h : Below w.heap.size w W) => (ground22_no (hr.below h) c hok : Calls Try.prog 30 #[.slice a n c] W fun e w' => e = .returned (.int .u64 0) ∧ Below W.heap.size W w'))
  have OA := Lib.hid (fun (W : World) (h : Below w.heap.size w W) => (gopen22_no (hr.below h) hok at_ : Calls Try.prog 31 #[.slice a n c, .int .u64 at_] W fun e w' => e = .returned (.int .u8 0) ∧ Below W.heap.size W w'))
  clear hr hok hm
  go_enter Try.func4, Try.ntmps4
  go_wp2_with fail
  go_quiet (fail)
  obtain ⟨W1, hW1⟩ : ∃ W1, W1 = (w.alloc (.cells #[.int .i64 cl, .int .u64 at_, .int .u64 need] 55)).drewN nq := ⟨_, rfl⟩
  have hb1 : Below w.heap.size w W1 := by rw [hW1]; exact below_drewN _ ((Below.refl _ w).alloc (Nat.le_refl _) _)
  rw [← hW1]
  clear hW1
  have HB1 := Lib.hid hb1
  clear hb1
  go_wp2_with fail
  refine (RM.out _ HB1.out).mono ?_
  rintro e W2 ⟨rfl, hb2⟩
  have HB2 := Lib.hid (HB1.out.trans (hb2.mono HB1.out.size))
  clear hb2
  go_wp2_with fail
  refine (GC.out _ HB2.out).mono ?_
  rintro e W3 ⟨rfl, hb3⟩
  have HB3 := Lib.hid (HB2.out.trans (hb3.mono HB2.out.size))
  clear hb3
  go_wp2_with fail
  refine (RM.out _ HB3.out).mono ?_
  rintro e W4 ⟨rfl, hb4⟩
  have HB4 := Lib.hid (HB3.out.trans (hb4.mono HB3.out.size))
  clear hb4
  go_wp2_with fail
  refine (GC.out _ HB4.out).mono ?_
  rintro e W5 ⟨rfl, hb5⟩
  have HB5 := Lib.hid (HB4.out.trans (hb5.mono HB4.out.size))
  clear hb5
  go_wp2_with fail
  refine (SA.out _ HB5.out).mono ?_
  rintro e W6 ⟨rfl, hb6⟩
  have HB6 := Lib.hid (HB5.out.trans (hb6.mono HB5.out.size))
  clear hb6
  go_wp2_with fail
  refine (NA.out _ HB6.out).mono ?_
  rintro e W7 ⟨rfl, hb7⟩
  have HB7 := Lib.hid (HB6.out.trans (hb7.mono HB6.out.size))
  clear hb7
  go_wp2_with fail
  refine (MY.out _ HB7.out).mono ?_
  rintro e W8 ⟨rfl, hb8⟩
  have HB8 := Lib.hid (HB7.out.trans (hb8.mono HB7.out.size))
  clear hb8
  go_wp2_with fail
  refine (RM.out _ HB8.out).mono ?_
  rintro e W9 ⟨rfl, hb9⟩
  have HB9 := Lib.hid (HB8.out.trans (hb9.mono HB8.out.size))
  clear hb9
  go_wp2_with fail
  refine (RD.out _ HB9.out).mono ?_
  rintro e W10 ⟨rfl, hb10⟩
  have HB10 := Lib.hid (HB9.out.trans (hb10.mono HB9.out.size))
  clear hb10
  go_wp2_with fail
  refine (OA.out _ HB10.out).mono ?_
  rintro e W11 ⟨rfl, hb11⟩
  have HB11 := Lib.hid (HB10.out.trans (hb11.mono HB10.out.size))
  clear hb11
  go_wp2_with fail
  refine (LV.out _ HB11.out).mono ?_
  rintro e W12 ⟨rfl, hb12⟩
  have HB12 := Lib.hid (HB11.out.trans (hb12.mono HB11.out.size))
  clear hb12
  go_wp2
  go_ret
  exact ⟨rfl, HB12.out⟩
set_option maxRecDepth 100000 in
set_option maxHeartbeats 4000000 in
theorem plays22_c (a : Option Addr) (n c : Nat) (fs : List Slot22) {w : World} (hr : RowSl w a n fs) (hcap : n ≤ c) (cl : Int) (cl0 : -9223372036854775808 ≤ cl) (cl1 : cl ≤ 9223372036854775807) (at_ : Int) (at0 : 0 ≤ at_) (at1 : at_ ≤ 18446744073709551615) (need : Int) (need0 : 0 ≤ need) (need1 : need ≤ 18446744073709551615) (hok : PlanOk fs n) (hcl : ¬ (0 ≤ cl ∧ cl ≤ 7)) :
    Calls Try.prog 4 #[.slice a n c, .agg #[.int .i64 cl, .int .u64 at_, .int .u64 need]] w fun e w' => e = .returned (.bool true) ∧ Below w.heap.size w w' := by
  have g100 : ¬ (100 : Int) < n := by have := hok.1.2; omega
  have hm : ¬ (PlanOk fs n ∧ 0 ≤ cl ∧ cl ≤ 7) := fun h => hcl h.2
  obtain ⟨rp0, rp1⟩ := round_pos hok
  obtain ⟨k0, hk0⟩ := slot_is (fs := fs) (t := at_ % spans fs n) (Int.emod_nonneg _ (by omega)) (n := n) (Int.emod_lt_of_pos _ (by omega))
  obtain ⟨b, off, ea, hlt, -⟩ := hr.atS (Below.refl _ _) k0 hk0.1
  have CEL := Lib.hid (fun (W : World) (h : Below w.heap.size w W) => (hr.atS h k0 hk0.1))
  have RM := Lib.hid (fun (W : World) (h : Below w.heap.size w W) => (same_below (by have h1 := rmay22 (hr.below h) c; rw [decide_eq_true hok] at h1; exact h1) : Calls Try.prog 25 #[.slice a n c] W fun e w' => e = .returned (.bool true) ∧ Below W.heap.size W w'))
  have GC := Lib.hid (fun (W : World) (h : Below w.heap.size w W) => (by have h1 := gcheck22 (hr.below h) c; rw [if_pos hok] at h1; exact h1 : Calls Try.prog 26 #[.slice a n c] W fun e w' => e = .returned (.int .i64 0) ∧ Below W.heap.size W w'))
  have MY := Lib.hid (fun (W : World) (h : Below w.heap.size w W) => (same_below (by have h1 := may22 (hr.below h) c cl; rw [decide_eq_false (show ¬ (PlanOk fs n ∧ 0 ≤ cl ∧ cl ≤ 7) from hm)] at h1; exact h1) : Calls Try.prog 29 #[.slice a n c, .int .i64 cl] W fun e w' => e = .returned (.bool false) ∧ Below W.heap.size W w'))
  have LV := Lib.hid (fun (W : World) (h : Below w.heap.size w W) => lives22 W)
  have SA := Lib.hid (fun (W : World) (h : Below w.heap.size w W) => (gstays22_nc a n c cl hcl at_ W : Calls Try.prog 27 #[.slice a n c, .int .i64 cl, .int .u64 at_] W fun e w' => e = .returned (.tuple #[.int .u64 0, .bool false]) ∧ Below W.heap.size W w'))
  have NA := Lib.hid (fun (W : World) (h : Below w.heap.size w W) => (gnext22_nc a n c cl hcl at_ need W : Calls Try.prog 28 #[.slice a n c, .int .i64 cl, .int .u64 at_, .int .u64 need] W fun e w' => e = .returned (.tuple #[.int .u64 0, .bool false]) ∧ Below W.heap.size W w'))
  have RD := Lib.hid (fun (W : World) (h : Below w.heap.size w W) => (ground22 (hr.below h) c hok : Calls Try.prog 30 #[.slice a n c] W fun e w' => e = .returned (.int .u64 (spans fs n)) ∧ Below W.heap.size W w'))
  have RR := Lib.hid (fun (W : World) (h : Below w.heap.size w W) => (same_below (rround22 (hr.below h) c hok) : Calls Try.prog 33 #[.slice a n c] W fun e w' => e = .returned (.int .u64 (spans fs n)) ∧ Below W.heap.size W w'))
  have SLT := Lib.hid (fun (W : World) (h : Below w.heap.size w W) => (same_below (rslot22 (hr.below h) c hok at_ at0 at1 hk0) : Calls Try.prog 32 #[.slice a n c, .int .u64 at_] W fun e w' => e = .returned (.tuple #[.int .i64 k0, .int .u64 (spans fs (k0 + 1))]) ∧ Below W.heap.size W w'))
  have OA := Lib.hid (fun (W : World) (h : Below w.heap.size w W) => (gopen22 (hr.below h) hok at_ at0 at1 hk0 : Calls Try.prog 31 #[.slice a n c, .int .u64 at_] W fun e w' => e = .returned (.int .u8 (slotN fs k0).o) ∧ Below W.heap.size W w'))
  obtain ⟨R, hR⟩ : ∃ R, spans fs n = R := ⟨_, rfl⟩
  obtain ⟨o, ho⟩ : ∃ o, (slotN fs k0).o = o := ⟨_, rfl⟩
  obtain ⟨E, hE⟩ : ∃ E, spans fs (k0 + 1) = E := ⟨_, rfl⟩
  simp only [hR] at RD RR
  simp only [ho] at OA CEL
  simp only [hE] at SLT
  have z0 : (0 : Int) ≤ k0 := by omega
  have z1 : (k0 : Int) < n := by have := hk0.1; omega
  have S0 := Lib.hid (fun (v : World) (h : Below w.heap.size w v) => (by obtain ⟨b', off', e', hl', ce, -⟩ := CEL.out v h; rw [ea] at e'; injection e' with e'; injection e' with e1 e2 e3; subst e1 e2; exact ⟨ce, h⟩ : (v.cell? ⟨b, off + k0 * 2, none⟩ = some (.int .u8 o) ∧ Below w.heap.size w v)))
  subst ea
  clear hr hok hm hk0 CEL ho hE hR
  go_enter Try.func4, Try.ntmps4
  go_wp2_with fail
  go_quiet (fail)
  obtain ⟨W1, hW1⟩ : ∃ W1, W1 = (w.alloc (.cells #[.int .i64 cl, .int .u64 at_, .int .u64 need] 55)).drewN nq := ⟨_, rfl⟩
  have hb1 : Below w.heap.size w W1 := by rw [hW1]; exact below_drewN _ ((Below.refl _ w).alloc (Nat.le_refl _) _)
  rw [← hW1]
  clear hW1
  have HB1 := Lib.hid hb1
  clear hb1
  go_wp2_with fail
  refine (RM.out _ HB1.out).mono ?_
  rintro e W2 ⟨rfl, hb2⟩
  have HB2 := Lib.hid (HB1.out.trans (hb2.mono HB1.out.size))
  clear hb2
  go_wp2_with fail
  refine (GC.out _ HB2.out).mono ?_
  rintro e W3 ⟨rfl, hb3⟩
  have HB3 := Lib.hid (HB2.out.trans (hb3.mono HB2.out.size))
  clear hb3
  go_wp2_with fail
  refine (RM.out _ HB3.out).mono ?_
  rintro e W4 ⟨rfl, hb4⟩
  have HB4 := Lib.hid (HB3.out.trans (hb4.mono HB3.out.size))
  clear hb4
  go_wp2_with fail
  refine (SA.out _ HB4.out).mono ?_
  rintro e W5 ⟨rfl, hb5⟩
  have HB5 := Lib.hid (HB4.out.trans (hb5.mono HB4.out.size))
  clear hb5
  go_wp2_with fail
  refine (NA.out _ HB5.out).mono ?_
  rintro e W6 ⟨rfl, hb6⟩
  have HB6 := Lib.hid (HB5.out.trans (hb6.mono HB5.out.size))
  clear hb6
  go_wp2_with fail
  refine (MY.out _ HB6.out).mono ?_
  rintro e W7 ⟨rfl, hb7⟩
  have HB7 := Lib.hid (HB6.out.trans (hb7.mono HB6.out.size))
  clear hb7
  go_wp2_with fail
  refine (RM.out _ HB7.out).mono ?_
  rintro e W8 ⟨rfl, hb8⟩
  have HB8 := Lib.hid (HB7.out.trans (hb8.mono HB7.out.size))
  clear hb8
  go_wp2_with fail
  refine (SLT.out _ HB8.out).mono ?_
  rintro e W9 ⟨rfl, hb9⟩
  have HB9 := Lib.hid (HB8.out.trans (hb9.mono HB8.out.size))
  clear hb9
  go_upto_region 14 with fail
  have hs14 := HB9.out.size
  go_region_held3 (fun v => v.cell? ⟨b, off + k0 * 2, none⟩ = some (.int .u8 o) ∧ Below w.heap.size w v)
    ((first | exact S0.out _ BC | exact S0.out _ BB | exact S0.out _ BA | exact S0.out _ HB9.out.drew))
    (first
    | (go_at_call 31; refine (OA.out _ BB).mono ?_; rintro e wC ⟨rfl, hC⟩; have BC := BB.trans (hC.mono BB.size))
    | (go_at_call 33; refine (RR.out _ BA).mono ?_; rintro e wB ⟨rfl, hB⟩; have BB := BA.trans (hB.mono BA.size))
    | (go_at_call 30; refine (RD.out _ HB9.out.drew).mono ?_; rintro e wA ⟨rfl, hA⟩; have BA := HB9.out.drew.trans (hA.mono HB9.out.drew.size))
    | fail)
  have HB10 := Lib.hid BC
  clear hs14 hA hB hC BA BB BC
  go_wp2_with fail
  refine (MY.out _ HB10.out).mono ?_
  rintro e W11 ⟨rfl, hb11⟩
  have HB11 := Lib.hid (HB10.out.trans (hb11.mono HB10.out.size))
  clear hb11
  go_wp2_with fail
  refine (LV.out _ HB11.out).mono ?_
  rintro e W12 ⟨rfl, hb12⟩
  have HB12 := Lib.hid (HB11.out.trans (hb12.mono HB11.out.size))
  clear hb12
  go_wp2
  go_ret
  exact ⟨rfl, HB12.out⟩
set_option maxRecDepth 100000 in
set_option maxHeartbeats 4000000 in
theorem plays22_d1 (a : Option Addr) (n c : Nat) (fs : List Slot22) {w : World} (hr : RowSl w a n fs) (hcap : n ≤ c) (cl : Int) (cl0 : -9223372036854775808 ≤ cl) (cl1 : cl ≤ 9223372036854775807) (at_ : Int) (at0 : 0 ≤ at_) (at1 : at_ ≤ 18446744073709551615) (need : Int) (need0 : 0 ≤ need) (need1 : need ≤ 18446744073709551615) (hok : PlanOk fs n) (hcl : 0 ≤ cl ∧ cl ≤ 7) (hao : AllOpen fs n cl.toNat) (hl : 9223372036854775808 < at_) :
    Calls Try.prog 4 #[.slice a n c, .agg #[.int .i64 cl, .int .u64 at_, .int .u64 need]] w fun e w' => e = .returned (.bool true) ∧ Below w.heap.size w w' := by
  have g100 : ¬ (100 : Int) < n := by have := hok.1.2; omega
  have hm : PlanOk fs n ∧ 0 ≤ cl ∧ cl ≤ 7 := ⟨hok, hcl⟩
  obtain ⟨rp0, rp1⟩ := round_pos hok
  obtain ⟨k0, hk0⟩ := slot_is (fs := fs) (t := at_ % spans fs n) (Int.emod_nonneg _ (by omega)) (n := n) (Int.emod_lt_of_pos _ (by omega))
  obtain ⟨b, off, ea, hlt, -⟩ := hr.atS (Below.refl _ _) k0 hk0.1
  have CEL := Lib.hid (fun (W : World) (h : Below w.heap.size w W) => (hr.atS h k0 hk0.1))
  have RM := Lib.hid (fun (W : World) (h : Below w.heap.size w W) => (same_below (by have h1 := rmay22 (hr.below h) c; rw [decide_eq_true hok] at h1; exact h1) : Calls Try.prog 25 #[.slice a n c] W fun e w' => e = .returned (.bool true) ∧ Below W.heap.size W w'))
  have GC := Lib.hid (fun (W : World) (h : Below w.heap.size w W) => (by have h1 := gcheck22 (hr.below h) c; rw [if_pos hok] at h1; exact h1 : Calls Try.prog 26 #[.slice a n c] W fun e w' => e = .returned (.int .i64 0) ∧ Below W.heap.size W w'))
  have MY := Lib.hid (fun (W : World) (h : Below w.heap.size w W) => (same_below (by have h1 := may22 (hr.below h) c cl; rw [decide_eq_true (show (PlanOk fs n ∧ 0 ≤ cl ∧ cl ≤ 7) from hm)] at h1; exact h1) : Calls Try.prog 29 #[.slice a n c, .int .i64 cl] W fun e w' => e = .returned (.bool true) ∧ Below W.heap.size W w'))
  have LV := Lib.hid (fun (W : World) (h : Below w.heap.size w W) => lives22 W)
  obtain ⟨jS, hS⟩ := all_stays hok hk0 hao
  have SA := Lib.hid (fun (W : World) (h : Below w.heap.size w W) => (by have h1 := gstays22 (c := c) (hr.below h) hok cl.toNat (by omega) at_ at0 at1 hk0 hS; rw [show ((cl.toNat : Nat) : Int) = cl by omega] at h1; exact h1 : Calls Try.prog 27 #[.slice a n c, .int .i64 cl, .int .u64 at_] W fun e w' => e = .returned (.tuple #[.int .u64 0, .bool false]) ∧ Below W.heap.size W w'))
  have NA := Lib.hid (fun (W : World) (h : Below w.heap.size w W) => (gnext22_late a n c cl hcl at_ need hl W : Calls Try.prog 28 #[.slice a n c, .int .i64 cl, .int .u64 at_, .int .u64 need] W fun e w' => e = .returned (.tuple #[.int .u64 0, .bool false]) ∧ Below W.heap.size W w'))
  have AL := Lib.hid (fun (W : World) (h : Below w.heap.size w W) => (same_below (by have h1 := ralways22 (hr.below h) c hok cl.toNat (by omega); rw [decide_eq_true hao, show ((cl.toNat : Nat) : Int) = cl by omega] at h1; exact h1) : Calls Try.prog 34 #[.slice a n c, .int .i64 cl] W fun e w' => e = .returned (.bool true) ∧ Below W.heap.size W w'))
  have RD := Lib.hid (fun (W : World) (h : Below w.heap.size w W) => (ground22 (hr.below h) c hok : Calls Try.prog 30 #[.slice a n c] W fun e w' => e = .returned (.int .u64 (spans fs n)) ∧ Below W.heap.size W w'))
  have RR := Lib.hid (fun (W : World) (h : Below w.heap.size w W) => (same_below (rround22 (hr.below h) c hok) : Calls Try.prog 33 #[.slice a n c] W fun e w' => e = .returned (.int .u64 (spans fs n)) ∧ Below W.heap.size W w'))
  have SLT := Lib.hid (fun (W : World) (h : Below w.heap.size w W) => (same_below (rslot22 (hr.below h) c hok at_ at0 at1 hk0) : Calls Try.prog 32 #[.slice a n c, .int .u64 at_] W fun e w' => e = .returned (.tuple #[.int .i64 k0, .int .u64 (spans fs (k0 + 1))]) ∧ Below W.heap.size W w'))
  have OA := Lib.hid (fun (W : World) (h : Below w.heap.size w W) => (gopen22 (hr.below h) hok at_ at0 at1 hk0 : Calls Try.prog 31 #[.slice a n c, .int .u64 at_] W fun e w' => e = .returned (.int .u8 (slotN fs k0).o) ∧ Below W.heap.size W w'))
  obtain ⟨R, hR⟩ : ∃ R, spans fs n = R := ⟨_, rfl⟩
  obtain ⟨o, ho⟩ : ∃ o, (slotN fs k0).o = o := ⟨_, rfl⟩
  obtain ⟨E, hE⟩ : ∃ E, spans fs (k0 + 1) = E := ⟨_, rfl⟩
  simp only [hR] at RD RR
  simp only [ho] at OA CEL
  simp only [hE] at SLT
  have z0 : (0 : Int) ≤ k0 := by omega
  have z1 : (k0 : Int) < n := by have := hk0.1; omega
  have S0 := Lib.hid (fun (v : World) (h : Below w.heap.size w v) => (by obtain ⟨b', off', e', hl', ce, -⟩ := CEL.out v h; rw [ea] at e'; injection e' with e'; injection e' with e1 e2 e3; subst e1 e2; exact ⟨ce, h⟩ : (v.cell? ⟨b, off + k0 * 2, none⟩ = some (.int .u8 o) ∧ Below w.heap.size w v)))
  subst ea
  clear hr hok hm hk0 CEL ho hE hR
  go_enter Try.func4, Try.ntmps4
  go_wp2_with fail
  go_quiet (fail)
  obtain ⟨W1, hW1⟩ : ∃ W1, W1 = (w.alloc (.cells #[.int .i64 cl, .int .u64 at_, .int .u64 need] 55)).drewN nq := ⟨_, rfl⟩
  have hb1 : Below w.heap.size w W1 := by rw [hW1]; exact below_drewN _ ((Below.refl _ w).alloc (Nat.le_refl _) _)
  rw [← hW1]
  clear hW1
  have HB1 := Lib.hid hb1
  clear hb1
  go_wp2_with fail
  refine (RM.out _ HB1.out).mono ?_
  rintro e W2 ⟨rfl, hb2⟩
  have HB2 := Lib.hid (HB1.out.trans (hb2.mono HB1.out.size))
  clear hb2
  go_wp2_with fail
  refine (GC.out _ HB2.out).mono ?_
  rintro e W3 ⟨rfl, hb3⟩
  have HB3 := Lib.hid (HB2.out.trans (hb3.mono HB2.out.size))
  clear hb3
  go_wp2_with fail
  refine (RM.out _ HB3.out).mono ?_
  rintro e W4 ⟨rfl, hb4⟩
  have HB4 := Lib.hid (HB3.out.trans (hb4.mono HB3.out.size))
  clear hb4
  go_wp2_with fail
  refine (SA.out _ HB4.out).mono ?_
  rintro e W5 ⟨rfl, hb5⟩
  have HB5 := Lib.hid (HB4.out.trans (hb5.mono HB4.out.size))
  clear hb5
  go_wp2_with fail
  refine (NA.out _ HB5.out).mono ?_
  rintro e W6 ⟨rfl, hb6⟩
  have HB6 := Lib.hid (HB5.out.trans (hb6.mono HB5.out.size))
  clear hb6
  go_wp2_with fail
  refine (MY.out _ HB6.out).mono ?_
  rintro e W7 ⟨rfl, hb7⟩
  have HB7 := Lib.hid (HB6.out.trans (hb7.mono HB6.out.size))
  clear hb7
  go_wp2_with fail
  refine (SLT.out _ HB7.out).mono ?_
  rintro e W8 ⟨rfl, hb8⟩
  have HB8 := Lib.hid (HB7.out.trans (hb8.mono HB7.out.size))
  clear hb8
  go_upto_region 14 with fail
  have hs14 := HB8.out.size
  go_region_held3 (fun v => v.cell? ⟨b, off + k0 * 2, none⟩ = some (.int .u8 o) ∧ Below w.heap.size w v)
    ((first | exact S0.out _ BC | exact S0.out _ BB | exact S0.out _ BA | exact S0.out _ HB8.out.drew))
    (first
    | (go_at_call 31; refine (OA.out _ BB).mono ?_; rintro e wC ⟨rfl, hC⟩; have BC := BB.trans (hC.mono BB.size))
    | (go_at_call 33; refine (RR.out _ BA).mono ?_; rintro e wB ⟨rfl, hB⟩; have BB := BA.trans (hB.mono BA.size))
    | (go_at_call 30; refine (RD.out _ HB8.out.drew).mono ?_; rintro e wA ⟨rfl, hA⟩; have BA := HB8.out.drew.trans (hA.mono HB8.out.drew.size))
    | fail)
  have HB9 := Lib.hid BC
  clear hs14 hA hB hC BA BB BC
  go_wp2_with fail
  refine (MY.out _ HB9.out).mono ?_
  rintro e W10 ⟨rfl, hb10⟩
  have HB10 := Lib.hid (HB9.out.trans (hb10.mono HB9.out.size))
  clear hb10
  go_wp2_with fail
  refine (AL.out _ HB10.out).mono ?_
  rintro e W11 ⟨rfl, hb11⟩
  have HB11 := Lib.hid (HB10.out.trans (hb11.mono HB10.out.size))
  clear hb11
  have hl2 : ¬ at_ ≤ 9223372036854775808 := by omega
  go_wp2_with fail
  refine (LV.out _ HB11.out).mono ?_
  rintro e W12 ⟨rfl, hb12⟩
  have HB12 := Lib.hid (HB11.out.trans (hb12.mono HB11.out.size))
  clear hb12
  go_wp2
  go_ret
  exact ⟨rfl, HB12.out⟩
set_option maxRecDepth 100000 in
set_option maxHeartbeats 4000000 in
theorem plays22_d2 (a : Option Addr) (n c : Nat) (fs : List Slot22) {w : World} (hr : RowSl w a n fs) (hcap : n ≤ c) (cl : Int) (cl0 : -9223372036854775808 ≤ cl) (cl1 : cl ≤ 9223372036854775807) (at_ : Int) (at0 : 0 ≤ at_) (at1 : at_ ≤ 18446744073709551615) (need : Int) (need0 : 0 ≤ need) (need1 : need ≤ 18446744073709551615) (hok : PlanOk fs n) (hcl : 0 ≤ cl ∧ cl ≤ 7) (hao : AllOpen fs n cl.toNat) (hl : at_ ≤ 9223372036854775808) :
    Calls Try.prog 4 #[.slice a n c, .agg #[.int .i64 cl, .int .u64 at_, .int .u64 need]] w fun e w' => e = .returned (.bool true) ∧ Below w.heap.size w w' := by
  have g100 : ¬ (100 : Int) < n := by have := hok.1.2; omega
  have hm : PlanOk fs n ∧ 0 ≤ cl ∧ cl ≤ 7 := ⟨hok, hcl⟩
  obtain ⟨rp0, rp1⟩ := round_pos hok
  obtain ⟨k0, hk0⟩ := slot_is (fs := fs) (t := at_ % spans fs n) (Int.emod_nonneg _ (by omega)) (n := n) (Int.emod_lt_of_pos _ (by omega))
  obtain ⟨b, off, ea, hlt, -⟩ := hr.atS (Below.refl _ _) k0 hk0.1
  have CEL := Lib.hid (fun (W : World) (h : Below w.heap.size w W) => (hr.atS h k0 hk0.1))
  have RM := Lib.hid (fun (W : World) (h : Below w.heap.size w W) => (same_below (by have h1 := rmay22 (hr.below h) c; rw [decide_eq_true hok] at h1; exact h1) : Calls Try.prog 25 #[.slice a n c] W fun e w' => e = .returned (.bool true) ∧ Below W.heap.size W w'))
  have GC := Lib.hid (fun (W : World) (h : Below w.heap.size w W) => (by have h1 := gcheck22 (hr.below h) c; rw [if_pos hok] at h1; exact h1 : Calls Try.prog 26 #[.slice a n c] W fun e w' => e = .returned (.int .i64 0) ∧ Below W.heap.size W w'))
  have MY := Lib.hid (fun (W : World) (h : Below w.heap.size w W) => (same_below (by have h1 := may22 (hr.below h) c cl; rw [decide_eq_true (show (PlanOk fs n ∧ 0 ≤ cl ∧ cl ≤ 7) from hm)] at h1; exact h1) : Calls Try.prog 29 #[.slice a n c, .int .i64 cl] W fun e w' => e = .returned (.bool true) ∧ Below W.heap.size W w'))
  have LV := Lib.hid (fun (W : World) (h : Below w.heap.size w W) => lives22 W)
  obtain ⟨jS, hS⟩ := all_stays hok hk0 hao
  obtain ⟨jN, hN⟩ := all_next (E := min (max need 1) (spans fs n)) hok hk0 hao (by omega) (by omega)
  have SA := Lib.hid (fun (W : World) (h : Below w.heap.size w W) => (by have h1 := gstays22 (c := c) (hr.below h) hok cl.toNat (by omega) at_ at0 at1 hk0 hS; rw [show ((cl.toNat : Nat) : Int) = cl by omega] at h1; exact h1 : Calls Try.prog 27 #[.slice a n c, .int .i64 cl, .int .u64 at_] W fun e w' => e = .returned (.tuple #[.int .u64 0, .bool false]) ∧ Below W.heap.size W w'))
  have NA := Lib.hid (fun (W : World) (h : Below w.heap.size w W) => (by have h1 := gnext22 (c := c) (hr.below h) hok cl.toNat (by omega) at_ at0 hl need need0 need1 hk0 hN (v := at_) (rb := true) (Or.inl ⟨rfl, by omega, by omega, rfl⟩); rw [show ((cl.toNat : Nat) : Int) = cl by omega] at h1; exact h1 : Calls Try.prog 28 #[.slice a n c, .int .i64 cl, .int .u64 at_, .int .u64 need] W fun e w' => e = .returned (.tuple #[.int .u64 at_, .bool true]) ∧ Below W.heap.size W w'))
  have AL := Lib.hid (fun (W : World) (h : Below w.heap.size w W) => (same_below (by have h1 := ralways22 (hr.below h) c hok cl.toNat (by omega); rw [decide_eq_true hao, show ((cl.toNat : Nat) : Int) = cl by omega] at h1; exact h1) : Calls Try.prog 34 #[.slice a n c, .int .i64 cl] W fun e w' => e = .returned (.bool true) ∧ Below W.heap.size W w'))
  have RD := Lib.hid (fun (W : World) (h : Below w.heap.size w W) => (ground22 (hr.below h) c hok : Calls Try.prog 30 #[.slice a n c] W fun e w' => e = .returned (.int .u64 (spans fs n)) ∧ Below W.heap.size W w'))
  have RR := Lib.hid (fun (W : World) (h : Below w.heap.size w W) => (same_below (rround22 (hr.below h) c hok) : Calls Try.prog 33 #[.slice a n c] W fun e w' => e = .returned (.int .u64 (spans fs n)) ∧ Below W.heap.size W w'))
  have SLT := Lib.hid (fun (W : World) (h : Below w.heap.size w W) => (same_below (rslot22 (hr.below h) c hok at_ at0 at1 hk0) : Calls Try.prog 32 #[.slice a n c, .int .u64 at_] W fun e w' => e = .returned (.tuple #[.int .i64 k0, .int .u64 (spans fs (k0 + 1))]) ∧ Below W.heap.size W w'))
  have OA := Lib.hid (fun (W : World) (h : Below w.heap.size w W) => (gopen22 (hr.below h) hok at_ at0 at1 hk0 : Calls Try.prog 31 #[.slice a n c, .int .u64 at_] W fun e w' => e = .returned (.int .u8 (slotN fs k0).o) ∧ Below W.heap.size W w'))
  obtain ⟨R, hR⟩ : ∃ R, spans fs n = R := ⟨_, rfl⟩
  obtain ⟨o, ho⟩ : ∃ o, (slotN fs k0).o = o := ⟨_, rfl⟩
  obtain ⟨E, hE⟩ : ∃ E, spans fs (k0 + 1) = E := ⟨_, rfl⟩
  simp only [hR] at RD RR
  simp only [ho] at OA CEL
  simp only [hE] at SLT
  have z0 : (0 : Int) ≤ k0 := by omega
  have z1 : (k0 : Int) < n := by have := hk0.1; omega
  have S0 := Lib.hid (fun (v : World) (h : Below w.heap.size w v) => (by obtain ⟨b', off', e', hl', ce, -⟩ := CEL.out v h; rw [ea] at e'; injection e' with e'; injection e' with e1 e2 e3; subst e1 e2; exact ⟨ce, h⟩ : (v.cell? ⟨b, off + k0 * 2, none⟩ = some (.int .u8 o) ∧ Below w.heap.size w v)))
  subst ea
  clear hr hok hm hk0 CEL ho hE hR
  go_enter Try.func4, Try.ntmps4
  go_wp2_with fail
  go_quiet (fail)
  obtain ⟨W1, hW1⟩ : ∃ W1, W1 = (w.alloc (.cells #[.int .i64 cl, .int .u64 at_, .int .u64 need] 55)).drewN nq := ⟨_, rfl⟩
  have hb1 : Below w.heap.size w W1 := by rw [hW1]; exact below_drewN _ ((Below.refl _ w).alloc (Nat.le_refl _) _)
  rw [← hW1]
  clear hW1
  have HB1 := Lib.hid hb1
  clear hb1
  go_wp2_with fail
  refine (RM.out _ HB1.out).mono ?_
  rintro e W2 ⟨rfl, hb2⟩
  have HB2 := Lib.hid (HB1.out.trans (hb2.mono HB1.out.size))
  clear hb2
  go_wp2_with fail
  refine (GC.out _ HB2.out).mono ?_
  rintro e W3 ⟨rfl, hb3⟩
  have HB3 := Lib.hid (HB2.out.trans (hb3.mono HB2.out.size))
  clear hb3
  go_wp2_with fail
  refine (RM.out _ HB3.out).mono ?_
  rintro e W4 ⟨rfl, hb4⟩
  have HB4 := Lib.hid (HB3.out.trans (hb4.mono HB3.out.size))
  clear hb4
  go_wp2_with fail
  refine (SA.out _ HB4.out).mono ?_
  rintro e W5 ⟨rfl, hb5⟩
  have HB5 := Lib.hid (HB4.out.trans (hb5.mono HB4.out.size))
  clear hb5
  go_wp2_with fail
  refine (NA.out _ HB5.out).mono ?_
  rintro e W6 ⟨rfl, hb6⟩
  have HB6 := Lib.hid (HB5.out.trans (hb6.mono HB5.out.size))
  clear hb6
  go_wp2_with fail
  refine (MY.out _ HB6.out).mono ?_
  rintro e W7 ⟨rfl, hb7⟩
  have HB7 := Lib.hid (HB6.out.trans (hb7.mono HB6.out.size))
  clear hb7
  go_wp2_with fail
  refine (SLT.out _ HB7.out).mono ?_
  rintro e W8 ⟨rfl, hb8⟩
  have HB8 := Lib.hid (HB7.out.trans (hb8.mono HB7.out.size))
  clear hb8
  go_upto_region 14 with fail
  have hs14 := HB8.out.size
  go_region_held3 (fun v => v.cell? ⟨b, off + k0 * 2, none⟩ = some (.int .u8 o) ∧ Below w.heap.size w v)
    ((first | exact S0.out _ BC | exact S0.out _ BB | exact S0.out _ BA | exact S0.out _ HB8.out.drew))
    (first
    | (go_at_call 31; refine (OA.out _ BB).mono ?_; rintro e wC ⟨rfl, hC⟩; have BC := BB.trans (hC.mono BB.size))
    | (go_at_call 33; refine (RR.out _ BA).mono ?_; rintro e wB ⟨rfl, hB⟩; have BB := BA.trans (hB.mono BA.size))
    | (go_at_call 30; refine (RD.out _ HB8.out.drew).mono ?_; rintro e wA ⟨rfl, hA⟩; have BA := HB8.out.drew.trans (hA.mono HB8.out.drew.size))
    | fail)
  have HB9 := Lib.hid BC
  clear hs14 hA hB hC BA BB BC
  go_wp2_with fail
  refine (MY.out _ HB9.out).mono ?_
  rintro e W10 ⟨rfl, hb10⟩
  have HB10 := Lib.hid (HB9.out.trans (hb10.mono HB9.out.size))
  clear hb10
  go_wp2_with fail
  refine (AL.out _ HB10.out).mono ?_
  rintro e W11 ⟨rfl, hb11⟩
  have HB11 := Lib.hid (HB10.out.trans (hb11.mono HB10.out.size))
  clear hb11
  have hl2 : ¬ 9223372036854775808 < at_ := by omega
  go_wp2_with fail
  refine (LV.out _ HB11.out).mono ?_
  rintro e W12 ⟨rfl, hb12⟩
  have HB12 := Lib.hid (HB11.out.trans (hb12.mono HB11.out.size))
  clear hb12
  go_wp2
  go_ret
  exact ⟨rfl, HB12.out⟩
set_option maxRecDepth 100000 in
set_option maxHeartbeats 4000000 in
theorem plays22_e1 (a : Option Addr) (n c : Nat) (fs : List Slot22) {w : World} (hr : RowSl w a n fs) (hcap : n ≤ c) (cl : Int) (cl0 : -9223372036854775808 ≤ cl) (cl1 : cl ≤ 9223372036854775807) (at_ : Int) (at0 : 0 ≤ at_) (at1 : at_ ≤ 18446744073709551615) (need : Int) (need0 : 0 ≤ need) (need1 : need ≤ 18446744073709551615) (hok : PlanOk fs n) (hcl : 0 ≤ cl ∧ cl ≤ 7) (hao : ¬ AllOpen fs n cl.toNat) (hl : 9223372036854775808 < at_) :
    Calls Try.prog 4 #[.slice a n c, .agg #[.int .i64 cl, .int .u64 at_, .int .u64 need]] w fun e w' => e = .returned (.bool true) ∧ Below w.heap.size w w' := by
  have g100 : ¬ (100 : Int) < n := by have := hok.1.2; omega
  have hm : PlanOk fs n ∧ 0 ≤ cl ∧ cl ≤ 7 := ⟨hok, hcl⟩
  obtain ⟨rp0, rp1⟩ := round_pos hok
  obtain ⟨k0, hk0⟩ := slot_is (fs := fs) (t := at_ % spans fs n) (Int.emod_nonneg _ (by omega)) (n := n) (Int.emod_lt_of_pos _ (by omega))
  obtain ⟨b, off, ea, hlt, -⟩ := hr.atS (Below.refl _ _) k0 hk0.1
  have CEL := Lib.hid (fun (W : World) (h : Below w.heap.size w W) => (hr.atS h k0 hk0.1))
  have RM := Lib.hid (fun (W : World) (h : Below w.heap.size w W) => (same_below (by have h1 := rmay22 (hr.below h) c; rw [decide_eq_true hok] at h1; exact h1) : Calls Try.prog 25 #[.slice a n c] W fun e w' => e = .returned (.bool true) ∧ Below W.heap.size W w'))
  have GC := Lib.hid (fun (W : World) (h : Below w.heap.size w W) => (by have h1 := gcheck22 (hr.below h) c; rw [if_pos hok] at h1; exact h1 : Calls Try.prog 26 #[.slice a n c] W fun e w' => e = .returned (.int .i64 0) ∧ Below W.heap.size W w'))
  have MY := Lib.hid (fun (W : World) (h : Below w.heap.size w W) => (same_below (by have h1 := may22 (hr.below h) c cl; rw [decide_eq_true (show (PlanOk fs n ∧ 0 ≤ cl ∧ cl ≤ 7) from hm)] at h1; exact h1) : Calls Try.prog 29 #[.slice a n c, .int .i64 cl] W fun e w' => e = .returned (.bool true) ∧ Below W.heap.size W w'))
  have LV := Lib.hid (fun (W : World) (h : Below w.heap.size w W) => lives22 W)
  obtain ⟨jS, vS, hS⟩ := no_stays hok hk0 (Int.emod_nonneg _ (by omega)) hao
  have SA := Lib.hid (fun (W : World) (h : Below w.heap.size w W) => (by have h1 := gstays22 (c := c) (hr.below h) hok cl.toNat (by omega) at_ at0 at1 hk0 hS; rw [show ((cl.toNat : Nat) : Int) = cl by omega] at h1; exact h1 : Calls Try.prog 27 #[.slice a n c, .int .i64 cl, .int .u64 at_] W fun e w' => e = .returned (.tuple #[.int .u64 vS, .bool true]) ∧ Below W.heap.size W w'))
  have NA := Lib.hid (fun (W : World) (h : Below w.heap.size w W) => (gnext22_late a n c cl hcl at_ need hl W : Calls Try.prog 28 #[.slice a n c, .int .i64 cl, .int .u64 at_, .int .u64 need] W fun e w' => e = .returned (.tuple #[.int .u64 0, .bool false]) ∧ Below W.heap.size W w'))
  have AL := Lib.hid (fun (W : World) (h : Below w.heap.size w W) => (same_below (by have h1 := ralways22 (hr.below h) c hok cl.toNat (by omega); rw [decide_eq_false hao, show ((cl.toNat : Nat) : Int) = cl by omega] at h1; exact h1) : Calls Try.prog 34 #[.slice a n c, .int .i64 cl] W fun e w' => e = .returned (.bool false) ∧ Below W.heap.size W w'))
  have RS := Lib.hid (fun (W : World) (h : Below w.heap.size w W) => (same_below (by have h1 := rstays22 (hr.below h) c hok cl.toNat (by omega) at_ at0 at1 hk0 hS; rw [show ((cl.toNat : Nat) : Int) = cl by omega] at h1; exact h1) : Calls Try.prog 35 #[.slice a n c, .int .i64 cl, .int .u64 at_] W fun e w' => e = .returned (.int .u64 vS) ∧ Below W.heap.size W w'))
  have RD := Lib.hid (fun (W : World) (h : Below w.heap.size w W) => (ground22 (hr.below h) c hok : Calls Try.prog 30 #[.slice a n c] W fun e w' => e = .returned (.int .u64 (spans fs n)) ∧ Below W.heap.size W w'))
  have RR := Lib.hid (fun (W : World) (h : Below w.heap.size w W) => (same_below (rround22 (hr.below h) c hok) : Calls Try.prog 33 #[.slice a n c] W fun e w' => e = .returned (.int .u64 (spans fs n)) ∧ Below W.heap.size W w'))
  have SLT := Lib.hid (fun (W : World) (h : Below w.heap.size w W) => (same_below (rslot22 (hr.below h) c hok at_ at0 at1 hk0) : Calls Try.prog 32 #[.slice a n c, .int .u64 at_] W fun e w' => e = .returned (.tuple #[.int .i64 k0, .int .u64 (spans fs (k0 + 1))]) ∧ Below W.heap.size W w'))
  have OA := Lib.hid (fun (W : World) (h : Below w.heap.size w W) => (gopen22 (hr.below h) hok at_ at0 at1 hk0 : Calls Try.prog 31 #[.slice a n c, .int .u64 at_] W fun e w' => e = .returned (.int .u8 (slotN fs k0).o) ∧ Below W.heap.size W w'))
  obtain ⟨R, hR⟩ : ∃ R, spans fs n = R := ⟨_, rfl⟩
  obtain ⟨o, ho⟩ : ∃ o, (slotN fs k0).o = o := ⟨_, rfl⟩
  obtain ⟨E, hE⟩ : ∃ E, spans fs (k0 + 1) = E := ⟨_, rfl⟩
  simp only [hR] at RD RR
  simp only [ho] at OA CEL
  simp only [hE] at SLT
  have z0 : (0 : Int) ≤ k0 := by omega
  have z1 : (k0 : Int) < n := by have := hk0.1; omega
  have S0 := Lib.hid (fun (v : World) (h : Below w.heap.size w v) => (by obtain ⟨b', off', e', hl', ce, -⟩ := CEL.out v h; rw [ea] at e'; injection e' with e'; injection e' with e1 e2 e3; subst e1 e2; exact ⟨ce, h⟩ : (v.cell? ⟨b, off + k0 * 2, none⟩ = some (.int .u8 o) ∧ Below w.heap.size w v)))
  subst ea
  clear hr hok hm hk0 CEL ho hE hR
  go_enter Try.func4, Try.ntmps4
  go_wp2_with fail
  go_quiet (fail)
  obtain ⟨W1, hW1⟩ : ∃ W1, W1 = (w.alloc (.cells #[.int .i64 cl, .int .u64 at_, .int .u64 need] 55)).drewN nq := ⟨_, rfl⟩
  have hb1 : Below w.heap.size w W1 := by rw [hW1]; exact below_drewN _ ((Below.refl _ w).alloc (Nat.le_refl _) _)
  rw [← hW1]
  clear hW1
  have HB1 := Lib.hid hb1
  clear hb1
  go_wp2_with fail
  refine (RM.out _ HB1.out).mono ?_
  rintro e W2 ⟨rfl, hb2⟩
  have HB2 := Lib.hid (HB1.out.trans (hb2.mono HB1.out.size))
  clear hb2
  go_wp2_with fail
  refine (GC.out _ HB2.out).mono ?_
  rintro e W3 ⟨rfl, hb3⟩
  have HB3 := Lib.hid (HB2.out.trans (hb3.mono HB2.out.size))
  clear hb3
  go_wp2_with fail
  refine (RM.out _ HB3.out).mono ?_
  rintro e W4 ⟨rfl, hb4⟩
  have HB4 := Lib.hid (HB3.out.trans (hb4.mono HB3.out.size))
  clear hb4
  go_wp2_with fail
  refine (SA.out _ HB4.out).mono ?_
  rintro e W5 ⟨rfl, hb5⟩
  have HB5 := Lib.hid (HB4.out.trans (hb5.mono HB4.out.size))
  clear hb5
  go_wp2_with fail
  refine (NA.out _ HB5.out).mono ?_
  rintro e W6 ⟨rfl, hb6⟩
  have HB6 := Lib.hid (HB5.out.trans (hb6.mono HB5.out.size))
  clear hb6
  go_wp2_with fail
  refine (MY.out _ HB6.out).mono ?_
  rintro e W7 ⟨rfl, hb7⟩
  have HB7 := Lib.hid (HB6.out.trans (hb7.mono HB6.out.size))
  clear hb7
  go_wp2_with fail
  refine (SLT.out _ HB7.out).mono ?_
  rintro e W8 ⟨rfl, hb8⟩
  have HB8 := Lib.hid (HB7.out.trans (hb8.mono HB7.out.size))
  clear hb8
  go_upto_region 14 with fail
  have hs14 := HB8.out.size
  go_region_held3 (fun v => v.cell? ⟨b, off + k0 * 2, none⟩ = some (.int .u8 o) ∧ Below w.heap.size w v)
    ((first | exact S0.out _ BC | exact S0.out _ BB | exact S0.out _ BA | exact S0.out _ HB8.out.drew))
    (first
    | (go_at_call 31; refine (OA.out _ BB).mono ?_; rintro e wC ⟨rfl, hC⟩; have BC := BB.trans (hC.mono BB.size))
    | (go_at_call 33; refine (RR.out _ BA).mono ?_; rintro e wB ⟨rfl, hB⟩; have BB := BA.trans (hB.mono BA.size))
    | (go_at_call 30; refine (RD.out _ HB8.out.drew).mono ?_; rintro e wA ⟨rfl, hA⟩; have BA := HB8.out.drew.trans (hA.mono HB8.out.drew.size))
    | fail)
  have HB9 := Lib.hid BC
  clear hs14 hA hB hC BA BB BC
  go_wp2_with fail
  refine (MY.out _ HB9.out).mono ?_
  rintro e W10 ⟨rfl, hb10⟩
  have HB10 := Lib.hid (HB9.out.trans (hb10.mono HB9.out.size))
  clear hb10
  go_wp2_with fail
  refine (AL.out _ HB10.out).mono ?_
  rintro e W11 ⟨rfl, hb11⟩
  have HB11 := Lib.hid (HB10.out.trans (hb11.mono HB10.out.size))
  clear hb11
  go_wp2_with fail
  refine (RS.out _ HB11.out).mono ?_
  rintro e W12 ⟨rfl, hb12⟩
  have HB12 := Lib.hid (HB11.out.trans (hb12.mono HB11.out.size))
  clear hb12
  go_wp2_with fail
  refine (LV.out _ HB12.out).mono ?_
  rintro e W13 ⟨rfl, hb13⟩
  have HB13 := Lib.hid (HB12.out.trans (hb13.mono HB12.out.size))
  clear hb13
  go_wp2
  go_ret
  exact ⟨rfl, HB13.out⟩
set_option maxRecDepth 100000 in
set_option maxHeartbeats 4000000 in
theorem plays22_e2 (a : Option Addr) (n c : Nat) (fs : List Slot22) {w : World} (hr : RowSl w a n fs) (hcap : n ≤ c) (cl : Int) (cl0 : -9223372036854775808 ≤ cl) (cl1 : cl ≤ 9223372036854775807) (at_ : Int) (at0 : 0 ≤ at_) (at1 : at_ ≤ 18446744073709551615) (need : Int) (need0 : 0 ≤ need) (need1 : need ≤ 18446744073709551615) (hok : PlanOk fs n) (hcl : 0 ≤ cl ∧ cl ≤ 7) (hao : ¬ AllOpen fs n cl.toNat) (hl : at_ ≤ 9223372036854775808) :
    Calls Try.prog 4 #[.slice a n c, .agg #[.int .i64 cl, .int .u64 at_, .int .u64 need]] w fun e w' => e = .returned (.bool true) ∧ Below w.heap.size w w' := by
  have g100 : ¬ (100 : Int) < n := by have := hok.1.2; omega
  have hm : PlanOk fs n ∧ 0 ≤ cl ∧ cl ≤ 7 := ⟨hok, hcl⟩
  obtain ⟨rp0, rp1⟩ := round_pos hok
  obtain ⟨k0, hk0⟩ := slot_is (fs := fs) (t := at_ % spans fs n) (Int.emod_nonneg _ (by omega)) (n := n) (Int.emod_lt_of_pos _ (by omega))
  obtain ⟨b, off, ea, hlt, -⟩ := hr.atS (Below.refl _ _) k0 hk0.1
  have CEL := Lib.hid (fun (W : World) (h : Below w.heap.size w W) => (hr.atS h k0 hk0.1))
  have RM := Lib.hid (fun (W : World) (h : Below w.heap.size w W) => (same_below (by have h1 := rmay22 (hr.below h) c; rw [decide_eq_true hok] at h1; exact h1) : Calls Try.prog 25 #[.slice a n c] W fun e w' => e = .returned (.bool true) ∧ Below W.heap.size W w'))
  have GC := Lib.hid (fun (W : World) (h : Below w.heap.size w W) => (by have h1 := gcheck22 (hr.below h) c; rw [if_pos hok] at h1; exact h1 : Calls Try.prog 26 #[.slice a n c] W fun e w' => e = .returned (.int .i64 0) ∧ Below W.heap.size W w'))
  have MY := Lib.hid (fun (W : World) (h : Below w.heap.size w W) => (same_below (by have h1 := may22 (hr.below h) c cl; rw [decide_eq_true (show (PlanOk fs n ∧ 0 ≤ cl ∧ cl ≤ 7) from hm)] at h1; exact h1) : Calls Try.prog 29 #[.slice a n c, .int .i64 cl] W fun e w' => e = .returned (.bool true) ∧ Below W.heap.size W w'))
  have LV := Lib.hid (fun (W : World) (h : Below w.heap.size w W) => lives22 W)
  obtain ⟨jS, vS, hS⟩ := no_stays hok hk0 (Int.emod_nonneg _ (by omega)) hao
  obtain ⟨jN, bN, gN, hN⟩ := next_ex (cl := cl.toNat) hok hk0 (spans fs n) (min (max need 1) (spans fs n)) (by omega) (by omega)
  obtain ⟨vN, rb, wv, wb, hV, hw, hRN⟩ : ∃ (vN : Int) (rb : Bool) (wv : Int) (wb : Bool),
      (bN = true ∧ at_ + gN ≤ 9223372036854775808 ∧ vN = at_ + gN ∧ rb = true ∨ bN = true ∧ 9223372036854775808 < at_ + gN ∧ vN = 0 ∧ rb = false ∨ bN = false ∧ vN = 0 ∧ rb = false) ∧
      (wb = true ∧ rb = true ∧ vN = wv ∨ wb = false ∧ rb = false ∧ vN = 0) ∧
      ∀ W : World, Below w.heap.size w W → Calls Try.prog 36 #[.slice a n c, .int .i64 cl, .int .u64 at_, .int .u64 need] W fun e w' => e = .returned (.tuple #[.int .u64 wv, .bool wb]) ∧ w' = W := by
    have m0 : 0 ≤ at_ % spans fs n := Int.emod_nonneg _ (by omega)
    rcases next_ref hok hk0 hao (N := max need 1) (by omega) hN with ⟨hb, a', c', ha, hg, hwit, hle, hbef⟩ | ⟨hb, hall⟩
    · by_cases hf : at_ + gN ≤ 9223372036854775808
      · refine ⟨at_ + gN, true, at_ + gN, true, Or.inl ⟨hb, hf, rfl, rfl⟩, Or.inl ⟨rfl, rfl, rfl⟩, fun W h => ?_⟩
        have h1 := rnext22 (hr.below h) c hok cl.toNat (by omega) at_ at0 hl need need0 need1 hk0 hao hbef (Or.inl ⟨ha, ⟨c', hwit, hle⟩, (by rw [hg] : at_ + gN = _), (by rw [← hg]; exact (decide_eq_true hf).symm : true = _)⟩)
        rw [show ((cl.toNat : Nat) : Int) = cl by omega] at h1
        exact h1
      · refine ⟨0, false, at_ + gN, false, Or.inr (Or.inl ⟨hb, by omega, rfl, rfl⟩), Or.inr ⟨rfl, rfl, rfl⟩, fun W h => ?_⟩
        have h1 := rnext22 (hr.below h) c hok cl.toNat (by omega) at_ at0 hl need need0 need1 hk0 hao hbef (Or.inl ⟨ha, ⟨c', hwit, hle⟩, (by rw [hg] : at_ + gN = _), (by rw [← hg]; exact (decide_eq_false hf).symm : false = _)⟩)
        rw [show ((cl.toNat : Nat) : Int) = cl by omega] at h1
        exact h1
    · refine ⟨0, false, 0, false, Or.inr (Or.inr ⟨hb, rfl, rfl⟩), Or.inr ⟨rfl, rfl, rfl⟩, fun W h => ?_⟩
      have h1 := rnext22 (top := n + 1) (hr.below h) c hok cl.toNat (by omega) at_ at0 hl need need0 need1 hk0 hao (fun i hi => hall i (by omega)) (Or.inr ⟨rfl, rfl, rfl⟩)
      rw [show ((cl.toNat : Nat) : Int) = cl by omega] at h1
      exact h1
  have SA := Lib.hid (fun (W : World) (h : Below w.heap.size w W) => (by have h1 := gstays22 (c := c) (hr.below h) hok cl.toNat (by omega) at_ at0 at1 hk0 hS; rw [show ((cl.toNat : Nat) : Int) = cl by omega] at h1; exact h1 : Calls Try.prog 27 #[.slice a n c, .int .i64 cl, .int .u64 at_] W fun e w' => e = .returned (.tuple #[.int .u64 vS, .bool true]) ∧ Below W.heap.size W w'))
  have NA := Lib.hid (fun (W : World) (h : Below w.heap.size w W) => (by have h1 := gnext22 (c := c) (hr.below h) hok cl.toNat (by omega) at_ at0 hl need need0 need1 hk0 hN (v := vN) (rb := rb) hV; rw [show ((cl.toNat : Nat) : Int) = cl by omega] at h1; exact h1 : Calls Try.prog 28 #[.slice a n c, .int .i64 cl, .int .u64 at_, .int .u64 need] W fun e w' => e = .returned (.tuple #[.int .u64 vN, .bool rb]) ∧ Below W.heap.size W w'))
  have AL := Lib.hid (fun (W : World) (h : Below w.heap.size w W) => (same_below (by have h1 := ralways22 (hr.below h) c hok cl.toNat (by omega); rw [decide_eq_false hao, show ((cl.toNat : Nat) : Int) = cl by omega] at h1; exact h1) : Calls Try.prog 34 #[.slice a n c, .int .i64 cl] W fun e w' => e = .returned (.bool false) ∧ Below W.heap.size W w'))
  have RS := Lib.hid (fun (W : World) (h : Below w.heap.size w W) => (same_below (by have h1 := rstays22 (hr.below h) c hok cl.toNat (by omega) at_ at0 at1 hk0 hS; rw [show ((cl.toNat : Nat) : Int) = cl by omega] at h1; exact h1) : Calls Try.prog 35 #[.slice a n c, .int .i64 cl, .int .u64 at_] W fun e w' => e = .returned (.int .u64 vS) ∧ Below W.heap.size W w'))
  have RN := Lib.hid (fun (W : World) (h : Below w.heap.size w W) => (same_below (hRN W h) : Calls Try.prog 36 #[.slice a n c, .int .i64 cl, .int .u64 at_, .int .u64 need] W fun e w' => e = .returned (.tuple #[.int .u64 wv, .bool wb]) ∧ Below W.heap.size W w'))
  have hl2 : ¬ 9223372036854775808 < at_ := by omega
  have RD := Lib.hid (fun (W : World) (h : Below w.heap.size w W) => (ground22 (hr.below h) c hok : Calls Try.prog 30 #[.slice a n c] W fun e w' => e = .returned (.int .u64 (spans fs n)) ∧ Below W.heap.size W w'))
  have RR := Lib.hid (fun (W : World) (h : Below w.heap.size w W) => (same_below (rround22 (hr.below h) c hok) : Calls Try.prog 33 #[.slice a n c] W fun e w' => e = .returned (.int .u64 (spans fs n)) ∧ Below W.heap.size W w'))
  have SLT := Lib.hid (fun (W : World) (h : Below w.heap.size w W) => (same_below (rslot22 (hr.below h) c hok at_ at0 at1 hk0) : Calls Try.prog 32 #[.slice a n c, .int .u64 at_] W fun e w' => e = .returned (.tuple #[.int .i64 k0, .int .u64 (spans fs (k0 + 1))]) ∧ Below W.heap.size W w'))
  have OA := Lib.hid (fun (W : World) (h : Below w.heap.size w W) => (gopen22 (hr.below h) hok at_ at0 at1 hk0 : Calls Try.prog 31 #[.slice a n c, .int .u64 at_] W fun e w' => e = .returned (.int .u8 (slotN fs k0).o) ∧ Below W.heap.size W w'))
  obtain ⟨R, hR⟩ : ∃ R, spans fs n = R := ⟨_, rfl⟩
  obtain ⟨o, ho⟩ : ∃ o, (slotN fs k0).o = o := ⟨_, rfl⟩
  obtain ⟨E, hE⟩ : ∃ E, spans fs (k0 + 1) = E := ⟨_, rfl⟩
  simp only [hR] at RD RR
  simp only [ho] at OA CEL
  simp only [hE] at SLT
  have z0 : (0 : Int) ≤ k0 := by omega
  have z1 : (k0 : Int) < n := by have := hk0.1; omega
  have S0 := Lib.hid (fun (v : World) (h : Below w.heap.size w v) => (by obtain ⟨b', off', e', hl', ce, -⟩ := CEL.out v h; rw [ea] at e'; injection e' with e'; injection e' with e1 e2 e3; subst e1 e2; exact ⟨ce, h⟩ : (v.cell? ⟨b, off + k0 * 2, none⟩ = some (.int .u8 o) ∧ Below w.heap.size w v)))
  subst ea
  clear hr hok hm hk0 CEL ho hE hR
  go_enter Try.func4, Try.ntmps4
  go_wp2_with fail
  go_quiet (fail)
  obtain ⟨W1, hW1⟩ : ∃ W1, W1 = (w.alloc (.cells #[.int .i64 cl, .int .u64 at_, .int .u64 need] 55)).drewN nq := ⟨_, rfl⟩
  have hb1 : Below w.heap.size w W1 := by rw [hW1]; exact below_drewN _ ((Below.refl _ w).alloc (Nat.le_refl _) _)
  rw [← hW1]
  clear hW1
  have HB1 := Lib.hid hb1
  clear hb1
  go_wp2_with fail
  refine (RM.out _ HB1.out).mono ?_
  rintro e W2 ⟨rfl, hb2⟩
  have HB2 := Lib.hid (HB1.out.trans (hb2.mono HB1.out.size))
  clear hb2
  go_wp2_with fail
  refine (GC.out _ HB2.out).mono ?_
  rintro e W3 ⟨rfl, hb3⟩
  have HB3 := Lib.hid (HB2.out.trans (hb3.mono HB2.out.size))
  clear hb3
  go_wp2_with fail
  refine (RM.out _ HB3.out).mono ?_
  rintro e W4 ⟨rfl, hb4⟩
  have HB4 := Lib.hid (HB3.out.trans (hb4.mono HB3.out.size))
  clear hb4
  go_wp2_with fail
  refine (SA.out _ HB4.out).mono ?_
  rintro e W5 ⟨rfl, hb5⟩
  have HB5 := Lib.hid (HB4.out.trans (hb5.mono HB4.out.size))
  clear hb5
  go_wp2_with fail
  refine (NA.out _ HB5.out).mono ?_
  rintro e W6 ⟨rfl, hb6⟩
  have HB6 := Lib.hid (HB5.out.trans (hb6.mono HB5.out.size))
  clear hb6
  go_wp2_with fail
  refine (MY.out _ HB6.out).mono ?_
  rintro e W7 ⟨rfl, hb7⟩
  have HB7 := Lib.hid (HB6.out.trans (hb7.mono HB6.out.size))
  clear hb7
  go_wp2_with fail
  refine (SLT.out _ HB7.out).mono ?_
  rintro e W8 ⟨rfl, hb8⟩
  have HB8 := Lib.hid (HB7.out.trans (hb8.mono HB7.out.size))
  clear hb8
  go_upto_region 14 with fail
  have hs14 := HB8.out.size
  go_region_held3 (fun v => v.cell? ⟨b, off + k0 * 2, none⟩ = some (.int .u8 o) ∧ Below w.heap.size w v)
    ((first | exact S0.out _ BC | exact S0.out _ BB | exact S0.out _ BA | exact S0.out _ HB8.out.drew))
    (first
    | (go_at_call 31; refine (OA.out _ BB).mono ?_; rintro e wC ⟨rfl, hC⟩; have BC := BB.trans (hC.mono BB.size))
    | (go_at_call 33; refine (RR.out _ BA).mono ?_; rintro e wB ⟨rfl, hB⟩; have BB := BA.trans (hB.mono BA.size))
    | (go_at_call 30; refine (RD.out _ HB8.out.drew).mono ?_; rintro e wA ⟨rfl, hA⟩; have BA := HB8.out.drew.trans (hA.mono HB8.out.drew.size))
    | fail)
  have HB9 := Lib.hid BC
  clear hs14 hA hB hC BA BB BC
  go_wp2_with fail
  refine (MY.out _ HB9.out).mono ?_
  rintro e W10 ⟨rfl, hb10⟩
  have HB10 := Lib.hid (HB9.out.trans (hb10.mono HB9.out.size))
  clear hb10
  go_wp2_with fail
  refine (AL.out _ HB10.out).mono ?_
  rintro e W11 ⟨rfl, hb11⟩
  have HB11 := Lib.hid (HB10.out.trans (hb11.mono HB10.out.size))
  clear hb11
  go_wp2_with fail
  refine (RS.out _ HB11.out).mono ?_
  rintro e W12 ⟨rfl, hb12⟩
  have HB12 := Lib.hid (HB11.out.trans (hb12.mono HB11.out.size))
  clear hb12
  go_wp2_with fail
  refine (RN.out _ HB12.out).mono ?_
  rintro e W13 ⟨rfl, hb13⟩
  have HB13 := Lib.hid (HB12.out.trans (hb13.mono HB12.out.size))
  clear hb13
  rcases hw with ⟨rfl, rfl, rfl⟩ | ⟨rfl, rfl, rfl⟩
  · go_wp2_with fail
    refine (LV.out _ HB13.out).mono ?_
    rintro e W14 ⟨rfl, hb14⟩
    have HB14 := Lib.hid (HB13.out.trans (hb14.mono HB13.out.size))
    clear hb14
    go_wp2
    go_ret
    exact ⟨rfl, HB14.out⟩
  · go_wp2_with fail
    refine (LV.out _ HB13.out).mono ?_
    rintro e W14 ⟨rfl, hb14⟩
    have HB14 := Lib.hid (HB13.out.trans (hb14.mono HB13.out.size))
    clear hb14
    go_wp2
    go_ret
    exact ⟨rfl, HB14.out⟩
theorem walk_gatePlays (a : Option Addr) (n c : Nat) (fs : List Slot22) {w : World} (hr : RowSl w a n fs) (hcap : n ≤ c) (cl : Int) (cl0 : -9223372036854775808 ≤ cl) (cl1 : cl ≤ 9223372036854775807) (at_ : Int) (at0 : 0 ≤ at_) (at1 : at_ ≤ 18446744073709551615) (need : Int) (need0 : 0 ≤ need) (need1 : need ≤ 18446744073709551615) :
    Calls Try.prog 4 #[.slice a n c, .agg #[.int .i64 cl, .int .u64 at_, .int .u64 need]] w fun e w' => e = .returned (.bool true) ∧ Below w.heap.size w w' := by
  by_cases hn : 100 < n
  · exact plays22_a a n c fs hr hcap cl cl0 cl1 at_ at0 at1 need need0 need1 hn
  by_cases hok : PlanOk fs n
  · by_cases hcl : 0 ≤ cl ∧ cl ≤ 7
    · by_cases hao : AllOpen fs n cl.toNat
      · by_cases hl : 9223372036854775808 < at_
        · exact plays22_d1 a n c fs hr hcap cl cl0 cl1 at_ at0 at1 need need0 need1 hok hcl hao hl
        · exact plays22_d2 a n c fs hr hcap cl cl0 cl1 at_ at0 at1 need need0 need1 hok hcl hao (by omega)
      · by_cases hl : 9223372036854775808 < at_
        · exact plays22_e1 a n c fs hr hcap cl cl0 cl1 at_ at0 at1 need need0 need1 hok hcl hao hl
        · exact plays22_e2 a n c fs hr hcap cl cl0 cl1 at_ at0 at1 need need0 need1 hok hcl hao (by omega)
    · exact plays22_c a n c fs hr hcap cl cl0 cl1 at_ at0 at1 need need0 need1 hok hcl
  · exact plays22_b a n c fs hr hcap cl cl0 cl1 at_ at0 at1 need need0 need1 (by omega) hok
end Go.Proofs.Ytmkgadndfiiacaa
