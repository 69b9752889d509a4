/-
  Package trie: the thing under a prefix is dropped, one step. No condition but that the node stands.
-/
import Derived.Test.YtfjhcmihjffknaaTr6
namespace Go.Proofs.Ytfjhcmihjffknaa
set_option linter.unusedVariables false
set_option linter.unusedSimpArgs false
open Go.ChangeShapes Go.WideShapes Go.ChangeAt Go.RowKit
attribute [local go_sem] alloc_drewN setCell_drewN

/-- What comes in place of a node. -/
def shr (th : Bool) (pl pr : Option Addr) (B : Nat) : Option Addr := if th || (pl.isSome && pr.isSome) then some ⟨B, 0, none⟩ else if pl.isSome then pl else pr
section
variable {w : World} {B : Nat} {b m : Int} {th : Bool} {y : Int} {pl pr : Option Addr} {a n : Int}
set_option maxRecDepth 100000 in
set_option maxHeartbeats 4000000 in
theorem drop_this (h : NodeAt w B a n th y (.pointer pl) (.pointer pr)) : Calls Try.prog 63 #[.pointer (some ⟨B, 0, none⟩), .agg #[.int .u32 a, .int .i64 n]] w fun e w' => e = .returned (.pointer (shr false pl pr B)) ∧ NodeAt w' B a n false 0 (.pointer pl) (.pointer pr) ∧ MvS w w' (fun j => j = B) (fun j => j = B) := by
  have HB := Lib.hid ((Below.refl _ w).alloc (Nat.le_refl _) (.cells #[.int .u32 a, .int .i64 n] 70))
  have HP := Lib.hid (heap_alloc_new w (.cells #[.int .u32 a, .int .i64 n] 70))
  have HN := Lib.hid (h.below HB.out)
  obtain ⟨c0, c1, c2, c3, c4, c5⟩ := HN.out.cell
  obtain ⟨p0, p1⟩ := box2 HP.out
  have f2 := HN.out.frozen 2
  have f3 := HN.out.frozen 3
  have BL := Lib.hid (Array.getElem?_eq_some_iff.1 h).1
  clear h
  cases pl <;> cases pr
  all_goals
    go_enter Try.func63, Try.ntmps63
    go_wp2
    generalize w.alloc (.cells #[.int .u32 a, .int .i64 n] 70) = W at *
    go_quiet (fail)
    go_wp2
    go_ret
    have h2 := heap_set HN.out 2 (.bool false)
    have h3 := heap_set h2 3 (.int .i64 0)
    refine ⟨rfl, by simpa [NodeAt] using h3, ⟨HB.out.os, HB.out.tape, HB.out.output, by simpa using HB.out.size, fun j hj hn => ?_, fun j hj => Or.inr hj⟩⟩
    exact (Below.heap_setCell _ _ _ j hn).trans ((Below.heap_setCell _ _ _ j hn).trans (HB.out.block j hj))
set_option maxRecDepth 100000 in
set_option maxHeartbeats 8000000 in
theorem drop_down0 (h : NodeAt w B b m th y (.pointer pl) (.pointer pr)) (hm : 0 ≤ m ∧ m ≤ 32) (ha : 0 ≤ a ∧ a ≤ 4294967295) (he : ¬ (b = a ∧ m = n)) (hbr : brn m a = 0) {Q : World → World → Option Addr → Prop}
    (IH : ∀ W, Below w.heap.size w W → Calls Try.prog 63 #[.pointer pl, .agg #[.int .u32 a, .int .i64 n]] W fun e w' => ∃ p, e = .returned (.pointer p) ∧ w'.heap[B]? = W.heap[B]? ∧ Q W w' p) :
    Calls Try.prog 63 #[.pointer (some ⟨B, 0, none⟩), .agg #[.int .u32 a, .int .i64 n]] w fun e w' => ∃ W w3 p, e = .returned (.pointer (shr th p pr B)) ∧ Below w.heap.size w W ∧ Q W w3 p ∧ w3.heap[B]? = W.heap[B]? ∧ w' = w3.setCell ⟨B, 4, none⟩ (.pointer p) := by
  have HB := Lib.hid ((Below.refl _ w).alloc (Nat.le_refl _) (.cells #[.int .u32 a, .int .i64 n] 70))
  have HP := Lib.hid (heap_alloc_new w (.cells #[.int .u32 a, .int .i64 n] 70))
  have HN := Lib.hid (h.below HB.out)
  obtain ⟨c0, c1, c2, c3, c4, c5⟩ := HN.out.cell
  obtain ⟨p0, p1⟩ := box2 HP.out
  have BR := Lib.hid (fun (v : World) (hv : v.cell? ⟨B, 1, none⟩ = some (.int .i64 m)) => (show Calls Try.prog 85 #[.pointer (some ⟨B, 0, none⟩), .int .u32 a] v fun e w' => e = .returned (.int .i64 0) ∧ w' = v from by
    have c := branch_at hv hm.1 hm.2 a ha.1 ha.2
    rw [hbr] at c
    exact c))
  have IHH := Lib.hid IH
  have NE : (b == a && m == n) = false := by
    by_cases h1 : b = a
    · have h2 : m ≠ n := fun h2 => he ⟨h1, h2⟩
      simp [h2]
    · simp [h1]
  have PE : ∀ W, Sem.run Try.prog (binOp .eql 70 (.agg #[.int .u32 b, .int .i64 m]) (.agg #[.int .u32 a, .int .i64 n])) W = .ok (.bool false) W := fun W => by rw [prefix_eq, NE]
  clear NE h IH he hbr
  go_enter Try.func63, Try.ntmps63
  go_wp2
  generalize w.alloc (.cells #[.int .u32 a, .int .i64 n] 70) = W at *
  go_quiet (fail)
  go_wp2_with fail
  refine (BR.out (W.drewN _) c1).mono ?_
  rintro e w2 ⟨rfl, rfl⟩
  go_wp2
  refine wp_region_any (by kernel_rfl) ?_
  (try (change wpAny _ _ _ _ _ _ _ (World.drew _)))
  refine wpAny_take (i := 0) (v := ?_) rfl (by kernel_rfl) (by kernel_rfl) (by kernel_rfl) (fun _ _ _ h => h) (Or.inl ⟨by rfl, ?_⟩) ?_
  case refine_2 =>
    intro w
    go_simp
    (try with_reducible rfl)
  refine wpAny_take (i := 1) (v := ?_) rfl (by kernel_rfl) (by kernel_rfl) (by kernel_rfl) (fun _ _ _ h => h) (Or.inl ⟨by rfl, ?_⟩) ?_
  case refine_2 =>
    intro w
    go_simp
    (try with_reducible rfl)
  refine wpAny_take (i := 2) (v := ?_) rfl (by kernel_rfl) (by kernel_rfl) (by kernel_rfl) (fun _ _ _ h => h) (Or.inl ⟨by rfl, ?_⟩) ?_
  case refine_2 =>
    intro w
    go_simp
    (try with_reducible rfl)
  refine wpAny_take (i := 3) (v := ?_) rfl (by kernel_rfl) (by kernel_rfl) (by kernel_rfl) (fun _ _ _ h => h) (Or.inl ⟨by rfl, ?_⟩) ?_
  case refine_2 =>
    intro w
    go_simp
    (try with_reducible rfl)
  refine wpAny_take (i := 4) (v := ?_) rfl (by kernel_rfl) (by kernel_rfl) (by kernel_rfl) (fun _ _ _ h => h) (Or.inl ⟨by rfl, ?_⟩) ?_
  case refine_2 =>
    intro w
    go_simp
    (try with_reducible rfl)
  refine wpAny_take (i := 5) (v := ?_) rfl (by kernel_rfl) (by kernel_rfl) (by kernel_rfl) (fun _ _ _ h => h) (Or.inl ⟨by rfl, ?_⟩) ?_
  case refine_2 =>
    intro w
    go_simp
    (try with_reducible rfl)
  refine wpAny_take (i := 6) (v := ?_) rfl (by kernel_rfl) (by kernel_rfl) (by kernel_rfl) (fun _ _ _ h => h) (Or.inl ⟨by rfl, ?_⟩) ?_
  case refine_2 =>
    intro w
    go_simp
    (try with_reducible rfl)
  refine wpAny_take (i := 10) (v := ?_) rfl (by kernel_rfl) (by kernel_rfl) (by kernel_rfl) (fun _ _ _ h => h) (Or.inl ⟨by rfl, ?_⟩) ?_
  case refine_2 =>
    intro w
    go_simp
    (try with_reducible rfl)
  refine wpAny_take (i := 11) (v := ?_) rfl (by kernel_rfl) (by kernel_rfl) (by kernel_rfl) (fun _ _ _ h => h) (Or.inl ⟨by rfl, ?_⟩) ?_
  case refine_2 =>
    intro w
    go_simp
    (try with_reducible rfl)
  refine wpAny_ready (rs := [7, 8]) (by kernel_rfl) (by simp) ?_
  refine (AllReady.cons rfl (fun K hK => ?_) (AllReady.cons rfl (fun K hK => ?_) AllReady.nil))
  · go_simp
    refine hK _ _ ?_
    clear hK K
    refine wpAny_ready (rs := [8]) (by kernel_rfl) (by simp) ?_
    refine AllReady.cons rfl (fun K hK => ?_) AllReady.nil
    go_simp
    refine hK _ _ ?_
    clear hK K
    refine wpAny_ready (rs := [9]) (by kernel_rfl) (by simp) ?_
    refine AllReady.cons rfl (fun K hK => ?_) AllReady.nil
    go_simp
    refine (IHH.out _ (below_drewN (nq + 1) HB.out)).mono ?_
    rintro e w3 ⟨p, rfl, hB3, hQ⟩
    have h3 : NodeAt w3 B b m th y (.pointer pl) (.pointer pr) := hB3.trans HN.out
    obtain ⟨-, -, e2, -, e4, e5⟩ := h3.cell
    have f4 := h3.frozen 4
    have FIN := Lib.hid (And.intro hQ hB3)
    have g4 := NodeAt.cell (show NodeAt (w3.setCell ⟨B, 4, none⟩ (.pointer p)) B b m th y (.pointer p) (.pointer pr) from (by simpa [NodeAt] using heap_set h3 4 (.pointer p)))
    obtain ⟨-, -, g2, -, g4, g5⟩ := g4
    clear hQ hB3 h3
    go_simp
    refine hK _ _ ?_
    clear hK K
    refine wpAny_ready (rs := [12]) (by kernel_rfl) (by simp) ?_
    refine AllReady.cons rfl (fun K hK => ?_) AllReady.nil
    go_simp
    refine hK _ _ ?_
    clear hK K
    refine wpAny_ready (rs := [13]) (by kernel_rfl) (by simp) ?_
    refine AllReady.cons rfl (fun K hK => ?_) AllReady.nil
    go_simp
    refine hK _ _ ?_
    clear hK K
    refine wpAny_done (by kernel_rfl) ?_ _
    (try simp only [Exit.then])
    generalize hw4 : w3.setCell ⟨B, 4, none⟩ (.pointer p) = w4 at *
    cases th <;> cases p <;> cases pr
    all_goals
      go_wp2
      go_ret
      exact ⟨_, _, _, rfl, below_drewN (nq + 1) HB.out, FIN.out.1, FIN.out.2, hw4.symm⟩
  · go_simp
    refine hK _ _ ?_
    clear hK K
    refine wpAny_ready (rs := [7]) (by kernel_rfl) (by simp) ?_
    refine AllReady.cons rfl (fun K hK => ?_) AllReady.nil
    go_simp
    refine hK _ _ ?_
    clear hK K
    refine wpAny_ready (rs := [9]) (by kernel_rfl) (by simp) ?_
    refine AllReady.cons rfl (fun K hK => ?_) AllReady.nil
    go_simp
    refine (IHH.out _ (below_drewN (nq + 1) HB.out)).mono ?_
    rintro e w3 ⟨p, rfl, hB3, hQ⟩
    have h3 : NodeAt w3 B b m th y (.pointer pl) (.pointer pr) := hB3.trans HN.out
    obtain ⟨-, -, e2, -, e4, e5⟩ := h3.cell
    have f4 := h3.frozen 4
    have FIN := Lib.hid (And.intro hQ hB3)
    have g4 := NodeAt.cell (show NodeAt (w3.setCell ⟨B, 4, none⟩ (.pointer p)) B b m th y (.pointer p) (.pointer pr) from (by simpa [NodeAt] using heap_set h3 4 (.pointer p)))
    obtain ⟨-, -, g2, -, g4, g5⟩ := g4
    clear hQ hB3 h3
    go_simp
    refine hK _ _ ?_
    clear hK K
    refine wpAny_ready (rs := [12]) (by kernel_rfl) (by simp) ?_
    refine AllReady.cons rfl (fun K hK => ?_) AllReady.nil
    go_simp
    refine hK _ _ ?_
    clear hK K
    refine wpAny_ready (rs := [13]) (by kernel_rfl) (by simp) ?_
    refine AllReady.cons rfl (fun K hK => ?_) AllReady.nil
    go_simp
    refine hK _ _ ?_
    clear hK K
    refine wpAny_done (by kernel_rfl) ?_ _
    (try simp only [Exit.then])
    generalize hw4 : w3.setCell ⟨B, 4, none⟩ (.pointer p) = w4 at *
    cases th <;> cases p <;> cases pr
    all_goals
      go_wp2
      go_ret
      exact ⟨_, _, _, rfl, below_drewN (nq + 1) HB.out, FIN.out.1, FIN.out.2, hw4.symm⟩
set_option maxRecDepth 100000 in
set_option maxHeartbeats 8000000 in
theorem drop_down1 (h : NodeAt w B b m th y (.pointer pl) (.pointer pr)) (hm : 0 ≤ m ∧ m ≤ 32) (ha : 0 ≤ a ∧ a ≤ 4294967295) (he : ¬ (b = a ∧ m = n)) (hbr : brn m a = 1) {Q : World → World → Option Addr → Prop}
    (IH : ∀ W, Below w.heap.size w W → Calls Try.prog 63 #[.pointer pr, .agg #[.int .u32 a, .int .i64 n]] W fun e w' => ∃ p, e = .returned (.pointer p) ∧ w'.heap[B]? = W.heap[B]? ∧ Q W w' p) :
    Calls Try.prog 63 #[.pointer (some ⟨B, 0, none⟩), .agg #[.int .u32 a, .int .i64 n]] w fun e w' => ∃ W w3 p, e = .returned (.pointer (shr th pl p B)) ∧ Below w.heap.size w W ∧ Q W w3 p ∧ w3.heap[B]? = W.heap[B]? ∧ w' = w3.setCell ⟨B, 5, none⟩ (.pointer p) := by
  have HB := Lib.hid ((Below.refl _ w).alloc (Nat.le_refl _) (.cells #[.int .u32 a, .int .i64 n] 70))
  have HP := Lib.hid (heap_alloc_new w (.cells #[.int .u32 a, .int .i64 n] 70))
  have HN := Lib.hid (h.below HB.out)
  obtain ⟨c0, c1, c2, c3, c4, c5⟩ := HN.out.cell
  obtain ⟨p0, p1⟩ := box2 HP.out
  have BR := Lib.hid (fun (v : World) (hv : v.cell? ⟨B, 1, none⟩ = some (.int .i64 m)) => (show Calls Try.prog 85 #[.pointer (some ⟨B, 0, none⟩), .int .u32 a] v fun e w' => e = .returned (.int .i64 1) ∧ w' = v from by
    have c := branch_at hv hm.1 hm.2 a ha.1 ha.2
    rw [hbr] at c
    exact c))
  have IHH := Lib.hid IH
  have NE : (b == a && m == n) = false := by
    by_cases h1 : b = a
    · have h2 : m ≠ n := fun h2 => he ⟨h1, h2⟩
      simp [h2]
    · simp [h1]
  have PE : ∀ W, Sem.run Try.prog (binOp .eql 70 (.agg #[.int .u32 b, .int .i64 m]) (.agg #[.int .u32 a, .int .i64 n])) W = .ok (.bool false) W := fun W => by rw [prefix_eq, NE]
  clear NE h IH he hbr
  go_enter Try.func63, Try.ntmps63
  go_wp2
  generalize w.alloc (.cells #[.int .u32 a, .int .i64 n] 70) = W at *
  go_quiet (fail)
  go_wp2_with fail
  refine (BR.out (W.drewN _) c1).mono ?_
  rintro e w2 ⟨rfl, rfl⟩
  go_wp2
  refine wp_region_any (by kernel_rfl) ?_
  (try (change wpAny _ _ _ _ _ _ _ (World.drew _)))
  refine wpAny_take (i := 0) (v := ?_) rfl (by kernel_rfl) (by kernel_rfl) (by kernel_rfl) (fun _ _ _ h => h) (Or.inl ⟨by rfl, ?_⟩) ?_
  case refine_2 =>
    intro w
    go_simp
    (try with_reducible rfl)
  refine wpAny_take (i := 1) (v := ?_) rfl (by kernel_rfl) (by kernel_rfl) (by kernel_rfl) (fun _ _ _ h => h) (Or.inl ⟨by rfl, ?_⟩) ?_
  case refine_2 =>
    intro w
    go_simp
    (try with_reducible rfl)
  refine wpAny_take (i := 2) (v := ?_) rfl (by kernel_rfl) (by kernel_rfl) (by kernel_rfl) (fun _ _ _ h => h) (Or.inl ⟨by rfl, ?_⟩) ?_
  case refine_2 =>
    intro w
    go_simp
    (try with_reducible rfl)
  refine wpAny_take (i := 3) (v := ?_) rfl (by kernel_rfl) (by kernel_rfl) (by kernel_rfl) (fun _ _ _ h => h) (Or.inl ⟨by rfl, ?_⟩) ?_
  case refine_2 =>
    intro w
    go_simp
    (try with_reducible rfl)
  refine wpAny_take (i := 4) (v := ?_) rfl (by kernel_rfl) (by kernel_rfl) (by kernel_rfl) (fun _ _ _ h => h) (Or.inl ⟨by rfl, ?_⟩) ?_
  case refine_2 =>
    intro w
    go_simp
    (try with_reducible rfl)
  refine wpAny_take (i := 5) (v := ?_) rfl (by kernel_rfl) (by kernel_rfl) (by kernel_rfl) (fun _ _ _ h => h) (Or.inl ⟨by rfl, ?_⟩) ?_
  case refine_2 =>
    intro w
    go_simp
    (try with_reducible rfl)
  refine wpAny_take (i := 6) (v := ?_) rfl (by kernel_rfl) (by kernel_rfl) (by kernel_rfl) (fun _ _ _ h => h) (Or.inl ⟨by rfl, ?_⟩) ?_
  case refine_2 =>
    intro w
    go_simp
    (try with_reducible rfl)
  refine wpAny_take (i := 10) (v := ?_) rfl (by kernel_rfl) (by kernel_rfl) (by kernel_rfl) (fun _ _ _ h => h) (Or.inl ⟨by rfl, ?_⟩) ?_
  case refine_2 =>
    intro w
    go_simp
    (try with_reducible rfl)
  refine wpAny_take (i := 11) (v := ?_) rfl (by kernel_rfl) (by kernel_rfl) (by kernel_rfl) (fun _ _ _ h => h) (Or.inl ⟨by rfl, ?_⟩) ?_
  case refine_2 =>
    intro w
    go_simp
    (try with_reducible rfl)
  refine wpAny_ready (rs := [7, 8]) (by kernel_rfl) (by simp) ?_
  refine (AllReady.cons rfl (fun K hK => ?_) (AllReady.cons rfl (fun K hK => ?_) AllReady.nil))
  · go_simp
    refine hK _ _ ?_
    clear hK K
    refine wpAny_ready (rs := [8]) (by kernel_rfl) (by simp) ?_
    refine AllReady.cons rfl (fun K hK => ?_) AllReady.nil
    go_simp
    refine hK _ _ ?_
    clear hK K
    refine wpAny_ready (rs := [9]) (by kernel_rfl) (by simp) ?_
    refine AllReady.cons rfl (fun K hK => ?_) AllReady.nil
    go_simp
    refine (IHH.out _ (below_drewN (nq + 1) HB.out)).mono ?_
    rintro e w3 ⟨p, rfl, hB3, hQ⟩
    have h3 : NodeAt w3 B b m th y (.pointer pl) (.pointer pr) := hB3.trans HN.out
    obtain ⟨-, -, e2, -, e4, e5⟩ := h3.cell
    have f4 := h3.frozen 5
    have FIN := Lib.hid (And.intro hQ hB3)
    have g4 := NodeAt.cell (show NodeAt (w3.setCell ⟨B, 5, none⟩ (.pointer p)) B b m th y (.pointer pl) (.pointer p) from (by simpa [NodeAt] using heap_set h3 5 (.pointer p)))
    obtain ⟨-, -, g2, -, g4, g5⟩ := g4
    clear hQ hB3 h3
    go_simp
    refine hK _ _ ?_
    clear hK K
    refine wpAny_ready (rs := [12]) (by kernel_rfl) (by simp) ?_
    refine AllReady.cons rfl (fun K hK => ?_) AllReady.nil
    go_simp
    refine hK _ _ ?_
    clear hK K
    refine wpAny_ready (rs := [13]) (by kernel_rfl) (by simp) ?_
    refine AllReady.cons rfl (fun K hK => ?_) AllReady.nil
    go_simp
    refine hK _ _ ?_
    clear hK K
    refine wpAny_done (by kernel_rfl) ?_ _
    (try simp only [Exit.then])
    generalize hw4 : w3.setCell ⟨B, 5, none⟩ (.pointer p) = w4 at *
    cases th <;> cases p <;> cases pl
    all_goals
      go_wp2
      go_ret
      exact ⟨_, _, _, rfl, below_drewN (nq + 1) HB.out, FIN.out.1, FIN.out.2, hw4.symm⟩
  · go_simp
    refine hK _ _ ?_
    clear hK K
    refine wpAny_ready (rs := [7]) (by kernel_rfl) (by simp) ?_
    refine AllReady.cons rfl (fun K hK => ?_) AllReady.nil
    go_simp
    refine hK _ _ ?_
    clear hK K
    refine wpAny_ready (rs := [9]) (by kernel_rfl) (by simp) ?_
    refine AllReady.cons rfl (fun K hK => ?_) AllReady.nil
    go_simp
    refine (IHH.out _ (below_drewN (nq + 1) HB.out)).mono ?_
    rintro e w3 ⟨p, rfl, hB3, hQ⟩
    have h3 : NodeAt w3 B b m th y (.pointer pl) (.pointer pr) := hB3.trans HN.out
    obtain ⟨-, -, e2, -, e4, e5⟩ := h3.cell
    have f4 := h3.frozen 5
    have FIN := Lib.hid (And.intro hQ hB3)
    have g4 := NodeAt.cell (show NodeAt (w3.setCell ⟨B, 5, none⟩ (.pointer p)) B b m th y (.pointer pl) (.pointer p) from (by simpa [NodeAt] using heap_set h3 5 (.pointer p)))
    obtain ⟨-, -, g2, -, g4, g5⟩ := g4
    clear hQ hB3 h3
    go_simp
    refine hK _ _ ?_
    clear hK K
    refine wpAny_ready (rs := [12]) (by kernel_rfl) (by simp) ?_
    refine AllReady.cons rfl (fun K hK => ?_) AllReady.nil
    go_simp
    refine hK _ _ ?_
    clear hK K
    refine wpAny_ready (rs := [13]) (by kernel_rfl) (by simp) ?_
    refine AllReady.cons rfl (fun K hK => ?_) AllReady.nil
    go_simp
    refine hK _ _ ?_
    clear hK K
    refine wpAny_done (by kernel_rfl) ?_ _
    (try simp only [Exit.then])
    generalize hw4 : w3.setCell ⟨B, 5, none⟩ (.pointer p) = w4 at *
    cases th <;> cases p <;> cases pl
    all_goals
      go_wp2
      go_ret
      exact ⟨_, _, _, rfl, below_drewN (nq + 1) HB.out, FIN.out.1, FIN.out.2, hw4.symm⟩
end
end Go.Proofs.Ytfjhcmihjffknaa
