/-
  Package trie: a thing is put under a prefix, one step. No condition but that the node stands.
-/
import Derived.Test.YtfjhcmihjffknaaTr3
import Derived.StillTailTactics
namespace Go.Proofs.Ytfjhcmihjffknaa
set_option linter.unusedVariables false
set_option linter.unusedSimpArgs false
open Go.ChangeShapes Go.WideShapes Go.ChangeAt Go.RowKit
attribute [local go_sem] alloc_drewN setCell_drewN

theorem NodeAt.frozen {w : World} {B : Nat} {b m : Int} {th : Bool} {y : Int} {vl vr : Value} (h : NodeAt w B b m th y vl vr) (i : Nat) : w.frozen? ⟨B, i, none⟩ = false := frozen_of_row w B i _ _ h
theorem below_flat {W w1 : World} {n : Nat} {v : World} (h : Below n v w1) (e : v.heap = W.heap := by rfl) (e1 : v.os = W.os := by rfl) (e2 : v.tape = W.tape := by rfl) (e3 : v.output = W.output := by rfl) : Below n W w1 :=
  ⟨h.os.trans e1, h.tape.trans e2, h.output.trans e3, by rw [← e]; exact h.size, fun k hk => (h.block k hk).trans (by rw [e])⟩
section
variable {w : World} {B : Nat} {b m : Int} {th : Bool} {y : Int} {vl vr : Value} {a n : Int}
set_option maxRecDepth 100000 in
set_option maxHeartbeats 2000000 in
theorem put_nil (a n x : Int) (w : World) : Calls Try.prog 67 #[.pointer none, .agg #[.int .u32 a, .int .i64 n], .int .i64 x] w fun e w' => e = .returned (.pointer (some ⟨w.heap.size + 1, 0, none⟩)) ∧ NodeAt w' (w.heap.size + 1) a n true x (.pointer none) (.pointer none) ∧ Below w.heap.size w w' := by
  have HB := Lib.hid ((Below.refl _ w).alloc (Nat.le_refl _) (.cells #[.int .u32 a, .int .i64 n] 70))
  have HP := heap_alloc_new w (.cells #[.int .u32 a, .int .i64 n] 70)
  obtain ⟨p0, p1⟩ := box2 HP
  clear HP
  go_enter Try.func67, Try.ntmps67
  go_wp2
  go_ret
  refine ⟨rfl, ?_, HB.out.alloc HB.out.size _⟩
  have h3 := heap_alloc_new (w.alloc (.cells #[.int .u32 a, .int .i64 n] 70)) (.cells #[.int .u32 a, .int .i64 n, .bool true, .int .i64 x, .pointer none, .pointer none] 126)
  unfold NodeAt
  simpa only [World.size_alloc] using h3
set_option maxRecDepth 100000 in
set_option maxHeartbeats 2000000 in
theorem put_this (h : NodeAt w B a n th y vl vr) (x : Int) : Calls Try.prog 67 #[.pointer (some ⟨B, 0, none⟩), .agg #[.int .u32 a, .int .i64 n], .int .i64 x] w fun e w' => e = .returned (.pointer (some ⟨B, 0, none⟩)) ∧ NodeAt w' B a n true x vl vr ∧ MvS w w' (fun j => j = B) (fun j => j = B) := by
  have HB := Lib.hid ((Below.refl _ w).alloc (Nat.le_refl _) (.cells #[.int .u32 a, .int .i64 n] 70))
  have HP := Lib.hid (heap_alloc_new w (.cells #[.int .u32 a, .int .i64 n] 70))
  have HN := Lib.hid (h.below HB.out)
  obtain ⟨c0, c1, c2, c3, c4, c5⟩ := HN.out.cell
  obtain ⟨p0, p1⟩ := box2 HP.out
  have SZ := Lib.hid (show w.heap.size < (w.alloc (.cells #[.int .u32 a, .int .i64 n] 70)).heap.size by simp)
  have f2 := HN.out.frozen 2
  have f3 := HN.out.frozen 3
  have BL := Lib.hid (Array.getElem?_eq_some_iff.1 h).1
  clear h
  go_enter Try.func67, Try.ntmps67
  go_wp2
  generalize w.alloc (.cells #[.int .u32 a, .int .i64 n] 70) = W at *
  go_quiet (fail)
  go_wp2
  go_ret
  have h2 : (W.setCell ⟨B, 2, none⟩ (.bool true)).heap[B]? = some (.cells #[.int .u32 a, .int .i64 n, .bool true, .int .i64 y, vl, vr] 126 (0, 0)) := by simpa using heap_set HN.out 2 (.bool true)
  have h3 : ((W.setCell ⟨B, 2, none⟩ (.bool true)).setCell ⟨B, 3, none⟩ (.int .i64 x)).heap[B]? = some (.cells #[.int .u32 a, .int .i64 n, .bool true, .int .i64 x, vl, vr] 126 (0, 0)) := by simpa using heap_set h2 3 (.int .i64 x)
  refine ⟨rfl, h3, ⟨HB.out.os, HB.out.tape, HB.out.output, by simpa using HB.out.size, fun j hj hn => ?_, fun j hj => Or.inr hj⟩⟩
  exact (Below.heap_setCell _ _ _ j hn).trans ((Below.heap_setCell _ _ _ j hn).trans (HB.out.block j hj))
set_option maxRecDepth 100000 in
set_option maxHeartbeats 4000000 in
theorem put_down0 (h : NodeAt w B b m th y vl vr) (hb : 0 ≤ b ∧ b ≤ 4294967295) (hm : 0 ≤ m ∧ m ≤ 32) (ha : 0 ≤ a ∧ a ≤ 4294967295) (hn : -9223372036854775808 ≤ n ∧ n ≤ 9223372036854775807) (hc : CvP b m a n) (he : ¬ (b = a ∧ m = n)) (hbr : brn m a = 0) (x : Int) {Q : World → World → Option Addr → Prop}
    (IH : ∀ W, Below w.heap.size w W → Calls Try.prog 67 #[vl, .agg #[.int .u32 a, .int .i64 n], .int .i64 x] W fun e w' => ∃ p, e = .returned (.pointer p) ∧ w'.heap[B]? = W.heap[B]? ∧ Q W w' p) :
    Calls Try.prog 67 #[.pointer (some ⟨B, 0, none⟩), .agg #[.int .u32 a, .int .i64 n], .int .i64 x] w fun e w' => e = .returned (.pointer (some ⟨B, 0, none⟩)) ∧ ∃ W w3 p, Below w.heap.size w W ∧ Q W w3 p ∧ w3.heap[B]? = W.heap[B]? ∧ w' = w3.setCell ⟨B, 4, none⟩ (.pointer p) := by
  have HB := Lib.hid ((Below.refl _ w).alloc (Nat.le_refl _) (.cells #[.int .u32 a, .int .i64 n] 70))
  have HP := Lib.hid (heap_alloc_new w (.cells #[.int .u32 a, .int .i64 n] 70))
  have HN := Lib.hid (h.below HB.out)
  obtain ⟨c0, c1, c2, c3, c4, c5⟩ := HN.out.cell
  obtain ⟨p0, p1⟩ := box2 HP.out
  have SZ := Lib.hid (show w.heap.size < (w.alloc (.cells #[.int .u32 a, .int .i64 n] 70)).heap.size by simp)
  have CV := Lib.hid (fun (W : World) => (show Calls Try.prog 88 #[.agg #[.int .u32 b, .int .i64 m], .agg #[.int .u32 a, .int .i64 n]] W fun e w' => e = .returned (.bool true) ∧ Below W.heap.size W w' from by
    have c := covers_any b m hb.1 hb.2 (by omega) (by omega) a n ha.1 ha.2 hn.1 hn.2 W
    rw [decide_eq_true hc] at c
    exact c))
  have BR := Lib.hid (fun (v : World) (hv : v.cell? ⟨B, 1, none⟩ = some (.int .i64 m)) => (show Calls Try.prog 85 #[.pointer (some ⟨B, 0, none⟩), .int .u32 a] v fun e w' => e = .returned (.int .i64 0) ∧ w' = v from by
    have c := branch_at hv hm.1 hm.2 a ha.1 ha.2
    rw [hbr] at c
    exact c))
  have IHH := Lib.hid IH
  have NE : (b == a && m == n) = false := by
    by_cases h1 : b = a
    · have h2 : m ≠ n := fun h2 => he ⟨h1, h2⟩
      simp [h2]
    · simp [h1]
  have PE : ∀ W, Sem.run Try.prog (binOp .eql 70 (.agg #[.int .u32 b, .int .i64 m]) (.agg #[.int .u32 a, .int .i64 n])) W = .ok (.bool false) W := fun W => by rw [prefix_eq, NE]
  clear NE h IH he hbr
  go_enter Try.func67, Try.ntmps67
  go_wp2
  generalize w.alloc (.cells #[.int .u32 a, .int .i64 n] 70) = W at *
  go_quiet (fail)
  go_wp2
  go_region_held3 (fun v => v.cell? ⟨B, 0, none⟩ = some (.int .u32 b) ∧ v.cell? ⟨B, 1, none⟩ = some (.int .i64 m) ∧ v.cell? ⟨w.heap.size, 0, none⟩ = some (.int .u32 a) ∧ v.cell? ⟨w.heap.size, 1, none⟩ = some (.int .i64 n)) ((first | exact KP | exact ⟨c0, c1, p0, p1⟩)) (first
    | (go_at_call 88; refine (CV.out _).mono ?_; rintro e w1 ⟨rfl, b1⟩; have b1 : Below W.heap.size W w1 := below_flat b1; have B1 := Lib.hid b1; have KP : w1.cell? ⟨B, 0, none⟩ = some (.int .u32 b) ∧ w1.cell? ⟨B, 1, none⟩ = some (.int .i64 m) ∧ w1.cell? ⟨w.heap.size, 0, none⟩ = some (.int .u32 a) ∧ w1.cell? ⟨w.heap.size, 1, none⟩ = some (.int .i64 n) := by { obtain ⟨d0, d1, -, -, -, -⟩ := (HN.out.below b1).cell; obtain ⟨q0, q1⟩ := box2 ((b1.block _ SZ.out).trans HP.out); exact ⟨d0, d1, q0, q1⟩ }; clear b1)
    | fail)
  obtain ⟨k0, k1, k2, k3⟩ := KP
  obtain ⟨-, -, -, -, k4, k5⟩ := (HN.out.below B1.out).cell
  have B2 := Lib.hid (HB.out.trans (B1.out.mono HB.out.size))
  have HN1 := Lib.hid (HN.out.below B1.out)
  clear c0 c1 c2 c3 c4 c5 p0 p1 HB B1 CV HN HP PE
  go_wp2_with fail
  refine (BR.out _ k1).mono ?_
  rintro e w2 ⟨rfl, rfl⟩
  go_wp2
  refine wp_region_any (by kernel_rfl) ?_
  (try (change wpAny _ _ _ _ _ _ _ (World.drew _)))
  refine wpAny_take (i := 0) (v := ?_) rfl (by kernel_rfl) (by kernel_rfl) (by kernel_rfl) (fun _ _ _ h => h) (Or.inl ⟨by rfl, ?_⟩) ?_
  case refine_2 =>
    intro w
    go_simp
    (try with_reducible rfl)
  refine wpAny_take (i := 1) (v := ?_) rfl (by kernel_rfl) (by kernel_rfl) (by kernel_rfl) (fun _ _ _ h => h) (Or.inl ⟨by rfl, ?_⟩) ?_
  case refine_2 =>
    intro w
    go_simp
    (try with_reducible rfl)
  refine wpAny_take (i := 2) (v := ?_) rfl (by kernel_rfl) (by kernel_rfl) (by kernel_rfl) (fun _ _ _ h => h) (Or.inl ⟨by rfl, ?_⟩) ?_
  case refine_2 =>
    intro w
    go_simp
    (try with_reducible rfl)
  refine wpAny_take (i := 3) (v := ?_) rfl (by kernel_rfl) (by kernel_rfl) (by kernel_rfl) (fun _ _ _ h => h) (Or.inl ⟨by rfl, ?_⟩) ?_
  case refine_2 =>
    intro w
    go_simp
    (try with_reducible rfl)
  refine wpAny_take (i := 4) (v := ?_) rfl (by kernel_rfl) (by kernel_rfl) (by kernel_rfl) (fun _ _ _ h => h) (Or.inl ⟨by rfl, ?_⟩) ?_
  case refine_2 =>
    intro w
    go_simp
    (try with_reducible rfl)
  refine wpAny_take (i := 5) (v := ?_) rfl (by kernel_rfl) (by kernel_rfl) (by kernel_rfl) (fun _ _ _ h => h) (Or.inl ⟨by rfl, ?_⟩) ?_
  case refine_2 =>
    intro w
    go_simp
    (try with_reducible rfl)
  refine wpAny_take (i := 6) (v := ?_) rfl (by kernel_rfl) (by kernel_rfl) (by kernel_rfl) (fun _ _ _ h => h) (Or.inl ⟨by rfl, ?_⟩) ?_
  case refine_2 =>
    intro w
    go_simp
    (try with_reducible rfl)
  refine wpAny_take (i := 9) (v := ?_) rfl (by kernel_rfl) (by kernel_rfl) (by kernel_rfl) (fun _ _ _ h => h) (Or.inl ⟨by rfl, ?_⟩) ?_
  case refine_2 =>
    intro w
    go_simp
    (try with_reducible rfl)
  refine wpAny_take (i := 11) (v := ?_) rfl (by kernel_rfl) (by kernel_rfl) (by kernel_rfl) (fun _ _ _ h => h) (Or.inl ⟨by rfl, ?_⟩) ?_
  case refine_2 =>
    intro w
    go_simp
    (try with_reducible rfl)
  refine wpAny_take (i := 12) (v := ?_) rfl (by kernel_rfl) (by kernel_rfl) (by kernel_rfl) (fun _ _ _ h => h) (Or.inl ⟨by rfl, ?_⟩) ?_
  case refine_2 =>
    intro w
    go_simp
    (try with_reducible rfl)
  refine wpAny_ready (rs := [7, 8]) (by kernel_rfl) (by simp) ?_
  refine (AllReady.cons rfl (fun K hK => ?_) (AllReady.cons rfl (fun K hK => ?_) AllReady.nil))
  · go_simp
    refine hK _ _ ?_
    clear hK K
    refine wpAny_ready (rs := [8]) (by kernel_rfl) (by simp) ?_
    refine AllReady.cons rfl (fun K hK => ?_) AllReady.nil
    go_simp
    refine hK _ _ ?_
    clear hK K
    refine wpAny_ready (rs := [10]) (by kernel_rfl) (by simp) ?_
    refine AllReady.cons rfl (fun K hK => ?_) AllReady.nil
    go_simp
    refine (IHH.out _ B2.out.drew).mono ?_
    rintro e w3 ⟨p, rfl, hB3, hQ⟩
    have h3 : NodeAt w3 B b m th y vl vr := hB3.trans HN1.out
    obtain ⟨-, -, -, -, e4, e5⟩ := h3.cell
    have f4 := h3.frozen 4
    have FIN := Lib.hid (And.intro hQ hB3)
    clear hQ hB3 h3
    go_simp
    refine hK _ _ ?_
    clear hK K
    refine wpAny_ready (rs := [13]) (by kernel_rfl) (by simp) ?_
    refine AllReady.cons rfl (fun K hK => ?_) AllReady.nil
    go_simp
    refine hK _ _ ?_
    clear hK K
    refine wpAny_ready (rs := [14]) (by kernel_rfl) (by simp) ?_
    refine AllReady.cons rfl (fun K hK => ?_) AllReady.nil
    go_simp
    refine hK _ _ ?_
    clear hK K
    refine wpAny_done (by kernel_rfl) ?_ _
    (try simp only [Exit.then])
    go_wp2
    go_ret
    exact ⟨rfl, _, _, p, B2.out.drew, FIN.out.1, FIN.out.2, rfl⟩
  · go_simp
    refine hK _ _ ?_
    clear hK K
    refine wpAny_ready (rs := [7]) (by kernel_rfl) (by simp) ?_
    refine AllReady.cons rfl (fun K hK => ?_) AllReady.nil
    go_simp
    refine hK _ _ ?_
    clear hK K
    refine wpAny_ready (rs := [10]) (by kernel_rfl) (by simp) ?_
    refine AllReady.cons rfl (fun K hK => ?_) AllReady.nil
    go_simp
    refine (IHH.out _ B2.out.drew).mono ?_
    rintro e w3 ⟨p, rfl, hB3, hQ⟩
    have h3 : NodeAt w3 B b m th y vl vr := hB3.trans HN1.out
    obtain ⟨-, -, -, -, e4, e5⟩ := h3.cell
    have f4 := h3.frozen 4
    have FIN := Lib.hid (And.intro hQ hB3)
    clear hQ hB3 h3
    go_simp
    refine hK _ _ ?_
    clear hK K
    refine wpAny_ready (rs := [13]) (by kernel_rfl) (by simp) ?_
    refine AllReady.cons rfl (fun K hK => ?_) AllReady.nil
    go_simp
    refine hK _ _ ?_
    clear hK K
    refine wpAny_ready (rs := [14]) (by kernel_rfl) (by simp) ?_
    refine AllReady.cons rfl (fun K hK => ?_) AllReady.nil
    go_simp
    refine hK _ _ ?_
    clear hK K
    refine wpAny_done (by kernel_rfl) ?_ _
    (try simp only [Exit.then])
    go_wp2
    go_ret
    exact ⟨rfl, _, _, p, B2.out.drew, FIN.out.1, FIN.out.2, rfl⟩
set_option maxRecDepth 100000 in
set_option maxHeartbeats 4000000 in
theorem put_down1 (h : NodeAt w B b m th y vl vr) (hb : 0 ≤ b ∧ b ≤ 4294967295) (hm : 0 ≤ m ∧ m ≤ 32) (ha : 0 ≤ a ∧ a ≤ 4294967295) (hn : -9223372036854775808 ≤ n ∧ n ≤ 9223372036854775807) (hc : CvP b m a n) (he : ¬ (b = a ∧ m = n)) (hbr : brn m a = 1) (x : Int) {Q : World → World → Option Addr → Prop}
    (IH : ∀ W, Below w.heap.size w W → Calls Try.prog 67 #[vr, .agg #[.int .u32 a, .int .i64 n], .int .i64 x] W fun e w' => ∃ p, e = .returned (.pointer p) ∧ w'.heap[B]? = W.heap[B]? ∧ Q W w' p) :
    Calls Try.prog 67 #[.pointer (some ⟨B, 0, none⟩), .agg #[.int .u32 a, .int .i64 n], .int .i64 x] w fun e w' => e = .returned (.pointer (some ⟨B, 0, none⟩)) ∧ ∃ W w3 p, Below w.heap.size w W ∧ Q W w3 p ∧ w3.heap[B]? = W.heap[B]? ∧ w' = w3.setCell ⟨B, 5, none⟩ (.pointer p) := by
  have HB := Lib.hid ((Below.refl _ w).alloc (Nat.le_refl _) (.cells #[.int .u32 a, .int .i64 n] 70))
  have HP := Lib.hid (heap_alloc_new w (.cells #[.int .u32 a, .int .i64 n] 70))
  have HN := Lib.hid (h.below HB.out)
  obtain ⟨c0, c1, c2, c3, c4, c5⟩ := HN.out.cell
  obtain ⟨p0, p1⟩ := box2 HP.out
  have SZ := Lib.hid (show w.heap.size < (w.alloc (.cells #[.int .u32 a, .int .i64 n] 70)).heap.size by simp)
  have CV := Lib.hid (fun (W : World) => (show Calls Try.prog 88 #[.agg #[.int .u32 b, .int .i64 m], .agg #[.int .u32 a, .int .i64 n]] W fun e w' => e = .returned (.bool true) ∧ Below W.heap.size W w' from by
    have c := covers_any b m hb.1 hb.2 (by omega) (by omega) a n ha.1 ha.2 hn.1 hn.2 W
    rw [decide_eq_true hc] at c
    exact c))
  have BR := Lib.hid (fun (v : World) (hv : v.cell? ⟨B, 1, none⟩ = some (.int .i64 m)) => (show Calls Try.prog 85 #[.pointer (some ⟨B, 0, none⟩), .int .u32 a] v fun e w' => e = .returned (.int .i64 1) ∧ w' = v from by
    have c := branch_at hv hm.1 hm.2 a ha.1 ha.2
    rw [hbr] at c
    exact c))
  have IHH := Lib.hid IH
  have NE : (b == a && m == n) = false := by
    by_cases h1 : b = a
    · have h2 : m ≠ n := fun h2 => he ⟨h1, h2⟩
      simp [h2]
    · simp [h1]
  have PE : ∀ W, Sem.run Try.prog (binOp .eql 70 (.agg #[.int .u32 b, .int .i64 m]) (.agg #[.int .u32 a, .int .i64 n])) W = .ok (.bool false) W := fun W => by rw [prefix_eq, NE]
  clear NE h IH he hbr
  go_enter Try.func67, Try.ntmps67
  go_wp2
  generalize w.alloc (.cells #[.int .u32 a, .int .i64 n] 70) = W at *
  go_quiet (fail)
  go_wp2
  go_region_held3 (fun v => v.cell? ⟨B, 0, none⟩ = some (.int .u32 b) ∧ v.cell? ⟨B, 1, none⟩ = some (.int .i64 m) ∧ v.cell? ⟨w.heap.size, 0, none⟩ = some (.int .u32 a) ∧ v.cell? ⟨w.heap.size, 1, none⟩ = some (.int .i64 n)) ((first | exact KP | exact ⟨c0, c1, p0, p1⟩)) (first
    | (go_at_call 88; refine (CV.out _).mono ?_; rintro e w1 ⟨rfl, b1⟩; have b1 : Below W.heap.size W w1 := below_flat b1; have B1 := Lib.hid b1; have KP : w1.cell? ⟨B, 0, none⟩ = some (.int .u32 b) ∧ w1.cell? ⟨B, 1, none⟩ = some (.int .i64 m) ∧ w1.cell? ⟨w.heap.size, 0, none⟩ = some (.int .u32 a) ∧ w1.cell? ⟨w.heap.size, 1, none⟩ = some (.int .i64 n) := by { obtain ⟨d0, d1, -, -, -, -⟩ := (HN.out.below b1).cell; obtain ⟨q0, q1⟩ := box2 ((b1.block _ SZ.out).trans HP.out); exact ⟨d0, d1, q0, q1⟩ }; clear b1)
    | fail)
  obtain ⟨k0, k1, k2, k3⟩ := KP
  obtain ⟨-, -, -, -, k4, k5⟩ := (HN.out.below B1.out).cell
  have B2 := Lib.hid (HB.out.trans (B1.out.mono HB.out.size))
  have HN1 := Lib.hid (HN.out.below B1.out)
  clear c0 c1 c2 c3 c4 c5 p0 p1 HB B1 CV HN HP PE
  go_wp2_with fail
  refine (BR.out _ k1).mono ?_
  rintro e w2 ⟨rfl, rfl⟩
  go_wp2
  refine wp_region_any (by kernel_rfl) ?_
  (try (change wpAny _ _ _ _ _ _ _ (World.drew _)))
  refine wpAny_take (i := 0) (v := ?_) rfl (by kernel_rfl) (by kernel_rfl) (by kernel_rfl) (fun _ _ _ h => h) (Or.inl ⟨by rfl, ?_⟩) ?_
  case refine_2 =>
    intro w
    go_simp
    (try with_reducible rfl)
  refine wpAny_take (i := 1) (v := ?_) rfl (by kernel_rfl) (by kernel_rfl) (by kernel_rfl) (fun _ _ _ h => h) (Or.inl ⟨by rfl, ?_⟩) ?_
  case refine_2 =>
    intro w
    go_simp
    (try with_reducible rfl)
  refine wpAny_take (i := 2) (v := ?_) rfl (by kernel_rfl) (by kernel_rfl) (by kernel_rfl) (fun _ _ _ h => h) (Or.inl ⟨by rfl, ?_⟩) ?_
  case refine_2 =>
    intro w
    go_simp
    (try with_reducible rfl)
  refine wpAny_take (i := 3) (v := ?_) rfl (by kernel_rfl) (by kernel_rfl) (by kernel_rfl) (fun _ _ _ h => h) (Or.inl ⟨by rfl, ?_⟩) ?_
  case refine_2 =>
    intro w
    go_simp
    (try with_reducible rfl)
  refine wpAny_take (i := 4) (v := ?_) rfl (by kernel_rfl) (by kernel_rfl) (by kernel_rfl) (fun _ _ _ h => h) (Or.inl ⟨by rfl, ?_⟩) ?_
  case refine_2 =>
    intro w
    go_simp
    (try with_reducible rfl)
  refine wpAny_take (i := 5) (v := ?_) rfl (by kernel_rfl) (by kernel_rfl) (by kernel_rfl) (fun _ _ _ h => h) (Or.inl ⟨by rfl, ?_⟩) ?_
  case refine_2 =>
    intro w
    go_simp
    (try with_reducible rfl)
  refine wpAny_take (i := 6) (v := ?_) rfl (by kernel_rfl) (by kernel_rfl) (by kernel_rfl) (fun _ _ _ h => h) (Or.inl ⟨by rfl, ?_⟩) ?_
  case refine_2 =>
    intro w
    go_simp
    (try with_reducible rfl)
  refine wpAny_take (i := 9) (v := ?_) rfl (by kernel_rfl) (by kernel_rfl) (by kernel_rfl) (fun _ _ _ h => h) (Or.inl ⟨by rfl, ?_⟩) ?_
  case refine_2 =>
    intro w
    go_simp
    (try with_reducible rfl)
  refine wpAny_take (i := 11) (v := ?_) rfl (by kernel_rfl) (by kernel_rfl) (by kernel_rfl) (fun _ _ _ h => h) (Or.inl ⟨by rfl, ?_⟩) ?_
  case refine_2 =>
    intro w
    go_simp
    (try with_reducible rfl)
  refine wpAny_take (i := 12) (v := ?_) rfl (by kernel_rfl) (by kernel_rfl) (by kernel_rfl) (fun _ _ _ h => h) (Or.inl ⟨by rfl, ?_⟩) ?_
  case refine_2 =>
    intro w
    go_simp
    (try with_reducible rfl)
  refine wpAny_ready (rs := [7, 8]) (by kernel_rfl) (by simp) ?_
  refine (AllReady.cons rfl (fun K hK => ?_) (AllReady.cons rfl (fun K hK => ?_) AllReady.nil))
  · go_simp
    refine hK _ _ ?_
    clear hK K
    refine wpAny_ready (rs := [8]) (by kernel_rfl) (by simp) ?_
    refine AllReady.cons rfl (fun K hK => ?_) AllReady.nil
    go_simp
    refine hK _ _ ?_
    clear hK K
    refine wpAny_ready (rs := [10]) (by kernel_rfl) (by simp) ?_
    refine AllReady.cons rfl (fun K hK => ?_) AllReady.nil
    go_simp
    refine (IHH.out _ B2.out.drew).mono ?_
    rintro e w3 ⟨p, rfl, hB3, hQ⟩
    have h3 : NodeAt w3 B b m th y vl vr := hB3.trans HN1.out
    obtain ⟨-, -, -, -, e4, e5⟩ := h3.cell
    have f4 := h3.frozen 5
    have FIN := Lib.hid (And.intro hQ hB3)
    clear hQ hB3 h3
    go_simp
    refine hK _ _ ?_
    clear hK K
    refine wpAny_ready (rs := [13]) (by kernel_rfl) (by simp) ?_
    refine AllReady.cons rfl (fun K hK => ?_) AllReady.nil
    go_simp
    refine hK _ _ ?_
    clear hK K
    refine wpAny_ready (rs := [14]) (by kernel_rfl) (by simp) ?_
    refine AllReady.cons rfl (fun K hK => ?_) AllReady.nil
    go_simp
    refine hK _ _ ?_
    clear hK K
    refine wpAny_done (by kernel_rfl) ?_ _
    (try simp only [Exit.then])
    go_wp2
    go_ret
    exact ⟨rfl, _, _, p, B2.out.drew, FIN.out.1, FIN.out.2, rfl⟩
  · go_simp
    refine hK _ _ ?_
    clear hK K
    refine wpAny_ready (rs := [7]) (by kernel_rfl) (by simp) ?_
    refine AllReady.cons rfl (fun K hK => ?_) AllReady.nil
    go_simp
    refine hK _ _ ?_
    clear hK K
    refine wpAny_ready (rs := [10]) (by kernel_rfl) (by simp) ?_
    refine AllReady.cons rfl (fun K hK => ?_) AllReady.nil
    go_simp
    refine (IHH.out _ B2.out.drew).mono ?_
    rintro e w3 ⟨p, rfl, hB3, hQ⟩
    have h3 : NodeAt w3 B b m th y vl vr := hB3.trans HN1.out
    obtain ⟨-, -, -, -, e4, e5⟩ := h3.cell
    have f4 := h3.frozen 5
    have FIN := Lib.hid (And.intro hQ hB3)
    clear hQ hB3 h3
    go_simp
    refine hK _ _ ?_
    clear hK K
    refine wpAny_ready (rs := [13]) (by kernel_rfl) (by simp) ?_
    refine AllReady.cons rfl (fun K hK => ?_) AllReady.nil
    go_simp
    refine hK _ _ ?_
    clear hK K
    refine wpAny_ready (rs := [14]) (by kernel_rfl) (by simp) ?_
    refine AllReady.cons rfl (fun K hK => ?_) AllReady.nil
    go_simp
    refine hK _ _ ?_
    clear hK K
    refine wpAny_done (by kernel_rfl) ?_ _
    (try simp only [Exit.then])
    go_wp2
    go_ret
    exact ⟨rfl, _, _, p, B2.out.drew, FIN.out.1, FIN.out.2, rfl⟩
end
end Go.Proofs.Ytfjhcmihjffknaa
