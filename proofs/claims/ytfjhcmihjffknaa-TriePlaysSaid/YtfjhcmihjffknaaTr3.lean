/-
  Package trie: where the node of a prefix is, below a node. No condition but that the node stands.
-/
import Derived.Test.YtfjhcmihjffknaaTr2
import Derived.Test.YtfjhcmihjffknaaTrE
namespace Go.Proofs.Ytfjhcmihjffknaa
set_option linter.unusedVariables false
set_option linter.unusedSimpArgs false
open Go.ChangeShapes Go.WideShapes Go.ChangeAt Go.RowKit
attribute [local go_sem] alloc_drewN setCell_drewN

theorem below_down {w w1 w3 : World} {q : Nat} (h : Below w.heap.size w w1) (b : Below (w1.drewN q).heap.size (w1.drewN q) w3) : Below w.heap.size w w3 :=
  h.trans ⟨b.os, b.tape, b.output, b.size, fun k hk => b.block k (Nat.lt_of_lt_of_le hk h.size)⟩
section
variable {w : World} {B : Nat} {b m : Int} {th : Bool} {y : Int} {vl vr : Value} {a n : Int}
set_option maxRecDepth 100000 in
set_option maxHeartbeats 2000000 in
theorem at_down0 (h : NodeAt w B b m th y vl vr) (hb : 0 ≤ b ∧ b ≤ 4294967295) (hm : 0 ≤ m ∧ m ≤ 32) (ha : 0 ≤ a ∧ a ≤ 4294967295) (hn : -9223372036854775808 ≤ n ∧ n ≤ 9223372036854775807) (hc : CvP b m a n) (he : ¬ (b = a ∧ m = n)) (hbr : brn m a = 0) {R : Value → Prop}
    (IH : ∀ W, Below w.heap.size w W → Calls Try.prog 84 #[vl, .agg #[.int .u32 a, .int .i64 n]] W fun e w' => (∃ v, e = .returned v ∧ R v) ∧ Below W.heap.size W w') :
    Calls Try.prog 84 #[.pointer (some ⟨B, 0, none⟩), .agg #[.int .u32 a, .int .i64 n]] w fun e w' => (∃ v, e = .returned v ∧ R v) ∧ Below w.heap.size w w' := by
  have HB := Lib.hid ((Below.refl _ w).alloc (Nat.le_refl _) (.cells #[.int .u32 a, .int .i64 n] 70))
  have HP := Lib.hid (heap_alloc_new w (.cells #[.int .u32 a, .int .i64 n] 70))
  have HN := Lib.hid (h.below HB.out)
  have CV := Lib.hid (fun (W : World) => (show Calls Try.prog 88 #[.agg #[.int .u32 b, .int .i64 m], .agg #[.int .u32 a, .int .i64 n]] W fun e w' => e = .returned (.bool true) ∧ Below W.heap.size W w' from by
    have c := covers_any b m hb.1 hb.2 (by omega) (by omega) a n ha.1 ha.2 hn.1 hn.2 W
    rw [decide_eq_true hc] at c
    exact c))
  have BR := Lib.hid (fun (v : World) (hv : v.cell? ⟨B, 1, none⟩ = some (.int .i64 m)) => (show Calls Try.prog 85 #[.pointer (some ⟨B, 0, none⟩), .int .u32 a] v fun e w' => e = .returned (.int .i64 0) ∧ w' = v from by
    have c := branch_at hv hm.1 hm.2 a ha.1 ha.2
    rw [hbr] at c
    exact c))
  have IHH := Lib.hid IH
  have NE : (b == a && m == n) = false := by
    by_cases h1 : b = a
    · have h2 : m ≠ n := fun h2 => he ⟨h1, h2⟩
      simp [h2]
    · simp [h1]
  have PE : ∀ W, Sem.run Try.prog (binOp .eql 70 (.agg #[.int .u32 b, .int .i64 m]) (.agg #[.int .u32 a, .int .i64 n])) W = .ok (.bool false) W := fun W => by rw [prefix_eq, NE]
  clear NE
  obtain ⟨c0, c1, -, -, -, -⟩ := HN.out.cell
  obtain ⟨p0, p1⟩ := box2 HP.out
  have SZ := Lib.hid (show w.heap.size < (w.alloc (.cells #[.int .u32 a, .int .i64 n] 70)).heap.size by simp)
  clear h IH he hbr
  go_enter Try.func84, Try.ntmps84
  go_wp2
  generalize w.alloc (.cells #[.int .u32 a, .int .i64 n] 70) = W at *
  go_region_held3 (fun v => v.cell? ⟨B, 0, none⟩ = some (.int .u32 b) ∧ v.cell? ⟨B, 1, none⟩ = some (.int .i64 m) ∧ v.cell? ⟨w.heap.size, 0, none⟩ = some (.int .u32 a) ∧ v.cell? ⟨w.heap.size, 1, none⟩ = some (.int .i64 n)) ((first | exact KP | exact ⟨c0, c1, p0, p1⟩)) (first
    | (go_at_call 88; refine (CV.out _).mono ?_; rintro e w1 ⟨rfl, b1⟩; have b1 : Below W.heap.size W w1 := ⟨b1.os, b1.tape, b1.output, b1.size, b1.block⟩; have B1 := Lib.hid b1; have KP : w1.cell? ⟨B, 0, none⟩ = some (.int .u32 b) ∧ w1.cell? ⟨B, 1, none⟩ = some (.int .i64 m) ∧ w1.cell? ⟨w.heap.size, 0, none⟩ = some (.int .u32 a) ∧ w1.cell? ⟨w.heap.size, 1, none⟩ = some (.int .i64 n) := by { obtain ⟨d0, d1, -, -, -, -⟩ := (HN.out.below b1).cell; obtain ⟨q0, q1⟩ := box2 ((b1.block _ SZ.out).trans HP.out); exact ⟨d0, d1, q0, q1⟩ }; clear b1)
    | fail)
  obtain ⟨k0, k1, k2, k3⟩ := KP
  obtain ⟨-, -, -, -, k4, k5⟩ := (HN.out.below B1.out).cell
  clear c0 c1 p0 p1
  go_wp2
  go_quiet (fail)
  go_wp2
  have B2 := Lib.hid (HB.out.trans (B1.out.mono HB.out.size))
  have K1 := Lib.hid k1
  have HP1 := Lib.hid ((B1.out.block _ SZ.out).trans HP.out)
  have HN1 := Lib.hid (HN.out.below B1.out)
  have SZ1 := Lib.hid (Nat.lt_of_lt_of_le SZ.out B1.out.size)
  clear HB B1 CV HN HP
  go_region_held3 (fun v => v.cell? ⟨w.heap.size, 0, none⟩ = some (.int .u32 a) ∧ v.cell? ⟨w.heap.size, 1, none⟩ = some (.int .i64 n) ∧ v.cell? ⟨B, 4, none⟩ = some vl) ((first | exact JP | exact ⟨k2, k3, k4⟩)) (first
    | (go_at_call 85; refine (BR.out (w1.drewN _) K1.out).mono ?_; rintro e w2 ⟨rfl, rfl⟩)
    | (go_at_call 84; refine (IHH.out (w1.drewN _) (below_drewN _ B2.out)).mono ?_; rintro e w3 ⟨⟨v3, rfl, hv3⟩, b3⟩; have B3 := Lib.hid (below_down B2.out b3); have HV := Lib.hid hv3; have JP : w3.cell? ⟨w.heap.size, 0, none⟩ = some (.int .u32 a) ∧ w3.cell? ⟨w.heap.size, 1, none⟩ = some (.int .i64 n) ∧ w3.cell? ⟨B, 4, none⟩ = some vl := by { obtain ⟨q0, q1⟩ := box2 ((b3.block _ SZ1.out).trans HP1.out); obtain ⟨-, -, -, -, d4, d5⟩ := NodeAt.cell ((b3.block B (Array.getElem?_eq_some_iff.1 HN1.out).1).trans HN1.out); exact ⟨q0, q1, d4⟩ }; clear hv3 b3)
    | fail)
  go_wp2
  go_ret
  exact ⟨⟨v3, rfl, HV.out⟩, B3.out⟩
set_option maxRecDepth 100000 in
set_option maxHeartbeats 2000000 in
theorem at_down1 (h : NodeAt w B b m th y vl vr) (hb : 0 ≤ b ∧ b ≤ 4294967295) (hm : 0 ≤ m ∧ m ≤ 32) (ha : 0 ≤ a ∧ a ≤ 4294967295) (hn : -9223372036854775808 ≤ n ∧ n ≤ 9223372036854775807) (hc : CvP b m a n) (he : ¬ (b = a ∧ m = n)) (hbr : brn m a = 1) {R : Value → Prop}
    (IH : ∀ W, Below w.heap.size w W → Calls Try.prog 84 #[vr, .agg #[.int .u32 a, .int .i64 n]] W fun e w' => (∃ v, e = .returned v ∧ R v) ∧ Below W.heap.size W w') :
    Calls Try.prog 84 #[.pointer (some ⟨B, 0, none⟩), .agg #[.int .u32 a, .int .i64 n]] w fun e w' => (∃ v, e = .returned v ∧ R v) ∧ Below w.heap.size w w' := by
  have HB := Lib.hid ((Below.refl _ w).alloc (Nat.le_refl _) (.cells #[.int .u32 a, .int .i64 n] 70))
  have HP := Lib.hid (heap_alloc_new w (.cells #[.int .u32 a, .int .i64 n] 70))
  have HN := Lib.hid (h.below HB.out)
  have CV := Lib.hid (fun (W : World) => (show Calls Try.prog 88 #[.agg #[.int .u32 b, .int .i64 m], .agg #[.int .u32 a, .int .i64 n]] W fun e w' => e = .returned (.bool true) ∧ Below W.heap.size W w' from by
    have c := covers_any b m hb.1 hb.2 (by omega) (by omega) a n ha.1 ha.2 hn.1 hn.2 W
    rw [decide_eq_true hc] at c
    exact c))
  have BR := Lib.hid (fun (v : World) (hv : v.cell? ⟨B, 1, none⟩ = some (.int .i64 m)) => (show Calls Try.prog 85 #[.pointer (some ⟨B, 0, none⟩), .int .u32 a] v fun e w' => e = .returned (.int .i64 1) ∧ w' = v from by
    have c := branch_at hv hm.1 hm.2 a ha.1 ha.2
    rw [hbr] at c
    exact c))
  have IHH := Lib.hid IH
  have NE : (b == a && m == n) = false := by
    by_cases h1 : b = a
    · have h2 : m ≠ n := fun h2 => he ⟨h1, h2⟩
      simp [h2]
    · simp [h1]
  have PE : ∀ W, Sem.run Try.prog (binOp .eql 70 (.agg #[.int .u32 b, .int .i64 m]) (.agg #[.int .u32 a, .int .i64 n])) W = .ok (.bool false) W := fun W => by rw [prefix_eq, NE]
  clear NE
  obtain ⟨c0, c1, -, -, -, -⟩ := HN.out.cell
  obtain ⟨p0, p1⟩ := box2 HP.out
  have SZ := Lib.hid (show w.heap.size < (w.alloc (.cells #[.int .u32 a, .int .i64 n] 70)).heap.size by simp)
  clear h IH he hbr
  go_enter Try.func84, Try.ntmps84
  go_wp2
  generalize w.alloc (.cells #[.int .u32 a, .int .i64 n] 70) = W at *
  go_region_held3 (fun v => v.cell? ⟨B, 0, none⟩ = some (.int .u32 b) ∧ v.cell? ⟨B, 1, none⟩ = some (.int .i64 m) ∧ v.cell? ⟨w.heap.size, 0, none⟩ = some (.int .u32 a) ∧ v.cell? ⟨w.heap.size, 1, none⟩ = some (.int .i64 n)) ((first | exact KP | exact ⟨c0, c1, p0, p1⟩)) (first
    | (go_at_call 88; refine (CV.out _).mono ?_; rintro e w1 ⟨rfl, b1⟩; have b1 : Below W.heap.size W w1 := ⟨b1.os, b1.tape, b1.output, b1.size, b1.block⟩; have B1 := Lib.hid b1; have KP : w1.cell? ⟨B, 0, none⟩ = some (.int .u32 b) ∧ w1.cell? ⟨B, 1, none⟩ = some (.int .i64 m) ∧ w1.cell? ⟨w.heap.size, 0, none⟩ = some (.int .u32 a) ∧ w1.cell? ⟨w.heap.size, 1, none⟩ = some (.int .i64 n) := by { obtain ⟨d0, d1, -, -, -, -⟩ := (HN.out.below b1).cell; obtain ⟨q0, q1⟩ := box2 ((b1.block _ SZ.out).trans HP.out); exact ⟨d0, d1, q0, q1⟩ }; clear b1)
    | fail)
  obtain ⟨k0, k1, k2, k3⟩ := KP
  obtain ⟨-, -, -, -, k4, k5⟩ := (HN.out.below B1.out).cell
  clear c0 c1 p0 p1
  go_wp2
  go_quiet (fail)
  go_wp2
  have B2 := Lib.hid (HB.out.trans (B1.out.mono HB.out.size))
  have K1 := Lib.hid k1
  have HP1 := Lib.hid ((B1.out.block _ SZ.out).trans HP.out)
  have HN1 := Lib.hid (HN.out.below B1.out)
  have SZ1 := Lib.hid (Nat.lt_of_lt_of_le SZ.out B1.out.size)
  clear HB B1 CV HN HP
  go_region_held3 (fun v => v.cell? ⟨w.heap.size, 0, none⟩ = some (.int .u32 a) ∧ v.cell? ⟨w.heap.size, 1, none⟩ = some (.int .i64 n) ∧ v.cell? ⟨B, 5, none⟩ = some vr) ((first | exact JP | exact ⟨k2, k3, k5⟩)) (first
    | (go_at_call 85; refine (BR.out (w1.drewN _) K1.out).mono ?_; rintro e w2 ⟨rfl, rfl⟩)
    | (go_at_call 84; refine (IHH.out (w1.drewN _) (below_drewN _ B2.out)).mono ?_; rintro e w3 ⟨⟨v3, rfl, hv3⟩, b3⟩; have B3 := Lib.hid (below_down B2.out b3); have HV := Lib.hid hv3; have JP : w3.cell? ⟨w.heap.size, 0, none⟩ = some (.int .u32 a) ∧ w3.cell? ⟨w.heap.size, 1, none⟩ = some (.int .i64 n) ∧ w3.cell? ⟨B, 5, none⟩ = some vr := by { obtain ⟨q0, q1⟩ := box2 ((b3.block _ SZ1.out).trans HP1.out); obtain ⟨-, -, -, -, d4, d5⟩ := NodeAt.cell ((b3.block B (Array.getElem?_eq_some_iff.1 HN1.out).1).trans HN1.out); exact ⟨q0, q1, d5⟩ }; clear hv3 b3)
    | fail)
  go_wp2
  go_ret
  exact ⟨⟨v3, rfl, HV.out⟩, B3.out⟩
end
end Go.Proofs.Ytfjhcmihjffknaa
