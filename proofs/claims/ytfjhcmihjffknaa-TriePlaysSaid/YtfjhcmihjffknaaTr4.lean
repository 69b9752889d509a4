/-
  Package trie: the longest prefix that has an address, one step. No condition but that the node stands.
-/
import Derived.Test.YtfjhcmihjffknaaTr3
namespace Go.Proofs.Ytfjhcmihjffknaa
set_option linter.unusedVariables false
set_option linter.unusedSimpArgs false
open Go.ChangeShapes Go.WideShapes Go.ChangeAt Go.RowKit
attribute [local go_sem] alloc_drewN setCell_drewN

section
variable {w : World} {B : Nat} {b m : Int} {th : Bool} {y : Int} {vl vr : Value} {a : Int}
set_option maxRecDepth 100000 in
theorem find_nil (a : Int) (w : World) : Calls Try.prog 65 #[.pointer none, .int .u32 a] w fun e w' => e = .returned (.pointer none) ∧ Below w.heap.size w w' := by
  go_enter Try.func65, Try.ntmps65
  go_wp2
  go_ret
  exact ⟨rfl, Below.refl _ _⟩
set_option maxRecDepth 100000 in
set_option maxHeartbeats 2000000 in
theorem find_not (h : NodeAt w B b m th y vl vr) (hb : 0 ≤ b ∧ b ≤ 4294967295) (hm : 0 ≤ m ∧ m ≤ 32) (ha : 0 ≤ a ∧ a ≤ 4294967295) (hc : ¬ HsP b m a) : Calls Try.prog 65 #[.pointer (some ⟨B, 0, none⟩), .int .u32 a] w fun e w' => e = .returned (.pointer none) ∧ Below w.heap.size w w' := by
  have HS := has_any b m a hb.1 hb.2 (by omega) (by omega) ha.1 ha.2 w
  rw [decide_eq_false hc] at HS
  have HS := Lib.hid HS
  obtain ⟨c0, c1, -, -, -, -⟩ := h.cell
  clear h hc
  go_enter Try.func65, Try.ntmps65
  go_wp2_with fail
  refine HS.out.mono ?_
  rintro e w1 ⟨rfl, b1⟩
  go_wp2
  go_ret
  exact ⟨rfl, b1⟩
set_option maxRecDepth 100000 in
set_option maxHeartbeats 2000000 in
theorem find_none0 (h : NodeAt w B b m th y vl vr) (hb : 0 ≤ b ∧ b ≤ 4294967295) (hm : 0 ≤ m ∧ m ≤ 32) (ha : 0 ≤ a ∧ a ≤ 4294967295) (hc : HsP b m a) (hbr : brn m a = 0)
    (IH : ∀ W, Below w.heap.size w W → Calls Try.prog 65 #[vl, .int .u32 a] W fun e w' => (e = .returned (.pointer none)) ∧ Below W.heap.size W w') :
    Calls Try.prog 65 #[.pointer (some ⟨B, 0, none⟩), .int .u32 a] w fun e w' => e = .returned (if th then .pointer (some ⟨B, 0, none⟩) else .pointer none) ∧ Below w.heap.size w w' := by
  have HS := has_any b m a hb.1 hb.2 (by omega) (by omega) ha.1 ha.2 w
  rw [decide_eq_true hc] at HS
  have HS := Lib.hid HS
  have BR := Lib.hid (fun (v : World) (hv : v.cell? ⟨B, 1, none⟩ = some (.int .i64 m)) => (show Calls Try.prog 85 #[.pointer (some ⟨B, 0, none⟩), .int .u32 a] v fun e w' => e = .returned (.int .i64 0) ∧ w' = v from by
    have c := branch_at hv hm.1 hm.2 a ha.1 ha.2
    rw [hbr] at c
    exact c))
  have IHH := Lib.hid IH
  have HN := Lib.hid (show w.heap[B]? = some _ from h)
  have HLT := Lib.hid (Array.getElem?_eq_some_iff.1 h).1
  obtain ⟨c0, c1, -, -, -, -⟩ := h.cell
  clear h hc IH hbr
  go_enter Try.func65, Try.ntmps65
  go_wp2_with fail
  refine HS.out.mono ?_
  rintro e w1 ⟨rfl, b1⟩
  have B2 := Lib.hid b1
  have HN1 := Lib.hid ((b1.block B HLT.out).trans HN.out)
  have HL1 := Lib.hid (Nat.lt_of_lt_of_le HLT.out b1.size)
  obtain ⟨-, k1, -, -, k4, k5⟩ := NodeAt.cell HN1.out
  have K1 := Lib.hid k1
  clear b1 c0 c1 HS
  go_wp2
  go_region_held3 (fun v => v.cell? ⟨B, 4, none⟩ = some vl) ((first | exact JP | exact k4)) (first
    | (go_at_call 85; refine (BR.out (w1.drewN _) K1.out).mono ?_; rintro e w2 ⟨rfl, rfl⟩)
    | (go_at_call 85; refine (BR.out w1.drew K1.out).mono ?_; rintro e w2 ⟨rfl, rfl⟩)
    | (go_at_call 65; refine (IHH.out _ (below_drewN 1 B2.out)).mono ?_; rintro e w3 ⟨rfl, b3⟩; have B3 := Lib.hid (below_down (q := 1) B2.out b3); have JP : w3.cell? ⟨B, 4, none⟩ = some vl := by { obtain ⟨-, -, -, -, d4, d5⟩ := NodeAt.cell ((b3.block B HL1.out).trans HN1.out); exact d4 }; clear b3)
    | fail)
  obtain ⟨-, -, e2, -, -, -⟩ := NodeAt.cell ((B3.out.block B HLT.out).trans HN.out)
  cases th
  · go_wp2
    go_ret
    exact ⟨rfl, B3.out⟩
  · go_wp2
    go_ret
    exact ⟨rfl, B3.out⟩
set_option maxRecDepth 100000 in
set_option maxHeartbeats 2000000 in
theorem find_some0 (h : NodeAt w B b m th y vl vr) (hb : 0 ≤ b ∧ b ≤ 4294967295) (hm : 0 ≤ m ∧ m ≤ 32) (ha : 0 ≤ a ∧ a ≤ 4294967295) (hc : HsP b m a) (hbr : brn m a = 0) {R : Nat → Prop}
    (IH : ∀ W, Below w.heap.size w W → Calls Try.prog 65 #[vl, .int .u32 a] W fun e w' => (∃ B2, e = .returned (.pointer (some ⟨B2, 0, none⟩)) ∧ R B2) ∧ Below W.heap.size W w') :
    Calls Try.prog 65 #[.pointer (some ⟨B, 0, none⟩), .int .u32 a] w fun e w' => (∃ B2, e = .returned (.pointer (some ⟨B2, 0, none⟩)) ∧ R B2) ∧ Below w.heap.size w w' := by
  have HS := has_any b m a hb.1 hb.2 (by omega) (by omega) ha.1 ha.2 w
  rw [decide_eq_true hc] at HS
  have HS := Lib.hid HS
  have BR := Lib.hid (fun (v : World) (hv : v.cell? ⟨B, 1, none⟩ = some (.int .i64 m)) => (show Calls Try.prog 85 #[.pointer (some ⟨B, 0, none⟩), .int .u32 a] v fun e w' => e = .returned (.int .i64 0) ∧ w' = v from by
    have c := branch_at hv hm.1 hm.2 a ha.1 ha.2
    rw [hbr] at c
    exact c))
  have IHH := Lib.hid IH
  have HN := Lib.hid (show w.heap[B]? = some _ from h)
  have HLT := Lib.hid (Array.getElem?_eq_some_iff.1 h).1
  obtain ⟨c0, c1, -, -, -, -⟩ := h.cell
  clear h hc IH hbr
  go_enter Try.func65, Try.ntmps65
  go_wp2_with fail
  refine HS.out.mono ?_
  rintro e w1 ⟨rfl, b1⟩
  have B2 := Lib.hid b1
  have HN1 := Lib.hid ((b1.block B HLT.out).trans HN.out)
  have HL1 := Lib.hid (Nat.lt_of_lt_of_le HLT.out b1.size)
  obtain ⟨-, k1, -, -, k4, k5⟩ := NodeAt.cell HN1.out
  have K1 := Lib.hid k1
  clear b1 c0 c1 HS
  go_wp2
  go_region_held3 (fun v => v.cell? ⟨B, 4, none⟩ = some vl) ((first | exact JP | exact k4)) (first
    | (go_at_call 85; refine (BR.out (w1.drewN _) K1.out).mono ?_; rintro e w2 ⟨rfl, rfl⟩)
    | (go_at_call 85; refine (BR.out w1.drew K1.out).mono ?_; rintro e w2 ⟨rfl, rfl⟩)
    | (go_at_call 65; refine (IHH.out _ (below_drewN 1 B2.out)).mono ?_; rintro e w3 ⟨⟨B2_, rfl, hv3⟩, b3⟩; have HV := Lib.hid hv3; clear hv3; have B3 := Lib.hid (below_down (q := 1) B2.out b3); have JP : w3.cell? ⟨B, 4, none⟩ = some vl := by { obtain ⟨-, -, -, -, d4, d5⟩ := NodeAt.cell ((b3.block B HL1.out).trans HN1.out); exact d4 }; clear b3)
    | fail)
  go_wp2
  go_ret
  exact ⟨⟨B2_, rfl, HV.out⟩, B3.out⟩
set_option maxRecDepth 100000 in
set_option maxHeartbeats 2000000 in
theorem find_none1 (h : NodeAt w B b m th y vl vr) (hb : 0 ≤ b ∧ b ≤ 4294967295) (hm : 0 ≤ m ∧ m ≤ 32) (ha : 0 ≤ a ∧ a ≤ 4294967295) (hc : HsP b m a) (hbr : brn m a = 1)
    (IH : ∀ W, Below w.heap.size w W → Calls Try.prog 65 #[vr, .int .u32 a] W fun e w' => (e = .returned (.pointer none)) ∧ Below W.heap.size W w') :
    Calls Try.prog 65 #[.pointer (some ⟨B, 0, none⟩), .int .u32 a] w fun e w' => e = .returned (if th then .pointer (some ⟨B, 0, none⟩) else .pointer none) ∧ Below w.heap.size w w' := by
  have HS := has_any b m a hb.1 hb.2 (by omega) (by omega) ha.1 ha.2 w
  rw [decide_eq_true hc] at HS
  have HS := Lib.hid HS
  have BR := Lib.hid (fun (v : World) (hv : v.cell? ⟨B, 1, none⟩ = some (.int .i64 m)) => (show Calls Try.prog 85 #[.pointer (some ⟨B, 0, none⟩), .int .u32 a] v fun e w' => e = .returned (.int .i64 1) ∧ w' = v from by
    have c := branch_at hv hm.1 hm.2 a ha.1 ha.2
    rw [hbr] at c
    exact c))
  have IHH := Lib.hid IH
  have HN := Lib.hid (show w.heap[B]? = some _ from h)
  have HLT := Lib.hid (Array.getElem?_eq_some_iff.1 h).1
  obtain ⟨c0, c1, -, -, -, -⟩ := h.cell
  clear h hc IH hbr
  go_enter Try.func65, Try.ntmps65
  go_wp2_with fail
  refine HS.out.mono ?_
  rintro e w1 ⟨rfl, b1⟩
  have B2 := Lib.hid b1
  have HN1 := Lib.hid ((b1.block B HLT.out).trans HN.out)
  have HL1 := Lib.hid (Nat.lt_of_lt_of_le HLT.out b1.size)
  obtain ⟨-, k1, -, -, k4, k5⟩ := NodeAt.cell HN1.out
  have K1 := Lib.hid k1
  clear b1 c0 c1 HS
  go_wp2
  go_region_held3 (fun v => v.cell? ⟨B, 5, none⟩ = some vr) ((first | exact JP | exact k5)) (first
    | (go_at_call 85; refine (BR.out (w1.drewN _) K1.out).mono ?_; rintro e w2 ⟨rfl, rfl⟩)
    | (go_at_call 85; refine (BR.out w1.drew K1.out).mono ?_; rintro e w2 ⟨rfl, rfl⟩)
    | (go_at_call 65; refine (IHH.out _ (below_drewN 1 B2.out)).mono ?_; rintro e w3 ⟨rfl, b3⟩; have B3 := Lib.hid (below_down (q := 1) B2.out b3); have JP : w3.cell? ⟨B, 5, none⟩ = some vr := by { obtain ⟨-, -, -, -, d4, d5⟩ := NodeAt.cell ((b3.block B HL1.out).trans HN1.out); exact d5 }; clear b3)
    | fail)
  obtain ⟨-, -, e2, -, -, -⟩ := NodeAt.cell ((B3.out.block B HLT.out).trans HN.out)
  cases th
  · go_wp2
    go_ret
    exact ⟨rfl, B3.out⟩
  · go_wp2
    go_ret
    exact ⟨rfl, B3.out⟩
set_option maxRecDepth 100000 in
set_option maxHeartbeats 2000000 in
theorem find_some1 (h : NodeAt w B b m th y vl vr) (hb : 0 ≤ b ∧ b ≤ 4294967295) (hm : 0 ≤ m ∧ m ≤ 32) (ha : 0 ≤ a ∧ a ≤ 4294967295) (hc : HsP b m a) (hbr : brn m a = 1) {R : Nat → Prop}
    (IH : ∀ W, Below w.heap.size w W → Calls Try.prog 65 #[vr, .int .u32 a] W fun e w' => (∃ B2, e = .returned (.pointer (some ⟨B2, 0, none⟩)) ∧ R B2) ∧ Below W.heap.size W w') :
    Calls Try.prog 65 #[.pointer (some ⟨B, 0, none⟩), .int .u32 a] w fun e w' => (∃ B2, e = .returned (.pointer (some ⟨B2, 0, none⟩)) ∧ R B2) ∧ Below w.heap.size w w' := by
  have HS := has_any b m a hb.1 hb.2 (by omega) (by omega) ha.1 ha.2 w
  rw [decide_eq_true hc] at HS
  have HS := Lib.hid HS
  have BR := Lib.hid (fun (v : World) (hv : v.cell? ⟨B, 1, none⟩ = some (.int .i64 m)) => (show Calls Try.prog 85 #[.pointer (some ⟨B, 0, none⟩), .int .u32 a] v fun e w' => e = .returned (.int .i64 1) ∧ w' = v from by
    have c := branch_at hv hm.1 hm.2 a ha.1 ha.2
    rw [hbr] at c
    exact c))
  have IHH := Lib.hid IH
  have HN := Lib.hid (show w.heap[B]? = some _ from h)
  have HLT := Lib.hid (Array.getElem?_eq_some_iff.1 h).1
  obtain ⟨c0, c1, -, -, -, -⟩ := h.cell
  clear h hc IH hbr
  go_enter Try.func65, Try.ntmps65
  go_wp2_with fail
  refine HS.out.mono ?_
  rintro e w1 ⟨rfl, b1⟩
  have B2 := Lib.hid b1
  have HN1 := Lib.hid ((b1.block B HLT.out).trans HN.out)
  have HL1 := Lib.hid (Nat.lt_of_lt_of_le HLT.out b1.size)
  obtain ⟨-, k1, -, -, k4, k5⟩ := NodeAt.cell HN1.out
  have K1 := Lib.hid k1
  clear b1 c0 c1 HS
  go_wp2
  go_region_held3 (fun v => v.cell? ⟨B, 5, none⟩ = some vr) ((first | exact JP | exact k5)) (first
    | (go_at_call 85; refine (BR.out (w1.drewN _) K1.out).mono ?_; rintro e w2 ⟨rfl, rfl⟩)
    | (go_at_call 85; refine (BR.out w1.drew K1.out).mono ?_; rintro e w2 ⟨rfl, rfl⟩)
    | (go_at_call 65; refine (IHH.out _ (below_drewN 1 B2.out)).mono ?_; rintro e w3 ⟨⟨B2_, rfl, hv3⟩, b3⟩; have HV := Lib.hid hv3; clear hv3; have B3 := Lib.hid (below_down (q := 1) B2.out b3); have JP : w3.cell? ⟨B, 5, none⟩ = some vr := by { obtain ⟨-, -, -, -, d4, d5⟩ := NodeAt.cell ((b3.block B HL1.out).trans HN1.out); exact d5 }; clear b3)
    | fail)
  go_wp2
  go_ret
  exact ⟨⟨B2_, rfl, HV.out⟩, B3.out⟩
end
end Go.Proofs.Ytfjhcmihjffknaa
