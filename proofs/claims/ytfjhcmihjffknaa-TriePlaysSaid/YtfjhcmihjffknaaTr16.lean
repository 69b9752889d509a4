/-
  Package trie: a thing is put under a prefix that parts from a node's. No condition but that the node stands.
-/
import Derived.Test.YtfjhcmihjffknaaTr15
import Derived.Test.YtfjhcmihjffknaaTr9
namespace Go.Proofs.Ytfjhcmihjffknaa
set_option linter.unusedVariables false
set_option linter.unusedSimpArgs false
open Go.ChangeShapes Go.WideShapes Go.ChangeAt Go.RowKit
attribute [local go_sem] alloc_drewN setCell_drewN

section
variable {w : World} {B : Nat} {b m : Int} {th : Bool} {y : Int} {vl vr : Value} {a n : Int}
set_option maxRecDepth 100000 in
set_option maxHeartbeats 8000000 in
theorem put_fork0 (h : NodeAt w B b m th y vl vr) (hb : 0 ≤ b ∧ b ≤ 4294967295) (hp : RtP b m) (ha : 0 ≤ a ∧ a ≤ 4294967295) (hr : RtP a n) (hc : ¬ CvP b m a n) (he : ¬ (b = a ∧ m = n)) (hbr : brn (comN b m a n) b = 0) (x : Int) {Q : World → Option Addr → Prop}
    (HF : ∀ V F, Below w.heap.size w V → w.heap.size ≤ F → NodeAt V F (comA b m a n) (comN b m a n) false 0 (.pointer (some ⟨B, 0, none⟩)) (.pointer none) → Calls Try.prog 67 #[.pointer (some ⟨F, 0, none⟩), .agg #[.int .u32 a, .int .i64 n], .int .i64 x] V fun e w' => ∃ p, e = .returned (.pointer p) ∧ Q w' p) :
    Calls Try.prog 67 #[.pointer (some ⟨B, 0, none⟩), .agg #[.int .u32 a, .int .i64 n], .int .i64 x] w fun e w' => ∃ p, e = .returned (.pointer p) ∧ Q w' p := by
  have HB := Lib.hid ((Below.refl _ w).alloc (Nat.le_refl _) (.cells #[.int .u32 a, .int .i64 n] 70))
  have HP := Lib.hid (heap_alloc_new w (.cells #[.int .u32 a, .int .i64 n] 70))
  have HN := Lib.hid (h.below HB.out)
  obtain ⟨c0, c1, c2, c3, c4, c5⟩ := HN.out.cell
  obtain ⟨p0, p1⟩ := box2 HP.out
  have SZ := Lib.hid (show w.heap.size < (w.alloc (.cells #[.int .u32 a, .int .i64 n] 70)).heap.size by simp)
  have hm := hp.1
  have hn := hr.1
  have CV := Lib.hid (fun (W : World) => (show Calls Try.prog 88 #[.agg #[.int .u32 b, .int .i64 m], .agg #[.int .u32 a, .int .i64 n]] W fun e w' => e = .returned (.bool false) ∧ Below W.heap.size W w' from by
    have c := covers_any b m hb.1 hb.2 (by omega) (by omega) a n ha.1 ha.2 (by omega) (by omega) W
    rw [decide_eq_false hc] at c
    exact c))
  have CM := Lib.hid (fun (W : World) => common_any hb ha hp hr W)
  obtain ⟨⟨g1, g2, g3⟩, -, -⟩ := com_at hb ha hp hr
  have BR := Lib.hid (fun (v : World) (F : Nat) (hv : v.cell? ⟨F, 1, none⟩ = some (.int .i64 (comN b m a n))) => (show Calls Try.prog 85 #[.pointer (some ⟨F, 0, none⟩), .int .u32 b] v fun e w' => e = .returned (.int .i64 0) ∧ w' = v from by
    have c := branch_at hv g1 (by omega) b hb.1 hb.2
    rw [hbr] at c
    exact c))
  have HFH := Lib.hid HF
  have NE : (b == a && m == n) = false := by
    by_cases h1 : b = a
    · have h2 : m ≠ n := fun h2 => he ⟨h1, h2⟩
      simp [h2]
    · simp [h1]
  have PE : ∀ W, Sem.run Try.prog (binOp .eql 70 (.agg #[.int .u32 b, .int .i64 m]) (.agg #[.int .u32 a, .int .i64 n])) W = .ok (.bool false) W := fun W => by rw [prefix_eq, NE]
  have LB := Lib.hid (Array.getElem?_eq_some_iff.1 h).1
  clear NE h HF he hbr hc g1 g2 g3
  generalize comA b m a n = cA at *
  generalize comN b m a n = cN at *
  go_enter Try.func67, Try.ntmps67
  go_wp2
  generalize w.alloc (.cells #[.int .u32 a, .int .i64 n] 70) = W at *
  go_quiet (fail)
  go_wp2
  go_region_held3 (fun v => v.cell? ⟨B, 0, none⟩ = some (.int .u32 b) ∧ v.cell? ⟨B, 1, none⟩ = some (.int .i64 m) ∧ v.cell? ⟨w.heap.size, 0, none⟩ = some (.int .u32 a) ∧ v.cell? ⟨w.heap.size, 1, none⟩ = some (.int .i64 n)) ((first | exact KP | exact ⟨c0, c1, p0, p1⟩)) (first
    | (go_at_call 88; refine (CV.out _).mono ?_; rintro e w1 ⟨rfl, b1⟩; have b1 : Below W.heap.size W w1 := below_flat b1; have B1 := Lib.hid b1; have KP : w1.cell? ⟨B, 0, none⟩ = some (.int .u32 b) ∧ w1.cell? ⟨B, 1, none⟩ = some (.int .i64 m) ∧ w1.cell? ⟨w.heap.size, 0, none⟩ = some (.int .u32 a) ∧ w1.cell? ⟨w.heap.size, 1, none⟩ = some (.int .i64 n) := by { obtain ⟨d0, d1, -, -, -, -⟩ := (HN.out.below b1).cell; obtain ⟨q0, q1⟩ := box2 ((b1.block _ SZ.out).trans HP.out); exact ⟨d0, d1, q0, q1⟩ }; clear b1)
    | fail)
  have KP1 := KP
  have B2 := Lib.hid (HB.out.trans (B1.out.mono HB.out.size))
  have HN1 := Lib.hid (HN.out.below B1.out)
  have HP1 := Lib.hid ((B1.out.block _ SZ.out).trans HP.out)
  have SZ1 := Lib.hid (Nat.lt_of_lt_of_le SZ.out B1.out.size)
  clear c0 c1 c2 c3 c4 c5 p0 p1 HB B1 CV HN HP SZ KP PE
  go_wp2
  go_region_held3 (fun v => v.cell? ⟨B, 0, none⟩ = some (.int .u32 b) ∧ v.cell? ⟨B, 1, none⟩ = some (.int .i64 m) ∧ v.cell? ⟨w.heap.size, 0, none⟩ = some (.int .u32 a) ∧ v.cell? ⟨w.heap.size, 1, none⟩ = some (.int .i64 n)) ((first | exact KA | exact KP | exact KP1)) (first
    | (go_at_call 89; refine (CM.out _).mono ?_; rintro e w2 ⟨rfl, b2⟩; have b2 : Below w1.heap.size w1 w2 := below_flat b2; have B3 := Lib.hid (B2.out.trans (b2.mono B2.out.size)); have HN2 := Lib.hid (HN1.out.below b2); have HP2 := Lib.hid ((b2.block _ SZ1.out).trans HP1.out); have SZ2 := Lib.hid (Nat.lt_of_lt_of_le SZ1.out b2.size); have KP : w2.cell? ⟨B, 0, none⟩ = some (.int .u32 b) ∧ w2.cell? ⟨B, 1, none⟩ = some (.int .i64 m) ∧ w2.cell? ⟨w.heap.size, 0, none⟩ = some (.int .u32 a) ∧ w2.cell? ⟨w.heap.size, 1, none⟩ = some (.int .i64 n) := by { obtain ⟨d0, d1, -, -, -, -⟩ := HN2.out.cell; obtain ⟨q0, q1⟩ := box2 HP2.out; exact ⟨d0, d1, q0, q1⟩ }; have bA := (Below.refl w2.heap.size w2).alloc (Nat.le_refl _) (.cells #[.int .u32 cA, .int .i64 cN, .bool false, .int .i64 0, .pointer none, .pointer none] 126); have KA : (w2.alloc (.cells #[.int .u32 cA, .int .i64 cN, .bool false, .int .i64 0, .pointer none, .pointer none] 126)).cell? ⟨B, 0, none⟩ = some (.int .u32 b) ∧ (w2.alloc (.cells #[.int .u32 cA, .int .i64 cN, .bool false, .int .i64 0, .pointer none, .pointer none] 126)).cell? ⟨B, 1, none⟩ = some (.int .i64 m) ∧ (w2.alloc (.cells #[.int .u32 cA, .int .i64 cN, .bool false, .int .i64 0, .pointer none, .pointer none] 126)).cell? ⟨w.heap.size, 0, none⟩ = some (.int .u32 a) ∧ (w2.alloc (.cells #[.int .u32 cA, .int .i64 cN, .bool false, .int .i64 0, .pointer none, .pointer none] 126)).cell? ⟨w.heap.size, 1, none⟩ = some (.int .i64 n) := by { obtain ⟨d0, d1, -, -, -, -⟩ := (HN2.out.below bA).cell; obtain ⟨q0, q1⟩ := box2 ((bA.block _ SZ2.out).trans HP2.out); exact ⟨d0, d1, q0, q1⟩ }; clear b2)
    | fail)
  have F4 := Lib.hid (show NodeAt (w2.alloc (.cells #[.int .u32 cA, .int .i64 cN, .bool false, .int .i64 0, .pointer none, .pointer none] 126)) w2.heap.size cA cN false 0 (.pointer none) (.pointer none) from heap_alloc_new w2 _)
  have B4 := Lib.hid (B3.out.trans (bA.mono B3.out.size))
  have N4 := Lib.hid (HN2.out.below bA)
  have P4 := Lib.hid ((bA.block _ SZ2.out).trans HP2.out)
  have LF := Lib.hid (show w.heap.size ≤ w2.heap.size from B3.out.size)
  have LBF := Lib.hid (show B < w2.heap.size from Nat.lt_of_lt_of_le LB.out B3.out.size)
  have LPF := Lib.hid SZ2.out
  clear KP KA KP1 CM HN1 HN2 HP1 HP2 SZ1 B2 B3 bA SZ2
  generalize w2.alloc (.cells #[.int .u32 cA, .int .i64 cN, .bool false, .int .i64 0, .pointer none, .pointer none] 126) = V at *
  generalize w2.heap.size = F at *
  obtain ⟨n0_, -, -, -, -, -⟩ := N4.out.cell
  obtain ⟨-, f1_, -, -, f4_, f5_⟩ := F4.out.cell
  have fz := F4.out.frozen 4
  have FS := Lib.hid (show NodeAt (V.setCell ⟨F, 4, none⟩ (.pointer (some ⟨B, 0, none⟩))) F cA cN false 0 (.pointer (some ⟨B, 0, none⟩)) (.pointer none) from (by simpa [NodeAt] using heap_set F4.out 4 (.pointer (some ⟨B, 0, none⟩))))
  have NS := Lib.hid (show NodeAt (V.setCell ⟨F, 4, none⟩ (.pointer (some ⟨B, 0, none⟩))) B b m th y vl vr from (Below.heap_setCell V ⟨F, 4, none⟩ _ B (by have := LBF.out; show B ≠ F; omega)).trans N4.out)
  have PS := Lib.hid ((Below.heap_setCell V ⟨F, 4, none⟩ (.pointer (some ⟨B, 0, none⟩)) w.heap.size (by have := LPF.out; show w.heap.size ≠ F; omega)).trans P4.out)
  have BS := Lib.hid (Below.setCell B4.out (p := ⟨F, 4, none⟩) LF.out (.pointer (some ⟨B, 0, none⟩)))
  obtain ⟨m0_, -, -, -, -, -⟩ := NS.out.cell
  obtain ⟨-, e1_, -, -, -, -⟩ := FS.out.cell
  obtain ⟨r0_, r1_⟩ := box2 PS.out
  go_wp2
  go_region_held3 (fun v => v.cell? ⟨B, 0, none⟩ = some (.int .u32 b) ∧ v.cell? ⟨F, 1, none⟩ = some (.int .i64 cN)) ((first | exact ⟨n0_, f1_⟩ | exact ⟨m0_, e1_⟩)) (first
    | (go_at_call 85; refine (BR.out (World.drew _) F f1_).mono ?_; rintro e w5 ⟨rfl, rfl⟩)
    | (go_at_call 85; refine (BR.out (World.drewN _ _) F f1_).mono ?_; rintro e w5 ⟨rfl, rfl⟩)
    | (go_at_call 85; refine (BR.out _ F f1_).mono ?_; rintro e w5 ⟨rfl, rfl⟩)
    | fail)
  (try simp only [Exit.then])
  go_wp2_with fail
  refine (HFH.out (World.drew _) F BS.out.drew LF.out FS.out).mono ?_
  rintro e w6 ⟨p, rfl, hq⟩
  have HQ := Lib.hid hq
  clear hq
  go_wp2
  go_ret
  exact ⟨p, rfl, HQ.out⟩
set_option maxRecDepth 100000 in
set_option maxHeartbeats 8000000 in
theorem put_fork1 (h : NodeAt w B b m th y vl vr) (hb : 0 ≤ b ∧ b ≤ 4294967295) (hp : RtP b m) (ha : 0 ≤ a ∧ a ≤ 4294967295) (hr : RtP a n) (hc : ¬ CvP b m a n) (he : ¬ (b = a ∧ m = n)) (hbr : brn (comN b m a n) b = 1) (x : Int) {Q : World → Option Addr → Prop}
    (HF : ∀ V F, Below w.heap.size w V → w.heap.size ≤ F → NodeAt V F (comA b m a n) (comN b m a n) false 0 (.pointer none) (.pointer (some ⟨B, 0, none⟩)) → Calls Try.prog 67 #[.pointer (some ⟨F, 0, none⟩), .agg #[.int .u32 a, .int .i64 n], .int .i64 x] V fun e w' => ∃ p, e = .returned (.pointer p) ∧ Q w' p) :
    Calls Try.prog 67 #[.pointer (some ⟨B, 0, none⟩), .agg #[.int .u32 a, .int .i64 n], .int .i64 x] w fun e w' => ∃ p, e = .returned (.pointer p) ∧ Q w' p := by
  have HB := Lib.hid ((Below.refl _ w).alloc (Nat.le_refl _) (.cells #[.int .u32 a, .int .i64 n] 70))
  have HP := Lib.hid (heap_alloc_new w (.cells #[.int .u32 a, .int .i64 n] 70))
  have HN := Lib.hid (h.below HB.out)
  obtain ⟨c0, c1, c2, c3, c4, c5⟩ := HN.out.cell
  obtain ⟨p0, p1⟩ := box2 HP.out
  have SZ := Lib.hid (show w.heap.size < (w.alloc (.cells #[.int .u32 a, .int .i64 n] 70)).heap.size by simp)
  have hm := hp.1
  have hn := hr.1
  have CV := Lib.hid (fun (W : World) => (show Calls Try.prog 88 #[.agg #[.int .u32 b, .int .i64 m], .agg #[.int .u32 a, .int .i64 n]] W fun e w' => e = .returned (.bool false) ∧ Below W.heap.size W w' from by
    have c := covers_any b m hb.1 hb.2 (by omega) (by omega) a n ha.1 ha.2 (by omega) (by omega) W
    rw [decide_eq_false hc] at c
    exact c))
  have CM := Lib.hid (fun (W : World) => common_any hb ha hp hr W)
  obtain ⟨⟨g1, g2, g3⟩, -, -⟩ := com_at hb ha hp hr
  have BR := Lib.hid (fun (v : World) (F : Nat) (hv : v.cell? ⟨F, 1, none⟩ = some (.int .i64 (comN b m a n))) => (show Calls Try.prog 85 #[.pointer (some ⟨F, 0, none⟩), .int .u32 b] v fun e w' => e = .returned (.int .i64 1) ∧ w' = v from by
    have c := branch_at hv g1 (by omega) b hb.1 hb.2
    rw [hbr] at c
    exact c))
  have HFH := Lib.hid HF
  have NE : (b == a && m == n) = false := by
    by_cases h1 : b = a
    · have h2 : m ≠ n := fun h2 => he ⟨h1, h2⟩
      simp [h2]
    · simp [h1]
  have PE : ∀ W, Sem.run Try.prog (binOp .eql 70 (.agg #[.int .u32 b, .int .i64 m]) (.agg #[.int .u32 a, .int .i64 n])) W = .ok (.bool false) W := fun W => by rw [prefix_eq, NE]
  have LB := Lib.hid (Array.getElem?_eq_some_iff.1 h).1
  clear NE h HF he hbr hc g1 g2 g3
  generalize comA b m a n = cA at *
  generalize comN b m a n = cN at *
  go_enter Try.func67, Try.ntmps67
  go_wp2
  generalize w.alloc (.cells #[.int .u32 a, .int .i64 n] 70) = W at *
  go_quiet (fail)
  go_wp2
  go_region_held3 (fun v => v.cell? ⟨B, 0, none⟩ = some (.int .u32 b) ∧ v.cell? ⟨B, 1, none⟩ = some (.int .i64 m) ∧ v.cell? ⟨w.heap.size, 0, none⟩ = some (.int .u32 a) ∧ v.cell? ⟨w.heap.size, 1, none⟩ = some (.int .i64 n)) ((first | exact KP | exact ⟨c0, c1, p0, p1⟩)) (first
    | (go_at_call 88; refine (CV.out _).mono ?_; rintro e w1 ⟨rfl, b1⟩; have b1 : Below W.heap.size W w1 := below_flat b1; have B1 := Lib.hid b1; have KP : w1.cell? ⟨B, 0, none⟩ = some (.int .u32 b) ∧ w1.cell? ⟨B, 1, none⟩ = some (.int .i64 m) ∧ w1.cell? ⟨w.heap.size, 0, none⟩ = some (.int .u32 a) ∧ w1.cell? ⟨w.heap.size, 1, none⟩ = some (.int .i64 n) := by { obtain ⟨d0, d1, -, -, -, -⟩ := (HN.out.below b1).cell; obtain ⟨q0, q1⟩ := box2 ((b1.block _ SZ.out).trans HP.out); exact ⟨d0, d1, q0, q1⟩ }; clear b1)
    | fail)
  have KP1 := KP
  have B2 := Lib.hid (HB.out.trans (B1.out.mono HB.out.size))
  have HN1 := Lib.hid (HN.out.below B1.out)
  have HP1 := Lib.hid ((B1.out.block _ SZ.out).trans HP.out)
  have SZ1 := Lib.hid (Nat.lt_of_lt_of_le SZ.out B1.out.size)
  clear c0 c1 c2 c3 c4 c5 p0 p1 HB B1 CV HN HP SZ KP PE
  go_wp2
  go_region_held3 (fun v => v.cell? ⟨B, 0, none⟩ = some (.int .u32 b) ∧ v.cell? ⟨B, 1, none⟩ = some (.int .i64 m) ∧ v.cell? ⟨w.heap.size, 0, none⟩ = some (.int .u32 a) ∧ v.cell? ⟨w.heap.size, 1, none⟩ = some (.int .i64 n)) ((first | exact KA | exact KP | exact KP1)) (first
    | (go_at_call 89; refine (CM.out _).mono ?_; rintro e w2 ⟨rfl, b2⟩; have b2 : Below w1.heap.size w1 w2 := below_flat b2; have B3 := Lib.hid (B2.out.trans (b2.mono B2.out.size)); have HN2 := Lib.hid (HN1.out.below b2); have HP2 := Lib.hid ((b2.block _ SZ1.out).trans HP1.out); have SZ2 := Lib.hid (Nat.lt_of_lt_of_le SZ1.out b2.size); have KP : w2.cell? ⟨B, 0, none⟩ = some (.int .u32 b) ∧ w2.cell? ⟨B, 1, none⟩ = some (.int .i64 m) ∧ w2.cell? ⟨w.heap.size, 0, none⟩ = some (.int .u32 a) ∧ w2.cell? ⟨w.heap.size, 1, none⟩ = some (.int .i64 n) := by { obtain ⟨d0, d1, -, -, -, -⟩ := HN2.out.cell; obtain ⟨q0, q1⟩ := box2 HP2.out; exact ⟨d0, d1, q0, q1⟩ }; have bA := (Below.refl w2.heap.size w2).alloc (Nat.le_refl _) (.cells #[.int .u32 cA, .int .i64 cN, .bool false, .int .i64 0, .pointer none, .pointer none] 126); have KA : (w2.alloc (.cells #[.int .u32 cA, .int .i64 cN, .bool false, .int .i64 0, .pointer none, .pointer none] 126)).cell? ⟨B, 0, none⟩ = some (.int .u32 b) ∧ (w2.alloc (.cells #[.int .u32 cA, .int .i64 cN, .bool false, .int .i64 0, .pointer none, .pointer none] 126)).cell? ⟨B, 1, none⟩ = some (.int .i64 m) ∧ (w2.alloc (.cells #[.int .u32 cA, .int .i64 cN, .bool false, .int .i64 0, .pointer none, .pointer none] 126)).cell? ⟨w.heap.size, 0, none⟩ = some (.int .u32 a) ∧ (w2.alloc (.cells #[.int .u32 cA, .int .i64 cN, .bool false, .int .i64 0, .pointer none, .pointer none] 126)).cell? ⟨w.heap.size, 1, none⟩ = some (.int .i64 n) := by { obtain ⟨d0, d1, -, -, -, -⟩ := (HN2.out.below bA).cell; obtain ⟨q0, q1⟩ := box2 ((bA.block _ SZ2.out).trans HP2.out); exact ⟨d0, d1, q0, q1⟩ }; clear b2)
    | fail)
  have F4 := Lib.hid (show NodeAt (w2.alloc (.cells #[.int .u32 cA, .int .i64 cN, .bool false, .int .i64 0, .pointer none, .pointer none] 126)) w2.heap.size cA cN false 0 (.pointer none) (.pointer none) from heap_alloc_new w2 _)
  have B4 := Lib.hid (B3.out.trans (bA.mono B3.out.size))
  have N4 := Lib.hid (HN2.out.below bA)
  have P4 := Lib.hid ((bA.block _ SZ2.out).trans HP2.out)
  have LF := Lib.hid (show w.heap.size ≤ w2.heap.size from B3.out.size)
  have LBF := Lib.hid (show B < w2.heap.size from Nat.lt_of_lt_of_le LB.out B3.out.size)
  have LPF := Lib.hid SZ2.out
  clear KP KA KP1 CM HN1 HN2 HP1 HP2 SZ1 B2 B3 bA SZ2
  generalize w2.alloc (.cells #[.int .u32 cA, .int .i64 cN, .bool false, .int .i64 0, .pointer none, .pointer none] 126) = V at *
  generalize w2.heap.size = F at *
  obtain ⟨n0_, -, -, -, -, -⟩ := N4.out.cell
  obtain ⟨-, f1_, -, -, f4_, f5_⟩ := F4.out.cell
  have fz := F4.out.frozen 5
  have FS := Lib.hid (show NodeAt (V.setCell ⟨F, 5, none⟩ (.pointer (some ⟨B, 0, none⟩))) F cA cN false 0 (.pointer none) (.pointer (some ⟨B, 0, none⟩)) from (by simpa [NodeAt] using heap_set F4.out 5 (.pointer (some ⟨B, 0, none⟩))))
  have NS := Lib.hid (show NodeAt (V.setCell ⟨F, 5, none⟩ (.pointer (some ⟨B, 0, none⟩))) B b m th y vl vr from (Below.heap_setCell V ⟨F, 5, none⟩ _ B (by have := LBF.out; show B ≠ F; omega)).trans N4.out)
  have PS := Lib.hid ((Below.heap_setCell V ⟨F, 5, none⟩ (.pointer (some ⟨B, 0, none⟩)) w.heap.size (by have := LPF.out; show w.heap.size ≠ F; omega)).trans P4.out)
  have BS := Lib.hid (Below.setCell B4.out (p := ⟨F, 5, none⟩) LF.out (.pointer (some ⟨B, 0, none⟩)))
  obtain ⟨m0_, -, -, -, -, -⟩ := NS.out.cell
  obtain ⟨-, e1_, -, -, -, -⟩ := FS.out.cell
  obtain ⟨r0_, r1_⟩ := box2 PS.out
  go_wp2
  go_region_held3 (fun v => v.cell? ⟨B, 0, none⟩ = some (.int .u32 b) ∧ v.cell? ⟨F, 1, none⟩ = some (.int .i64 cN)) ((first | exact ⟨n0_, f1_⟩ | exact ⟨m0_, e1_⟩)) (first
    | (go_at_call 85; refine (BR.out (World.drew _) F f1_).mono ?_; rintro e w5 ⟨rfl, rfl⟩)
    | (go_at_call 85; refine (BR.out (World.drewN _ _) F f1_).mono ?_; rintro e w5 ⟨rfl, rfl⟩)
    | (go_at_call 85; refine (BR.out _ F f1_).mono ?_; rintro e w5 ⟨rfl, rfl⟩)
    | fail)
  (try simp only [Exit.then])
  go_wp2_with fail
  refine (HFH.out (World.drew _) F BS.out.drew LF.out FS.out).mono ?_
  rintro e w6 ⟨p, rfl, hq⟩
  have HQ := Lib.hid hq
  clear hq
  go_wp2
  go_ret
  exact ⟨p, rfl, HQ.out⟩
end
end Go.Proofs.Ytfjhcmihjffknaa
