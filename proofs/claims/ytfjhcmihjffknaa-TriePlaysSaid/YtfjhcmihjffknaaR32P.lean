/-
  The answer of layer 32, walked: a thing put. What lay below the heap's end stands. No condition but those that the texts name.
-/
import Derived.Test.YtfjhcmihjffknaaR32
namespace Go.Proofs.Ytfjhcmihjffknaa
set_option linter.unusedVariables false
set_option linter.unusedSimpArgs false
open Go.ChangeShapes Go.WideShapes Go.ChangeAt Go.RowKit
attribute [local go_sem] alloc_drewN setCell_drewN

section
variable {a n : Int} (a0 : 0 ≤ a) (a1 : a ≤ 4294967295) (n0 : -9223372036854775808 ≤ n) (n1 : n ≤ 9223372036854775807)
include a0 a1 n0 n1
set_option maxRecDepth 100000 in
set_option maxHeartbeats 2000000 in
theorem put32_wrong (v : Value) (x : Int) (w : World) (hR : ¬ RtP a n) :
    Calls Try.prog 42 #[v, .agg #[.int .u32 a, .int .i64 n], .int .i64 x] w fun e w' => e = .returned (.tuple #[v, .int .i64 6]) ∧ Below w.heap.size w w' := by
  have HB := Lib.hid ((Below.refl _ w).alloc (Nat.le_refl _) (.cells #[.int .u32 a, .int .i64 n] 70))
  have HP := Lib.hid (heap_alloc_new w (.cells #[.int .u32 a, .int .i64 n] 70))
  have RT := Lib.hid (fun (V : World) => (show Calls Try.prog 70 #[.agg #[.int .u32 a, .int .i64 n]] V fun e w' => e = .returned (.bool false) ∧ Below V.heap.size V w' from by
    have c := rright_any a n a0 a1 n0 n1 V
    rw [decide_eq_false hR] at c
    exact c))
  obtain ⟨p0, p1⟩ := box2 HP.out
  go_enter Try.func42, Try.ntmps42
  go_wp2_with fail
  refine (RT.out _).mono ?_
  rintro e w1 ⟨rfl, b1⟩
  have FIN := Lib.hid (HB.out.trans (b1.mono HB.out.size))
  clear b1 p0 p1
  go_wp2
  go_ret2
  exact ⟨rfl, FIN.out⟩
set_option maxRecDepth 100000 in
set_option maxHeartbeats 2000000 in
theorem put32_there (base : Nat) (v : Value) (xs : List (Int × Int × Int)) (x : Int) (w : World) (h : Its32 w base v xs) (hn : xs.length ≤ 100000) (hR : RtP a n) (hy : ∃ m ∈ xs, m.1 = a ∧ m.2.1 = n) :
    Calls Try.prog 42 #[v, .agg #[.int .u32 a, .int .i64 n], .int .i64 x] w fun e w' => e = .returned (.tuple #[v, .int .i64 8]) ∧ Below w.heap.size w w' := by
  have HB := Lib.hid ((Below.refl _ w).alloc (Nat.le_refl _) (.cells #[.int .u32 a, .int .i64 n] 70))
  have HP := Lib.hid (heap_alloc_new w (.cells #[.int .u32 a, .int .i64 n] 70))
  have SZ := Lib.hid (show w.heap.size < (w.alloc (.cells #[.int .u32 a, .int .i64 n] 70)).heap.size by simp)
  have HH := Lib.hid (h.below HB.out)
  have HY := Lib.hid hy
  have RT := Lib.hid (fun (V : World) => (show Calls Try.prog 70 #[.agg #[.int .u32 a, .int .i64 n]] V fun e w' => e = .returned (.bool true) ∧ Below V.heap.size V w' from by
    have c := rright_any a n a0 a1 n0 n1 V
    rw [decide_eq_true hR] at c
    exact c))
  obtain ⟨p0, p1⟩ := box2 HP.out
  clear h hy
  go_enter Try.func42, Try.ntmps42
  go_wp2_with fail
  generalize w.alloc (.cells #[.int .u32 a, .int .i64 n] 70) = W at *
  refine (RT.out _).mono ?_
  rintro e w1 ⟨rfl, b1⟩
  have B1 := Lib.hid (HB.out.trans (b1.mono HB.out.size))
  have AT := Lib.hid (at32 (HH.out.below b1) hn a n)
  obtain ⟨q0, q1⟩ := box2 ((b1.block _ SZ.out).trans HP.out)
  clear b1 p0 p1
  go_wp2_with fail
  refine AT.out.mono ?_
  rintro e w2 ⟨r, rfl, hf, b2⟩
  have FIN := Lib.hid (B1.out.trans (b2.mono B1.out.size))
  obtain ⟨k, hk, rfl⟩ : ∃ k : Nat, k < xs.length ∧ r = k := by
    rcases hf with ⟨k, h1, h2, -⟩ | ⟨-, hno⟩
    · exact ⟨k, h1, h2⟩
    · obtain ⟨m, hm, he⟩ := HY.out
      exact absurd he (hno m hm)
  have k0 : (0 : Int) ≤ k := by omega
  have k1 : (k : Int) ≥ 0 := by omega
  clear hf b2 AT q0 q1
  go_wp2
  go_ret2
  exact ⟨rfl, FIN.out⟩
set_option maxRecDepth 100000 in
set_option maxHeartbeats 8000000 in
theorem put32_ok (base : Nat) (v : Value) (xs : List (Int × Int × Int)) (x : Int) (w : World) (h : Its32 w base v xs) (hn : xs.length < 4096) (hR : RtP a n) (hno : ∀ m ∈ xs, ¬ (m.1 = a ∧ m.2.1 = n)) :
    Calls Try.prog 42 #[v, .agg #[.int .u32 a, .int .i64 n], .int .i64 x] w fun e w' => ∃ v', e = .returned (.tuple #[v', .int .i64 0]) ∧ (∃ B, w.heap.size ≤ B ∧ Its32 w' B v' (ins32 a n x xs)) ∧ Below w.heap.size w w' := by
  obtain ⟨i0, hi, hz0, hz1, hz2⟩ := info_parts infoEnt32
  have HB := Lib.hid ((Below.refl _ w).alloc (Nat.le_refl _) (.cells #[.int .u32 a, .int .i64 n] 70))
  have HP := Lib.hid (heap_alloc_new w (.cells #[.int .u32 a, .int .i64 n] 70))
  have SZ := Lib.hid (show w.heap.size < (w.alloc (.cells #[.int .u32 a, .int .i64 n] 70)).heap.size by simp)
  have HH := Lib.hid (h.below HB.out)
  have HN := Lib.hid hno
  have RT := Lib.hid (fun (V : World) => (show Calls Try.prog 70 #[.agg #[.int .u32 a, .int .i64 n]] V fun e w' => e = .returned (.bool true) ∧ Below V.heap.size V w' from by
    have c := rright_any a n a0 a1 n0 n1 V
    rw [decide_eq_true hR] at c
    exact c))
  obtain ⟨p0, p1⟩ := box2 HP.out
  obtain ⟨aa, cc, rfl, -, -⟩ := h.form
  clear h hno
  go_enter Try.func42, Try.ntmps42
  go_wp2_with fail
  generalize w.alloc (.cells #[.int .u32 a, .int .i64 n] 70) = W at *
  refine (RT.out _).mono ?_
  rintro e w1 ⟨rfl, b1⟩
  have B1 := Lib.hid (HB.out.trans (b1.mono HB.out.size))
  have H1 := Lib.hid (HH.out.below b1)
  have AT := Lib.hid (at32 H1.out (by omega) a n)
  have P1 := Lib.hid ((b1.block _ SZ.out).trans HP.out)
  have S1 := Lib.hid (Nat.lt_of_lt_of_le SZ.out b1.size)
  obtain ⟨q0, q1⟩ := box2 P1.out
  clear b1 p0 p1
  go_wp2_with fail
  refine AT.out.mono ?_
  rintro e w2 ⟨r, rfl, hf, b2⟩
  have B2 := Lib.hid (B1.out.trans (b2.mono B1.out.size))
  obtain rfl : r = -1 := by
    rcases hf with ⟨k, h1, h2, h3⟩ | ⟨hno, -⟩
    · exact absurd h3 (HN.out _ (List.getElem_mem h1))
    · exact hno
  have H2 := Lib.hid (H1.out.below b2)
  have KC := Lib.hid (show ∀ V, Below w2.heap.size w2 V → (V.cell? ⟨w.heap.size, 0, none⟩ = some (.int .u32 a) ∧ V.cell? ⟨w.heap.size, 1, none⟩ = some (.int .i64 n)) ∧ ∀ k (hk : k < xs.length), ∃ g, aa = some ⟨g, 0, none⟩ ∧ V.cell? ⟨g, k * 3, none⟩ = some (.int .u32 (xs[k]).1) ∧ V.cell? ⟨g, k * 3 + 1, none⟩ = some (.int .i64 (xs[k]).2.1) ∧ V.cell? ⟨g, k * 3 + 2, none⟩ = some (.int .i64 (xs[k]).2.2) from fun V hV => by
    refine ⟨box2 ((hV.block _ (Nat.lt_of_lt_of_le S1.out b2.size)).trans ((b2.block _ S1.out).trans P1.out)), ?_⟩
    intro k hk
    obtain ⟨a1, c1, e1, -, h1⟩ := (H2.out.below hV).form
    injection e1 with e1 _ _
    subst e1
    obtain ⟨g, g1, -, g2, g3, g4⟩ := h1 k hk
    exact ⟨g, g1, g2, g3, g4⟩)
  clear hf b2 AT q0 q1
  have hr9 : ¬ (4096 : Int) ≤ xs.length := by omega
  go_wp2
  go_loopw [8, 9, 10] (fun x1 z y wr => ∃ (vo : Value) (k : Nat) (put : Bool) (ys : List (Int × Int × Int)), vo = x1 ∧ z = .bool put ∧ k ≤ xs.length ∧ y = .int .i64 k ∧ PutI32 xs a n x k put ys ∧ Its32 wr w2.heap.size vo ys ∧ Below w2.heap.size w2 wr) (fun _ _ y _ => xs.length - (intOf y).toNat)
  case atStart => exact ⟨_, 0, false, [], rfl, rfl, Nat.zero_le _, rfl, Or.inl ⟨rfl, rfl, fun m hm => by cases hm⟩, Its32.nil _ _, Below.refl _ _⟩
  case round =>
    obtain ⟨vo, k, put, ys, rfl, rfl, hk, rfl, hP, ho, hb⟩ := hrel
    have hs := hb.size
    have hyl := hP.len
    obtain ⟨⟨d0, d1⟩, -⟩ := KC.out wr hb
    by_cases hlt : k < xs.length
    · obtain ⟨g, rfl, c0, c1, c2⟩ := (KC.out wr hb).2 k hlt
      have KD := Lib.hid (fun V (hV : Below w2.heap.size w2 V) => (KC.out V hV).2 k hlt)
      have KD : Hid (∀ V, Below w2.heap.size w2 V → (V.cell? ⟨w.heap.size, 0, none⟩ = some (.int .u32 a) ∧ V.cell? ⟨w.heap.size, 1, none⟩ = some (.int .i64 n)) ∧ V.cell? ⟨g, k * 3, none⟩ = some (.int .u32 (xs[k]).1) ∧ V.cell? ⟨g, k * 3 + 1, none⟩ = some (.int .i64 (xs[k]).2.1) ∧ V.cell? ⟨g, k * 3 + 2, none⟩ = some (.int .i64 (xs[k]).2.2)) := Lib.hid (fun V hV => by
        obtain ⟨g', e', h1⟩ := KD.out V hV
        injection e' with e'
        injection e' with e'
        subst e'
        exact ⟨(KC.out V hV).1, h1⟩)
      have HB := Lib.hid hb
      have HO := Lib.hid ho
      have q1 : (k : Int) < xs.length := by omega
      have q0 : (0 : Int) ≤ k := by omega
      clear ho
      cases put with
      | false =>
        by_cases hl : ah a n (xs[k]).1 (xs[k]).2.1
        · have ST := Lib.hid (hP.now hlt hl)
          have AH := Lib.hid (fun (V : World) => (show Calls Try.prog 72 #[.agg #[.int .u32 a, .int .i64 n], .agg #[.int .u32 (xs[k]).1, .int .i64 (xs[k]).2.1]] V fun e w' => e = .returned (.bool true) ∧ Below V.heap.size V w' from by
            have c := ahead32 a n (xs[k]).1 (xs[k]).2.1 V
            rw [decide_eq_true hl] at c
            exact c))
          clear hb hP hl
          generalize hy : xs[k] = y at *
          obtain ⟨y1, y2, y3⟩ := y
          dsimp only at c0 c1 c2 KD AH
          clear hy
          go_wp2_with fail
          go_region_held3 (fun v => v.cell? ⟨w.heap.size, 0, none⟩ = some (.int .u32 a) ∧ v.cell? ⟨w.heap.size, 1, none⟩ = some (.int .i64 n) ∧ v.cell? ⟨g, k * 3, none⟩ = some (.int .u32 y1) ∧ v.cell? ⟨g, k * 3 + 1, none⟩ = some (.int .i64 y2)) ((first | exact KP | exact ⟨d0, d1, c0, c1⟩)) (first
            | (go_at_call 72; refine (AH.out _).mono ?_; rintro e w3 ⟨rfl, b3⟩; have b3 : Below wr.heap.size wr w3 := ⟨b3.os, b3.tape, b3.output, b3.size, b3.block⟩; have B3 := Lib.hid (HB.out.trans (b3.mono HB.out.size)); have HO3 := Lib.hid (HO.out.below b3); have KP : w3.cell? ⟨w.heap.size, 0, none⟩ = some (.int .u32 a) ∧ w3.cell? ⟨w.heap.size, 1, none⟩ = some (.int .i64 n) ∧ w3.cell? ⟨g, k * 3, none⟩ = some (.int .u32 y1) ∧ w3.cell? ⟨g, k * 3 + 1, none⟩ = some (.int .i64 y2) := by { obtain ⟨⟨d0, d1⟩, d2, d3, -⟩ := KD.out w3 B3.out; exact ⟨d0, d1, d2, d3⟩ }; clear b3)
            | fail)
          obtain ⟨-, k0, k1, k2⟩ := KD.out w3 B3.out
          obtain ⟨p0, p1, -, -⟩ := KP
          clear d0 d1 c0 c1 c2
          have ho3 := HO3.out
          have hs3 := B3.out.size
          unfold Its32 at ho3
          go_wp2_with (first
            | (at_builtin; refine wpList_append_own _ rfl _ _ 84 rfl w2.heap.size 91 i0 (.agg #[.int .u32 0, .int .i64 0, .int .i64 0]) 3 24 Try.underlying84 hi hz0 hz1 hz2 rfl (by decide) vo _ _ rfl (ho3.alloc _) ⟨w3.heap.size, 0, none⟩ 1 1 [.int .u32 a, .int .i64 n, .int .i64 x] rfl rfl (cells_three32 _ _ _ _ _) (fun x hx => by simp at hx; rcases hx with rfl | rfl | rfl <;> rfl) (by unfold maxLen; omega) (by omega) (by simp; omega) ?_; intro v4 w4 ho_ hg_ hn_; clear hn_; have B4 := Lib.hid ((B3.out.alloc hs3 _).grown hg_ (by simp; omega) (fun g hg => (World.ownsRow.lt HO3.out g hg).1)); have HO4 := Lib.hid (Its32.of_append (xs := ys) (x := (a, n, x)) ho_); clear ho_ hg_; obtain ⟨-, e0, e1, e2⟩ := KD.out w4 B4.out; have hs4 := B4.out.size; have ho4 := HO4.out; unfold Its32 at ho4; rw [List.length_append, List.length_singleton] at ho4)
            | (at_builtin; refine wpList_append_own _ rfl _ _ 84 rfl w2.heap.size 91 i0 (.agg #[.int .u32 0, .int .i64 0, .int .i64 0]) 3 24 Try.underlying84 hi hz0 hz1 hz2 rfl (by decide) v4 _ _ rfl (ho4.alloc _) ⟨w4.heap.size, 0, none⟩ 1 1 [.int .u32 y1, .int .i64 y2, .int .i64 y3] rfl rfl (cells_three32 _ _ _ _ _) (fun x hx => by simp at hx; rcases hx with rfl | rfl | rfl <;> rfl) (by unfold maxLen; omega) (by omega) (by simp; omega) ?_; intro v5 w5 ho_ hg_ hn_; clear hn_; have B5 := Lib.hid ((B4.out.alloc hs4 _).grown hg_ (by simp; omega) (fun g hg => (World.ownsRow.lt HO4.out g hg).1)); have HO5 := Lib.hid (Its32.of_append (xs := ys ++ [(a, n, x)]) (x := (y1, y2, y3)) (by rw [List.length_append, List.length_singleton]; exact ho_)); clear ho_ hg_)
            | fail)
          go_roundw
          case rel => exact ⟨v5, k + 1, true, _, rfl, rfl, by omega, by go_num, ST.out, HO5.out, B5.out⟩
          case measure => simp [intOf] <;> omega
        · have ST := Lib.hid (hP.not hlt hl)
          have AH := Lib.hid (fun (V : World) => (show Calls Try.prog 72 #[.agg #[.int .u32 a, .int .i64 n], .agg #[.int .u32 (xs[k]).1, .int .i64 (xs[k]).2.1]] V fun e w' => e = .returned (.bool false) ∧ Below V.heap.size V w' from by
            have c := ahead32 a n (xs[k]).1 (xs[k]).2.1 V
            rw [decide_eq_false hl] at c
            exact c))
          clear hb hP hl
          generalize hy : xs[k] = y at *
          obtain ⟨y1, y2, y3⟩ := y
          dsimp only at c0 c1 c2 KD AH
          clear hy
          go_wp2_with fail
          go_region_held3 (fun v => v.cell? ⟨w.heap.size, 0, none⟩ = some (.int .u32 a) ∧ v.cell? ⟨w.heap.size, 1, none⟩ = some (.int .i64 n) ∧ v.cell? ⟨g, k * 3, none⟩ = some (.int .u32 y1) ∧ v.cell? ⟨g, k * 3 + 1, none⟩ = some (.int .i64 y2)) ((first | exact KP | exact ⟨d0, d1, c0, c1⟩)) (first
            | (go_at_call 72; refine (AH.out _).mono ?_; rintro e w3 ⟨rfl, b3⟩; have b3 : Below wr.heap.size wr w3 := ⟨b3.os, b3.tape, b3.output, b3.size, b3.block⟩; have B3 := Lib.hid (HB.out.trans (b3.mono HB.out.size)); have HO3 := Lib.hid (HO.out.below b3); have KP : w3.cell? ⟨w.heap.size, 0, none⟩ = some (.int .u32 a) ∧ w3.cell? ⟨w.heap.size, 1, none⟩ = some (.int .i64 n) ∧ w3.cell? ⟨g, k * 3, none⟩ = some (.int .u32 y1) ∧ w3.cell? ⟨g, k * 3 + 1, none⟩ = some (.int .i64 y2) := by { obtain ⟨⟨d0, d1⟩, d2, d3, -⟩ := KD.out w3 B3.out; exact ⟨d0, d1, d2, d3⟩ }; clear b3)
            | fail)
          obtain ⟨-, k0, k1, k2⟩ := KD.out w3 B3.out
          obtain ⟨p0, p1, -, -⟩ := KP
          clear d0 d1 c0 c1 c2
          have ho3 := HO3.out
          have hs3 := B3.out.size
          unfold Its32 at ho3
          go_wp2_with ((at_builtin; refine wpList_append_own _ rfl _ _ 84 rfl w2.heap.size 91 i0 (.agg #[.int .u32 0, .int .i64 0, .int .i64 0]) 3 24 Try.underlying84 hi hz0 hz1 hz2 rfl (by decide) vo _ _ rfl (ho3.alloc _) ⟨w3.heap.size, 0, none⟩ 1 1 [.int .u32 y1, .int .i64 y2, .int .i64 y3] rfl rfl (cells_three32 _ _ _ _ _) (fun x hx => by simp at hx; rcases hx with rfl | rfl | rfl <;> rfl) (by unfold maxLen; omega) (by omega) (by simp; omega) ?_; intro v4 w4 ho_ hg_ hn_; clear hn_; have B4 := Lib.hid ((B3.out.alloc hs3 _).grown hg_ (by simp; omega) (fun g hg => (World.ownsRow.lt HO3.out g hg).1)); have HO4 := Lib.hid (Its32.of_append (xs := ys) (x := (y1, y2, y3)) ho_); clear ho_ hg_))
          go_roundw
          case rel => exact ⟨v4, k + 1, false, _, rfl, rfl, by omega, by go_num, ST.out, HO4.out, B4.out⟩
          case measure => simp [intOf] <;> omega
      | true =>
        have ST := Lib.hid (hP.on hlt)
        clear hb hP
        generalize hy : xs[k] = y at *
        obtain ⟨y1, y2, y3⟩ := y
        dsimp only at c0 c1 c2 KD
        clear hy
        have ho := HO.out
        unfold Its32 at ho
        go_wp2_with fail
        go_quiet (fail)
        have bd := below_drewN nq (Below.refl wr.heap.size wr)
        have HB5 := Lib.hid (HB.out.trans (bd.mono HB.out.size))
        have HO5 := Lib.hid (HO.out.below bd)
        clear bd ho
        generalize wr.drewN nq = w3 at *
        clear c0 c1 c2 d0 d1
        obtain ⟨-, c0, c1, c2⟩ := KD.out w3 HB5.out
        have ho3 := HO5.out
        have hs3 := HB5.out.size
        unfold Its32 at ho3
        go_wp2_with ((at_builtin; refine wpList_append_own _ rfl _ _ 84 rfl w2.heap.size 91 i0 (.agg #[.int .u32 0, .int .i64 0, .int .i64 0]) 3 24 Try.underlying84 hi hz0 hz1 hz2 rfl (by decide) vo _ _ rfl (ho3.alloc _) ⟨w3.heap.size, 0, none⟩ 1 1 [.int .u32 y1, .int .i64 y2, .int .i64 y3] rfl rfl (cells_three32 _ _ _ _ _) (fun x hx => by simp at hx; rcases hx with rfl | rfl | rfl <;> rfl) (by unfold maxLen; omega) (by omega) (by simp; omega) ?_; intro v4 w4 ho_ hg_ hn_; clear hn_; have B4 := Lib.hid ((HB5.out.alloc hs3 _).grown hg_ (by simp; omega) (fun g hg => (World.ownsRow.lt HO5.out g hg).1)); have HO4 := Lib.hid (Its32.of_append (xs := ys) (x := (y1, y2, y3)) ho_); clear ho_ hg_))
        go_roundw
        case rel => exact ⟨v4, k + 1, true, _, rfl, rfl, by omega, by go_num, ST.out, HO4.out, B4.out⟩
        case measure => simp [intOf] <;> omega
    · obtain rfl : k = xs.length := by omega
      have HB := Lib.hid hb
      have HO := Lib.hid ho
      unfold Its32 at ho
      cases put with
      | false =>
        have ST := Lib.hid hP.endF
        clear hb hP
        go_wp2_with ((at_builtin; refine wpList_append_own _ rfl _ _ 84 rfl w2.heap.size 91 i0 (.agg #[.int .u32 0, .int .i64 0, .int .i64 0]) 3 24 Try.underlying84 hi hz0 hz1 hz2 rfl (by decide) vo _ _ rfl (ho.alloc _) ⟨wr.heap.size, 0, none⟩ 1 1 [.int .u32 a, .int .i64 n, .int .i64 x] rfl rfl (cells_three32 _ _ _ _ _) (fun x hx => by simp at hx; rcases hx with rfl | rfl | rfl <;> rfl) (by unfold maxLen; omega) (by omega) (by simp; omega) ?_; intro v4 w4 ho_ hg_ hn_; clear hn_; have B4 := Lib.hid ((HB.out.alloc hs _).grown hg_ (by simp; omega) (fun g hg => (World.ownsRow.lt HO.out g hg).1)); have HO4 := Lib.hid (Its32.of_append (xs := ys) (x := (a, n, x)) ho_); clear ho_ hg_))
        go_ret2
        exact ⟨_, rfl, ⟨_, B2.out.size, by rw [← ST.out]; exact HO4.out⟩, B2.out.trans (B4.out.mono B2.out.size)⟩
      | true =>
        have ST := Lib.hid hP.endT
        clear hb hP
        go_wp2
        go_ret2
        exact ⟨_, rfl, ⟨_, B2.out.size, by rw [← ST.out]; exact HO.out⟩, B2.out.trans (HB.out.mono B2.out.size)⟩
end
end Go.Proofs.Ytfjhcmihjffknaa
