/-
  The example of layer 12, walked: true. No condition.
-/
import Derived.Test.YtkgiaijcgblpbaaSpT5
namespace Go.Proofs.Ytkgiaijcgblpbaa
set_option linter.unusedVariables false
set_option linter.unusedSimpArgs false
open Go.ChangeShapes Go.WideShapes Go.ChangeAt Go.RowKit
attribute [local go_sem] alloc_drewN setCell_drewN

theorem two_last (a b rank l : Int) (h : LastIsT [a, b] rank l) : (b ≤ rank → l = 1) ∧ (rank < b → a ≤ rank → l = 0) ∧ (rank < b → rank < a → l = -1) := by
  have h0 := h.lo; have h1 := h.hi
  simp only [List.length_cons, List.length_nil] at h1
  have u0 := fun hh => h.up 0 hh (by simp)
  have u1 := fun hh => h.up 1 hh (by simp)
  have d0 := h.dn
  simp only [List.getD_eq_getElem?_getD] at u0 u1 d0
  have hc : l = -1 ∨ l = 0 ∨ l = 1 := by omega
  rcases hc with rfl | rfl | rfl
  · have a0 := u0 (by omega); have a1 := u1 (by omega)
    simp at a0 a1
    omega
  · have a1 := u1 (by omega); have b0 := d0 (by omega)
    simp at a1 b0
    omega
  · have b0 := d0 (by omega)
    simp at b0
    omega
theorem two_mono (a b : Int) (h : a ≤ b) : ∀ i j : Nat, i ≤ j → j < [a, b].length → [a, b].getD i 0 ≤ [a, b].getD j 0 := by
  intro i j hij hj
  simp only [List.length_cons, List.length_nil] at hj
  have hc : (i = 0 ∧ j = 0) ∨ (i = 0 ∧ j = 1) ∨ (i = 1 ∧ j = 1) := by omega
  rcases hc with ⟨rfl, rfl⟩ | ⟨rfl, rfl⟩ | ⟨rfl, rfl⟩ <;> simp [h]
theorem two_bnd (a b : Int) (ha : 0 ≤ a ∧ a ≤ 100) (hb : 0 ≤ b ∧ b ≤ 100) : ∀ i : Nat, i < [a, b].length → 0 ≤ [a, b].getD i 0 ∧ [a, b].getD i 0 ≤ 18446744073709551615 := by
  intro i hi
  simp only [List.length_cons, List.length_nil] at hi
  have hc : i = 0 ∨ i = 1 := by omega
  rcases hc with rfl | rfl <;> simp <;> omega
theorem cs_two (rs : List RgT) (h : rs.length = 2) (hk : ∀ i (hi : i < rs.length), (rs[i]).k = 0) : csT rs = [[], []] := by
  match rs, h with
  | [a, b], _ =>
    have h0 : a.k = 0 := hk 0 (by simp)
    have h1 : b.k = 0 := hk 1 (by simp)
    unfold csT RgT.c
    simp [h0, h1, cont_zero]
theorem tot_two (rs : List RgT) (h : rs.length = 2) (hk : ∀ i (hi : i < rs.length), (rs[i]).k = 0) : totT rs = 0 := by
  match rs, h with
  | [a, b], _ =>
    have h0 : a.k = 0 := hk 0 (by simp)
    have h1 : b.k = 0 := hk 1 (by simp)
    unfold totT
    simp [h0, h1]
set_option maxRecDepth 100000 in
set_option maxHeartbeats 1000000 in
theorem lives12 (w : World) :
    Calls Try.prog 41 #[] w fun e w' => e = .returned (.bool true) ∧ Below w.heap.size w w' := by
  have NW := Lib.hid (show Calls Try.prog 77 #[.int .i64 9, .int .i64 2] w _ from snewT 9 2 (by omega) (by omega) (by omega) (by omega) w)
  go_enter Try.func41, Try.ntmps41
  go_wp2_with fail
  refine NW.out.mono ?_
  rintro e w1 ⟨B, rfl, b1, vb, vq, rs, h1, hl, hk⟩
  have C1 := Lib.hid (cs_two rs hl hk)
  have T1 := Lib.hid (tot_two rs hl hk)
  have B1 := Lib.hid b1
  have PS := Lib.hid (spushT (bs := [0, 0]) h1 (by rw [T1.out]; decide) 10 (by omega) (by omega) (two_mono 0 0 (by omega)) (two_bnd 0 0 (by omega) (by omega)) ⟨#[97]⟩ b1.size)
  have H1 := Lib.hid (show SpAtT w1 w.heap.size B 9 vb vq [0, 0] rs from h1)
  clear h1 b1 hk NW
  go_wp2_with fail
  refine PS.out.mono ?_
  rintro e w2 ⟨j, bs2, rs2, rfl, hj, hl2, hp, h2, hc2, ht2, m2⟩
  have hjb : j = 1 ∧ bs2 = [0, 10] := by
    rcases hp with ⟨p1, p2⟩ | ⟨p1, p2, p3⟩
    · have := (two_last 0 0 10 j p1).1 (by omega)
      obtain rfl : j = 1 := by omega
      exact ⟨rfl, p2⟩
    · have := (two_last 0 0 10 (-1) p1).1 (by omega)
      omega
  obtain ⟨rfl, rfl⟩ := hjb
  have B2 := Lib.hid (m2.below B1.out (fun j hj => (H1.out.inlt hj).1) B1.out.size)
  have C2 : Hid (csT rs2 = [[], [(10, ⟨#[97]⟩)]]) := Lib.hid (by rw [hc2, C1.out]; rfl)
  have T2 : Hid (totT rs2 = 1) := Lib.hid (by rw [ht2, T1.out])
  have H2 := Lib.hid h2
  have PS2 := Lib.hid (spushT h2 (by rw [T2.out]; decide) 20 (by omega) (by omega) (two_mono 0 10 (by omega)) (two_bnd 0 10 (by omega) (by omega)) ⟨#[98]⟩ B2.out.size)
  clear h2 hp hc2 ht2 m2 hj hl2 PS
  go_wp2_with fail
  refine PS2.out.mono ?_
  rintro e w3 ⟨j, bs3, rs3, rfl, hj, hl3, hp, h3, hc3, ht3, m3⟩
  have hjb : j = 1 ∧ bs3 = [0, 20] := by
    rcases hp with ⟨p1, p2⟩ | ⟨p1, p2, p3⟩
    · have := (two_last 0 10 20 j p1).1 (by omega)
      obtain rfl : j = 1 := by omega
      exact ⟨rfl, p2⟩
    · have := (two_last 0 10 20 (-1) p1).1 (by omega)
      omega
  obtain ⟨rfl, rfl⟩ := hjb
  have B3 := Lib.hid (m3.below B2.out (fun j hj => (H2.out.inlt hj).1) B2.out.size)
  have C3 : Hid (csT rs3 = [[], [(10, ⟨#[97]⟩), (20, ⟨#[98]⟩)]]) := Lib.hid (by rw [hc3, C2.out]; rfl)
  have T3 : Hid (totT rs3 = 2) := Lib.hid (by rw [ht3, T2.out])
  have H3 := Lib.hid h3
  have PS3 := Lib.hid (spushT h3 (by rw [T3.out]; decide) 10 (by omega) (by omega) (two_mono 0 20 (by omega)) (two_bnd 0 20 (by omega) (by omega)) ⟨#[99]⟩ B3.out.size)
  clear h3 hp hc3 ht3 m3 hj hl3 PS2
  go_wp2_with fail
  refine PS3.out.mono ?_
  rintro e w4 ⟨j, bs4, rs4, rfl, hj, hl4, hp, h4, hc4, ht4, m4⟩
  have hjb : j = 0 := by
    rcases hp with ⟨p1, p2⟩ | ⟨p1, p2, p3⟩
    · have := (two_last 0 20 10 j p1).2.1 (by omega) (by omega)
      omega
    · exact p2
  subst hjb
  have B4 := Lib.hid (m4.below B3.out (fun j hj => (H3.out.inlt hj).1) B3.out.size)
  have C4 : Hid (csT rs4 = [[(10, ⟨#[99]⟩)], [(10, ⟨#[97]⟩), (20, ⟨#[98]⟩)]]) := Lib.hid (by rw [hc4, C3.out]; rfl)
  have T4 : Hid (totT rs4 = 3) := Lib.hid (by rw [ht4, T3.out])
  have H4 := Lib.hid h4
  have PP := Lib.hid (spopT h4)
  clear h4 hp hc4 ht4 m4 hj PS3
  go_wp2_with fail
  refine PP.out.mono ?_
  rintro e w5 (⟨hz, -, -⟩ | ⟨y, rs5, rfl, hpd, hl5, h5, ht5, m5⟩)
  · exfalso
    have := hz 0 (by rw [← cs_lenT, C4.out]; decide)
    rw [C4.out] at this
    cases this
  · have hy : y = (10, ⟨#[99]⟩) := by
      obtain ⟨j, t, hj, hy, -, hb⟩ := hpd.out
      rw [C4.out] at hj hy hb
      rcases Nat.eq_zero_or_pos j with h0 | h0
      · subst h0
        injection hy with hy1 hy2
        exact hy1.symm
      · have := hb 0 h0
        cases this
    subst hy
    have B5 := Lib.hid (m5.below B4.out (fun j hj => (H4.out.inlt hj).1) B4.out.size)
    have T5 : totT rs5 = 2 := by have := T4.out; omega
    have LN := Lib.hid (slenT h5)
    rw [T5] at LN
    clear h5 ht5 m5 hpd hl5
    dsimp only
    go_wp2_with fail
    refine LN.out.mono ?_
    rintro e w' ⟨rfl, rfl⟩
    go_wp2
    go_ret
    exact ⟨rfl, B5.out⟩
end Go.Proofs.Ytkgiaijcgblpbaa
