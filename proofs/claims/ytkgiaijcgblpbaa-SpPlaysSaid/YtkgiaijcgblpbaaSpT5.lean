/-
  Package sppifo for elements of type string: the first item of the first queue that is not empty is popped. No block turns but those of the queues. No condition but that New made them.
-/
import Derived.Test.YtkgiaijcgblpbaaSpT4
namespace Go.Proofs.Ytkgiaijcgblpbaa
set_option linter.unusedVariables false
set_option linter.unusedSimpArgs false
open Go.ChangeShapes Go.WideShapes Go.ChangeAt Go.RowKit
attribute [local go_sem] alloc_drewN setCell_drewN

theorem tot_lessT : ∀ (rs : List RgT) (j : Nat) (h : j < rs.length) (r : RgT), r.k + 1 = (rs[j]).k → totT (rs.set j r) + 1 = totT rs
  | [], j, h, r, _ => absurd h (Nat.not_lt_zero _)
  | a :: rs, 0, h, r, hr => by
    have hr' : r.k + 1 = a.k := hr
    unfold totT
    simp [← hr']
    omega
  | a :: rs, j + 1, h, r, hr => by
    have := tot_lessT rs j (by simpa using h) r (by simpa using hr)
    unfold totT at *
    simp at *
    omega
/-- What is popped: the first item of the first queue that is not empty. -/
structure PopdT (qs qs' : List (List (Int × ByteArray))) (y : Int × ByteArray) : Prop where
  out : ∃ j t, j < qs.length ∧ qs.getD j [] = y :: t ∧ qs' = qs.set j t ∧ ∀ i, i < j → qs.getD i [] = []
theorem cs_lenT (rs : List RgT) : (csT rs).length = rs.length := by unfold csT; rw [List.length_map]
set_option maxRecDepth 100000 in
set_option maxHeartbeats 2000000 in
theorem spopT {w : World} {base B : Nat} {room : Int} {vb vq : Value} {bs : List Int} {rs : List RgT} (h : SpAtT w base B room vb vq bs rs) :
    Calls Try.prog 79 #[.pointer (some ⟨B, 0, none⟩)] w fun e w' =>
      ((∀ i, i < rs.length → (csT rs).getD i [] = []) ∧ e = .returned (.tuple #[.int .u64 0, Value.string ⟨#[]⟩, .bool false]) ∧ Below w.heap.size w w') ∨
      (∃ (y : Int × ByteArray) (rs' : List RgT), e = .returned (.tuple #[.int .u64 y.1, Value.string y.2, .bool true]) ∧ PopdT (csT rs) (csT rs') y ∧ rs'.length = rs.length ∧ SpAtT w' base B room vb vq bs rs' ∧ totT rs' + 1 = totT rs ∧ MvS w w' (inSpT B vb vq rs) (inSpT B vb vq rs')) := by
  have SF := Lib.hid (sfirstT h)
  have H0 := Lib.hid h
  clear h
  go_enter Try.func79, Try.ntmps79
  go_wp2_with fail
  refine SF.out.mono ?_
  rintro e w' ⟨p, rfl, hF, rfl⟩
  rcases hF with ⟨rfl, hz⟩ | ⟨j, hj, rfl, hk, hz⟩
  · have EM : Hid (∀ i, i < rs.length → (csT rs).getD i [] = []) := Lib.hid (fun i hi => by
      rw [cs_atT rs i hi]
      exact List.eq_nil_of_length_eq_zero (by unfold RgT.c; rw [cont_length]; exact hz i hi))
    have TN := Lib.hid (show Calls Try.prog 114 #[.pointer none] w (fun e w' => e = .returned (.tuple #[.agg #[.int .u64 0, Value.string ⟨#[]⟩], .bool false]) ∧ Below w.heap.size w w') from qtake_nilT w)
    clear hz
    go_wp2_with fail
    refine TN.out.mono ?_
    rintro e w2 ⟨rfl, hb⟩
    have HB := Lib.hid hb
    clear hb
    go_wp2
    go_quiet (fail)
    go_wp2
    go_ret3
    exact Or.inl ⟨EM.out, rfl, below_drewN _ (HB.out.alloc HB.out.size _)⟩
  · obtain ⟨k0, hk0⟩ : ∃ k0, (rs[j]).k = k0 + 1 := ⟨(rs[j]).k - 1, by omega⟩
    have he := H0.out.each j hj
    rw [hk0] at he
    have TI := qtake_inT he
    obtain ⟨y, t, hyt⟩ : ∃ y t, (rs[j]).c = y :: t := by
      have hl : (rs[j]).c.length = k0 + 1 := by unfold RgT.c; rw [cont_length, hk0]
      cases hc : (rs[j]).c with
      | nil => rw [hc] at hl; cases hl
      | cons y t => exact ⟨y, t, rfl⟩
    have hyt' : cont izT (rs[j]).ps (rs[j]).f (k0 + 1) = y :: t := by
      have := hyt; unfold RgT.c at this; rw [hk0] at this; exact this
    rw [hyt'] at TI
    have TT := Lib.hid (show Calls Try.prog 114 #[.pointer (some ⟨(rs[j]).B, 0, none⟩)] w (fun e w' => e = .returned (.tuple #[.agg #[.int .u64 y.1, Value.string y.2], .bool true]) ∧ ∃ ps' f', RqAtT w' base (rs[j]).B room (rs[j]).v ps' f' k0 ∧ cont izT ps' f' k0 = t ∧ Mv w w' (rs[j]).B (rs[j]).v (rs[j]).v) from TI)
    have FIN : Hid (∀ w2 ps' f', RqAtT w2 base (rs[j]).B room (rs[j]).v ps' f' k0 → cont izT ps' f' k0 = t → Mv w w2 (rs[j]).B (rs[j]).v (rs[j]).v → ∀ w3, Below w2.heap.size w2 w3 → ∃ rs' : List RgT, PopdT (csT rs) (csT rs') y ∧ rs'.length = rs.length ∧ SpAtT w3 base B room vb vq bs rs' ∧ totT rs' + 1 = totT rs ∧ MvS w w3 (inSpT B vb vq rs) (inSpT B vb vq rs')) := Lib.hid (fun w2 ps' f' h1 h2 h3 w3 h4 => by
      obtain ⟨s1, s2⟩ := H0.out.ring j hj h3 h1
      refine ⟨_, ⟨j, t, by rw [cs_lenT]; exact hj, by rw [cs_atT rs j hj]; exact hyt, ?_, fun i hi => ?_⟩, by rw [List.length_set], s1.below h4, tot_lessT rs j hj _ hk0.symm, s2.trans (MvS.of_below _ h4)⟩
      · rw [cs_setT]
        show (csT rs).set j (cont izT ps' f' k0) = _
        rw [h2]
      · rw [cs_atT rs i (by omega)]
        exact List.eq_nil_of_length_eq_zero (by unfold RgT.c; rw [cont_length]; exact hz i (by omega) hi))
    clear he TI hyt hyt' hz hk hk0
    generalize (rs[j]).B = Bj at *
    generalize (rs[j]).v = vj at *
    obtain ⟨y1, y2⟩ := y
    dsimp only at TT
    go_wp2_with fail
    refine TT.out.mono ?_
    rintro e w2 ⟨rfl, ps', f', h1, h2, h3⟩
    have FF := Lib.hid (FIN.out w2 ps' f' h1 h2 h3)
    clear h1 h2 h3
    go_wp2
    go_quiet (fail)
    go_wp2
    go_ret3
    obtain ⟨rs', f1, f2, f3, f4, f5⟩ := FF.out _ (below_drewN _ ((Below.refl _ w2).alloc (Nat.le_refl _) _))
    exact Or.inr ⟨(y1, y2), rs', rfl, f1, f2, f3, f4, f5⟩
end Go.Proofs.Ytkgiaijcgblpbaa
