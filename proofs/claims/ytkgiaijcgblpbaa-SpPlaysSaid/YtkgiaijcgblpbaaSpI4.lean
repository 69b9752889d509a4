/-
  Package ring for items over int: what a ring that nobody made answers; package sppifo: an item is pushed, the first one is popped. No block turns but those of the queues. No condition but that New made them.
-/
import Derived.Test.YtkgiaijcgblpbaaSpI3
namespace Go.Proofs.Ytkgiaijcgblpbaa
set_option linter.unusedVariables false
set_option linter.unusedSimpArgs false
open Go.ChangeShapes Go.WideShapes Go.ChangeAt Go.RowKit
attribute [local go_sem] alloc_drewN setCell_drewN

theorem qat_nilI (w : World) :
    Calls Try.prog 119 #[.pointer none, .int .i64 0] w fun e w' => e = .returned (.tuple #[iaggI izI, .bool false]) ∧ Below w.heap.size w w' := by
  have LN := Lib.hid (qlen_nilI (w.alloc (.cells #[.int .u64 0, Value.int .i64 0] 94)))
  have FB : Hid (Below w.heap.size w ((w.alloc (.cells #[.int .u64 0, Value.int .i64 0] 94)).alloc (.cells #[.int .u64 0, Value.int .i64 0] 94))) := Lib.hid (((Below.refl _ w).alloc (Nat.le_refl _) _).alloc (by simp) _)
  unfold iaggI izI
  go_enter Try.func119, Try.ntmps119
  go_wp2_with fail
  refine LN.out.mono ?_
  rintro e w' ⟨rfl, rfl⟩
  go_wp2
  refine bodyPost_ret (v := .tuple #[.agg #[.int .u64 0, Value.int .i64 0], .bool false]) (by simp [results, Try.results119, go_sem]) rfl ⟨rfl, ?_⟩
  exact FB.out
theorem qhead_nilI (w : World) :
    Calls Try.prog 88 #[.pointer none] w fun e w' => e = .returned (.tuple #[iaggI izI, .bool false]) ∧ Below w.heap.size w w' := by
  obtain ⟨W, hW⟩ : ∃ W, w.alloc (.cells #[.int .u64 0, Value.int .i64 0] 94) = W := ⟨_, rfl⟩
  obtain ⟨R, hR⟩ : ∃ R, w.heap.size = R := ⟨_, rfl⟩
  have hB : Below w.heap.size w W := by rw [← hW]; exact (Below.refl _ w).alloc (Nat.le_refl _) _
  have r0 : W.cell? ⟨R, 0, none⟩ = some (.int .u64 0) := by rw [← hW, ← hR]; simp [go_sem]
  have r1 : W.cell? ⟨R, 1, none⟩ = some (Value.int .i64 0) := by rw [← hW, ← hR]; simp [go_sem]
  have z0 : W.frozen? ⟨R, 0, none⟩ = false := by rw [← hW, ← hR]; simp [go_sem]
  have z1 : W.frozen? ⟨R, 1, none⟩ = false := by rw [← hW, ← hR]; simp [go_sem]
  have hRW : R < W.heap.size := by rw [← hW, ← hR]; simp
  have HB := Lib.hid hB
  have HR := Lib.hid hR
  have AT := Lib.hid (qat_nilI W)
  clear hB
  unfold iaggI izI at *
  dsimp only at AT ⊢
  rw [hR]
  go_enter Try.func88, Try.ntmps88
  go_wp2_with fail
  refine AT.out.mono ?_
  rintro e w' ⟨rfl, hb⟩
  have r0 := (hb.cell (p := ⟨R, 0, none⟩) hRW).trans r0
  have r1 := (hb.cell (p := ⟨R, 1, none⟩) hRW).trans r1
  have z0 := (hb.frozen (p := ⟨R, 0, none⟩) hRW).trans z0
  have z1 := (hb.frozen (p := ⟨R, 1, none⟩) hRW).trans z1
  have FB := Lib.hid (HB.out.trans (hb.mono HB.out.size))
  clear hb
  go_wp2
  refine bodyPost_ret (v := .tuple #[.agg #[.int .u64 0, Value.int .i64 0], .bool false]) (by simp [results, Try.results88, go_sem, r0, r1]) rfl ⟨rfl, ?_⟩
  rw [← hR]
  exact below_set (below_set FB.out (Nat.le_refl _)) (Nat.le_refl _)
theorem qtake_nilI (w : World) :
    Calls Try.prog 86 #[.pointer none] w fun e w' => e = .returned (.tuple #[iaggI izI, .bool false]) ∧ Below w.heap.size w w' := by
  obtain ⟨W, hW⟩ : ∃ W, w.alloc (.cells #[.int .u64 0, Value.int .i64 0] 94) = W := ⟨_, rfl⟩
  obtain ⟨R, hR⟩ : ∃ R, w.heap.size = R := ⟨_, rfl⟩
  have hB : Below w.heap.size w W := by rw [← hW]; exact (Below.refl _ w).alloc (Nat.le_refl _) _
  have r0 : W.cell? ⟨R, 0, none⟩ = some (.int .u64 0) := by rw [← hW, ← hR]; simp [go_sem]
  have r1 : W.cell? ⟨R, 1, none⟩ = some (Value.int .i64 0) := by rw [← hW, ← hR]; simp [go_sem]
  have z0 : W.frozen? ⟨R, 0, none⟩ = false := by rw [← hW, ← hR]; simp [go_sem]
  have z1 : W.frozen? ⟨R, 1, none⟩ = false := by rw [← hW, ← hR]; simp [go_sem]
  have hRW : R < W.heap.size := by rw [← hW, ← hR]; simp
  have HB := Lib.hid hB
  have HR := Lib.hid hR
  have HD := Lib.hid (qhead_nilI W)
  clear hB
  unfold iaggI izI at *
  dsimp only at HD ⊢
  rw [hR]
  go_enter Try.func86, Try.ntmps86
  go_wp2_with fail
  refine HD.out.mono ?_
  rintro e w2 ⟨rfl, hb2⟩
  obtain ⟨X, hX⟩ : ∃ X, w2.heap.size = X := ⟨_, rfl⟩
  obtain ⟨V, hV⟩ : ∃ V, w2.alloc (.cells #[.int .u64 0, Value.int .i64 0] 94) = V := ⟨_, rfl⟩
  have hRX : R < X := by rw [← hX]; exact Nat.lt_of_lt_of_le hRW hb2.size
  have hbV : Below W.heap.size W V := by rw [← hV]; exact hb2.alloc hb2.size _
  have x0 : V.cell? ⟨X, 0, none⟩ = some (.int .u64 0) := by rw [← hV, ← hX]; simp [go_sem]
  have x1' : V.cell? ⟨X, 1, none⟩ = some (Value.int .i64 0) := by rw [← hV, ← hX]; simp [go_sem]
  have r0 := (hbV.cell (p := ⟨R, 0, none⟩) hRW).trans r0
  have r1 := (hbV.cell (p := ⟨R, 1, none⟩) hRW).trans r1
  have z0 := (hbV.frozen (p := ⟨R, 0, none⟩) hRW).trans z0
  have z1 := (hbV.frozen (p := ⟨R, 1, none⟩) hRW).trans z1
  have y0 : V.frozen? ⟨X, 0, none⟩ = false := by rw [← hV, ← hX]; simp [go_sem]
  have y1 : V.frozen? ⟨X, 1, none⟩ = false := by rw [← hV, ← hX]; simp [go_sem]
  have HBV := Lib.hid (HB.out.trans (hbV.mono HB.out.size))
  have HXR := Lib.hid (show w.heap.size ≤ X by omega)
  have n3 : ¬ X = R := by omega
  have n4 : ¬ R = X := by omega
  clear hb2 hbV
  go_wp2
  refine bodyPost_ret (v := .tuple #[.agg #[.int .u64 0, Value.int .i64 0], .bool false]) (by simp [results, Try.results86, go_sem, r0, r1, n3, n4]) rfl ⟨rfl, ?_⟩
  rw [← hR]
  first
    | exact HBV.out
    | exact below_set (below_set (below_set (below_set HBV.out HXR.out) HXR.out) (Nat.le_refl _)) (Nat.le_refl _)
    | exact below_set (below_set HBV.out (Nat.le_refl _)) (Nat.le_refl _)
theorem tot_setI : ∀ (rs : List RgI) (j : Nat) (h : j < rs.length) (r : RgI), r.k = (rs[j]).k + 1 → totI (rs.set j r) = totI rs + 1
  | [], j, h, r, _ => absurd h (Nat.not_lt_zero _)
  | a :: rs, 0, h, r, hr => by
    have hr' : r.k = a.k + 1 := hr
    unfold totI
    simp [hr']
    omega
  | a :: rs, j + 1, h, r, hr => by
    have := tot_setI rs j (by simpa using h) r (by simpa using hr)
    unfold totI at *
    simp at *
    omega
theorem slen2I {w : World} {base B : Nat} {room : Int} {vb vq : Value} {bs : List Int} {rs : List RgI} (h : SpAtI w base B room vb vq bs rs) :
    Calls Try.prog 51 #[.pointer (some ⟨B, 0, none⟩)] w fun e w' => e = .returned (.int .i64 (totI rs)) ∧ w' = w :=
  (slenI h).mono (fun e w' ⟨he, hw⟩ => ⟨he, hw.symm⟩)
theorem k_le_totI : ∀ (rs : List RgI) (i : Nat) (h : i < rs.length), (rs[i]).k ≤ totI rs
  | [], i, h => absurd h (Nat.not_lt_zero _)
  | r :: rs, 0, h => by unfold totI; simp
  | r :: rs, i + 1, h => by
    have := k_le_totI rs i (by simpa using h)
    unfold totI at *
    simp at *
    omega
def PushedI (bs : List Int) (rank : Int) (j : Nat) (bs' : List Int) : Prop := (LastIsI bs rank j ∧ bs' = bs.set j rank) ∨ (LastIsI bs rank (-1) ∧ j = 0 ∧ bs' = bs.map (fun b => b - (bs.getD 0 0 - rank)))
theorem cs_setI (rs : List RgI) (j : Nat) (r : RgI) : csI (rs.set j r) = (csI rs).set j r.c := by unfold csI; rw [List.map_set]
theorem cs_atI (rs : List RgI) (j : Nat) (h : j < rs.length) : (csI rs).getD j [] = (rs[j]).c := by
  unfold csI
  rw [List.getD_eq_getElem?_getD, List.getElem?_map, List.getElem?_eq_getElem h]; rfl
theorem spush_fullI {w : World} {base B : Nat} {room : Int} {vb vq : Value} {bs : List Int} {rs : List RgI} (h : SpAtI w base B room vb vq bs rs) (hf : room ≤ (totI rs : Int)) (rank : Int) (x : Int) :
    Calls Try.prog 43 #[.pointer (some ⟨B, 0, none⟩), .int .u64 rank, Value.int .i64 x] w fun e w' => e = .returned (.tuple #[.int .i64 0, .bool false]) ∧ ∃ n, w' = w.drewN n := by
  have LN := Lib.hid (fun n => slen2I (h.drewN n))
  obtain ⟨c0, c1, c2⟩ := h.cell
  clear h
  go_enter Try.func43, Try.ntmps43
  go_wp2
  go_quiet ((go_at_call 51; exact Calls.quiet_of_same (LN.out _)))
  go_wp2
  go_ret2
  exact ⟨rfl, _, rfl⟩
set_option maxRecDepth 100000 in
set_option maxHeartbeats 2000000 in
theorem spushI {w : World} {base B : Nat} {room : Int} {vb vq : Value} {bs : List Int} {rs : List RgI} (h : SpAtI w base B room vb vq bs rs) (hl : (totI rs : Int) < room) (rank : Int) (k0 : 0 ≤ rank) (k1 : rank ≤ 18446744073709551615)
    (mono : ∀ i j, i ≤ j → j < bs.length → bs.getD i 0 ≤ bs.getD j 0) (bnd : ∀ i, i < bs.length → 0 ≤ bs.getD i 0 ∧ bs.getD i 0 ≤ 18446744073709551615) (x : Int) (hbase : base ≤ w.heap.size) :
    Calls Try.prog 43 #[.pointer (some ⟨B, 0, none⟩), .int .u64 rank, Value.int .i64 x] w fun e w' => ∃ (j : Nat) (bs' : List Int) (rs' : List RgI), e = .returned (.tuple #[.int .i64 j, .bool true]) ∧ j < rs.length ∧ rs'.length = rs.length ∧ PushedI bs rank j bs' ∧ SpAtI w' base B room vb vq bs' rs' ∧ csI rs' = (csI rs).set j ((csI rs).getD j [] ++ [(rank, x)]) ∧ totI rs' = totI rs + 1 ∧ MvS w w' (inSpI B vb vq rs) (inSpI B vb vq rs') := by
  have LN := Lib.hid (fun n => slen2I (h.drewN n))
  have SL := Lib.hid (fun n => slastI (h.drewN n) rank)
  obtain ⟨c0, c1, c2⟩ := h.cell
  obtain ⟨gb, cb, hvb, hcb⟩ := h.formB
  obtain ⟨gq, cq, hvq, hcq⟩ := h.formQ
  have hB1 : ¬ gb = B := fun e => own_ne_blk h.ob h.blk (by decide) (by rw [hvb, ← e]; rfl)
  have hB2 : ¬ B = gb := fun e => hB1 e.symm
  have hG1 : ¬ gb = gq := fun e => by
    rcases row_apart h.ob h.oq (by decide) with h3 | h3
    · rw [hvb] at h3; cases h3
    · exact h3 (by rw [hvb, hvq, e]; rfl)
  have hG2 : ¬ gq = gb := fun e => hG1 e.symm
  have HCB := Lib.hid hcb; have HCQ := Lib.hid hcq
  have KT := Lib.hid (k_le_totI rs)
  have MO := Lib.hid mono; have BD := Lib.hid bnd
  have hlb := h.lb; have hn0 := h.n0; have hn1 := h.n1
  have FBn := Lib.hid (fun i => World.ownsRow.frozenAt (g := gb) (by have o := h.ob; rw [hvb] at o; exact o) i)
  subst hvb hvq
  have H0 := Lib.hid h
  have hl' : ¬ room ≤ (totI rs : Int) := by omega
  clear h hcb hcq mono bnd
  go_enter Try.func43, Try.ntmps43
  go_wp2
  go_quiet ((go_at_call 51; exact Calls.quiet_of_same (LN.out _)))
  go_wp2_with fail
  refine (SL.out _).mono ?_
  rintro e w' ⟨l, rfl, hL, hw⟩
  subst hw
  have HL := Lib.hid hL
  have hlo := hL.lo; have hhi := hL.hi
  clear hL
  by_cases hl0 : 0 ≤ l
  · obtain ⟨j, rfl⟩ := Int.eq_ofNat_of_zero_le hl0
    have hj : j < rs.length := by omega
    have d1 := HCB.out j (by omega)
    have d2 := HCQ.out j hj
    have f1 := FBn.out j
    have j1 : (j : Int) < rs.length := by omega
    have j2 : (j : Int) < bs.length := by omega
    have j3 : ¬ (j : Int) < 0 := by omega
    have SB := Lib.hid (fun n => (⟨(H0.out.setB j rank).1.drewN n, (H0.out.setB j rank).2.drewN n⟩ : SpAtI ((w.setCell ⟨gb, j, none⟩ (.int .u64 rank)).drewN n) base B room _ _ (bs.set j rank) rs ∧ MvS w ((w.setCell ⟨gb, j, none⟩ (.int .u64 rank)).drewN n) _ _))
    have PT := Lib.hid (fun n => show Calls Try.prog 83 #[.pointer (some ⟨(rs[j]).B, 0, none⟩), .agg #[.int .u64 rank, Value.int .i64 x]] ((w.setCell ⟨gb, j, none⟩ (.int .u64 rank)).drewN n) _ from qput_anyI ((SB.out n).1.each j hj) (by have := KT.out j hj; omega) (rank, x) (by simpa [World.setCell] using hbase))
    obtain ⟨Bj, hBj⟩ : ∃ Bj, (rs[j]).B = Bj := ⟨_, rfl⟩
    rw [hBj] at d2
    have PT2 := PT
    simp only [hBj] at PT2
    have HBJ := Lib.hid hBj
    clear hBj PT
    go_wp2_with fail
    refine (PT2.out _).mono ?_
    rintro e w4 ⟨rfl, v', ps', f', r4, hc4, m4⟩
    have R4 : Hid (∃ rs' : List RgI, rs'.length = rs.length ∧ SpAtI w4 base B room (.slice (some ⟨gb, 0, none⟩) bs.length cb) (.slice (some ⟨gq, 0, none⟩) rs.length cq) (bs.set j rank) rs' ∧ csI rs' = (csI rs).set j ((csI rs).getD j [] ++ [(rank, x)]) ∧ totI rs' = totI rs + 1 ∧ MvS w w4 (inSpI B (.slice (some ⟨gb, 0, none⟩) bs.length cb) (.slice (some ⟨gq, 0, none⟩) rs.length cq) rs) (inSpI B (.slice (some ⟨gb, 0, none⟩) bs.length cb) (.slice (some ⟨gq, 0, none⟩) rs.length cq) rs')) := by
      rw [← HBJ.out] at r4 m4
      obtain ⟨s1, s2⟩ := (SB.out _).1.ring j hj m4 r4
      refine Lib.hid ⟨_, by rw [List.length_set], s1, ?_, ?_, (SB.out _).2.trans s2⟩
      · rw [cs_setI, cs_atI rs j hj]
        show (csI rs).set j (cont izI ps' f' _) = _
        rw [hc4]; rfl
      · exact tot_setI rs j hj _ rfl
    clear r4 hc4 m4
    go_wp2
    go_ret2
    obtain ⟨rs', s0, s1, s2, s3, s4⟩ := R4.out
    exact ⟨j, _, rs', rfl, hj, s0, Or.inl ⟨HL.out, rfl⟩, s1, s2, s3, s4⟩
  · have hl1 : l = -1 := by omega
    subst hl1
    have hj : 0 < rs.length := by omega
    have d1 := HCB.out 0 (by omega)
    have d2 := HCQ.out 0 hj
    have hup := HL.out.up 0 (by omega) (by omega)
    have hb0 := BD.out 0 (by omega)
    have j1 : (0 : Int) < rs.length := by omega
    have j2 : (0 : Int) < bs.length := by omega
    have SD := Lib.hid (fun n => sdownI (H0.out.drewN n) (bs.getD 0 0 - rank) (by omega) (fun i hi => by have := MO.out 0 i (Nat.zero_le _) hi; have := BD.out i hi; omega))
    obtain ⟨b0, hb00⟩ : ∃ b0, bs.getD 0 0 = b0 := ⟨_, rfl⟩
    have HB0 := Lib.hid hb00
    rw [hb00] at d1 hup hb0
    have SD2 := SD
    simp only [hb00] at SD2
    have a1 : IntKind.u64.wrap (b0 - rank) = b0 - rank := by rw [IntKind.wrap_u64]; omega
    clear hb00 SD hl0 hlo hhi
    go_wp2_with fail
    refine (SD2.out _).mono ?_
    rintro e w3 ⟨rfl, s3, m3⟩
    have S3 := Lib.hid s3; have M3 := Lib.hid m3
    obtain ⟨-, -, e2⟩ := s3.cell
    obtain ⟨gq', cq', hvq', hcq'⟩ := s3.formQ
    injection hvq' with hv1 hv2 hv3
    injection hv1 with hv1
    injection hv1 with hv1
    subst hv1 hv3
    have e3 := hcq' 0 hj
    have PT := Lib.hid (show Calls Try.prog 83 #[.pointer (some ⟨(rs[0]).B, 0, none⟩), .agg #[.int .u64 rank, Value.int .i64 x]] w3 _ from qput_anyI (s3.each 0 hj) (by have := KT.out 0 hj; omega) (rank, x) (Nat.le_trans hbase m3.size))
    obtain ⟨Bj, hBj⟩ : ∃ Bj, (rs[0]).B = Bj := ⟨_, rfl⟩
    rw [hBj] at e3
    have PT2 := PT
    simp only [hBj] at PT2
    have HBJ := Lib.hid hBj
    clear hBj PT s3 m3 hcq' d1 d2 c0 c1 c2
    go_wp2_with fail
    refine PT2.out.mono ?_
    rintro e w4 ⟨rfl, v', ps', f', r4, hc4, m4⟩
    have R4 : Hid (∃ rs' : List RgI, rs'.length = rs.length ∧ SpAtI w4 base B room (.slice (some ⟨gb, 0, none⟩) bs.length cb) (.slice (some ⟨gq, 0, none⟩) rs.length cq) (bs.map (fun b => b - (b0 - rank))) rs' ∧ csI rs' = (csI rs).set 0 ((csI rs).getD 0 [] ++ [(rank, x)]) ∧ totI rs' = totI rs + 1 ∧ MvS w w4 (inSpI B (.slice (some ⟨gb, 0, none⟩) bs.length cb) (.slice (some ⟨gq, 0, none⟩) rs.length cq) rs) (inSpI B (.slice (some ⟨gb, 0, none⟩) bs.length cb) (.slice (some ⟨gq, 0, none⟩) rs.length cq) rs')) := by
      rw [← HBJ.out] at r4 m4
      obtain ⟨s1, s2⟩ := S3.out.ring 0 hj m4 r4
      refine Lib.hid ⟨_, by rw [List.length_set], s1, ?_, ?_, (M3.out.from_heap (w0 := w) rfl rfl rfl rfl).trans s2⟩
      · rw [cs_setI, cs_atI rs 0 hj]
        show (csI rs).set 0 (cont izI ps' f' _) = _
        rw [hc4]; rfl
      · exact tot_setI rs 0 hj _ rfl
    clear r4 hc4 m4
    go_wp2
    go_ret2
    obtain ⟨rs', s0, s1, s2, s3, s4⟩ := R4.out
    exact ⟨0, _, rs', rfl, hj, s0, Or.inr ⟨HL.out, rfl, by rw [HB0.out]⟩, s1, s2, s3, s4⟩
end Go.Proofs.Ytkgiaijcgblpbaa
