/-
  Package aifo: the window of the last ranks in memory: one comes in, the oldest one goes where there is no room. No block turns but its own. No condition but that New made it.
-/
import Derived.Test.YtnnbkooikimedaaAifo2
namespace Go.Proofs.Ytnnbkooikimedaa
set_option linter.unusedVariables false
set_option linter.unusedSimpArgs false
open Go.ChangeShapes Go.WideShapes Go.ChangeAt Go.RowKit
attribute [local go_sem] alloc_drewN setCell_drewN

theorem own_keepU {w w' : World} {base : Nat} {e : TypeId} {size : Nat} {v : Value} {n : Nat} {xs : List Value} (h : w.ownsRow base e size v n xs) (hj : ∀ j, v.ownBlock = some j → w'.heap[j]? = w.heap[j]?) : w'.ownsRow base e size v n xs := by
  refine ⟨h.1, ?_⟩
  rcases h.2 with h1 | ⟨g, cap, cur, rfl, hb, hg, rest⟩
  · exact Or.inl h1
  · exact Or.inr ⟨g, cap, cur, rfl, hb, (hj g rfl).trans hg, rest⟩
theorem RingAtU.keep {w w' : World} {base C : Nat} {win : Int} {v : Value} {ps : List Int} {f k : Nat} (h : RingAtU w base C win v ps f k) (hC : w'.heap[C]? = w.heap[C]?) (hj : ∀ j, v.ownBlock = some j → w'.heap[j]? = w.heap[j]?) : RingAtU w' base C win v ps f k :=
  ⟨hC.trans h.blk, h.low, own_keepU h.own hj, h.r0, h.r1, h.le, h.lr, h.fl⟩
theorem SrAt.keep {w w' : World} {base R : Nat} {pc vs : Value} {S : List Int} (h : SrAt w base R pc vs S) (hR : w'.heap[R]? = w.heap[R]?) (hj : ∀ j, vs.ownBlock = some j → w'.heap[j]? = w.heap[j]?) : SrAt w' base R pc vs S :=
  ⟨hR.trans h.blk, h.low, own_keepU h.own hj, h.srt, h.lim⟩
/-- The window: as ranks came, and in order. -/
structure RkAt (w : World) (base R C : Nat) (win : Int) (vr vs : Value) (ps : List Int) (f k : Nat) (S : List Int) : Prop where
  sr : SrAt w base R (.pointer (some ⟨C, 0, none⟩)) vs S
  ring : RingAtU w base C win vr ps f k
  ap : vr.ownBlock = none ∨ vr.ownBlock ≠ vs.ownBlock
  perm : S.Perm (cont 0 ps f k)
  w1 : win ≤ 1024
def inRk (R C : Nat) (vr vs : Value) (j : Nat) : Prop := j = R ∨ j = C ∨ vr.ownBlock = some j ∨ vs.ownBlock = some j
theorem RkAt.RC {w : World} {base R C : Nat} {pc vs vr : Value} {win : Int} {S ps : List Int} {f k : Nat} (h : SrAt w base R pc vs S) (r : RingAtU w base C win vr ps f k) : R ≠ C := fun e => by
  have h1 := h.blk
  rw [e, r.blk] at h1
  injection h1 with h1
  injection h1 with _ h2 _
  exact absurd h2 (by decide)
/-- What a ring's call leaves of the ranks in order. -/
theorem SrAt.mv {w w' : World} {base R C : Nat} {pc vs vr vr' : Value} {win : Int} {S ps : List Int} {f k : Nat} (h : SrAt w base R pc vs S) (r : RingAtU w base C win vr ps f k) (ap : vr.ownBlock = none ∨ vr.ownBlock ≠ vs.ownBlock) (m : Mv w w' C vr vr') :
    SrAt w' base R pc vs S ∧ (vr'.ownBlock = none ∨ vr'.ownBlock ≠ vs.ownBlock) ∧ MvS w w' (inRk R C vr vs) (inRk R C vr' vs) := by
  have hRl := (Array.getElem?_eq_some_iff.1 h.blk).1
  have hRC := RkAt.RC h r
  have hvr : vr.ownBlock ≠ some R := own_ne_blk r.own h.blk (by decide)
  have hvs : vs.ownBlock ≠ some C := own_ne_blk h.own r.blk (by decide)
  refine ⟨h.keep (m.block R hRl hRC (fun e => hvr e.symm)) (fun j hj => m.block j (World.ownsRow.lt h.own j hj).2 (fun e => hvs (by rw [hj, e])) (fun e => ?_)), ?_, ⟨m.os, m.tape, m.output, m.size, fun j hj hS => m.block j hj (fun e => hS (Or.inr (Or.inl e))) (fun e => hS (Or.inr (Or.inr (Or.inl e.symm)))), fun j hj => ?_⟩⟩
  · rcases ap with ap | ap
    · rw [ap] at e; cases e
    · exact ap (by rw [hj, ← e])
  · cases hv : vr'.ownBlock with
    | none => exact Or.inl rfl
    | some j =>
      right
      intro e
      have hlt := (World.ownsRow.lt h.own j e.symm).2
      rcases m.own j hv with h1 | h1
      · omega
      · rcases ap with ap | ap
        · rw [ap] at h1; cases h1
        · exact ap (by rw [h1, e])
  · rcases hj with hj | hj | hj | hj
    · exact Or.inr (Or.inl hj)
    · exact Or.inr (Or.inr (Or.inl hj))
    · rcases m.own j hj with h1 | h1
      · exact Or.inl h1
      · exact Or.inr (Or.inr (Or.inr (Or.inl h1)))
    · exact Or.inr (Or.inr (Or.inr (Or.inr hj)))
/-- What a call on the ranks in order leaves of the ring. -/
theorem RingAtU.mv {w w' : World} {base R C : Nat} {pc vs vs' vr : Value} {win : Int} {S ps : List Int} {f k : Nat} (h : SrAt w base R pc vs S) (r : RingAtU w base C win vr ps f k) (ap : vr.ownBlock = none ∨ vr.ownBlock ≠ vs.ownBlock) (m : MvS w w' (inSr R vs) (inSr R vs')) :
    RingAtU w' base C win vr ps f k ∧ (vr.ownBlock = none ∨ vr.ownBlock ≠ vs'.ownBlock) ∧ MvS w w' (inRk R C vr vs) (inRk R C vr vs') := by
  have hCl := (Array.getElem?_eq_some_iff.1 r.blk).1
  have hRC := RkAt.RC h r
  have hvr : vr.ownBlock ≠ some R := own_ne_blk r.own h.blk (by decide)
  have hvs : vs.ownBlock ≠ some C := own_ne_blk h.own r.blk (by decide)
  refine ⟨r.keep (m.block C hCl (fun e => by rcases e with e | e; exact hRC e.symm; exact hvs e)) (fun j hj => m.block j (World.ownsRow.lt r.own j hj).2 (fun e => ?_)), ?_, ⟨m.os, m.tape, m.output, m.size, fun j hj hS => m.block j hj (fun e => by rcases e with e | e; exact hS (Or.inl e); exact hS (Or.inr (Or.inr (Or.inr e)))), fun j hj => ?_⟩⟩
  · rcases e with e | e
    · exact hvr (by rw [hj, e])
    · rcases ap with ap | ap
      · rw [ap] at hj; cases hj
      · exact ap (by rw [hj, e])
  · cases hv : vr.ownBlock with
    | none => exact Or.inl rfl
    | some j =>
      right
      intro e
      have hlt := (World.ownsRow.lt r.own j hv).2
      rcases m.own j (Or.inr e.symm) with h1 | h1 | h1
      · omega
      · exact hvr (by rw [hv, h1])
      · rcases ap with ap | ap
        · rw [ap] at hv; cases hv
        · exact ap (by rw [hv, h1])
  · rcases hj with hj | hj | hj | hj
    · exact Or.inr (Or.inl hj)
    · exact Or.inr (Or.inr (Or.inl hj))
    · exact Or.inr (Or.inr (Or.inr (Or.inl hj)))
    · rcases m.own j (Or.inr hj) with h1 | h1 | h1
      · exact Or.inl h1
      · exact Or.inr (Or.inl h1)
      · exact Or.inr (Or.inr (Or.inr (Or.inr h1)))
set_option maxRecDepth 100000 in
set_option maxHeartbeats 2000000 in
theorem add_any {w : World} {base R C : Nat} {win : Int} {vr vs : Value} {ps : List Int} {f k : Nat} {S : List Int} (h : RkAt w base R C win vr vs ps f k S) (x : Int) (hbase : base ≤ w.heap.size) :
    Calls Try.prog 70 #[.pointer (some ⟨R, 0, none⟩), .int .u64 x] w fun e w' => e = .returned (.tuple #[]) ∧ ∃ vr' vs' ps' f' k' S', RkAt w' base R C win vr' vs' ps' f' k' S' ∧ cont 0 ps' f' k' = winP (cont 0 ps f k) win.toNat x ∧ MvS w w' (inRk R C vr vs) (inRk R C vr' vs') := by
  have hSl : S.length = k := by rw [h.perm.length_eq, cont_length]
  have hr0 := h.ring.r0; have hr1 := h.ring.r1; have hle := h.ring.le; have hlr := h.ring.lr; have hw1 := h.w1
  have RM := Lib.hid (roomU h.ring)
  obtain ⟨c0, c1, -⟩ := h.sr.cell
  by_cases hk : (k : Int) < win
  · have hz : ¬ win - (k : Int) = 0 := by omega
    have PT := Lib.hid (fun n => put_anyU (h.ring.drewN n) hk x hbase)
    have HW := Lib.hid (show cont 0 ps f k ++ [x] = winP (cont 0 ps f k) win.toNat x by unfold winP; rw [if_pos (by rw [cont_length]; omega)])
    have HH := Lib.hid h
    have HSL := Lib.hid hSl
    clear h hSl
    go_enter Try.func70, Try.ntmps70
    go_wp2_with fail
    refine RM.out.mono ?_
    rintro e w' ⟨rfl, q, rfl⟩
    have c0q : (w.drewN q).cell? ⟨R, 0, none⟩ = some (.pointer (some ⟨C, 0, none⟩)) := c0
    go_wp2_with fail
    refine (PT.out q).mono ?_
    rintro e w1 ⟨rfl, vr', ps', f', r1, hc1, m1⟩
    have m1' : Mv w w1 C vr vr' := ⟨m1.os, m1.tape, m1.output, m1.size, m1.block, m1.own⟩
    obtain ⟨s1, ap1, M1⟩ := SrAt.mv HH.out.sr HH.out.ring HH.out.ap m1'
    have JN := Lib.hid (join_any s1 x (by have := HSL.out; omega) (Nat.le_trans hbase m1.size))
    have HR := Lib.hid r1; have HS := Lib.hid s1; have HAP := Lib.hid ap1; have HM := Lib.hid M1; have HC := Lib.hid hc1
    clear r1 hc1 m1 m1' s1 ap1 M1 c0 c0q c1
    go_wp2_with fail
    refine JN.out.mono ?_
    rintro e w2 ⟨rfl, vs', s2, m2⟩
    obtain ⟨r2, ap2, M2⟩ := RingAtU.mv HS.out HR.out HAP.out m2
    have FIN := Lib.hid (show ∃ vr' vs' ps' f' k' S', RkAt w2 base R C win vr' vs' ps' f' k' S' ∧ cont 0 ps' f' k' = winP (cont 0 ps f k) win.toNat x ∧ MvS w w2 (inRk R C vr vs) (inRk R C vr' vs') from ⟨vr', vs', ps', f', k + 1, joinS S x, ⟨s2, r2, ap2, by
      rw [HC.out]
      exact (joinS_perm S x).trans ((HH.out.perm.cons x).trans (List.perm_append_singleton x _).symm), hw1⟩, HC.out.trans HW.out, HM.out.trans M2⟩)
    clear s2 m2 r2 ap2 M2 JN
    go_wp2
    first | go_end0 | refine bodyPost_ret (results_none rfl _ _ _) rfl ?_
    exact ⟨rfl, FIN.out⟩
  · obtain ⟨k', rfl⟩ : ∃ k', k = k' + 1 := ⟨k - 1, by omega⟩
    have hkw : ((k' + 1 : Nat) : Int) = win := by omega
    have hz : win - ((k' + 1 : Nat) : Int) = 0 := by omega
    rw [hz] at RM
    have TK := Lib.hid (fun n => take_inU (h.ring.drewN n))
    have HW := Lib.hid (show (cont 0 ps f (k' + 1)).drop 1 ++ [x] = winP (cont 0 ps f (k' + 1)) win.toNat x by unfold winP; rw [if_neg (by rw [cont_length]; omega)])
    have HH := Lib.hid h
    have HSL := Lib.hid hSl
    have HKW := Lib.hid hkw
    clear h hSl hz hkw
    go_enter Try.func70, Try.ntmps70
    go_wp2_with fail
    refine RM.out.mono ?_
    rintro e w' ⟨rfl, q, rfl⟩
    have c0q : (w.drewN q).cell? ⟨R, 0, none⟩ = some (.pointer (some ⟨C, 0, none⟩)) := c0
    go_wp2_with fail
    refine (TK.out q).mono ?_
    rintro e w1 ⟨rfl, ps', f', r1, hc1, m1⟩
    have m1' : Mv w w1 C vr vr := ⟨m1.os, m1.tape, m1.output, m1.size, m1.block, m1.own⟩
    obtain ⟨s1, ap1, M1⟩ := SrAt.mv HH.out.sr HH.out.ring HH.out.ap m1'
    have hmem : (cont 0 ps f (k' + 1)).getD 0 0 ∈ S := HH.out.perm.mem_iff.2 (by
      rw [List.getD_eq_getElem?_getD, List.getElem?_eq_getElem (by rw [cont_length]; omega)]; exact List.getElem_mem _)
    have CT := Lib.hid (cut_any s1 _ hmem)
    have HCL := Lib.hid (cutS_length (lessC_mem s1.srt hmem).1)
    have HCP := Lib.hid (cutS_perm s1.srt hmem)
    have hsz1 : base ≤ w1.heap.size := Nat.le_trans hbase m1.size
    have HR := Lib.hid r1; have HS := Lib.hid s1; have HAP := Lib.hid ap1; have HM := Lib.hid M1; have HC := Lib.hid hc1
    have HX := Lib.hid (show (cont 0 ps f (k' + 1)) = (cont 0 ps f (k' + 1)).getD 0 0 :: (cont 0 ps f (k' + 1)).drop 1 by
      have hl : (cont 0 ps f (k' + 1)).length = k' + 1 := cont_length _ _ _ _
      match hcn : cont 0 ps f (k' + 1), hl with
      | y :: l, _ => rfl)
    generalize (cont 0 ps f (k' + 1)).getD 0 0 = x0 at *
    clear r1 hc1 m1 m1' s1 ap1 M1 c0 c0q c1 hmem
    go_wp2_with fail
    refine CT.out.mono ?_
    rintro e w2 ⟨rfl, vs2, s2, hvs2, m2⟩
    have m2' : MvS w1 w2 (inSr R vs) (inSr R vs2) := ⟨m2.os, m2.tape, m2.output, m2.size, m2.block, fun j hj => m2.own j (by rcases hj with hj | hj; exact Or.inl hj; exact Or.inr (hvs2 ▸ hj))⟩
    obtain ⟨r2, ap2, M2⟩ := RingAtU.mv HS.out HR.out HAP.out m2'
    obtain ⟨d0, d1, -⟩ := s2.cell
    have hsz2 : base ≤ w2.heap.size := Nat.le_trans hsz1 m2.size
    have PT := Lib.hid (put_anyU r2 (by have := HKW.out; omega) x hsz2)
    have HR2 := Lib.hid r2; have HS2 := Lib.hid s2; have HAP2 := Lib.hid ap2; have HM2 := Lib.hid (HM.out.trans M2)
    clear m2 m2' r2 ap2 M2 s2 hvs2
    go_wp2_with fail
    refine PT.out.mono ?_
    rintro e w3 ⟨rfl, vr', ps3, f3, r3, hc3, m3⟩
    obtain ⟨s3, ap3, M3⟩ := SrAt.mv HS2.out HR2.out HAP2.out m3
    have JN := Lib.hid (join_any s3 x (by have := HCL.out; have := HSL.out; have := HKW.out; omega) (Nat.le_trans hsz2 m3.size))
    have HR3 := Lib.hid r3; have HS3 := Lib.hid s3; have HAP3 := Lib.hid ap3; have HM3 := Lib.hid (HM2.out.trans M3); have HC3 := Lib.hid hc3
    clear r3 hc3 m3 s3 ap3 M3 d0 d1
    go_wp2_with fail
    refine JN.out.mono ?_
    rintro e w4 ⟨rfl, vs', s4, m4⟩
    obtain ⟨r4, ap4, M4⟩ := RingAtU.mv HS3.out HR3.out HAP3.out m4
    have FIN := Lib.hid (show ∃ vr' vs' ps' f' k2 S', RkAt w4 base R C win vr' vs' ps' f' k2 S' ∧ cont 0 ps' f' k2 = winP (cont 0 ps f (k' + 1)) win.toNat x ∧ MvS w w4 (inRk R C vr vs) (inRk R C vr' vs') from ⟨vr', vs', ps3, f3, k' + 1, joinS (cutS S x0) x, ⟨s4, r4, ap4, by
      rw [HC3.out, HC.out]
      have h1 : (cutS S x0).Perm ((cont 0 ps f (k' + 1)).drop 1) := by
        have h2 := HCP.out.trans HH.out.perm
        rw [HX.out] at h2
        exact h2.cons_inv
      exact (joinS_perm _ x).trans ((h1.cons x).trans (List.perm_append_singleton x _).symm), hw1⟩, by rw [HC3.out, HC.out]; exact HW.out, HM3.out.trans M4⟩)
    clear s4 m4 r4 ap4 M4 JN
    go_wp2
    first | go_end0 | refine bodyPost_ret (results_none rfl _ _ _) rfl ?_
    exact ⟨rfl, FIN.out⟩
end Go.Proofs.Ytnnbkooikimedaa
