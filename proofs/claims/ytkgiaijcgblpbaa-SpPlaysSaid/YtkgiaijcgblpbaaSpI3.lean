/-
  Package sppifo for elements of type int: an item is pushed: the bound of its queue goes up, or all bounds go down. No block turns but those of the queues. No condition but that New made them and there is room.
-/
import Derived.Test.YtkgiaijcgblpbaaSpI2
namespace Go.Proofs.Ytkgiaijcgblpbaa
set_option linter.unusedVariables false
set_option linter.unusedSimpArgs false
open Go.ChangeShapes Go.WideShapes Go.ChangeAt Go.RowKit
attribute [local go_sem] alloc_drewN setCell_drewN

theorem SpAtI.drewN {w : World} {base B : Nat} {room : Int} {vb vq : Value} {bs : List Int} {rs : List RgI} (h : SpAtI w base B room vb vq bs rs) (n : Nat) : SpAtI (w.drewN n) base B room vb vq bs rs := h.below (below_drewN n (Below.refl _ _))
theorem SpAtI.setB {w : World} {base B g c : Nat} {room : Int} {vq : Value} {bs : List Int} {rs : List RgI} (h : SpAtI w base B room (.slice (some ⟨g, 0, none⟩) bs.length c) vq bs rs) (i : Nat) (x : Int) :
    SpAtI (w.setCell ⟨g, i, none⟩ (.int .u64 x)) base B room (.slice (some ⟨g, 0, none⟩) bs.length c) vq (bs.set i x) rs ∧ MvS w (w.setCell ⟨g, i, none⟩ (.int .u64 x)) (inSpI B (.slice (some ⟨g, 0, none⟩) bs.length c) vq rs) (inSpI B (.slice (some ⟨g, 0, none⟩) bs.length c) vq rs) := by
  have hh : ∀ j, j ≠ g → (w.setCell ⟨g, i, none⟩ (.int .u64 x)).heap[j]? = w.heap[j]? := fun j hj => Below.heap_setCell w ⟨g, i, none⟩ _ j hj
  have hB : B ≠ g := fun e => own_ne_blk h.ob h.blk (by decide) (by rw [e]; rfl)
  refine ⟨⟨(hh B hB).trans h.blk, h.low, ?_, own_onSI h.oq (fun j hj => hh j (fun e => ?_)), fun q hq => (h.each q hq).keep (hh _ (fun e => own_ne_blk h.ob (h.each q hq).blk (by decide) (by rw [e]; rfl))) (fun j hj => hh j (fun e => ?_)), h.ap, by rw [List.length_set]; exact h.lb, h.n0, h.n1, h.r0, h.r1⟩, ?_⟩
  · rw [List.length_set, List.map_set]
    exact row_put h.ob i (.int .u64 x)
  · rcases row_apart h.oq h.ob (by decide) with h3 | h3
    · rw [h3] at hj; cases hj
    · exact h3 (by rw [hj, e]; rfl)
  · rcases row_apart (h.each q hq).own h.ob (by decide) with h3 | h3
    · rw [h3] at hj; cases hj
    · exact h3 (by rw [hj, e]; rfl)
  · exact ⟨rfl, rfl, rfl, by simp [World.setCell], fun j hj hS => hh j (fun e => hS (Or.inr (Or.inl (by rw [e]; rfl)))), fun j hj => Or.inr hj⟩
theorem SpAtI.ring {w w' : World} {base B : Nat} {room : Int} {vb vq : Value} {bs : List Int} {rs : List RgI} (h : SpAtI w base B room vb vq bs rs) (i : Nat) (hi : i < rs.length) {v' : Value} {ps' : List (Int × Int)} {f' k' : Nat} (m : Mv w w' (rs[i]).B (rs[i]).v v') (r' : RqAtI w' base (rs[i]).B room v' ps' f' k') :
    SpAtI w' base B room vb vq bs (rs.set i ⟨(rs[i]).B, v', ps', f', k'⟩) ∧ MvS w w' (inSpI B vb vq rs) (inSpI B vb vq (rs.set i ⟨(rs[i]).B, v', ps', f', k'⟩)) := by
  have he := h.each i hi
  have hBlt : B < w.heap.size := (Array.getElem?_eq_some_iff.1 h.blk).1
  have hBi : B ≠ (rs[i]).B := fun e => by
    have h1 := he.blk
    rw [← e, h.blk] at h1
    injection h1 with h1
    injection h1 with _ h2 _
    exact absurd h2 (by decide)
  have hB : w'.heap[B]? = w.heap[B]? := m.block B hBlt hBi (fun e => own_ne_blk he.own h.blk (by decide) e.symm)
  have hrow : ∀ {n size : Nat} {e : TypeId} {v : Value} {xs : List Value}, w.ownsRow base e size v n xs → e ≠ 179 → e ≠ 94 → w'.ownsRow base e size v n xs := fun ho h1 h2 =>
    own_onSI ho (fun j hj => m.block j (World.ownsRow.lt ho j hj).2 (fun e => own_ne_blk ho he.blk h1 (by rw [hj, e])) (fun e => by
      rcases row_apart ho he.own h2 with h3 | h3
      · rw [h3] at hj; cases hj
      · exact h3 (by rw [hj, e])))
  have hset : ∀ q (hq : q < (rs.set i ⟨(rs[i]).B, v', ps', f', k'⟩).length), q ≠ i → (rs.set i ⟨(rs[i]).B, v', ps', f', k'⟩)[q] = rs[q]'(by simpa using hq) := fun q hq hqi => List.getElem_set_ne (Ne.symm hqi) _
  have hself : ∀ (hq : i < (rs.set i ⟨(rs[i]).B, v', ps', f', k'⟩).length), (rs.set i ⟨(rs[i]).B, v', ps', f', k'⟩)[i] = ⟨(rs[i]).B, v', ps', f', k'⟩ := fun hq => List.getElem_set_self _
  have hv' : ∀ j, v'.ownBlock = some j → w.heap.size ≤ j ∨ (rs[i]).v.ownBlock = some j := m.own
  refine ⟨⟨hB.trans h.blk, h.low, hrow h.ob (by decide) (by decide), ?_, fun q hq => ?_, fun p q hp hq hpq => ?_, by rw [List.length_set]; exact h.lb, by rw [List.length_set]; exact h.n0, by rw [List.length_set]; exact h.n1, h.r0, h.r1⟩, ?_⟩
  · have e : (rs.set i ⟨(rs[i]).B, v', ps', f', k'⟩).map rptrI = rs.map rptrI := by
      rw [List.map_set]
      apply List.ext_getElem (by simp)
      intro q h1 h2
      by_cases hqi : i = q
      · subst hqi; rw [List.getElem_set_self, List.getElem_map]; rfl
      · rw [List.getElem_set_ne hqi]
    rw [e, List.length_set]
    exact hrow h.oq (by decide) (by decide)
  · by_cases hqi : q = i
    · subst hqi; rw [hself]; exact r'
    · rw [hset q hq hqi]
      have hq' : q < rs.length := by simpa using hq
      have hqe := h.each q hq'
      obtain ⟨a1, a2⟩ := h.ap q i hq' hi hqi
      refine hqe.keep (m.block _ hqe.base a1 (fun e => own_ne_blk he.own hqe.blk (by decide) e.symm)) (fun j hj => m.block j (World.ownsRow.lt hqe.own j hj).2 (fun e => own_ne_blk hqe.own he.blk (by decide) (by rw [hj, e])) (fun e => ?_))
      rcases a2 with a2 | a2
      · rw [a2] at hj; cases hj
      · exact a2 (by rw [hj, e])
  · have hp' : p < rs.length := by simpa using hp
    have hq' : q < rs.length := by simpa using hq
    by_cases hpi : p = i
    · subst hpi
      rw [hself, hset q hq (Ne.symm hpq)]
      obtain ⟨a1, a2⟩ := h.ap p q hp' hq' hpq
      refine ⟨a1, ?_⟩
      show v'.ownBlock = none ∨ v'.ownBlock ≠ _
      cases hv : v'.ownBlock with
      | none => exact Or.inl rfl
      | some g =>
        right
        intro e
        have hlt := (World.ownsRow.lt (h.each q hq').own g e.symm).2
        rcases hv' g hv with h1 | h1
        · omega
        · rcases a2 with a2 | a2
          · rw [a2] at h1; cases h1
          · exact a2 (by rw [h1, e])
    · rw [hset p hp hpi]
      by_cases hqi : q = i
      · subst hqi
        rw [hself]
        obtain ⟨a1, a2⟩ := h.ap p q hp' hq' hpi
        refine ⟨a1, ?_⟩
        show (rs[p]).v.ownBlock = none ∨ (rs[p]).v.ownBlock ≠ v'.ownBlock
        cases hv : (rs[p]).v.ownBlock with
        | none => exact Or.inl rfl
        | some g =>
          right
          intro e
          have hlt := (World.ownsRow.lt (h.each p hp').own g hv).2
          rcases hv' g e.symm with h1 | h1
          · omega
          · rcases a2 with a2 | a2
            · rw [a2] at hv; cases hv
            · exact a2 (by rw [hv, h1])
      · rw [hset q hq hqi]
        exact h.ap p q hp' hq' hpq
  · refine ⟨m.os, m.tape, m.output, m.size, fun j hj hS => m.block j hj (fun e => hS (Or.inr (Or.inr (Or.inr ⟨i, hi, Or.inl e⟩)))) (fun e => hS (Or.inr (Or.inr (Or.inr ⟨i, hi, Or.inr e.symm⟩)))), fun j hj => ?_⟩
    rcases hj with hj | hj | hj | ⟨q, hq, hj⟩
    · exact Or.inr (Or.inl hj)
    · exact Or.inr (Or.inr (Or.inl hj))
    · exact Or.inr (Or.inr (Or.inr (Or.inl hj)))
    · have hq' : q < rs.length := by simpa using hq
      by_cases hqi : q = i
      · subst hqi
        rw [hself] at hj
        rcases hj with hj | hj
        · exact Or.inr (Or.inr (Or.inr (Or.inr ⟨q, hi, Or.inl hj⟩)))
        · rcases hv' j hj with h1 | h1
          · exact Or.inl h1
          · exact Or.inr (Or.inr (Or.inr (Or.inr ⟨q, hi, Or.inr h1⟩)))
      · rw [hset q hq hqi] at hj
        exact Or.inr (Or.inr (Or.inr (Or.inr ⟨q, hq', hj⟩)))
def csI (rs : List RgI) : List (List (Int × Int)) := rs.map RgI.c
theorem down_setI (bs : List Int) (y : Int) (i : Nat) (h : i < bs.length) : (((bs.take i).map (fun b => b - y)) ++ bs.drop i).set i (bs.getD i 0 - y) = ((bs.take (i + 1)).map (fun b => b - y)) ++ bs.drop (i + 1) := by
  have hl : ((bs.take i).map (fun b => b - y)).length = i := by rw [List.length_map, List.length_take]; omega
  rw [List.set_append_right _ _ (by omega), hl, Nat.sub_self, List.drop_eq_getElem_cons h, List.set_cons_zero, List.take_succ_eq_append_getElem h, List.map_append, List.append_assoc, List.getD_eq_getElem?_getD, List.getElem?_eq_getElem h]
  rfl
set_option maxHeartbeats 1000000 in
theorem sdownI {w : World} {base B : Nat} {room : Int} {vb vq : Value} {bs : List Int} {rs : List RgI} (h : SpAtI w base B room vb vq bs rs) (y : Int) (y0 : 0 ≤ y) (hy : ∀ i, i < bs.length → y ≤ bs.getD i 0 ∧ bs.getD i 0 ≤ 18446744073709551615) :
    Calls Try.prog 82 #[.pointer (some ⟨B, 0, none⟩), .int .u64 y] w fun e w' => e = .returned (.tuple #[]) ∧ SpAtI w' base B room vb vq (bs.map (fun b => b - y)) rs ∧ MvS w w' (inSpI B vb vq rs) (inSpI B vb vq rs) := by
  obtain ⟨c0, c1, c2⟩ := h.cell
  obtain ⟨g, c, rfl, -⟩ := h.formB
  have hBg : B ≠ g := fun e => own_ne_blk h.ob h.blk (by decide) (by rw [e]; rfl)
  have HY := Lib.hid hy
  have H0 := Lib.hid h
  obtain ⟨n, hn⟩ : ∃ n, bs.length = n := ⟨_, rfl⟩
  have HN := Lib.hid hn
  rw [hn] at c1 H0 ⊢
  have hn1 : n ≤ 32 := by have := h.n1; have := h.lb; omega
  clear h hy c0 c2 hn
  go_enter Try.func82, Try.ntmps82
  go_wp2
  go_loopw [10] (fun x wr => ∃ i : Nat, i ≤ n ∧ x = .int .i64 i ∧ SpAtI wr base B room (.slice (some ⟨g, 0, none⟩) n c) vq (((bs.take i).map (fun b => b - y)) ++ bs.drop i) rs ∧ MvS w wr (inSpI B (.slice (some ⟨g, 0, none⟩) n c) vq rs) (inSpI B (.slice (some ⟨g, 0, none⟩) n c) vq rs)) (fun x _ => n - (intOf x).toNat)
  case atStart => exact ⟨0, Nat.zero_le _, rfl, by simpa using H0.out, MvS.refl _ _⟩
  case round =>
    obtain ⟨i, hi, rfl, hS, hm⟩ := hrel
    have hlen : (((bs.take i).map (fun b => b - y)) ++ bs.drop i).length = n := by rw [List.length_append, List.length_map, List.length_take, List.length_drop, HN.out]; omega
    by_cases hlt : i < n
    · have hS' : SpAtI wr base B room (.slice (some ⟨g, 0, none⟩) (((bs.take i).map (fun b => b - y)) ++ bs.drop i).length c) vq (((bs.take i).map (fun b => b - y)) ++ bs.drop i) rs := by rw [hlen]; exact hS
      obtain ⟨d0, d1, d2⟩ := hS.cell
      have hi' : i < (((bs.take i).map (fun b => b - y)) ++ bs.drop i).length := by rw [hlen]; exact hlt
      have cg := World.ownsRow.cellAt hS'.ob i (Nat.lt_of_lt_of_le hi' (Nat.le_of_eq (Nat.mul_one _).symm))
      rw [List.getElem?_map, List.getElem?_append_right (by rw [List.length_map, List.length_take]; omega)] at cg
      have e0 : i - ((bs.take i).map (fun b => b - y)).length = 0 := by rw [List.length_map, List.length_take, HN.out]; omega
      rw [e0, List.getElem?_drop, Nat.add_zero, List.getElem?_eq_getElem (by rw [HN.out]; exact hlt)] at cg
      obtain ⟨y1, y2⟩ := HY.out i (by rw [HN.out]; exact hlt)
      have SB := Lib.hid (hS'.setB i (bs.getD i 0 - y))
      rw [down_setI bs y i (by rw [HN.out]; exact hlt), hlen] at SB
      have fg := World.ownsRow.frozenAt hS'.ob i
      have ex : bs[i]'(by rw [HN.out]; exact hlt) = bs.getD i 0 := by rw [List.getD_eq_getElem?_getD, List.getElem?_eq_getElem (by rw [HN.out]; exact hlt)]; rfl
      rw [ex] at cg
      simp only [Option.map_some] at cg
      have HM := Lib.hid hm
      have i0 : (0 : Int) ≤ i := by omega
      have i1 : (i : Int) < n := by omega
      clear hS hS' hm hlen ex e0 d0 d2 hi'
      generalize bs.getD i 0 = z at *
      have a1 : IntKind.u64.wrap (z - y) = z - y := by rw [IntKind.wrap_u64]; omega
      go_wp2
      go_roundw
      case rel => exact ⟨i + 1, by omega, by go_num, SB.out.1, HM.out.trans SB.out.2⟩
      case measure => simp [intOf] <;> omega
    · have ein : i = n := by omega
      subst ein
      have FS : Hid (SpAtI wr base B room (.slice (some ⟨g, 0, none⟩) i c) vq (bs.map (fun b => b - y)) rs) := by
        rw [List.take_of_length_le (by have := HN.out; omega), List.drop_of_length_le (by have := HN.out; omega), List.append_nil] at hS
        exact Lib.hid hS
      have HM := Lib.hid hm
      clear hS hm hlen
      go_wp2
      first | go_end0 | refine bodyPost_ret (results_none rfl _ _ _) rfl ?_
      exact ⟨rfl, FS.out, HM.out⟩
end Go.Proofs.Ytkgiaijcgblpbaa
