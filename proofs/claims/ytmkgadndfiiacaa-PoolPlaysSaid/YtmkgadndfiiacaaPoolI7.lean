/-
  What package pool does with the queues of a pool of elements of type int: the first handle goes. No block turns but the pool's own. No condition but that the pool is one that New made.
-/
import Derived.Test.YtmkgadndfiiacaaPoolI6
namespace Go.Proofs.Ytmkgadndfiiacaa
set_option linter.unusedVariables false
set_option linter.unusedSimpArgs false
open Go.ChangeShapes Go.WideShapes Go.ChangeAt Go.RowKit
attribute [local go_sem] alloc_drewN setCell_drewN

theorem ents_set1I (es : List EntI) (h : Nat) (e : EntI) (hh : h < es.length) (r : Nat) (hr : r < 4) (v : Value) (hv : e.cells[r]? = some v) (hs : ∀ q, q < 4 → q ≠ r → e.cells[q]? = (es[h]).cells[q]?) : (entsI es).set (h * 4 + r) v = entsI (es.set h e) := by
  apply List.ext_getElem?
  intro j
  rcases Nat.lt_or_ge j (es.length * 4) with hj | hj
  · obtain ⟨q, p, rfl, hp⟩ : ∃ q p, j = q * 4 + p ∧ p < 4 := ⟨j / 4, j % 4, by omega, Nat.mod_lt _ (by omega)⟩
    have hq : q < es.length := by omega
    rw [ents_atI (es.set h e) q p (by rw [List.length_set]; exact hq) hp]
    by_cases hqh : h = q
    · subst hqh
      rw [List.getElem_set_self]
      by_cases hpr : p = r
      · subst hpr
        rw [List.getElem?_set_self (by rw [ents_lenI]; omega), hv]
      · rw [List.getElem?_set_ne (by omega), ents_atI es h p hh hp, hs p hp hpr]
    · rw [List.getElem?_set_ne (by omega), ents_atI es q p hq hp, List.getElem_set_ne hqh]
  · rw [List.getElem?_eq_none (by simp [ents_lenI]; omega), List.getElem?_eq_none (by simp [ents_lenI]; omega)]
theorem qus_set1I (qs : List (Int × Int × Int)) (h : Nat) (e : Int × Int × Int) (hh : h < qs.length) (r : Nat) (hr : r < 3) (v : Value) (hv : (quCellsI e)[r]? = some v) (hs : ∀ q, q < 3 → q ≠ r → (quCellsI e)[q]? = (quCellsI qs[h])[q]?) : (qs.flatMap quCellsI).set (h * 3 + r) v = (qs.set h e).flatMap quCellsI := by
  apply List.ext_getElem?
  intro j
  rcases Nat.lt_or_ge j (qs.length * 3) with hj | hj
  · obtain ⟨q, p, rfl, hp⟩ : ∃ q p, j = q * 3 + p ∧ p < 3 := ⟨j / 3, j % 3, by omega, Nat.mod_lt _ (by omega)⟩
    have hq : q < qs.length := by omega
    rw [qus_atI (qs.set h e) q p (by rw [List.length_set]; exact hq) hp]
    by_cases hqh : h = q
    · subst hqh
      rw [List.getElem_set_self]
      by_cases hpr : p = r
      · subst hpr
        rw [List.getElem?_set_self (by rw [qus_lenI]; omega), hv]
      · rw [List.getElem?_set_ne (by omega), qus_atI qs h p hh hp, hs p hp hpr]
    · rw [List.getElem?_set_ne (by omega), qus_atI qs q p hq hp, List.getElem_set_ne hqh]
  · rw [List.getElem?_eq_none (by rw [List.length_set, qus_lenI]; omega), List.getElem?_eq_none (by rw [qus_lenI, List.length_set]; omega)]
theorem PoolAtI.setE1 {w : World} {base B : Nat} {most : Int} {g c : Nat} {vf vq : Value} {es : List EntI} {fr : List Int} {qs : List (Int × Int × Int)} (h : PoolAtI w base B most (.slice (some ⟨g, 0, none⟩) es.length c) vf vq es fr qs) (i : Nat) (hi : i < es.length) (e : EntI) (r : Nat) (hr : r < 4) (v : Value) (hv : e.cells[r]? = some v) (hs : ∀ q, q < 4 → q ≠ r → e.cells[q]? = (es[i]).cells[q]?) :
    PoolAtI (w.setCell ⟨g, i * 4 + r, none⟩ v) base B most (.slice (some ⟨g, 0, none⟩) es.length c) vf vq (es.set i e) fr qs ∧ MvS w (w.setCell ⟨g, i * 4 + r, none⟩ v) (inP B (.slice (some ⟨g, 0, none⟩) es.length c) vf vq) (inP B (.slice (some ⟨g, 0, none⟩) es.length c) vf vq) := by
  have hgB : B ≠ g := fun e => h.ne.1 (by rw [e]; rfl)
  have hst := row_put h.oe (i * 4 + r) v
  rw [ents_set1I es i e hi r hr v hv hs] at hst
  have hh : ∀ j, j ≠ g → (w.setCell ⟨g, i * 4 + r, none⟩ v).heap[j]? = w.heap[j]? := fun j hj => Below.heap_setCell _ ⟨g, _, none⟩ _ j hj
  have hgr : w.grownBy (w.setCell ⟨g, i * 4 + r, none⟩ v) (some g) := ⟨rfl, rfl, rfl, by simp [World.setCell], fun k _ hk => hh k (fun e => hk (by rw [e]))⟩
  refine ⟨⟨(hh B hgB).trans h.blk, h.low, by rw [List.length_set]; exact hst, h.of.kept hgr h.apart.1, h.oq.kept hgr h.apart.2.1, h.m0, h.m1, by rw [List.length_set]; exact h.le, by rw [List.length_set]; exact h.lf, by rw [List.length_set]; exact h.fi⟩, ?_⟩
  exact ⟨rfl, rfl, rfl, by simp [World.setCell], fun j _ hj => hh j (fun e => hj (Or.inr (Or.inl (by rw [e]; rfl)))), fun j hj => Or.inr hj⟩
theorem PoolAtI.apartQ {w : World} {base B : Nat} {most : Int} {ve vf vq : Value} {es : List EntI} {fr : List Int} {qs : List (Int × Int × Int)} (h : PoolAtI w base B most ve vf vq es fr qs) :
    (ve.ownBlock = none ∨ ve.ownBlock ≠ vq.ownBlock) ∧ (vf.ownBlock = none ∨ vf.ownBlock ≠ vq.ownBlock) := ⟨row_apart h.oe h.oq (by decide), row_apart h.of h.oq (by decide)⟩
theorem PoolAtI.setQ1 {w : World} {base B : Nat} {most : Int} {g c : Nat} {ve vf : Value} {es : List EntI} {fr : List Int} {qs : List (Int × Int × Int)} (h : PoolAtI w base B most ve vf (.slice (some ⟨g, 0, none⟩) qs.length c) es fr qs) (i : Nat) (hi : i < qs.length) (e : Int × Int × Int) (r : Nat) (hr : r < 3) (v : Value) (hv : (quCellsI e)[r]? = some v) (hs : ∀ q, q < 3 → q ≠ r → (quCellsI e)[q]? = (quCellsI qs[i])[q]?) :
    PoolAtI (w.setCell ⟨g, i * 3 + r, none⟩ v) base B most ve vf (.slice (some ⟨g, 0, none⟩) qs.length c) es fr (qs.set i e) ∧ MvS w (w.setCell ⟨g, i * 3 + r, none⟩ v) (inP B ve vf (.slice (some ⟨g, 0, none⟩) qs.length c)) (inP B ve vf (.slice (some ⟨g, 0, none⟩) qs.length c)) := by
  have hgB : B ≠ g := fun e => h.ne.2.2 (by rw [e]; rfl)
  have hst := row_put h.oq (i * 3 + r) v
  have hst2 : (w.setCell ⟨g, i * 3 + r, none⟩ v).ownsRow base 208 3 (.slice (some ⟨g, 0, none⟩) qs.length c) qs.length ((qs.set i e).flatMap quCellsI) := by
    rw [← qus_set1I qs i e hi r hr v hv hs]; exact hst
  have hh : ∀ j, j ≠ g → (w.setCell ⟨g, i * 3 + r, none⟩ v).heap[j]? = w.heap[j]? := fun j hj => Below.heap_setCell _ ⟨g, _, none⟩ _ j hj
  have hgr : w.grownBy (w.setCell ⟨g, i * 3 + r, none⟩ v) (some g) := ⟨rfl, rfl, rfl, by simp [World.setCell], fun k _ hk => hh k (fun e => hk (by rw [e]))⟩
  refine ⟨⟨(hh B hgB).trans h.blk, h.low, h.oe.kept hgr h.apartQ.1, h.of.kept hgr h.apartQ.2, by rw [List.length_set]; exact hst2, h.m0, h.m1, h.le, h.lf, h.fi⟩, ?_⟩
  exact ⟨rfl, rfl, rfl, by simp [World.setCell], fun j _ hj => hh j (fun e => hj (Or.inr (Or.inr (Or.inr (by rw [e]; rfl))))), fun j hj => Or.inr hj⟩
/-- What Pop writes. -/
theorem PoolAtI.popQ {w : World} {base B : Nat} {most : Int} {ge ce gq cq : Nat} {vf : Value} {es : List EntI} {fr : List Int} {qs : List (Int × Int × Int)} (h : PoolAtI w base B most (.slice (some ⟨ge, 0, none⟩) es.length ce) vf (.slice (some ⟨gq, 0, none⟩) qs.length cq) es fr qs) (j : Nat) (hj : j < qs.length) (k : Nat) (hk : k < es.length) :
    PoolAtI (((w.setCell ⟨gq, j * 3, none⟩ (.int .u16 (es[k]).nx)).setCell ⟨gq, j * 3 + 2, none⟩ (.int .u16 ((qs[j]).2.2 - 1))).setCell ⟨ge, k * 4 + 2, none⟩ (.bool false)) base B most (.slice (some ⟨ge, 0, none⟩) es.length ce) vf (.slice (some ⟨gq, 0, none⟩) qs.length cq) (es.set k ⟨(es[k]).x, (es[k]).tk, false, (es[k]).nx⟩) fr (qs.set j ((es[k]).nx, (qs[j]).2.1, (qs[j]).2.2 - 1)) ∧
    MvS w (((w.setCell ⟨gq, j * 3, none⟩ (.int .u16 (es[k]).nx)).setCell ⟨gq, j * 3 + 2, none⟩ (.int .u16 ((qs[j]).2.2 - 1))).setCell ⟨ge, k * 4 + 2, none⟩ (.bool false)) (inP B (.slice (some ⟨ge, 0, none⟩) es.length ce) vf (.slice (some ⟨gq, 0, none⟩) qs.length cq)) (inP B (.slice (some ⟨ge, 0, none⟩) es.length ce) vf (.slice (some ⟨gq, 0, none⟩) qs.length cq)) := by
  obtain ⟨h1, m1⟩ := h.setQ1 j hj ((es[k]).nx, (qs[j]).2.1, (qs[j]).2.2) 0 (by omega) (.int .u16 (es[k]).nx) rfl (fun q hq hn => by
    match q, hq with
    | 0, _ => exact absurd rfl hn
    | 1, _ => rfl
    | 2, _ => rfl)
  have h1' : PoolAtI (w.setCell ⟨gq, j * 3 + 0, none⟩ (.int .u16 (es[k]).nx)) base B most (.slice (some ⟨ge, 0, none⟩) es.length ce) vf (.slice (some ⟨gq, 0, none⟩) (qs.set j ((es[k]).nx, (qs[j]).2.1, (qs[j]).2.2)).length cq) es fr (qs.set j ((es[k]).nx, (qs[j]).2.1, (qs[j]).2.2)) := by rw [List.length_set]; exact h1
  obtain ⟨h2, m2⟩ := h1'.setQ1 j (by rw [List.length_set]; exact hj) ((es[k]).nx, (qs[j]).2.1, (qs[j]).2.2 - 1) 2 (by omega) (.int .u16 ((qs[j]).2.2 - 1)) rfl (fun q hq hn => by
    rw [List.getElem_set_self]
    match q, hq with
    | 0, _ => rfl
    | 1, _ => rfl
    | 2, _ => exact absurd rfl hn)
  rw [List.set_set] at h2
  obtain ⟨h3, m3⟩ := h2.setE1 k hk ⟨(es[k]).x, (es[k]).tk, false, (es[k]).nx⟩ 2 (by omega) (.bool false) rfl (fun q hq hn => by
    match q, hq with
    | 0, _ => rfl
    | 1, _ => rfl
    | 2, _ => exact absurd rfl hn
    | 3, _ => rfl)
  rw [List.length_set] at h3 m2 m3
  exact ⟨h3, (m1.trans m2).trans m3⟩
set_option maxRecDepth 100000 in
set_option maxHeartbeats 1000000 in
theorem popP_someI {w : World} {base B : Nat} {most : Int} {ve vf vq : Value} {es : List EntI} {fr : List Int} {qs : List (Int × Int × Int)} (h : PoolAtI w base B most ve vf vq es fr qs) (j : Nat) (hj : j < qs.length) (hn : 1 ≤ (qs[j]).2.2) (hn1 : (qs[j]).2.2 < 65536) (k : Nat) (hk : k < es.length) (hf : (qs[j]).1 = k) :
    Calls Try.prog 115 #[.pointer (some ⟨B, 0, none⟩), .int .i64 j] w fun e w' => e = .returned (.tuple #[.int .i64 k, .bool true]) ∧ PoolAtI w' base B most ve vf vq (es.set k ⟨(es[k]).x, (es[k]).tk, false, (es[k]).nx⟩) fr (qs.set j ((es[k]).nx, (qs[j]).2.1, (qs[j]).2.2 - 1)) ∧ MvS w w' (inP B ve vf vq) (inP B ve vf vq) := by
  have hm1 := h.m1; have hle := h.le
  have HD0 := headP_someI h j hj (by omega) (by omega) (by omega)
  rw [hf] at HD0
  have HD := Lib.hid HD0
  clear HD0
  obtain ⟨c0, c1, c2, c3⟩ := h.cell
  obtain ⟨ge, ce, rfl, _, _⟩ := h.oe.form (by omega)
  obtain ⟨gq, cq, rfl, _, _⟩ := h.oq.form (by omega)
  obtain ⟨k0, k1, k2, k3⟩ := h.entAt k hk
  obtain ⟨q0, q1, q2⟩ := h.quAt j hj
  have z2 := h.oe.frozenAt (k * 4 + 2)
  have y0 := h.oq.frozenAt (j * 3)
  have y2 := h.oq.frozenAt (j * 3 + 2)
  have hB1 : ¬ ge = B := fun e => h.ne.1 (by rw [e]; rfl)
  have hB2 : ¬ B = ge := fun e => hB1 e.symm
  have hB3 : ¬ gq = B := fun e => h.ne.2.2 (by rw [e]; rfl)
  have hB4 : ¬ B = gq := fun e => hB3 e.symm
  have hB5 : ¬ ge = gq := fun e => by
    rcases h.apartQ.1 with hh | hh
    · cases hh
    · exact hh (by rw [e]; rfl)
  have hB6 : ¬ gq = ge := fun e => hB5 e.symm
  have a0 : (0 : Int) ≤ k := by omega
  have a1 : (k : Int) < es.length := by omega
  have a2 : (0 : Int) ≤ j := by omega
  have a3 : (j : Int) < qs.length := by omega
  have a4 : IntKind.u16.wrap ((qs[j]).2.2 - 1) = (qs[j]).2.2 - 1 := by rw [IntKind.wrap_u16]; omega
  have PQ := Lib.hid (h.popQ j hj k hk)
  clear h hn hn1 hf
  generalize es[k] = en at *
  generalize qs[j] = qn at *
  go_enter Try.func115, Try.ntmps115
  go_wp2_with fail
  refine HD.out.mono ?_
  rintro e w' ⟨rfl, n, rfl⟩
  go_wp2
  go_region
  go_wp2
  go_ret2
  obtain ⟨t1, t2⟩ := PQ.out
  exact ⟨rfl, t1.drewN _, t2.drewN _⟩
theorem popP_noneI {w : World} {base B : Nat} {most : Int} {ve vf vq : Value} {es : List EntI} {fr : List Int} {qs : List (Int × Int × Int)} (h : PoolAtI w base B most ve vf vq es fr qs) (j : Int) (hj : (j < 0 ∨ (qs.length : Int) ≤ j) ∨ ∃ i : Nat, j = i ∧ ∃ hi : i < qs.length, (qs[i]).2.2 = 0) :
    Calls Try.prog 115 #[.pointer (some ⟨B, 0, none⟩), .int .i64 j] w fun e w' => e = .returned (.tuple #[.int .i64 0, .bool false]) ∧ ∃ n, w' = w.drewN n := by
  have HD : Hid (Calls Try.prog 63 #[.pointer (some ⟨B, 0, none⟩), .int .i64 j] w fun e w' => e = .returned (.tuple #[.int .i64 0, .bool false]) ∧ ∃ n, w' = w.drewN n) := by
    rcases hj with hj | ⟨i, rfl, hi, hn⟩
    · exact Lib.hid (headP_outI h j hj)
    · exact Lib.hid (headP_noneI h i hi hn)
  clear h hj
  go_enter Try.func115, Try.ntmps115
  go_wp2_with fail
  refine HD.out.mono ?_
  rintro e w' ⟨rfl, n, rfl⟩
  go_wp2
  go_ret2
  exact ⟨rfl, _, rfl⟩
end Go.Proofs.Ytmkgadndfiiacaa
