/-
  What package pool does when a handle of elements of type int is put behind a queue: it stands behind all others, or what is asked is refused. No block turns but the pool's own. No condition but that the pool is one that New made.
-/
import Derived.Test.YtmkgadndfiiacaaPoolI7
namespace Go.Proofs.Ytmkgadndfiiacaa
set_option linter.unusedVariables false
set_option linter.unusedSimpArgs false
open Go.ChangeShapes Go.WideShapes Go.ChangeAt Go.RowKit
attribute [local go_sem] alloc_drewN setCell_drewN

theorem append_argPI {w : World} {base B : Nat} {most : Int} {ve vf vq : Value} {es : List EntI} {fr : List Int} {qs : List (Int × Int × Int)} (h : PoolAtI w base B most ve vf vq es fr qs) (j k : Int) (hj : j < 0 ∨ (qs.length : Int) ≤ j) :
    Calls Try.prog 113 #[.pointer (some ⟨B, 0, none⟩), .int .i64 j, .int .i64 k] w fun e w' => e = .returned (.int .i64 6) ∧ w' = w := by
  have MD := Lib.hid (madePI h)
  have HS := Lib.hid (hasP_outI h j hj)
  clear h hj
  go_enter Try.func113, Try.ntmps113
  go_wp2_with (first
    | (go_at_call 117; refine (MD.out).mono ?_; rintro e w' ⟨rfl, rfl⟩)
    | (go_at_call 119; refine (HS.out).mono ?_; rintro e w' ⟨rfl, rfl⟩))
  go_ret
  exact ⟨rfl, rfl⟩
theorem append_nonePI {w : World} {base B : Nat} {most : Int} {ve vf vq : Value} {es : List EntI} {fr : List Int} {qs : List (Int × Int × Int)} (h : PoolAtI w base B most ve vf vq es fr qs) (j : Nat) (hj : j < qs.length) (k : Int) (hk : tkOfI es k = false) :
    Calls Try.prog 113 #[.pointer (some ⟨B, 0, none⟩), .int .i64 j, .int .i64 k] w fun e w' => e = .returned (.int .i64 7) ∧ w' = w := by
  have MD := Lib.hid (madePI h)
  have HS := Lib.hid (hasP_inI h j hj)
  have TK := Lib.hid (takenPI h k)
  rw [hk] at TK
  clear h hj
  go_enter Try.func113, Try.ntmps113
  go_wp2_with (first
    | (go_at_call 117; refine (MD.out).mono ?_; rintro e w' ⟨rfl, rfl⟩)
    | (go_at_call 119; refine (HS.out).mono ?_; rintro e w' ⟨rfl, rfl⟩)
    | (go_at_call 118; refine (TK.out).mono ?_; rintro e w' ⟨rfl, rfl⟩))
  go_ret
  exact ⟨rfl, rfl⟩
theorem append_therePI {w : World} {base B : Nat} {most : Int} {ve vf vq : Value} {es : List EntI} {fr : List Int} {qs : List (Int × Int × Int)} (h : PoolAtI w base B most ve vf vq es fr qs) (j : Nat) (hj : j < qs.length) (k : Nat) (hk : k < es.length) (ht : (es[k]).tk = true) (hq : (es[k]).qd = true) :
    Calls Try.prog 113 #[.pointer (some ⟨B, 0, none⟩), .int .i64 j, .int .i64 k] w fun e w' => e = .returned (.int .i64 8) ∧ w' = w := by
  have MD := Lib.hid (madePI h)
  have HS := Lib.hid (hasP_inI h j hj)
  have TK := Lib.hid (takenP_inI h k hk)
  rw [ht] at TK
  obtain ⟨c0, c1, c2, c3⟩ := h.cell
  obtain ⟨ge, ce, rfl, _, _⟩ := h.oe.form (by omega)
  obtain ⟨k0, k1, k2, k3⟩ := h.entAt k hk
  rw [hq] at k2
  have hm1 := h.m1; have hle := h.le
  have a0 : (0 : Int) ≤ k := by omega
  have a1 : (k : Int) < es.length := by omega
  clear h ht hq hj
  generalize es[k] = en at *
  go_enter Try.func113, Try.ntmps113
  go_wp2_with (first
    | (go_at_call 117; refine (MD.out).mono ?_; rintro e w' ⟨rfl, rfl⟩)
    | (go_at_call 119; refine (HS.out).mono ?_; rintro e w' ⟨rfl, rfl⟩)
    | (go_at_call 118; refine (TK.out).mono ?_; rintro e w' ⟨rfl, rfl⟩))
  go_ret
  exact ⟨rfl, rfl⟩
theorem PoolAtI.relen {w : World} {base B : Nat} {most : Int} {ve vf : Value} {ao : Option Addr} {n c : Nat} {es : List EntI} {fr : List Int} {qs : List (Int × Int × Int)} (h : PoolAtI w base B most ve vf (.slice ao n c) es fr qs) {n' : Nat} (e : n = n') : PoolAtI w base B most ve vf (.slice ao n' c) es fr qs := e ▸ h
theorem PoolAtI.relenE {w : World} {base B : Nat} {most : Int} {vq vf : Value} {ao : Option Addr} {n c : Nat} {es : List EntI} {fr : List Int} {qs : List (Int × Int × Int)} (h : PoolAtI w base B most (.slice ao n c) vf vq es fr qs) {n' : Nat} (e : n = n') : PoolAtI w base B most (.slice ao n' c) vf vq es fr qs := e ▸ h
/-- What Append writes behind the cell that tells of the new handle. -/
theorem PoolAtI.appQ {w : World} {base B : Nat} {most : Int} {ge ce gq cq : Nat} {vf : Value} {es : List EntI} {fr : List Int} {qs : List (Int × Int × Int)} (h : PoolAtI w base B most (.slice (some ⟨ge, 0, none⟩) es.length ce) vf (.slice (some ⟨gq, 0, none⟩) qs.length cq) es fr qs) (j : Nat) (hj : j < qs.length) (k : Nat) (hk : k < es.length) :
    PoolAtI (((w.setCell ⟨gq, j * 3 + 1, none⟩ (.int .u16 k)).setCell ⟨gq, j * 3 + 2, none⟩ (.int .u16 ((qs[j]).2.2 + 1))).setCell ⟨ge, k * 4 + 2, none⟩ (.bool true)) base B most (.slice (some ⟨ge, 0, none⟩) es.length ce) vf (.slice (some ⟨gq, 0, none⟩) qs.length cq) (es.set k ⟨(es[k]).x, (es[k]).tk, true, (es[k]).nx⟩) fr (qs.set j ((qs[j]).1, (k : Int), (qs[j]).2.2 + 1)) ∧
    MvS w (((w.setCell ⟨gq, j * 3 + 1, none⟩ (.int .u16 k)).setCell ⟨gq, j * 3 + 2, none⟩ (.int .u16 ((qs[j]).2.2 + 1))).setCell ⟨ge, k * 4 + 2, none⟩ (.bool true)) (inP B (.slice (some ⟨ge, 0, none⟩) es.length ce) vf (.slice (some ⟨gq, 0, none⟩) qs.length cq)) (inP B (.slice (some ⟨ge, 0, none⟩) es.length ce) vf (.slice (some ⟨gq, 0, none⟩) qs.length cq)) := by
  obtain ⟨h1, m1⟩ := h.setQ1 j hj ((qs[j]).1, (k : Int), (qs[j]).2.2) 1 (by omega) (.int .u16 k) rfl (fun q hq hn => by
    match q, hq with
    | 0, _ => rfl
    | 1, _ => exact absurd rfl hn
    | 2, _ => rfl)
  have h1' := h1.relen (n' := (qs.set j ((qs[j]).1, (k : Int), (qs[j]).2.2)).length) (by rw [List.length_set])
  obtain ⟨h2, m2⟩ := h1'.setQ1 j (by rw [List.length_set]; exact hj) ((qs[j]).1, (k : Int), (qs[j]).2.2 + 1) 2 (by omega) (.int .u16 ((qs[j]).2.2 + 1)) rfl (fun q hq hn => by
    rw [List.getElem_set_self]
    match q, hq with
    | 0, _ => rfl
    | 1, _ => rfl
    | 2, _ => exact absurd rfl hn)
  rw [List.set_set] at h2
  obtain ⟨h3, m3⟩ := h2.setE1 k hk ⟨(es[k]).x, (es[k]).tk, true, (es[k]).nx⟩ 2 (by omega) (.bool true) rfl (fun q hq hn => by
    match q, hq with
    | 0, _ => rfl
    | 1, _ => rfl
    | 2, _ => exact absurd rfl hn
    | 3, _ => rfl)
  rw [List.length_set] at h3 m2 m3
  exact ⟨h3, (m1.trans m2).trans m3⟩
theorem PoolAtI.appFirst {w : World} {base B : Nat} {most : Int} {ge ce gq cq : Nat} {vf : Value} {es : List EntI} {fr : List Int} {qs : List (Int × Int × Int)} (h : PoolAtI w base B most (.slice (some ⟨ge, 0, none⟩) es.length ce) vf (.slice (some ⟨gq, 0, none⟩) qs.length cq) es fr qs) (j : Nat) (hj : j < qs.length) (k : Nat) (hk : k < es.length) (hc : (qs[j]).2.2 = 0) :
    PoolAtI ((((w.setCell ⟨gq, j * 3, none⟩ (.int .u16 k)).setCell ⟨gq, j * 3 + 1, none⟩ (.int .u16 k)).setCell ⟨gq, j * 3 + 2, none⟩ (.int .u16 1)).setCell ⟨ge, k * 4 + 2, none⟩ (.bool true)) base B most (.slice (some ⟨ge, 0, none⟩) es.length ce) vf (.slice (some ⟨gq, 0, none⟩) qs.length cq) (es.set k ⟨(es[k]).x, (es[k]).tk, true, (es[k]).nx⟩) fr (qs.set j ((k : Int), (k : Int), 1)) ∧
    MvS w ((((w.setCell ⟨gq, j * 3, none⟩ (.int .u16 k)).setCell ⟨gq, j * 3 + 1, none⟩ (.int .u16 k)).setCell ⟨gq, j * 3 + 2, none⟩ (.int .u16 1)).setCell ⟨ge, k * 4 + 2, none⟩ (.bool true)) (inP B (.slice (some ⟨ge, 0, none⟩) es.length ce) vf (.slice (some ⟨gq, 0, none⟩) qs.length cq)) (inP B (.slice (some ⟨ge, 0, none⟩) es.length ce) vf (.slice (some ⟨gq, 0, none⟩) qs.length cq)) := by
  obtain ⟨h1, m1⟩ := h.setQ1 j hj ((k : Int), (qs[j]).2.1, (qs[j]).2.2) 0 (by omega) (.int .u16 k) rfl (fun q hq hn => by
    match q, hq with
    | 0, _ => exact absurd rfl hn
    | 1, _ => rfl
    | 2, _ => rfl)
  have h1' := h1.relen (n' := (qs.set j ((k : Int), (qs[j]).2.1, (qs[j]).2.2)).length) (by rw [List.length_set])
  obtain ⟨h2, m2⟩ := h1'.appQ j (by rw [List.length_set]; exact hj) k hk
  simp only [List.getElem_set_self, List.length_set, List.set_set, hc, Int.zero_add] at h2 m2
  exact ⟨h2, m1.trans m2⟩
theorem PoolAtI.appNext {w : World} {base B : Nat} {most : Int} {ge ce gq cq : Nat} {vf : Value} {es : List EntI} {fr : List Int} {qs : List (Int × Int × Int)} (h : PoolAtI w base B most (.slice (some ⟨ge, 0, none⟩) es.length ce) vf (.slice (some ⟨gq, 0, none⟩) qs.length cq) es fr qs) (j : Nat) (hj : j < qs.length) (k : Nat) (hk : k < es.length) (l : Nat) (hl : l < es.length) (hlk : l ≠ k) :
    PoolAtI ((((w.setCell ⟨ge, l * 4 + 3, none⟩ (.int .u16 k)).setCell ⟨gq, j * 3 + 1, none⟩ (.int .u16 k)).setCell ⟨gq, j * 3 + 2, none⟩ (.int .u16 ((qs[j]).2.2 + 1))).setCell ⟨ge, k * 4 + 2, none⟩ (.bool true)) base B most (.slice (some ⟨ge, 0, none⟩) es.length ce) vf (.slice (some ⟨gq, 0, none⟩) qs.length cq) ((es.set l ⟨(es[l]).x, (es[l]).tk, (es[l]).qd, (k : Int)⟩).set k ⟨(es[k]).x, (es[k]).tk, true, (es[k]).nx⟩) fr (qs.set j ((qs[j]).1, (k : Int), (qs[j]).2.2 + 1)) ∧
    MvS w ((((w.setCell ⟨ge, l * 4 + 3, none⟩ (.int .u16 k)).setCell ⟨gq, j * 3 + 1, none⟩ (.int .u16 k)).setCell ⟨gq, j * 3 + 2, none⟩ (.int .u16 ((qs[j]).2.2 + 1))).setCell ⟨ge, k * 4 + 2, none⟩ (.bool true)) (inP B (.slice (some ⟨ge, 0, none⟩) es.length ce) vf (.slice (some ⟨gq, 0, none⟩) qs.length cq)) (inP B (.slice (some ⟨ge, 0, none⟩) es.length ce) vf (.slice (some ⟨gq, 0, none⟩) qs.length cq)) := by
  obtain ⟨h1, m1⟩ := h.setE1 l hl ⟨(es[l]).x, (es[l]).tk, (es[l]).qd, (k : Int)⟩ 3 (by omega) (.int .u16 k) rfl (fun q hq hn => by
    match q, hq with
    | 0, _ => rfl
    | 1, _ => rfl
    | 2, _ => rfl
    | 3, _ => exact absurd rfl hn)
  have h1' := h1.relenE (n' := (es.set l ⟨(es[l]).x, (es[l]).tk, (es[l]).qd, (k : Int)⟩).length) (by rw [List.length_set])
  obtain ⟨h2, m2⟩ := h1'.appQ j hj k (by rw [List.length_set]; exact hk)
  simp only [List.getElem_set_ne hlk, List.length_set] at h2 m2
  exact ⟨h2, m1.trans m2⟩
set_option maxRecDepth 100000 in
set_option maxHeartbeats 1000000 in
theorem append_firstPI {w : World} {base B : Nat} {most : Int} {ve vf vq : Value} {es : List EntI} {fr : List Int} {qs : List (Int × Int × Int)} (h : PoolAtI w base B most ve vf vq es fr qs) (j : Nat) (hj : j < qs.length) (k : Nat) (hk : k < es.length) (ht : (es[k]).tk = true) (hq : (es[k]).qd = false) (hc : (qs[j]).2.2 = 0) :
    Calls Try.prog 113 #[.pointer (some ⟨B, 0, none⟩), .int .i64 j, .int .i64 k] w fun e w' => e = .returned (.int .i64 0) ∧ PoolAtI w' base B most ve vf vq (es.set k ⟨(es[k]).x, (es[k]).tk, true, (es[k]).nx⟩) fr (qs.set j ((k : Int), (k : Int), 1)) ∧ MvS w w' (inP B ve vf vq) (inP B ve vf vq) := by
  have MD := Lib.hid (madePI h)
  have HS := Lib.hid (hasP_inI h j hj)
  have TK := Lib.hid (takenP_inI h k hk)
  rw [ht] at TK
  have hm1 := h.m1; have hle := h.le
  obtain ⟨c0, c1, c2, c3⟩ := h.cell
  obtain ⟨ge, ce, rfl, _, _⟩ := h.oe.form (by omega)
  obtain ⟨gq, cq, rfl, _, _⟩ := h.oq.form (by omega)
  obtain ⟨k0, k1, k2, k3⟩ := h.entAt k hk
  rw [hq] at k2
  obtain ⟨q0, q1, q2⟩ := h.quAt j hj
  have z2 := h.oe.frozenAt (k * 4 + 2)
  have y0 := h.oq.frozenAt (j * 3)
  have y1 := h.oq.frozenAt (j * 3 + 1)
  have y2 := h.oq.frozenAt (j * 3 + 2)
  have hB1 : ¬ ge = B := fun e => h.ne.1 (by rw [e]; rfl)
  have hB2 : ¬ B = ge := fun e => hB1 e.symm
  have hB3 : ¬ gq = B := fun e => h.ne.2.2 (by rw [e]; rfl)
  have hB4 : ¬ B = gq := fun e => hB3 e.symm
  have hB5 : ¬ ge = gq := fun e => by
    rcases h.apartQ.1 with hh | hh
    · cases hh
    · exact hh (by rw [e]; rfl)
  have hB6 : ¬ gq = ge := fun e => hB5 e.symm
  have a0 : (0 : Int) ≤ k := by omega
  have a1 : (k : Int) < es.length := by omega
  have a2 : (0 : Int) ≤ j := by omega
  have a3 : (j : Int) < qs.length := by omega
  have a4 : IntKind.u16.wrap (k : Int) = k := by rw [IntKind.wrap_u16]; omega
  rw [hc] at q2
  have AF := Lib.hid (h.appFirst j hj k hk hc)
  clear h ht hq hc
  generalize es[k] = en at *
  generalize qs[j] = qn at *
  go_enter Try.func113, Try.ntmps113
  go_wp2_with (first
    | (go_at_call 117; refine (MD.out).mono ?_; rintro e w' ⟨rfl, rfl⟩)
    | (go_at_call 119; refine (HS.out).mono ?_; rintro e w' ⟨rfl, rfl⟩)
    | (go_at_call 118; refine (TK.out).mono ?_; rintro e w' ⟨rfl, rfl⟩))
  go_ret
  obtain ⟨t1, t2⟩ := AF.out
  exact ⟨rfl, t1, t2⟩
set_option maxRecDepth 100000 in
set_option maxHeartbeats 1000000 in
theorem append_nextPI {w : World} {base B : Nat} {most : Int} {ve vf vq : Value} {es : List EntI} {fr : List Int} {qs : List (Int × Int × Int)} (h : PoolAtI w base B most ve vf vq es fr qs) (j : Nat) (hj : j < qs.length) (k : Nat) (hk : k < es.length) (ht : (es[k]).tk = true) (hq : (es[k]).qd = false) (hc : 1 ≤ (qs[j]).2.2) (hc1 : (qs[j]).2.2 < 65535) (l : Nat) (hl : l < es.length) (hlk : l ≠ k) (hla : (qs[j]).2.1 = l) :
    Calls Try.prog 113 #[.pointer (some ⟨B, 0, none⟩), .int .i64 j, .int .i64 k] w fun e w' => e = .returned (.int .i64 0) ∧ PoolAtI w' base B most ve vf vq ((es.set l ⟨(es[l]).x, (es[l]).tk, (es[l]).qd, (k : Int)⟩).set k ⟨(es[k]).x, (es[k]).tk, true, (es[k]).nx⟩) fr (qs.set j ((qs[j]).1, (k : Int), (qs[j]).2.2 + 1)) ∧ MvS w w' (inP B ve vf vq) (inP B ve vf vq) := by
  have MD := Lib.hid (madePI h)
  have HS := Lib.hid (hasP_inI h j hj)
  have TK := Lib.hid (takenP_inI h k hk)
  rw [ht] at TK
  have hm1 := h.m1; have hle := h.le
  obtain ⟨c0, c1, c2, c3⟩ := h.cell
  obtain ⟨ge, ce, rfl, _, _⟩ := h.oe.form (by omega)
  obtain ⟨gq, cq, rfl, _, _⟩ := h.oq.form (by omega)
  obtain ⟨k0, k1, k2, k3⟩ := h.entAt k hk
  rw [hq] at k2
  obtain ⟨q0, q1, q2⟩ := h.quAt j hj
  have z2 := h.oe.frozenAt (k * 4 + 2)
  have y0 := h.oq.frozenAt (j * 3)
  have y1 := h.oq.frozenAt (j * 3 + 1)
  have y2 := h.oq.frozenAt (j * 3 + 2)
  have hB1 : ¬ ge = B := fun e => h.ne.1 (by rw [e]; rfl)
  have hB2 : ¬ B = ge := fun e => hB1 e.symm
  have hB3 : ¬ gq = B := fun e => h.ne.2.2 (by rw [e]; rfl)
  have hB4 : ¬ B = gq := fun e => hB3 e.symm
  have hB5 : ¬ ge = gq := fun e => by
    rcases h.apartQ.1 with hh | hh
    · cases hh
    · exact hh (by rw [e]; rfl)
  have hB6 : ¬ gq = ge := fun e => hB5 e.symm
  have a0 : (0 : Int) ≤ k := by omega
  have a1 : (k : Int) < es.length := by omega
  have a2 : (0 : Int) ≤ j := by omega
  have a3 : (j : Int) < qs.length := by omega
  have a4 : IntKind.u16.wrap (k : Int) = k := by rw [IntKind.wrap_u16]; omega
  obtain ⟨l0, l1, l2, l3⟩ := h.entAt l hl
  have x3 := h.oe.frozenAt (l * 4 + 3)
  have b0 : (0 : Int) ≤ l := by omega
  have b1 : (l : Int) < es.length := by omega
  have b2 : IntKind.u16.wrap ((qs[j]).2.2 + 1) = (qs[j]).2.2 + 1 := by rw [IntKind.wrap_u16]; omega
  have b3 : ¬ (qs[j]).2.2 = 0 := by omega
  have b4 : ((qs[j]).2.2 == 0) = false := by simpa using b3
  have b5 : ¬ l * 4 + 3 = k * 4 + 2 := by omega
  have b6 : ¬ k * 4 + 2 = l * 4 + 3 := by omega
  rw [hla] at q1
  have AF := Lib.hid (h.appNext j hj k hk l hl hlk)
  clear h ht hq hc hc1 hla
  generalize es[l] = el at *
  generalize es[k] = en at *
  generalize qs[j] = qn at *
  go_enter Try.func113, Try.ntmps113
  go_wp2_with (first
    | (go_at_call 117; refine (MD.out).mono ?_; rintro e w' ⟨rfl, rfl⟩)
    | (go_at_call 119; refine (HS.out).mono ?_; rintro e w' ⟨rfl, rfl⟩)
    | (go_at_call 118; refine (TK.out).mono ?_; rintro e w' ⟨rfl, rfl⟩))
  go_region
  go_wp2
  go_ret
  obtain ⟨t1, t2⟩ := AF.out
  exact ⟨rfl, t1.drewN _, t2.drewN _⟩
end Go.Proofs.Ytmkgadndfiiacaa
