/-
  The document's answer for layer 17: whether a packet may come. Nothing turns below the heap's end. No condition but that New made the gate and that no more waits than may.
-/
import Derived.Test.YtiogfgkfipekbaaRA17
namespace Go.Proofs.Ytiogfgkfipekbaa
set_option linter.unusedVariables false
set_option linter.unusedSimpArgs false
open Go.ChangeShapes Go.WideShapes Go.ChangeAt Go.RowKit
attribute [local go_sem] alloc_drewN setCell_drewN

/-- What holds of the rows: as long as one another, nothing below nought, sums that fit. -/
structure Fit17 (k : Cf) (fs : List Fl) (ps qs : List Int) : Prop where
  lp : ps.length = k.n
  lq : qs.length = k.n
  n1 : k.n ≤ 64
  np : ∀ x ∈ ps, 0 ≤ x
  nq : ∀ x ∈ qs, 0 ≤ x
  bp : sumL ps ≤ k.pk
  bq : sumL qs ≤ k.by_
  gc : k.gc.ok
  ow : ∀ j, j < k.n → qs.getD j 0 ≤ (fs.getD j Fl.nil).cp
theorem lt_cell17 {w : World} {b o : Nat} {v : Value} (h : w.cell? ⟨b, o, none⟩ = some v) : b < w.heap.size := block_lt h
theorem sumL_ge (xs : List Int) (h : ∀ x ∈ xs, 0 ≤ x) : ∀ x ∈ xs, x ≤ sumL xs := by
  induction xs with
  | nil => intro x hx; cases hx
  | cons y xs ih =>
    intro x hx
    have h1 := sumL_nn xs (fun z hz => h z (List.mem_cons_of_mem _ hz))
    have h2 := h y List.mem_cons_self
    rw [sumL_cons]
    rcases List.mem_cons.1 hx with rfl | hx
    · omega
    · have := ih (fun z hz => h z (List.mem_cons_of_mem _ hz)) x hx
      omega
section
variable {w : World} {base M : Nat} {k : Cf} {vp vb : Value} {ps qs : List Int} {fs : List Fl}
theorem total17f (h : R17At w base M k vp vb ps qs) (f : Fit17 k fs ps qs) : Calls Try.prog 23 #[.pointer (some ⟨M, 0, none⟩)] w fun e w' => e = .returned (.tuple #[.int .i64 (sumL ps), .int .u64 (sumL qs)]) ∧ ∃ q, w' = w.drewN q := by
  have g1 : (1 ≤ k.pk ∧ k.pk ≤ 4096) ∧ (1 ≤ k.by_ ∧ k.by_ ≤ 18446744073709551615) := ⟨f.gc.1, f.gc.2.1⟩
  have := f.bp; have := f.bq
  exact total17 h (by rw [f.lq, f.lp]) f.np f.nq (by omega) (by omega)
theorem own17_at (h : R17At w base M k vp vb ps qs) (f : Fit17 k fs ps qs) (hr : RowFl w k.a k.n fs) (id : Int) (j : Nat) (hj : j < k.n) (h1 : (fs.getD j Fl.nil).id = id) (h2 : ∀ q, q < j → ¬ (fs.getD q Fl.nil).id = id) :
    Calls Try.prog 25 #[.pointer (some ⟨M, 0, none⟩), .int .u32 id] w fun e w' => e = .returned (.tuple #[.int .i64 (ps.getD j 0), .int .u64 (qs.getD j 0)]) ∧ ∃ q, w' = w.drewN q := by
  obtain ⟨-, -, -, -, c10, c11, c12, -, -⟩ := h.cell
  obtain ⟨ap, cp, rfl, -, hcp⟩ := h.atp
  obtain ⟨aq, cq, rfl, -, hcq⟩ := h.atq
  obtain ⟨g1, rfl, l1, d1⟩ := hcp j (by rw [f.lp]; exact hj)
  obtain ⟨g2, rfl, _, l2, d2, _⟩ := hcq j (by rw [f.lq]; exact hj)
  rw [f.lp] at c11
  rw [f.lq] at c12
  have FI := Lib.hid (find16_at hr k.cc (by have := f.n1; omega) id j hj h1 h2)
  have z0 : (0 : Int) ≤ j := by omega
  have z1 : (j : Int) < k.n := by omega
  clear h f hr h1 h2 hcp hcq
  generalize ps.getD j 0 = x1 at *
  generalize qs.getD j 0 = x2 at *
  go_enter Try.func25, Try.ntmps25
  go_wp2_with fail
  refine FI.out.mono ?_
  rintro e w' ⟨rfl, rfl⟩
  go_wp2
  go_quiet (fail)
  go_wp2
  go_ret2
  exact ⟨rfl, _, rfl⟩
theorem own17_no (h : R17At w base M k vp vb ps qs) (f : Fit17 k fs ps qs) (hr : RowFl w k.a k.n fs) (id : Int) (h2 : ∀ q, q < k.n → ¬ (fs.getD q Fl.nil).id = id) :
    Calls Try.prog 25 #[.pointer (some ⟨M, 0, none⟩), .int .u32 id] w fun e w' => e = .returned (.tuple #[.int .i64 0, .int .u64 0]) ∧ ∃ q, w' = w.drewN q := by
  obtain ⟨-, -, -, -, c10, c11, c12, -, -⟩ := h.cell
  have FI := Lib.hid (find16_no hr k.cc (by have := f.n1; omega) id h2)
  clear h f hr h2
  go_enter Try.func25, Try.ntmps25
  go_wp2_with fail
  refine FI.out.mono ?_
  rintro e w' ⟨rfl, rfl⟩
  go_wp2
  go_ret2
  exact ⟨rfl, 0, rfl⟩
set_option maxHeartbeats 2000000 in
theorem fits17_no (h : R17At w base M k vp vb ps qs) (f : Fit17 k fs ps qs) (hr : RowFl w k.a k.n fs) (id n tp tb : Int) (n0 : 0 ≤ n) (d : Dt) (h2 : ∀ q, q < k.n → ¬ (fs.getD q Fl.nil).id = id) :
    Calls Try.prog 58 #[.pointer (some ⟨M, 0, none⟩), .int .u32 id, .int .u64 n] w fun e w' => e = .returned (.int .i64 (roomC k.gc false tp tb d n)) ∧ Below w.heap.size w w' := by
  obtain ⟨c4, c5, c6, c7, c10, c11, c12, -, -⟩ := h.cell
  have TT := Lib.hid (total17f h f)
  have BQ := Lib.hid f.bq
  have SN := Lib.hid (sumL_nn qs f.nq)
  obtain ⟨⟨k0, k1⟩, ⟨k2, k3⟩, ⟨k4, k5⟩, k6, k7⟩ := show (1 ≤ k.pk ∧ k.pk ≤ 4096) ∧ (1 ≤ k.by_ ∧ k.by_ ≤ 18446744073709551615) ∧ (0 ≤ k.sh ∧ k.sh ≤ 16) ∧ 1 ≤ k.mtu ∧ k.mtu ≤ 65535 from f.gc
  have FI := Lib.hid (find16_no hr k.cc (by have := f.n1; omega) id h2)
  unfold roomC
  clear hr h2
  by_cases hn : n < 1
  · rw [if_pos hn]
    obtain rfl : n = 0 := by omega
    clear h f
    go_enter Try.func58, Try.ntmps58
    go_wp2
    go_ret
    exact ⟨rfl, Below.refl _ _⟩
  · rw [if_neg hn]
    have hz : ¬ n = 0 := by omega
    by_cases hm : k.gc.mtu < n
    · rw [if_pos hm]
      have hm' : k.mtu < n := hm
      clear h f
      go_enter Try.func58, Try.ntmps58
      go_wp2
      go_ret
      exact ⟨rfl, Below.refl _ _⟩
    · rw [if_neg hm, if_pos rfl]
      have hm' : ¬ k.mtu < n := hm
      clear h f
      go_enter Try.func58, Try.ntmps58
      go_wp2_with fail
      refine FI.out.mono ?_
      rintro e w' ⟨rfl, rfl⟩
      go_wp2
      go_ret
      exact ⟨rfl, Below.refl _ _⟩
set_option maxHeartbeats 4000000 in
theorem fits17_at (h : R17At w base M k vp vb ps qs) (f : Fit17 k fs ps qs) (hr : RowFl w k.a k.n fs) (id n : Int) (n0 : 0 ≤ n) (n1 : n ≤ 18446744073709551615) (j : Nat) (hj : j < k.n) (h1 : (fs.getD j Fl.nil).id = id) (h2 : ∀ q, q < j → ¬ (fs.getD q Fl.nil).id = id) :
    Calls Try.prog 58 #[.pointer (some ⟨M, 0, none⟩), .int .u32 id, .int .u64 n] w fun e w' => e = .returned (.int .i64 (roomC k.gc true (sumL ps) (sumL qs) ⟨ps.getD j 0, qs.getD j 0, (fs.getD j Fl.nil).cp⟩ n)) ∧ Below w.heap.size w w' := by
  obtain ⟨c4, c5, c6, c7, c10, c11, c12, -, -⟩ := h.cell
  have TT := Lib.hid (total17f h f)
  have BQ := Lib.hid f.bq
  have SN := Lib.hid (sumL_nn qs f.nq)
  obtain ⟨⟨k0, k1⟩, ⟨k2, k3⟩, ⟨k4, k5⟩, k6, k7⟩ := show (1 ≤ k.pk ∧ k.pk ≤ 4096) ∧ (1 ≤ k.by_ ∧ k.by_ ≤ 18446744073709551615) ∧ (0 ≤ k.sh ∧ k.sh ≤ 16) ∧ 1 ≤ k.mtu ∧ k.mtu ≤ 65535 from f.gc
  have FI := Lib.hid (find16_at hr k.cc (by have := f.n1; omega) id j hj h1 h2)
  obtain ⟨aq, cq, rfl, -, hcq⟩ := h.atq
  obtain ⟨g2, rfl, _, l2, d2, _⟩ := hcq j (by rw [f.lq]; exact hj)
  obtain ⟨b, off, hka, hblt, -, -, -, -, x4⟩ := hr.atR (Below.refl _ w) j hj
  obtain ⟨-, -, -, -, cp0, cp1⟩ := hr.okR j hj
  have OW := Lib.hid (f.ow j hj)
  have OG := Lib.hid (sumL_ge qs f.nq _ (getD_mem0 qs j (by rw [f.lq]; exact hj)))
  have O0 := Lib.hid (f.nq _ (getD_mem0 qs j (by rw [f.lq]; exact hj)))
  rw [f.lq] at c12
  have z0 : (0 : Int) ≤ j := by omega
  have z1 : (j : Int) < k.n := by omega
  clear hcq hr h1 h2
  rw [hka] at c10 FI
  have AD := Lib.hid (fun W x y (hx0 : 0 ≤ x) (hx1 : x ≤ 18446744073709551615) (hy0 : 0 ≤ y) (hy1 : y ≤ 18446744073709551615) => add_ref x y hx0 hx1 hy0 hy1 W)
  clear hka
  generalize (fs.getD j Fl.nil).cp = cc at *
  generalize qs.getD j 0 = ow at *
  generalize ps.getD j 0 = po at *
  generalize sumL ps = sp at *
  generalize sumL qs = sq at *
  unfold roomC
  by_cases hn : n < 1
  · rw [if_pos hn]
    obtain rfl : n = 0 := by omega
    clear h f
    go_enter Try.func58, Try.ntmps58
    go_wp2
    go_ret
    exact ⟨rfl, Below.refl _ _⟩
  · rw [if_neg hn]
    have hz : ¬ n = 0 := by omega
    by_cases hm : k.gc.mtu < n
    · rw [if_pos hm]
      have hm' : k.mtu < n := hm
      clear h f
      go_enter Try.func58, Try.ntmps58
      go_wp2
      go_ret
      exact ⟨rfl, Below.refl _ _⟩
    · rw [if_neg hm, if_neg (show ¬ (true = false) from by decide)]
      have hm' : ¬ k.mtu < n := hm
      clear h f hm
      have hw : IntKind.u64.wrap (k.by_ - sq) = k.by_ - sq := by
        have := BQ.out; have := SN.out
        rw [IntKind.wrap_u64]; omega
      by_cases hp : k.gc.pk ≤ sp
      · rw [if_pos hp]
        have hp' : k.pk ≤ sp := hp
        have gp : decide (k.pk ≤ sp) = true := decide_eq_true hp'
        go_enter Try.func58, Try.ntmps58
        go_wp2_with fail
        refine FI.out.mono ?_
        rintro e w' ⟨rfl, rfl⟩
        go_wp2_with fail
        refine TT.out.mono ?_
        rintro e w1 ⟨rfl, q, rfl⟩
        go_wp2
        go_ret
        exact ⟨rfl, below_drewN _ (Below.refl _ _)⟩
      · rw [if_neg hp]
        have hp' : ¬ k.pk ≤ sp := hp
        have gp : decide (k.pk ≤ sp) = false := decide_eq_false hp'
        have hs : sub0 k.gc.by_ sq = k.by_ - sq := by
          have := BQ.out
          show sub0 k.by_ sq = _
          unfold sub0
          split <;> omega
        rw [hs]
        by_cases hb : k.by_ - sq < n
        · rw [if_pos hb]
          have gb : decide (k.by_ - sq < n) = true := decide_eq_true hb
          go_enter Try.func58, Try.ntmps58
          go_wp2_with fail
          refine FI.out.mono ?_
          rintro e w' ⟨rfl, rfl⟩
          go_wp2_with fail
          refine TT.out.mono ?_
          rintro e w1 ⟨rfl, q, rfl⟩
          go_wp2
          go_ret
          exact ⟨rfl, below_drewN _ (Below.refl _ _)⟩
        · rw [if_neg hb]
          have hcap : cap (ow + n) = ow + n := cap_of (by have := OG.out; omega)
          have hlf : k.by_ - sq ≤ 18446744073709551615 := by have := SN.out; omega
          have A := Lib.hid (fun W => (AD.out W ow n O0.out (by have := OG.out; have := BQ.out; omega) n0 n1).mono (R' := fun e w' => e = .returned (.int .u64 (ow + n)) ∧ Below W.heap.size W w') (by rintro e w' ⟨rfl, hb⟩; rw [hcap]; exact ⟨rfl, by assumption⟩))
          have hsub : sub0 cc ow = cc - ow := by
            have := OW.out
            unfold sub0
            split <;> omega
          rw [show sub0 (Dt.mk po ow cc).most (Dt.mk po ow cc).by_ = cc - ow from hsub]
          have gb : decide (k.by_ - sq < n) = false := decide_eq_false hb
          clear hcap hsub
          by_cases ho : cc - ow < n
          · rw [if_pos ho]
            have ho' : cc < ow + n := by omega
            have go1 : decide (cc < ow + n) = true := decide_eq_true ho'
            clear ho
            generalize ow + n = on at *
            go_enter Try.func58, Try.ntmps58
            go_wp2_with fail
            refine FI.out.mono ?_
            rintro e w' ⟨rfl, rfl⟩
            go_wp2_with fail
            refine TT.out.mono ?_
            rintro e w2 ⟨rfl, q, hw2⟩
            have HB2 := Lib.hid (show Below w'.heap.size w' w2 by rw [hw2]; exact below_drewN _ (Below.refl _ _))
            have D2 := (HB2.out.cell (p := ⟨g2, j, none⟩) l2).trans d2
            have C5 := (HB2.out.cell (p := ⟨M, 5, none⟩) (lt_cell17 c5)).trans c5
            have C12 := (HB2.out.cell (p := ⟨M, 12, none⟩) (lt_cell17 c12)).trans c12
            have C4 := (HB2.out.cell (p := ⟨M, 4, none⟩) (lt_cell17 c4)).trans c4
            clear hw2
            have S1 := Lib.hid (fun (v : World) (hv : Below w2.heap.size w2 v) => (show v.cell? ⟨M, 10, none⟩ = some (.slice (some ⟨b, off, none⟩) k.n k.cc) ∧ v.cell? ⟨b, off + j * 5 + 4, none⟩ = some (.int .u64 cc) ∧ Below w2.heap.size w2 v from ⟨(hv.cell (p := ⟨M, 10, none⟩) (Nat.lt_of_lt_of_le (lt_cell17 c10) HB2.out.size)).trans ((HB2.out.cell (p := ⟨M, 10, none⟩) (lt_cell17 c10)).trans c10), (hv.cell (p := ⟨b, _, none⟩) (Nat.lt_of_lt_of_le hblt HB2.out.size)).trans ((HB2.out.cell (p := ⟨b, _, none⟩) hblt).trans x4), hv⟩))
            have HBE := Lib.hid (fun (v : World) (hv : Below w2.heap.size w2 v) => HB2.out.trans (hv.mono HB2.out.size))
            clear c4 c5 c6 c7 c12 d2
            go_wp2
            go_region_held3 (fun v => v.cell? ⟨M, 10, none⟩ = some (.slice (some ⟨b, off, none⟩) k.n k.cc) ∧ v.cell? ⟨b, off + j * 5 + 4, none⟩ = some (.int .u64 cc) ∧ Below w2.heap.size w2 v)
              ((first | exact S1.out _ ((Below.refl _ w2).drew.trans hc) | exact S1.out _ (Below.refl _ w2).drew))
              (first
                | (go_at_call 68; refine (A.out _).mono ?_; rintro e w3 ⟨rfl, hc⟩)
                | fail)
            go_wp2
            go_ret
            exact ⟨rfl, HBE.out _ ((Below.refl _ w2).drew.trans hc)⟩
          · rw [if_neg ho]
            have ho' : ¬ cc < ow + n := by omega
            have go1 : decide (cc < ow + n) = false := decide_eq_false ho'
            clear ho
            generalize ow + n = on at *
            go_enter Try.func58, Try.ntmps58
            go_wp2_with fail
            refine FI.out.mono ?_
            rintro e w' ⟨rfl, rfl⟩
            go_wp2_with fail
            refine TT.out.mono ?_
            rintro e w2 ⟨rfl, q, hw2⟩
            have HB2 := Lib.hid (show Below w'.heap.size w' w2 by rw [hw2]; exact below_drewN _ (Below.refl _ _))
            have D2 := (HB2.out.cell (p := ⟨g2, j, none⟩) l2).trans d2
            have C5 := (HB2.out.cell (p := ⟨M, 5, none⟩) (lt_cell17 c5)).trans c5
            have C12 := (HB2.out.cell (p := ⟨M, 12, none⟩) (lt_cell17 c12)).trans c12
            have C4 := (HB2.out.cell (p := ⟨M, 4, none⟩) (lt_cell17 c4)).trans c4
            clear hw2
            have S1 := Lib.hid (fun (v : World) (hv : Below w2.heap.size w2 v) => (show v.cell? ⟨M, 10, none⟩ = some (.slice (some ⟨b, off, none⟩) k.n k.cc) ∧ v.cell? ⟨b, off + j * 5 + 4, none⟩ = some (.int .u64 cc) ∧ Below w2.heap.size w2 v from ⟨(hv.cell (p := ⟨M, 10, none⟩) (Nat.lt_of_lt_of_le (lt_cell17 c10) HB2.out.size)).trans ((HB2.out.cell (p := ⟨M, 10, none⟩) (lt_cell17 c10)).trans c10), (hv.cell (p := ⟨b, _, none⟩) (Nat.lt_of_lt_of_le hblt HB2.out.size)).trans ((HB2.out.cell (p := ⟨b, _, none⟩) hblt).trans x4), hv⟩))
            have HBE := Lib.hid (fun (v : World) (hv : Below w2.heap.size w2 v) => HB2.out.trans (hv.mono HB2.out.size))
            clear c4 c5 c6 c7 c12 d2
            go_wp2
            go_region_held3 (fun v => v.cell? ⟨M, 10, none⟩ = some (.slice (some ⟨b, off, none⟩) k.n k.cc) ∧ v.cell? ⟨b, off + j * 5 + 4, none⟩ = some (.int .u64 cc) ∧ Below w2.heap.size w2 v)
              ((first | exact S1.out _ ((Below.refl _ w2).drew.trans hc) | exact S1.out _ (Below.refl _ w2).drew))
              (first
                | (go_at_call 68; refine (A.out _).mono ?_; rintro e w3 ⟨rfl, hc⟩)
                | fail)
            go_wp2
            go_ret
            exact ⟨rfl, HBE.out _ ((Below.refl _ w2).drew.trans hc)⟩
set_option maxHeartbeats 2000000 in
theorem may17_no (h : R17At w base M k vp vb ps qs) (f : Fit17 k fs ps qs) (hr : RowFl w k.a k.n fs) (id n tp tb : Int) (n0 : 0 ≤ n) (d : Dt) (h2 : ∀ q, q < k.n → ¬ (fs.getD q Fl.nil).id = id) :
    Calls Try.prog 21 #[.pointer (some ⟨M, 0, none⟩), .int .u32 id, .int .u64 n] w fun e w' => e = .returned (.int .i64 (mayC k.gc false tp tb d n)) ∧ Below w.heap.size w w' := by
  have FT := Lib.hid (fits17_no h f hr id n tp tb n0 d h2)
  have hne : roomC k.gc false tp tb d n ≠ 0 := by
    unfold roomC
    split
    · decide
    · split
      · decide
      · rw [if_pos rfl]; decide
  rw [show mayC k.gc false tp tb d n = roomC k.gc false tp tb d n by unfold mayC; rw [if_neg hne]]
  generalize roomC k.gc false tp tb d n = rc at *
  clear h f hr h2
  go_enter Try.func21, Try.ntmps21
  go_wp2_with fail
  refine FT.out.mono ?_
  rintro e w1 ⟨rfl, hb⟩
  have HB := Lib.hid hb
  clear hb
  go_wp2
  go_ret
  exact ⟨rfl, HB.out⟩
set_option maxHeartbeats 4000000 in
theorem may17_at (h : R17At w base M k vp vb ps qs) (f : Fit17 k fs ps qs) (hr : RowFl w k.a k.n fs) (id n : Int) (n0 : 0 ≤ n) (n1 : n ≤ 18446744073709551615) (j : Nat) (hj : j < k.n) (h1 : (fs.getD j Fl.nil).id = id) (h2 : ∀ q, q < j → ¬ (fs.getD q Fl.nil).id = id) :
    Calls Try.prog 21 #[.pointer (some ⟨M, 0, none⟩), .int .u32 id, .int .u64 n] w fun e w' => e = .returned (.int .i64 (mayC k.gc true (sumL ps) (sumL qs) ⟨ps.getD j 0, qs.getD j 0, (fs.getD j Fl.nil).cp⟩ n)) ∧ Below w.heap.size w w' := by
  have FT := Lib.hid (fits17_at h f hr id n n0 n1 j hj h1 h2)
  by_cases hz : roomC k.gc true (sumL ps) (sumL qs) ⟨ps.getD j 0, qs.getD j 0, (fs.getD j Fl.nil).cp⟩ n = 0
  · rw [show mayC k.gc true (sumL ps) (sumL qs) ⟨ps.getD j 0, qs.getD j 0, (fs.getD j Fl.nil).cp⟩ n = fairC k.gc (sumL qs) ⟨ps.getD j 0, qs.getD j 0, (fs.getD j Fl.nil).cp⟩ by unfold mayC; rw [if_pos hz]]
    rw [hz] at FT
    have TT := Lib.hid (fun (v : World) (hv : Below w.heap.size w v) => total17f (h.below hv) f)
    have OO := Lib.hid (fun (v : World) (hv : Below w.heap.size w v) => own17_at (h.below hv) f (rowfl_below hr hv) id j hj h1 h2)
    have CC := Lib.hid (fun (v : World) (hv : Below w.heap.size w v) => (h.below hv).cell)
    have BQ := Lib.hid f.bq
    have SN := Lib.hid (sumL_nn qs f.nq)
    obtain ⟨⟨k0, k1⟩, ⟨k2, k3⟩, ⟨k4, k5⟩, k6, k7⟩ := show (1 ≤ k.pk ∧ k.pk ≤ 4096) ∧ (1 ≤ k.by_ ∧ k.by_ ≤ 18446744073709551615) ∧ (0 ≤ k.sh ∧ k.sh ≤ 16) ∧ 1 ≤ k.mtu ∧ k.mtu ≤ 65535 from f.gc
    have hs : sub0 k.gc.by_ (sumL qs) = k.by_ - sumL qs := by
      have := BQ.out
      show sub0 k.by_ _ = _
      unfold sub0
      split <;> omega
    unfold fairC
    rw [hs]
    have hw : IntKind.u64.wrap (k.by_ - sumL qs) = k.by_ - sumL qs := by
      have := BQ.out; have := SN.out
      rw [IntKind.wrap_u64]; omega
    have hl0 : 0 ≤ k.by_ - sumL qs := by have := BQ.out; omega
    have hl1 : k.by_ - sumL qs ≤ 18446744073709551615 := by have := SN.out; omega
    have SH := Lib.hid (fun W => shift_ref (k.by_ - sumL qs) k.sh hl0 hl1 (by omega) (by omega) W)
    rw [show k.gc.sh = k.sh from rfl]
    clear h f hr h1 h2 hz hs
    generalize ps.getD j 0 = po at *
    generalize qs.getD j 0 = ow at *
    generalize (fs.getD j Fl.nil).cp = cc at *
    generalize sumL ps = sp at *
    generalize sumL qs = sq at *
    generalize shl (k.by_ - sq) (min k.sh.toNat 64) = sh at *
    rw [show (Dt.mk po ow cc).by_ = ow from rfl]
    by_cases hx : sh ≤ ow
    · rw [if_pos hx]
      have gx : decide (sh ≤ ow) = true := decide_eq_true hx
      go_enter Try.func21, Try.ntmps21
      go_wp2_with fail
      refine FT.out.mono ?_
      rintro e w1 ⟨rfl, hb⟩
      have HB := Lib.hid hb
      clear hb
      go_wp2_with fail
      refine (TT.out _ HB.out).mono ?_
      rintro e w2 ⟨rfl, q, hw2⟩
      have HB2 := Lib.hid (show Below w.heap.size w w2 by rw [hw2]; exact below_drewN _ HB.out)
      clear hw2
      go_wp2_with fail
      refine (OO.out _ HB2.out).mono ?_
      rintro e w3 ⟨rfl, q3, hw3⟩
      have HB3 := Lib.hid (show Below w.heap.size w w3 by rw [hw3]; exact below_drewN _ HB2.out)
      clear hw3
      obtain ⟨-, c5, c6, -, -, -, -, -, -⟩ := CC.out _ HB3.out
      have S1 := Lib.hid (fun (v : World) (hv : Below w3.heap.size w3 v) => (show v.cell? ⟨M, 5, none⟩ = some (.int .u64 k.by_) ∧ v.cell? ⟨M, 6, none⟩ = some (.int .i64 k.sh) ∧ Below w3.heap.size w3 v from ⟨(hv.cell (p := ⟨M, 5, none⟩) (lt_cell17 c5)).trans c5, (hv.cell (p := ⟨M, 6, none⟩) (lt_cell17 c6)).trans c6, hv⟩))
      have HBE := Lib.hid (fun (v : World) (hv : Below w3.heap.size w3 v) => HB3.out.trans (hv.mono HB3.out.size))
      go_wp2
      go_region_held3 (fun v => v.cell? ⟨M, 5, none⟩ = some (.int .u64 k.by_) ∧ v.cell? ⟨M, 6, none⟩ = some (.int .i64 k.sh) ∧ Below w3.heap.size w3 v)
        ((first | exact S1.out _ ((Below.refl _ w3).drew.trans hc) | exact S1.out _ (Below.refl _ w3).drew))
        (first
          | (go_at_call 60; refine (SH.out _).mono ?_; rintro e w4 ⟨rfl, hc⟩)
          | fail)
      go_wp2
      go_ret
      exact ⟨rfl, HBE.out _ ((Below.refl _ w3).drew.trans hc)⟩
    · rw [if_neg hx]
      have gx : decide (sh ≤ ow) = false := decide_eq_false hx
      go_enter Try.func21, Try.ntmps21
      go_wp2_with fail
      refine FT.out.mono ?_
      rintro e w1 ⟨rfl, hb⟩
      have HB := Lib.hid hb
      clear hb
      go_wp2_with fail
      refine (TT.out _ HB.out).mono ?_
      rintro e w2 ⟨rfl, q, hw2⟩
      have HB2 := Lib.hid (show Below w.heap.size w w2 by rw [hw2]; exact below_drewN _ HB.out)
      clear hw2
      go_wp2_with fail
      refine (OO.out _ HB2.out).mono ?_
      rintro e w3 ⟨rfl, q3, hw3⟩
      have HB3 := Lib.hid (show Below w.heap.size w w3 by rw [hw3]; exact below_drewN _ HB2.out)
      clear hw3
      obtain ⟨-, c5, c6, -, -, -, -, -, -⟩ := CC.out _ HB3.out
      have S1 := Lib.hid (fun (v : World) (hv : Below w3.heap.size w3 v) => (show v.cell? ⟨M, 5, none⟩ = some (.int .u64 k.by_) ∧ v.cell? ⟨M, 6, none⟩ = some (.int .i64 k.sh) ∧ Below w3.heap.size w3 v from ⟨(hv.cell (p := ⟨M, 5, none⟩) (lt_cell17 c5)).trans c5, (hv.cell (p := ⟨M, 6, none⟩) (lt_cell17 c6)).trans c6, hv⟩))
      have HBE := Lib.hid (fun (v : World) (hv : Below w3.heap.size w3 v) => HB3.out.trans (hv.mono HB3.out.size))
      go_wp2
      go_region_held3 (fun v => v.cell? ⟨M, 5, none⟩ = some (.int .u64 k.by_) ∧ v.cell? ⟨M, 6, none⟩ = some (.int .i64 k.sh) ∧ Below w3.heap.size w3 v)
        ((first | exact S1.out _ ((Below.refl _ w3).drew.trans hc) | exact S1.out _ (Below.refl _ w3).drew))
        (first
          | (go_at_call 60; refine (SH.out _).mono ?_; rintro e w4 ⟨rfl, hc⟩)
          | fail)
      go_wp2
      go_ret
      exact ⟨rfl, HBE.out _ ((Below.refl _ w3).drew.trans hc)⟩
  · rw [show mayC k.gc true (sumL ps) (sumL qs) ⟨ps.getD j 0, qs.getD j 0, (fs.getD j Fl.nil).cp⟩ n = roomC k.gc true (sumL ps) (sumL qs) ⟨ps.getD j 0, qs.getD j 0, (fs.getD j Fl.nil).cp⟩ n by unfold mayC; rw [if_neg hz]]
    generalize roomC k.gc true (sumL ps) (sumL qs) ⟨ps.getD j 0, qs.getD j 0, (fs.getD j Fl.nil).cp⟩ n = rc at *
    clear h f hr h1 h2
    go_enter Try.func21, Try.ntmps21
    go_wp2_with fail
    refine FT.out.mono ?_
    rintro e w1 ⟨rfl, hb⟩
    have HB := Lib.hid hb
    clear hb
    go_wp2
    go_ret
    exact ⟨rfl, HB.out⟩
end
end Go.Proofs.Ytiogfgkfipekbaa
