/-
  The document's answer for layer 17: why a configuration may not be (Check); a gate of one (New). No condition but that New's configuration has at most 100 flows.
-/
import Derived.Test.YtiogfgkfipekbaaRA17
namespace Go.Proofs.Ytiogfgkfipekbaa
set_option linter.unusedVariables false
set_option linter.unusedSimpArgs false
open Go.ChangeShapes Go.WideShapes Go.ChangeAt Go.RowKit
attribute [local go_sem] alloc_drewN setCell_drewN

set_option maxRecDepth 100000 in
set_option maxHeartbeats 2000000 in
theorem check17 (r bk lv qu pk by_ sh mtu rate burst : Int) (a : Option Addr) (n cc : Nat) (fs : List Fl) (b0 : 0 ≤ by_) (b1 : by_ ≤ 18446744073709551615) (m0 : 0 ≤ mtu) (w : World) (hr : RowFl w a n fs) : Calls Try.prog 11 #[.agg #[.int .i64 r, .int .i64 bk, .int .i64 lv, .int .i64 qu, .int .i64 pk, .int .u64 by_, .int .i64 sh, .int .u64 mtu, .int .u64 rate, .int .u64 burst, .slice a n cc]] w fun e w' => e = .returned (.int .i64 (chkC pk by_ sh mtu n fs)) ∧ Below w.heap.size w w' := by
  obtain ⟨W0, hW0⟩ : ∃ W0, w.alloc (.cells #[.int .i64 r, .int .i64 bk, .int .i64 lv, .int .i64 qu, .int .i64 pk, .int .u64 by_, .int .i64 sh, .int .u64 mtu, .int .u64 rate, .int .u64 burst, .slice a n cc] 25) = W0 := ⟨_, rfl⟩
  have hc : W0.heap[w.heap.size]? = some (.cells #[.int .i64 r, .int .i64 bk, .int .i64 lv, .int .i64 qu, .int .i64 pk, .int .u64 by_, .int .i64 sh, .int .u64 mtu, .int .u64 rate, .int .u64 burst, .slice a n cc] 25 (0, 0)) := by rw [← hW0]; exact heap_alloc_new w _
  have bb : Below w.heap.size w W0 := by rw [← hW0]; exact (Below.refl _ w).alloc (Nat.le_refl _) _
  have HC := Lib.hid hc; have BB := Lib.hid bb
  have FL := Lib.hid (fun (u : World) (hu : Below w.heap.size w u) => flows17 (rowfl_below hr hu) cc)
  clear hr
  unfold chkC
  obtain ⟨c0, c1, c2, c3, c4, c5, c6, c7, c8, c9, c10⟩ := cells11 hc
  clear hc bb
  by_cases h1 : pk < 1
  · rw [capsC_no (fun h => by omega), if_pos rfl]
    go_enter Try.func11, Try.ntmps11
    go_wp2
    go_ret
    exact ⟨rfl, BB.out⟩
  · skip
    by_cases h2 : 4096 < pk
    · rw [capsC_no (fun h => by omega), if_pos rfl]
      go_enter Try.func11, Try.ntmps11
      go_wp2
      go_ret
      exact ⟨rfl, BB.out⟩
    · skip
      by_cases h3 : by_ = 0
      · rw [capsC_no (fun h => by omega), if_pos rfl]
        subst h3
        go_enter Try.func11, Try.ntmps11
        go_wp2
        go_ret
        exact ⟨rfl, BB.out⟩
      · skip
        by_cases h4 : sh < 0
        · rw [capsC_no (fun h => by omega), if_pos rfl]
          go_enter Try.func11, Try.ntmps11
          go_wp2
          go_ret
          exact ⟨rfl, BB.out⟩
        · skip
          by_cases h5 : 16 < sh
          · rw [capsC_no (fun h => by omega), if_pos rfl]
            go_enter Try.func11, Try.ntmps11
            go_wp2
            go_ret
            exact ⟨rfl, BB.out⟩
          · skip
            obtain ⟨k, rfl⟩ : ∃ k : Nat, sh = k := ⟨sh.toNat, by omega⟩
            have hk : k ≤ 16 := by omega
            have hcaps : capsC pk by_ (k : Int) = decide (by_ ≤ 18446744073709551615 / 2 ^ k) := by
              by_cases h6 : by_ ≤ 18446744073709551615 / 2 ^ k
              · rw [capsC_iff.2 ⟨by omega, by omega, by omega, by omega, by omega, by rw [Int.toNat_natCast]; exact h6⟩, decide_eq_true h6]
              · rw [capsC_no (fun h => h6 (by have := h.2.2.2.2.2; rw [Int.toNat_natCast] at this; exact this)), decide_eq_false h6]
            have p0 := pow2_pos k
            have e0 : 0 ≤ (18446744073709551615 : Int) / 2 ^ k := Int.ediv_nonneg (by decide) (by omega)
            have e1 : (18446744073709551615 : Int) / 2 ^ k ≤ 18446744073709551615 := Int.ediv_le_self _ (by decide)
            have PW := Lib.hid (fun i (hi : i ≤ k) => (⟨pow2_pos i, pow2_le hi, pow2_succ i⟩ : 0 < (2 : Int) ^ i ∧ (2 : Int) ^ i ≤ 2 ^ k ∧ (2 : Int) ^ (i + 1) = 2 * 2 ^ i))
            have PK := Lib.hid (show (2 : Int) ^ k ≤ 65536 by have := pow2_le hk; have e : (2 : Int) ^ 16 = 65536 := by decide
                                                              omega)
            have htd : Int.tdiv 18446744073709551615 (2 ^ k) = 18446744073709551615 / 2 ^ k := Int.tdiv_eq_ediv_of_nonneg (by decide)
            rw [hcaps]
            clear hcaps
            obtain ⟨RES, hRES⟩ : ∃ RES : Int, (if decide (by_ ≤ 18446744073709551615 / 2 ^ k) = false then 25 else if mtu < 1 then 26 else if 65535 < mtu then 26 else tabC fs n) = RES := ⟨_, rfl⟩
            have R1 := Lib.hid (show ¬ by_ ≤ 18446744073709551615 / 2 ^ k → RES = 25 from fun h => by rw [← hRES, decide_eq_false h, if_pos rfl])
            have R2 := Lib.hid (show by_ ≤ 18446744073709551615 / 2 ^ k → mtu < 1 → RES = 26 from fun h h2 => by rw [← hRES, decide_eq_true h, if_neg (by decide), if_pos h2])
            have R3 := Lib.hid (show by_ ≤ 18446744073709551615 / 2 ^ k → ¬ mtu < 1 → 65535 < mtu → RES = 26 from fun h h2 h3 => by rw [← hRES, decide_eq_true h, if_neg (by decide), if_neg h2, if_pos h3])
            have R4 := Lib.hid (show by_ ≤ 18446744073709551615 / 2 ^ k → ¬ mtu < 1 → ¬ 65535 < mtu → tabC fs n = RES from fun h h2 h3 => by rw [← hRES, decide_eq_true h, if_neg (by decide), if_neg h2, if_neg h3])
            rw [hRES]
            clear hRES
            have Z1 := Lib.hid (show (2 : Int) ^ 0 = 1 from rfl)
            go_enter Try.func11, Try.ntmps11
            go_wp2
            go_loopw [3, 4] (fun zp zi wr => ∃ i : Nat, i ≤ k ∧ zi = .int .i64 i ∧ zp = .int .u64 (2 ^ i) ∧ wr = W0) (fun _ zi _ => k - (intOf zi).toNat)
            case atStart => exact ⟨0, Nat.zero_le _, rfl, rfl, by first | rfl | assumption⟩
            case round =>
              obtain ⟨i, hi, rfl, rfl, rfl⟩ := hrel
              by_cases hlt : i < k
              · obtain ⟨q0, q1, q2⟩ := PW.out i hi
                obtain ⟨q3, q4, -⟩ := PW.out (i + 1) (by omega)
                have q5 := PK.out
                have Q2 := Lib.hid q2
                rw [q2] at q3 q4
                clear q2 htd e0 e1
                generalize (2 : Int) ^ i = x at *
                have hw : IntKind.u64.wrap (x * 2) = x * 2 := by
                  rw [IntKind.wrap_u64]; omega
                have zlt : (i : Int) < k := by omega
                have zi0 : (0 : Int) ≤ i := by omega
                go_wp2
                go_roundw
                case rel => exact ⟨i + 1, by omega, by go_num, by rw [Q2.out, Int.mul_comm], by first | rfl | trivial⟩
                case measure => simp [intOf] <;> omega
              · obtain rfl : i = k := by omega
                have q5 := PK.out
                have hw : IntKind.u64.wrap (18446744073709551615 / 2 ^ i) = 18446744073709551615 / 2 ^ i := by rw [IntKind.wrap_u64]; omega
                have p1 : ¬ (2 : Int) ^ i = 0 := by omega
                generalize (18446744073709551615 : Int) / 2 ^ i = Q at *
                generalize (2 : Int) ^ i = P at *
                by_cases h6 : by_ ≤ Q
                · have g6 : decide (by_ ≤ Q) = true := decide_eq_true h6
                  have g7 : decide (Q < by_) = false := decide_eq_false (by omega)
                  have g8 : ¬ Q < by_ := by omega
                  by_cases h7 : mtu < 1
                  · have RR := Lib.hid (R2.out (by omega) (by omega))
                    go_wp2
                    go_quiet (fail)
                    go_wp2
                    go_ret
                    exact ⟨by rw [RR.out]; rfl, below_drewN _ BB.out⟩
                  · skip
                    by_cases h8 : 65535 < mtu
                    · have RR := Lib.hid (R3.out (by omega) (by omega) (by omega))
                      go_wp2
                      go_quiet (fail)
                      go_wp2
                      go_ret
                      exact ⟨by rw [RR.out]; rfl, below_drewN _ BB.out⟩
                    · have RR := Lib.hid (R4.out (by omega) (by omega) (by omega))
                      go_wp2
                      go_quiet (fail)
                      generalize hw2 : wr.drewN nq = w2
                      have HB2 := Lib.hid (show Below w.heap.size w w2 by rw [← hw2]; exact below_drewN _ BB.out)
                      have HC2 := Lib.hid (show w2.heap[w.heap.size]? = some (.cells #[.int .i64 r, .int .i64 bk, .int .i64 lv, .int .i64 qu, .int .i64 pk, .int .u64 by_, .int .i64 i, .int .u64 mtu, .int .u64 rate, .int .u64 burst, .slice a n cc] 25 (0, 0)) by rw [← hw2]; exact HC.out)
                      clear hw2 c0 c1 c2 c3 c4 c5 c6 c7 c8 c9 c10
                      obtain ⟨c0, c1, c2, c3, c4, c5, c6, c7, c8, c9, c10⟩ := cells11 HC2.out
                      go_wp2_with fail
                      refine (FL.out _ HB2.out).mono ?_
                      rintro e w3 ⟨rfl, hb3⟩
                      have HB3 := Lib.hid (HB2.out.trans (hb3.mono HB2.out.size))
                      clear hb3
                      go_wp2
                      go_ret
                      exact ⟨by rw [RR.out]; rfl, HB3.out⟩
                · have g6 : decide (by_ ≤ Q) = false := decide_eq_false h6
                  have g7 : decide (Q < by_) = true := decide_eq_true (by omega)
                  have g8 : Q < by_ := by omega
                  have RR := Lib.hid (R1.out (by omega))
                  go_wp2
                  go_quiet (fail)
                  go_wp2
                  go_ret
                  exact ⟨by rw [RR.out]; rfl, below_drewN _ BB.out⟩
section
variable {w : World} {base M : Nat} {k : Cf} {vp vb : Value} {ps qs : List Int}
theorem R17At.growP (h : R17At w base M k vp vb ps qs) (x : Int) (w1 w3 : World) (v' : Value) (hb1 : Below w.heap.size w w1)
    (ho : w3.ownsRow base 3 1 v' (ps.length + 1) (ps.map (Value.int .i64) ++ [.int .i64 x])) (hg : w1.grownBy w3 vp.ownBlock) (hbase : base ≤ w.heap.size) :
    R17At (w3.setCell ⟨M, 11, none⟩ v') base M k v' vb (ps ++ [x]) qs ∧ Below base w (w3.setCell ⟨M, 11, none⟩ v') := by
  have hM := h.inlt (Or.inl rfl)
  have hb : w3.heap[M]? = some (.cells #[.int .i64 k.r, .int .i64 k.bk, .int .i64 k.lv, .int .i64 k.qu, .int .i64 k.pk, .int .u64 k.by_, .int .i64 k.sh, .int .u64 k.mtu, .int .u64 k.rate, .int .u64 k.burst, .slice k.a k.n k.cc, vp, vb] 111 (0, 0)) := (hg.block M (Nat.lt_of_lt_of_le hM.2 hb1.size) (fun e => h.ne.1 e.symm)).trans ((hb1.block M hM.2).trans h.blk)
  have hne : v'.ownBlock ≠ some M := own_ne_blk ho hb (by decide)
  have hh : ∀ j, j ≠ M → (w3.setCell ⟨M, 11, none⟩ v').heap[j]? = w3.heap[j]? := fun j hj => Below.heap_setCell w3 ⟨M, 11, none⟩ v' j hj
  refine ⟨⟨by simpa using heap_set hb 11 v', h.low, ?_, ?_⟩, ?_⟩
  · rw [List.length_append, List.map_append]
    exact own_kept17 ho (fun j hj => hh j (fun e => hne (e ▸ hj)))
  · refine own_kept17 h.oq (fun j hj => (hh j (fun e => h.ne.2 (e ▸ hj))).trans ((hg.block j (Nat.lt_of_lt_of_le (h.inlt (Or.inr (Or.inr hj))).2 hb1.size) (fun e => ?_)).trans (hb1.block j (h.inlt (Or.inr (Or.inr hj))).2)))
    rcases row_apart h.op h.oq (by decide) with h1 | h1
    · rw [← e] at h1; cases h1
    · exact h1 (e.symm.trans hj.symm)
  · refine ⟨hg.os.trans hb1.os, hg.tape.trans hb1.tape, hg.output.trans hb1.output, ?_, fun j hj => ?_⟩
    · simpa [World.setCell] using Nat.le_trans hb1.size hg.size
    · refine (hh j (fun e => by have := hM.1; omega)).trans ((hg.block j (Nat.lt_of_lt_of_le (by omega) hb1.size) (fun e => ?_)).trans (hb1.block j (by omega)))
      have := (h.inlt (Or.inr (Or.inl e.symm))).1
      omega
theorem R17At.growQ (h : R17At w base M k vp vb ps qs) (x : Int) (w1 w3 : World) (v' : Value) (hb1 : Below w.heap.size w w1)
    (ho : w3.ownsRow base 22 1 v' (qs.length + 1) (qs.map (Value.int .u64) ++ [.int .u64 x])) (hg : w1.grownBy w3 vb.ownBlock) (hbase : base ≤ w.heap.size) :
    R17At (w3.setCell ⟨M, 12, none⟩ v') base M k vp v' ps (qs ++ [x]) ∧ Below base w (w3.setCell ⟨M, 12, none⟩ v') := by
  have hM := h.inlt (Or.inl rfl)
  have hb : w3.heap[M]? = some (.cells #[.int .i64 k.r, .int .i64 k.bk, .int .i64 k.lv, .int .i64 k.qu, .int .i64 k.pk, .int .u64 k.by_, .int .i64 k.sh, .int .u64 k.mtu, .int .u64 k.rate, .int .u64 k.burst, .slice k.a k.n k.cc, vp, vb] 111 (0, 0)) := (hg.block M (Nat.lt_of_lt_of_le hM.2 hb1.size) (fun e => h.ne.2 e.symm)).trans ((hb1.block M hM.2).trans h.blk)
  have hne : v'.ownBlock ≠ some M := own_ne_blk ho hb (by decide)
  have hh : ∀ j, j ≠ M → (w3.setCell ⟨M, 12, none⟩ v').heap[j]? = w3.heap[j]? := fun j hj => Below.heap_setCell w3 ⟨M, 12, none⟩ v' j hj
  refine ⟨⟨by simpa using heap_set hb 12 v', h.low, ?_, ?_⟩, ?_⟩
  · refine own_kept17 h.op (fun j hj => (hh j (fun e => h.ne.1 (e ▸ hj))).trans ((hg.block j (Nat.lt_of_lt_of_le (h.inlt (Or.inr (Or.inl hj))).2 hb1.size) (fun e => ?_)).trans (hb1.block j (h.inlt (Or.inr (Or.inl hj))).2)))
    rcases row_apart h.oq h.op (by decide) with h1 | h1
    · rw [← e] at h1; cases h1
    · exact h1 (e.symm.trans hj.symm)
  · rw [List.length_append, List.map_append]
    exact own_kept17 ho (fun j hj => hh j (fun e => hne (e ▸ hj)))
  · refine ⟨hg.os.trans hb1.os, hg.tape.trans hb1.tape, hg.output.trans hb1.output, ?_, fun j hj => ?_⟩
    · simpa [World.setCell] using Nat.le_trans hb1.size hg.size
    · refine (hh j (fun e => by have := hM.1; omega)).trans ((hg.block j (Nat.lt_of_lt_of_le (by omega) hb1.size) (fun e => ?_)).trans (hb1.block j (by omega)))
      have := (h.inlt (Or.inr (Or.inr e.symm))).1
      omega
end
section
variable {w : World} {base M : Nat} {k : Cf} {vp vb : Value} {ps qs : List Int}
theorem R17At.kp (h : R17At w base M k vp vb ps qs) {u : Obj} {w3 : World} (hg : (w.alloc u).grownBy w3 vp.ownBlock) : w3.cell? ⟨M, 11, none⟩ = some vp ∧ w3.frozen? ⟨M, 11, none⟩ = false := by
  have hM := (h.inlt (Or.inl rfl)).2
  have e1 := (hg.block M (by simp; omega) (fun e => h.ne.1 e.symm)).trans ((heap_alloc_old w u hM).trans h.blk)
  exact ⟨cell_of_row w3 M 11 _ _ (0, 0) e1, frozen_of_row w3 M 11 _ _ e1⟩
theorem R17At.kq (h : R17At w base M k vp vb ps qs) {u : Obj} {w3 : World} (hg : (w.alloc u).grownBy w3 vb.ownBlock) : w3.cell? ⟨M, 12, none⟩ = some vb ∧ w3.frozen? ⟨M, 12, none⟩ = false := by
  have hM := (h.inlt (Or.inl rfl)).2
  have e1 := (hg.block M (by simp; omega) (fun e => h.ne.2 e.symm)).trans ((heap_alloc_old w u hM).trans h.blk)
  exact ⟨cell_of_row w3 M 12 _ _ (0, 0) e1, frozen_of_row w3 M 12 _ _ e1⟩
end
theorem cells_one17 (W : World) (b : Nat) (hb : b = W.heap.size) (v : Value) (t : TypeId) : ∀ j u, [v][j]? = some u → (W.alloc (.cells #[v] t)).cell? ((⟨b, 0, none⟩ : Addr).add j) = some u := by subst hb; exact cells_one6 W v t
theorem rep_more17 (i : Nat) : List.replicate (i + 1) (0 : Int) = List.replicate i 0 ++ [0] := by rw [← List.replicate_append_replicate]; rfl
set_option maxRecDepth 100000 in
set_option maxHeartbeats 4000000 in
theorem new17 (r bk lv qu pk by_ sh mtu rate burst : Int) (a : Option Addr) (n cc : Nat) (hn : n ≤ 100) (w : World) : Calls Try.prog 13 #[.agg #[.int .i64 r, .int .i64 bk, .int .i64 lv, .int .i64 qu, .int .i64 pk, .int .u64 by_, .int .i64 sh, .int .u64 mtu, .int .u64 rate, .int .u64 burst, .slice a n cc]] w fun e w' => ∃ M vp vb, e = .returned (.pointer (some ⟨M, 0, none⟩)) ∧ R17At w' w.heap.size M ⟨r, bk, lv, qu, pk, by_, sh, mtu, rate, burst, a, n, cc⟩ vp vb (List.replicate n 0) (List.replicate n 0) ∧ Below w.heap.size w w' := by
  obtain ⟨i0, hif, hz0, hz1, hz2⟩ := info_parts infoInt
  obtain ⟨j0, jif, jz0, jz1, jz2⟩ := info_parts infoU
  obtain ⟨K, hK⟩ : ∃ K : Cf, (⟨r, bk, lv, qu, pk, by_, sh, mtu, rate, burst, a, n, cc⟩ : Cf) = K := ⟨_, rfl⟩
  obtain ⟨W0, hW0⟩ : ∃ W0, w.alloc (.cells #[.int .i64 r, .int .i64 bk, .int .i64 lv, .int .i64 qu, .int .i64 pk, .int .u64 by_, .int .i64 sh, .int .u64 mtu, .int .u64 rate, .int .u64 burst, .slice a n cc] 25) = W0 := ⟨_, rfl⟩
  have hs : W0.heap.size = w.heap.size + 1 := by rw [← hW0]; simp
  obtain ⟨W1, hW1⟩ : ∃ W1, W0.alloc (.cells #[.int .i64 r, .int .i64 bk, .int .i64 lv, .int .i64 qu, .int .i64 pk, .int .u64 by_, .int .i64 sh, .int .u64 mtu, .int .u64 rate, .int .u64 burst, .slice a n cc, .slice none 0 0, .slice none 0 0] 111) = W1 := ⟨_, rfl⟩
  have hc0 : W0.heap[w.heap.size]? = some (.cells #[.int .i64 r, .int .i64 bk, .int .i64 lv, .int .i64 qu, .int .i64 pk, .int .u64 by_, .int .i64 sh, .int .u64 mtu, .int .u64 rate, .int .u64 burst, .slice a n cc] 25 (0, 0)) := by rw [← hW0]; exact heap_alloc_new w _
  have hc : W1.heap[w.heap.size]? = some (.cells #[.int .i64 r, .int .i64 bk, .int .i64 lv, .int .i64 qu, .int .i64 pk, .int .u64 by_, .int .i64 sh, .int .u64 mtu, .int .u64 rate, .int .u64 burst, .slice a n cc] 25 (0, 0)) := by rw [← hW1]; exact (heap_alloc_old W0 _ (by omega)).trans hc0
  have R0 := Lib.hid (show R17At W1 (w.heap.size + 1) (w.heap.size + 1) K (.slice none 0 0) (.slice none 0 0) [] [] by
    rw [← hW1, ← hK]
    exact ⟨by rw [← hs]; exact heap_alloc_new W0 _, Nat.le_refl _, World.ownsRow_nil _ _ _ _, World.ownsRow_nil _ _ _ _⟩)
  have B0 := Lib.hid (show Below w.heap.size w W1 by rw [← hW1, ← hW0]; exact ((Below.refl _ w).alloc (Nat.le_refl _) _).alloc (by simp) _)
  have HC := Lib.hid hc
  have HS := Lib.hid (show w.heap.size + 1 < W1.heap.size by rw [← hW1]; simp; omega)
  obtain ⟨c0, c1, c2, c3, c4, c5, c6, c7, c8, c9, c10⟩ := cells11 hc0
  rw [hK]
  clear hK hc hc0
  go_enter Try.func13, Try.ntmps13
  go_wp2
  go_loopw [4] (fun z wr => ∃ (i : Nat) (vp vb : Value), i ≤ n ∧ z = .int .i64 i ∧ R17At wr (w.heap.size + 1) (w.heap.size + 1) K vp vb (List.replicate i 0) (List.replicate i 0) ∧ Below (w.heap.size + 1) W1 wr) (fun z _ => n - (intOf z).toNat)
  case atStart => exact ⟨0, _, _, Nat.zero_le _, rfl, by first | exact R0.out | (subst hW0; subst hW1; exact R0.out), by first | exact Below.refl _ _ | (subst hW0; subst hW1; exact Below.refl _ _)⟩
  case round =>
    obtain ⟨i, vp, vb, hi, rfl, h, hb⟩ := hrel
    have HH := Lib.hid h; have HB := Lib.hid hb
    have hcr := (hb.block w.heap.size (by omega)).trans HC.out
    clear c0 c1 c2 c3 c4 c5 c6 c7 c8 c9 c10
    obtain ⟨c0, c1, c2, c3, c4, c5, c6, c7, c8, c9, c10⟩ := cells11 hcr
    clear hcr
    by_cases hlt : i < n
    · have z0 : (0 : Int) ≤ i := by omega
      have z1 : (i : Int) < n := by omega
      have HN := Lib.hid (rep_more17 i)
      have LE := Lib.hid (show (List.replicate i (0 : Int)).length = i from List.length_replicate)
      obtain ⟨ts, hts⟩ : ∃ ts, List.replicate i (0 : Int) = ts := ⟨_, rfl⟩
      rw [hts] at HH HN LE
      obtain ⟨ao, co, hve⟩ := row_slice HH.out.op
      obtain ⟨aq, cq, hvq⟩ := row_slice HH.out.oq
      subst hve; subst hvq
      obtain ⟨-, -, -, -, -, c11, c12, f11, f12⟩ := HH.out.cell
      rw [LE.out] at c11 c12
      have hM := (HH.out.inlt (Or.inl rfl)).2
      have HS := Lib.hid (show w.heap.size + 1 ≤ wr.heap.size by omega)
      have OT := Lib.hid (show wr.ownsRow (w.heap.size + 1) 3 1 (.slice ao i co) i (ts.map (Value.int .i64)) by have := HH.out.op; rw [LE.out] at this; exact this)
      have KB := Lib.hid (fun (u : Obj) (w3 : World) (v3 : Value) (ho : w3.ownsRow (w.heap.size + 1) 3 1 v3 (i + 1) (ts.map (Value.int .i64) ++ [.int .i64 0])) (hg : (wr.alloc u).grownBy w3 (Value.slice ao i co).ownBlock) =>
        have hg' : (wr.alloc u).grownBy w3 (Value.slice ao ts.length co).ownBlock := by rw [LE.out]; exact hg
        (⟨(HH.out.kp hg').1, (HH.out.kp hg').2, HH.out.growP 0 _ w3 v3 ((Below.refl _ wr).alloc (Nat.le_refl _) _) (by rw [LE.out]; exact ho) hg' HS.out⟩ : w3.cell? ⟨w.heap.size + 1, 11, none⟩ = some (.slice ao ts.length co) ∧ w3.frozen? ⟨w.heap.size + 1, 11, none⟩ = false ∧ _ ∧ _))
      have KQ := Lib.hid (fun (W : World) (v3 : Value) (hR : R17At W (w.heap.size + 1) (w.heap.size + 1) K v3 (.slice aq ts.length cq) (ts ++ [0]) ts) (hS : w.heap.size + 1 ≤ W.heap.size) (u : Obj) (w5 : World) (v5 : Value) (ho : w5.ownsRow (w.heap.size + 1) 22 1 v5 (i + 1) (ts.map (Value.int .u64) ++ [.int .u64 0])) (hg : (W.alloc u).grownBy w5 (Value.slice aq i cq).ownBlock) =>
        have hg' : (W.alloc u).grownBy w5 (Value.slice aq ts.length cq).ownBlock := by rw [LE.out]; exact hg
        (⟨(hR.kq hg').1, (hR.kq hg').2, hR.growQ 0 _ w5 v5 ((Below.refl _ W).alloc (Nat.le_refl _) _) (by rw [LE.out]; exact ho) hg' hS⟩ : w5.cell? ⟨w.heap.size + 1, 12, none⟩ = some (.slice aq ts.length cq) ∧ w5.frozen? ⟨w.heap.size + 1, 12, none⟩ = false ∧ _ ∧ _))
      have OQ := Lib.hid (fun (W : World) (v3 : Value) (hR : R17At W (w.heap.size + 1) (w.heap.size + 1) K v3 (.slice aq ts.length cq) (ts ++ [0]) ts) => (show W.ownsRow (w.heap.size + 1) 22 1 (.slice aq i cq) i (ts.map (Value.int .u64)) by have := hR.oq; rw [LE.out] at this; exact this))
      have CQ := Lib.hid (fun (W : World) (v3 : Value) (hR : R17At W (w.heap.size + 1) (w.heap.size + 1) K v3 (.slice aq ts.length cq) (ts ++ [0]) ts) => (show W.cell? ⟨w.heap.size + 1, 12, none⟩ = some (.slice aq i cq) by have := hR.cell.2.2.2.2.2.2.1; rw [LE.out] at this; exact this))
      have FIN := Lib.hid (fun (W9 : World) (vp9 vb9 : Value) (hR : R17At W9 (w.heap.size + 1) (w.heap.size + 1) K vp9 vb9 (ts ++ [0]) (ts ++ [0])) => (show R17At W9 (w.heap.size + 1) (w.heap.size + 1) K vp9 vb9 (List.replicate (i + 1) 0) (List.replicate (i + 1) 0) by rw [HN.out]; exact hR))
      have HW := Lib.hid hb.size
      clear h hb hts
      go_wp2_with (first
        | (at_builtin; refine wpList_append_own_at _ rfl _ _ 78 rfl (w.heap.size + 1) 3 i0 (.int .i64 0) 1 8 Try.underlying78 hif hz0 hz1 hz2 rfl (by decide) (.slice ao i co) _ _ rfl (OT.out.alloc _) ⟨wr.heap.size, 0, none⟩ 1 1 [.int .i64 0] rfl rfl (cells_one6 _ _ _) (fun x hx => by simp at hx; subst hx; rfl) (by unfold maxLen; omega) (by omega) (by simp; omega) ?_; intro v3 w3 ho3 hg3 hn3 hat3; clear hn3 hat3; have K3 := Lib.hid (KB.out _ w3 v3 ho3 hg3); obtain ⟨kc, kf, -, -⟩ := K3.out; rw [LE.out] at kc; have R3 := Lib.hid K3.out.2.2.1; have B3 := Lib.hid K3.out.2.2.2; have q12 := CQ.out _ v3 R3.out; have S3 := Lib.hid (show w.heap.size + 1 ≤ (w3.setCell ⟨w.heap.size + 1, 11, none⟩ v3).heap.size from Nat.le_trans HS.out B3.out.size); obtain ⟨a3, c3, rfl⟩ := row_slice ho3; clear ho3 hg3 K3)
        | (at_builtin; refine wpList_append_own_at _ rfl _ _ 58 rfl (w.heap.size + 1) 22 j0 (.int .u64 0) 1 8 Try.underlying58 jif jz0 jz1 jz2 rfl (by decide) (.slice aq i cq) _ _ rfl ((OQ.out _ _ R3.out).alloc _) ⟨w3.heap.size, 0, none⟩ 1 1 [.int .u64 0] rfl rfl (cells_one17 _ w3.heap.size (by simp [World.setCell]) _ _) (fun x hx => by simp at hx; subst hx; rfl) (by unfold maxLen; omega) (by omega) (by have := S3.out; simp; simp at this; omega) ?_; intro v5 w5 ho5 hg5 hn5 hat5; clear hn5 hat5; have K5 := Lib.hid (KQ.out _ _ R3.out S3.out _ w5 v5 ho5 hg5); obtain ⟨qc, qf, -, -⟩ := K5.out; rw [LE.out] at qc; have R5 := Lib.hid K5.out.2.2.1; have B5 := Lib.hid K5.out.2.2.2; obtain ⟨a5, c5', rfl⟩ := row_slice ho5; clear ho5 hg5 K5))
      go_roundw
      case rel => exact ⟨i + 1, _, _, by omega, by go_num, FIN.out _ _ _ R5.out, (HB.out.trans B3.out).trans B5.out⟩
      case measure => simp [intOf] <;> omega
    · obtain rfl : i = n := by omega
      have HBE := Lib.hid (B0.out.trans (HB.out.mono (by omega)))
      clear h hb
      go_wp2
      go_ret
      exact ⟨_, _, _, rfl, ⟨HH.out.blk, by have := HH.out.low; omega, own_low17 HH.out.op (by omega), own_low17 HH.out.oq (by omega)⟩, HBE.out⟩
end Go.Proofs.Ytiogfgkfipekbaa
