/-
  The law of layer 17 beside the document's answer: true for any configuration and acts. No condition.
-/
import Derived.Test.YtiogfgkfipekbaaAd17b
import Derived.Test.YtiogfgkfipekbaaAdm6
import Derived.Test.YtiogfgkfipekbaaOpen17
import Derived.Deep.RegionWith
import Derived.Deep.RegionHeld3
import Derived.Deep.CutBlock
import Derived.Deep.DeepCutAuto
namespace Go.Proofs.Ytiogfgkfipekbaa
set_option linter.unusedVariables false
set_option linter.unusedSimpArgs false
open Go.ChangeShapes Go.WideShapes Go.ChangeAt Go.RowKit
attribute [local go_sem] alloc_drewN setCell_drewN

theorem act_at17 {w : World} {b : Nat} {v0 v1 v2 : Value} {t : TypeId} (h : w.heap[b]? = some (.cells #[v0, v1, v2] t (0, 0))) : w.cell? ⟨b, 0, none⟩ = some v0 ∧ w.cell? ⟨b, 1, none⟩ = some v1 ∧ w.cell? ⟨b, 2, none⟩ = some v2 :=
  ⟨cell_of_row w b 0 _ _ (0, 0) h, cell_of_row w b 1 _ _ (0, 0) h, cell_of_row w b 2 _ _ (0, 0) h⟩
theorem chk_zero {pk by_ sh mtu : Int} {n : Nat} {fs : List Fl} (h : chkC pk by_ sh mtu n fs = 0) : distF fs n ∧ 1 ≤ n ∧ n ≤ 64 := by
  unfold chkC at h
  split at h
  · omega
  · split at h
    · omega
    · split at h
      · omega
      · unfold tabC at h
        split at h
        · omega
        · split at h
          · omega
          · split at h
            · omega
            · rename_i h1 h2 h3
              exact ⟨dist_dup.2 (by simpa using h3), by omega, by omega⟩
theorem start17 {w1 w2 : World} {base G T B M : Nat} {k : Cf} {v vp vb : Value} {es : List FeP} {bl : Int → Nat} {ds : Int → Dt} {fs : List Fl} (g1 : AdAt w1 base G T k.n v es bl ds k.gc 0 0) (hall : ∀ j, j < k.n → ∃ e ∈ es, e.id = (fs.getD j Fl.nil).id) (hdat : ∀ e ∈ es, (ds e.id).pk = 0 ∧ (ds e.id).by_ = 0 ∧ ∃ j, j < k.n ∧ (fs.getD j Fl.nil).id = e.id ∧ (ds e.id).most = (fs.getD j Fl.nil).cp) (hbw : base ≤ w1.heap.size) (hb : Below w1.heap.size w1 w2) (hM : R17At w2 B M k vp vb (List.replicate k.n 0) (List.replicate k.n 0)) (hB : base ≤ B) (hk : chkC k.pk k.by_ k.sh k.mtu k.n fs = 0) (hl : fs.length = k.n) : Pair17 base w1 w2 G M k fs := by
  obtain ⟨hd, n1, n2⟩ := chk_zero hk
  refine ⟨T, v, es, bl, ds, 0, 0, vp, vb, _, _, ⟨⟨g1.below hb, fun e he => by rw [(hdat e he).2.1]; exact (g1.dat e he).2.2.2.2.2.1, ?_, ?_⟩, ⟨hM.blk, Nat.le_trans hB hM.low, own_low17 hM.op hB, own_low17 hM.oq hB⟩⟩, Rl17.start hl hd ?_ ?_ ?_, hb.mono hbw, hbw, n2⟩
  · have := g1.cok.1.1; omega
  · have := g1.cok.2.1.1; omega
  · intro j hj
    obtain ⟨e, he, hi⟩ := hall j hj
    rw [← hi]
    exact (mem_isFP g1.tab.so he).1
  · intro id hf
    obtain ⟨e, he, hi, -⟩ := entry_of hf
    obtain ⟨-, -, j, hj, h1, -⟩ := hdat e he
    exact ⟨j, hj, h1.trans hi⟩
  · intro j hj
    obtain ⟨e, he, hi⟩ := hall j hj
    obtain ⟨h1, h2, j2, hj2, h3, h4⟩ := hdat e he
    rw [hi] at h1 h2 h3 h4
    obtain rfl := dist_un hd hj2 hj h3
    exact ⟨h1, h2, h4⟩
set_option maxRecDepth 100000 in
set_option maxHeartbeats 4000000 in
theorem plays17_long (r bk lv qu pk by_ sh mtu rate burst : Int) (a : Option Addr) (n cc : Nat) (fs : List Fl) (b0 : 0 ≤ by_) (b1 : by_ ≤ 18446744073709551615) (m0 : 0 ≤ mtu) (aa : Option Addr) (nn ca : Nat) (as_ : List Act17) (w : World) (hr : RowFl w a n fs) (ha : RowA17 w aa nn as_) (hnn : 100 < n ∨ 200 < nn) (hml : n ≤ maxLen) (hml2 : nn ≤ maxLen) :
    Calls Try.prog 3 #[.agg #[.int .i64 r, .int .i64 bk, .int .i64 lv, .int .i64 qu, .int .i64 pk, .int .u64 by_, .int .i64 sh, .int .u64 mtu, .int .u64 rate, .int .u64 burst, .slice a n cc], .slice aa nn ca] w fun e w' => e = .returned (.bool true) ∧ Below w.heap.size w w' := by
  obtain ⟨W0, hW0⟩ : ∃ W0, w.alloc (.cells #[.int .i64 r, .int .i64 bk, .int .i64 lv, .int .i64 qu, .int .i64 pk, .int .u64 by_, .int .i64 sh, .int .u64 mtu, .int .u64 rate, .int .u64 burst, .slice a n cc] 25) = W0 := ⟨_, rfl⟩
  have hc : W0.heap[w.heap.size]? = some (.cells #[.int .i64 r, .int .i64 bk, .int .i64 lv, .int .i64 qu, .int .i64 pk, .int .u64 by_, .int .i64 sh, .int .u64 mtu, .int .u64 rate, .int .u64 burst, .slice a n cc] 25 (0, 0)) := by rw [← hW0]; exact heap_alloc_new w _
  have bb : Below w.heap.size w W0 := by rw [← hW0]; exact (Below.refl _ w).alloc (Nat.le_refl _) _
  have HC := Lib.hid hc; have BB := Lib.hid bb
  have HR := Lib.hid hr
  have HA := Lib.hid ha
  have W0S := Lib.hid (show w.heap.size < W0.heap.size from (Array.getElem?_eq_some_iff.1 hc).1)
  obtain ⟨c0, c1, c2, c3, c4, c5, c6, c7, c8, c9, c10⟩ := cells11 hc
  clear hc bb hr ha
  unfold maxLen at hml hml2
  by_cases h1 : 100 < n
  · have h2 : (100 : Int) < n := by omega
    go_enter Try.func3, Try.ntmps3
    go_wp2_with fail
    refine (lives17 _).mono ?_
    rintro e w9 ⟨rfl, b9⟩
    have HB9 := Lib.hid (below_onto BB.out b9 BB.out.size)
    clear b9
    go_wp2
    go_ret
    exact ⟨rfl, HB9.out⟩
  · have h2 : ¬ (100 : Int) < n := by omega
    have h3 : (200 : Int) < nn := by omega
    go_enter Try.func3, Try.ntmps3
    go_wp2_with fail
    refine (lives17 _).mono ?_
    rintro e w9 ⟨rfl, b9⟩
    have HB9 := Lib.hid (below_onto BB.out b9 BB.out.size)
    clear b9
    go_wp2
    go_ret
    exact ⟨rfl, HB9.out⟩
set_option maxRecDepth 100000 in
set_option maxHeartbeats 4000000 in
theorem plays17_no (r bk lv qu pk by_ sh mtu rate burst : Int) (a : Option Addr) (n cc : Nat) (fs : List Fl) (b0 : 0 ≤ by_) (b1 : by_ ≤ 18446744073709551615) (m0 : 0 ≤ mtu) (aa : Option Addr) (nn ca : Nat) (as_ : List Act17) (w : World) (hr : RowFl w a n fs) (ha : RowA17 w aa nn as_) (h100 : n ≤ 100) (h200 : nn ≤ 200) (hk : chkC pk by_ sh mtu n fs ≠ 0) :
    Calls Try.prog 3 #[.agg #[.int .i64 r, .int .i64 bk, .int .i64 lv, .int .i64 qu, .int .i64 pk, .int .u64 by_, .int .i64 sh, .int .u64 mtu, .int .u64 rate, .int .u64 burst, .slice a n cc], .slice aa nn ca] w fun e w' => e = .returned (.bool true) ∧ Below w.heap.size w w' := by
  obtain ⟨W0, hW0⟩ : ∃ W0, w.alloc (.cells #[.int .i64 r, .int .i64 bk, .int .i64 lv, .int .i64 qu, .int .i64 pk, .int .u64 by_, .int .i64 sh, .int .u64 mtu, .int .u64 rate, .int .u64 burst, .slice a n cc] 25) = W0 := ⟨_, rfl⟩
  have hc : W0.heap[w.heap.size]? = some (.cells #[.int .i64 r, .int .i64 bk, .int .i64 lv, .int .i64 qu, .int .i64 pk, .int .u64 by_, .int .i64 sh, .int .u64 mtu, .int .u64 rate, .int .u64 burst, .slice a n cc] 25 (0, 0)) := by rw [← hW0]; exact heap_alloc_new w _
  have bb : Below w.heap.size w W0 := by rw [← hW0]; exact (Below.refl _ w).alloc (Nat.le_refl _) _
  have HC := Lib.hid hc; have BB := Lib.hid bb
  have HR := Lib.hid hr
  have HA := Lib.hid ha
  have W0S := Lib.hid (show w.heap.size < W0.heap.size from (Array.getElem?_eq_some_iff.1 hc).1)
  have NW := Lib.hid (anew r bk lv qu pk by_ sh mtu rate burst a n cc fs b0 b1 m0 W0 (rowfl_below hr bb))
  have CK := Lib.hid (fun (v : World) (hv : Below w.heap.size w v) => check17 r bk lv qu pk by_ sh mtu rate burst a n cc fs b0 b1 m0 v (rowfl_below hr hv))
  have AK := Lib.hid (fun (v : World) (hv : Below w.heap.size w v) => acheck r bk lv qu pk by_ sh mtu rate burst a n cc fs b0 b1 m0 v (rowfl_below hr hv))
  obtain ⟨c0, c1, c2, c3, c4, c5, c6, c7, c8, c9, c10⟩ := cells11 hc
  clear hc bb hr ha
  have q1 : ¬ (100 : Int) < n := by omega
  have q2 : ¬ (200 : Int) < nn := by omega
  generalize chkC pk by_ sh mtu n fs = kk at *
  have gk1 : (kk == 0) = false := by simp [hk]
  have gk2 : (kk != 0) = true := by simp [hk]
  go_enter Try.func3, Try.ntmps3
  go_wp2_with fail
  refine NW.out.mono ?_
  rintro e w1 ⟨bn, (⟨-, rfl⟩ | ⟨hk0, -⟩)⟩
  · have B1 := Lib.hid (below_onto BB.out bn BB.out.size)
    have C1 := Lib.hid ((bn.block _ W0S.out).trans HC.out)
    clear bn NW c0 c1 c2 c3 c4 c5 c6 c7 c8 c9 c10
    obtain ⟨c0, c1, c2, c3, c4, c5, c6, c7, c8, c9, c10⟩ := cells11 C1.out
    have L1 := Lib.hid (show w.heap.size < w1.heap.size from (Array.getElem?_eq_some_iff.1 C1.out).1)
    go_wp2_with fail
    refine (CK.out _ B1.out).mono ?_
    rintro e w2 ⟨rfl, b2⟩
    have B2 := Lib.hid (below_onto B1.out b2 B1.out.size)
    have C2 := Lib.hid ((b2.block _ L1.out).trans C1.out)
    clear b2 c0 c1 c2 c3 c4 c5 c6 c7 c8 c9 c10
    obtain ⟨c0, c1, c2, c3, c4, c5, c6, c7, c8, c9, c10⟩ := cells11 C2.out
    go_wp2_with fail
    refine (AK.out _ B2.out).mono ?_
    rintro e w3 ⟨rfl, b3⟩
    have B3 := Lib.hid (below_onto B2.out b3 B2.out.size)
    clear b3 c0 c1 c2 c3 c4 c5 c6 c7 c8 c9 c10
    go_wp2_with fail
    refine (lives17 _).mono ?_
    rintro e w9 ⟨rfl, b9⟩
    have HB9 := Lib.hid (below_onto B3.out b9 B3.out.size)
    clear b9
    go_wp2
    go_ret
    exact ⟨rfl, HB9.out⟩
  · exact absurd hk0 hk
end Go.Proofs.Ytiogfgkfipekbaa
