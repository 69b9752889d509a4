/-
  Package admit: a gate of any configuration. Nothing turns below the heap's end. No condition but that the numbers are words.
-/
import Derived.Test.YtiogfgkfipekbaaAdm9
namespace Go.Proofs.Ytiogfgkfipekbaa
set_option linter.unusedVariables false
set_option linter.unusedSimpArgs false
open Go.ChangeShapes Go.WideShapes Go.ChangeAt Go.RowKit
attribute [local go_sem] alloc_drewN setCell_drewN

theorem sumD_zero (g : Dt → Int) (es : List FeP) (ds : Int → Dt) (h : ∀ e ∈ es, g (ds e.id) = 0) : sumD g es ds = 0 := by
  induction es with
  | nil => rfl
  | cons e es ih =>
    show g (ds e.id) + sumD g es ds = 0
    rw [h e List.mem_cons_self, ih (fun x hx => h x (List.mem_cons_of_mem _ hx))]
    rfl
/-- What each flow has at first. -/
theorem first_data {w : World} {B n : Nat} {fs : List Fl} {v : Value} {es : List FeP} {bl : Int → Nat} (h : NtAt w B n fs n v es bl) : ∃ ds : Int → Dt, ∀ e ∈ es, DtAt w (bl e.id) (ds e.id) ∧ (ds e.id).pk = 0 ∧ (ds e.id).by_ = 0 ∧ ∃ j, j < n ∧ (fs.getD j Fl.nil).id = e.id ∧ (ds e.id).most = (fs.getD j Fl.nil).cp := by
  classical
  refine ⟨fun id => if hx : ∃ e, e ∈ es ∧ e.id = id then ⟨0, 0, (fs.getD (Classical.choose (h.dat (Classical.choose hx) (Classical.choose_spec hx).1).2.2) Fl.nil).cp⟩ else ⟨0, 0, 0⟩, fun e he => ?_⟩
  have hx : ∃ x, x ∈ es ∧ x.id = e.id := ⟨e, he, rfl⟩
  dsimp only
  rw [dif_pos hx]
  have sp := Classical.choose_spec hx
  have sj := Classical.choose_spec (h.dat (Classical.choose hx) sp.1).2.2
  have t : bl (Classical.choose hx).id = bl e.id := congrArg bl sp.2
  exact ⟨by rw [← t]; exact sj.2.2, rfl, rfl, _, sj.1, sj.2.1.trans sp.2, rfl⟩
set_option maxRecDepth 100000 in
set_option maxHeartbeats 1000000 in
theorem anew (r bk lv qu pk by_ sh mtu rate burst : Int) (a : Option Addr) (n cc : Nat) (fs : List Fl) (b0 : 0 ≤ by_) (b1 : by_ ≤ 18446744073709551615) (m0 : 0 ≤ mtu) (w : World) (hr : RowFl w a n fs) : Calls Try.prog 10 #[.agg #[.int .i64 r, .int .i64 bk, .int .i64 lv, .int .i64 qu, .int .i64 pk, .int .u64 by_, .int .i64 sh, .int .u64 mtu, .int .u64 rate, .int .u64 burst, .slice a n cc]] w fun e w' => Below w.heap.size w w' ∧ (chkC pk by_ sh mtu n fs ≠ 0 ∧ e = .returned (.tuple #[.pointer none, .int .i64 (chkC pk by_ sh mtu n fs)]) ∨ chkC pk by_ sh mtu n fs = 0 ∧ ∃ base G T v es bl ds, e = .returned (.tuple #[.pointer (some ⟨G, 0, none⟩), .int .i64 0]) ∧ w.heap.size ≤ base ∧ base ≤ w'.heap.size ∧ AdAt w' base G T n v es bl ds ⟨pk, by_, sh, mtu⟩ 0 0 ∧ (∀ j, j < n → ∃ e ∈ es, e.id = (fs.getD j Fl.nil).id) ∧ ∀ e ∈ es, (ds e.id).pk = 0 ∧ (ds e.id).by_ = 0 ∧ ∃ j, j < n ∧ (fs.getD j Fl.nil).id = e.id ∧ (ds e.id).most = (fs.getD j Fl.nil).cp) := by
  obtain ⟨W0, hW0⟩ : ∃ W0, w.alloc (.cells #[.int .i64 r, .int .i64 bk, .int .i64 lv, .int .i64 qu, .int .i64 pk, .int .u64 by_, .int .i64 sh, .int .u64 mtu, .int .u64 rate, .int .u64 burst, .slice a n cc] 25) = W0 := ⟨_, rfl⟩
  have hc : W0.heap[w.heap.size]? = some (.cells #[.int .i64 r, .int .i64 bk, .int .i64 lv, .int .i64 qu, .int .i64 pk, .int .u64 by_, .int .i64 sh, .int .u64 mtu, .int .u64 rate, .int .u64 burst, .slice a n cc] 25 (0, 0)) := by rw [← hW0]; exact heap_alloc_new w _
  have bb : Below w.heap.size w W0 := by rw [← hW0]; exact (Below.refl _ w).alloc (Nat.le_refl _) _
  have HC := Lib.hid hc; have BB := Lib.hid bb
  have hlt := (Array.getElem?_eq_some_iff.1 hc).1
  have HL := Lib.hid hlt
  have HR := Lib.hid hr
  have CK := Lib.hid (acheck r bk lv qu pk by_ sh mtu rate burst a n cc fs b0 b1 m0 W0 (rowfl_below hr bb))
  have NT := Lib.hid (fun (u : World) (hu : Below w.heap.size w u) => anewTab a n cc fs u (rowfl_below hr hu))
  clear hc bb hr hlt
  obtain ⟨c0, c1, c2, c3, c4, c5, c6, c7, c8, c9, c10⟩ := cells11 HC.out
  by_cases hk : chkC pk by_ sh mtu n fs = 0
  · have hg : capsC pk by_ sh = true ∧ 1 ≤ mtu ∧ mtu ≤ 65535 ∧ tabC fs n = 0 := by
      unfold chkC at hk
      cases hcap : capsC pk by_ sh with
      | false => rw [hcap, if_pos rfl] at hk; cases hk
      | true =>
        rw [hcap, if_neg (show ¬ (true = false) by decide)] at hk
        by_cases h1 : mtu < 1
        · rw [if_pos h1] at hk; cases hk
        · rw [if_neg h1] at hk
          by_cases h2 : 65535 < mtu
          · rw [if_pos h2] at hk; cases hk
          · rw [if_neg h2] at hk
            exact ⟨rfl, by omega, by omega, hk⟩
    have HG := Lib.hid hg
    have HK := Lib.hid hk
    rw [hk] at CK
    rw [hg.2.2.2] at NT
    clear hk hg
    go_enter Try.func10, Try.ntmps10
    go_wp2_with fail
    refine CK.out.mono ?_
    rintro e w1 ⟨rfl, b1_⟩
    have B1 := Lib.hid (below_ontoF BB.out b1_ BB.out.size)
    have X1 := Lib.hid ((b1_.block _ HL.out).trans HC.out)
    clear b1_ c0 c1 c2 c3 c4 c5 c6 c7 c8 c9 c10
    obtain ⟨d0, d1, d2, d3, d4, d5, d6, d7, d8, d9, d10⟩ := cells11 X1.out
    go_wp2_with fail
    refine (NT.out _ B1.out).mono ?_
    rintro e w2 ⟨b2, rfl, hn⟩
    rw [if_pos trivial]
    obtain ⟨v, es, bl, hn⟩ := hn (by trivial)
    have B2 := Lib.hid (below_ontoF B1.out b2 B1.out.size)
    have X2 := Lib.hid ((b2.block _ (Array.getElem?_eq_some_iff.1 X1.out).1).trans X1.out)
    have N2 := Lib.hid hn
    have S2 := Lib.hid b2.size
    clear hn b2 d0 d1 d2 d3 d4 d5 d6 d7 d8 d9 d10
    obtain ⟨d0, d1, d2, d3, d4, d5, d6, d7, d8, d9, d10⟩ := cells11 X2.out
    have OB : Below w2.heap.size w2 (w2.alloc (.cells #[.int .i64 pk, .int .u64 by_, .int .i64 sh, .int .u64 mtu, .int .i64 0, .int .u64 0, .pointer (some ⟨w1.heap.size, 0, none⟩)] 107)) := (Below.refl _ w2).alloc (Nat.le_refl _) _
    have FIN := Lib.hid (show ∃ ds : Int → Dt, AdAt (w2.alloc (.cells #[.int .i64 pk, .int .u64 by_, .int .i64 sh, .int .u64 mtu, .int .i64 0, .int .u64 0, .pointer (some ⟨w1.heap.size, 0, none⟩)] 107)) w1.heap.size w2.heap.size w1.heap.size n v es bl ds ⟨pk, by_, sh, mtu⟩ 0 0 ∧ ∀ e ∈ es, (ds e.id).pk = 0 ∧ (ds e.id).by_ = 0 ∧ ∃ j, j < n ∧ (fs.getD j Fl.nil).id = e.id ∧ (ds e.id).most = (fs.getD j Fl.nil).cp by
      obtain ⟨ds, hd⟩ := first_data N2.out
      obtain ⟨k1, k2, k3, k4, k5, -⟩ := capsC_iff.1 HG.out.1
      refine ⟨ds, ⟨heap_alloc_new w2 _, N2.out.tab.below OB, fun e he => ?_, N2.out.inj, S2.out, ⟨⟨k1, k2⟩, ⟨k5, b1⟩, ⟨k3, k4⟩, HG.out.2.1, HG.out.2.2.1⟩, by decide, by decide, by decide, by decide, fun e he => ?_, ?_, ?_⟩, fun e he => (hd e he).2⟩
      · obtain ⟨q1, q2, q3, j, q4, -, q5⟩ := hd e he
        refine ⟨(N2.out.dat e he).1, (N2.out.dat e he).2.1, (OB.block _ q1.lt).trans q1, ⟨by rw [q2]; decide, by rw [q2]; decide⟩, ⟨by rw [q3]; decide, by rw [q3]; decide⟩, ?_⟩
        obtain ⟨hl, -, hw, -⟩ := HR.out
        have := hw (fs.getD j Fl.nil) (by rw [List.getD_eq_getElem?_getD, List.getElem?_eq_getElem (by omega : j < fs.length)]; exact List.getElem_mem _)
        rw [q5]
        exact this.2.2.2.2
      · rw [(hd e he).2.1]; exact Int.le_refl _
      · exact (sumD_zero Dt.pk es ds (fun e he => (hd e he).2.1)).symm
      · exact (sumD_zero Dt.by_ es ds (fun e he => (hd e he).2.2.1)).symm)
    have HO := Lib.hid OB
    clear OB
    go_wp2
    go_ret2
    obtain ⟨ds, f1, f2⟩ := FIN.out
    exact ⟨below_ontoF B2.out HO.out B2.out.size, Or.inr ⟨HK.out, w1.heap.size, w2.heap.size, w1.heap.size, v, es, bl, ds, rfl, B1.out.size, Nat.le_trans S2.out HO.out.size, f1, N2.out.all, f2⟩⟩
  · generalize chkC pk by_ sh mtu n fs = k at *
    have g1 : (k == 0) = false := by simp [hk]
    have g2 : (k != 0) = true := by simp [hk]
    have HK := Lib.hid hk
    clear hk
    go_enter Try.func10, Try.ntmps10
    go_wp2_with fail
    refine CK.out.mono ?_
    rintro e w1 ⟨rfl, b1_⟩
    have B1 := Lib.hid (below_ontoF BB.out b1_ BB.out.size)
    have X1 := Lib.hid ((b1_.block _ HL.out).trans HC.out)
    clear b1_ c0 c1 c2 c3 c4 c5 c6 c7 c8 c9 c10
    go_wp2
    go_ret2
    exact ⟨B1.out, Or.inl ⟨HK.out, rfl⟩⟩
end Go.Proofs.Ytiogfgkfipekbaa
