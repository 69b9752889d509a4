/-
  The document's answer for layer 16: Next of a flow that is there. No condition but that New made the ranks.
-/
import Derived.Test.YtnnbkooikimedaaR16O
namespace Go.Proofs.Ytnnbkooikimedaa
set_option linter.unusedVariables false
set_option linter.unusedSimpArgs false
open Go.ChangeShapes Go.WideShapes Go.ChangeAt Go.RowKit
attribute [local go_sem] alloc_drewN setCell_drewN

set_option maxRecDepth 100000 in
set_option maxHeartbeats 4000000 in
theorem next16_at {w : World} {base R : Nat} {kind virt : Int} {vt : Value} {ts : List Int} (a1 : Option Addr) (n1 c1 : Nat) (fs : List Fl) (h : R16At w base R kind virt (.slice a1 n1 c1) vt ts) (hbase : base ≤ w.heap.size) (hr : RowFl w a1 n1 fs) (hn1 : n1 ≤ 100) (hl : ts.length = n1) (hk0 : 1 ≤ kind) (hk1 : kind ≤ 3) (vv0 : 0 ≤ virt) (vv1 : virt ≤ 18446744073709551615)
    (id now n : Int) (hw0 : 0 ≤ now) (hw1 : now ≤ 18446744073709551615) (hn0 : 0 ≤ n) (hn2 : n ≤ 18446744073709551615) (j : Nat) (hj : j < n1) (h1 : (fs.getD j Fl.nil).id = id) (h2 : ∀ q, q < j → ¬ (fs.getD q Fl.nil).id = id) (t0 : 0 ≤ ts.getD j 0) (t1 : ts.getD j 0 ≤ 18446744073709551615) :
    Calls Try.prog 63 #[.pointer (some ⟨R, 0, none⟩), .int .u64 now, .int .u32 id, .int .u64 n] w fun e w' => e = .returned (.tuple #[.int .u64 (rkOf kind virt now ⟨(fs.getD j Fl.nil).id, (fs.getD j Fl.nil).co, (fs.getD j Fl.nil).bu, ts.getD j 0⟩), .int .i64 0]) ∧ ∃ vt', R16At w' base R kind virt (.slice a1 n1 c1) vt' (ts.set j (tgOf kind virt n ⟨(fs.getD j Fl.nil).id, (fs.getD j Fl.nil).co, (fs.getD j Fl.nil).bu, ts.getD j 0⟩)) ∧ MvS w w' (inR6 R vt) (inR6 R vt') := by
  obtain ⟨i0, hif, hz0, hz1, hz2⟩ := info_parts infoU
  have FI := Lib.hid (find16_at hr c1 hn1 id j hj h1 h2)
  obtain ⟨b, off, rfl, hblt, x0, x1, x2, x3, x4⟩ := hr.atR (Below.refl _ w) j hj
  obtain ⟨-, ⟨co0, co1⟩, ⟨bu0, bu1⟩, -, -⟩ := hr.okR j hj
  have HL := Lib.hid hl
  obtain ⟨g0, c0v, hvt, _, hg0⟩ := h.ot.form (by omega)
  subst hvt
  have cj : w.cell? ⟨g0, j, none⟩ = some (.int .u64 (ts.getD j 0)) := by
    rw [h.ot.cellAt j (by omega), List.getElem?_map, List.getElem?_eq_getElem (by omega), List.getD_eq_getElem?_getD, List.getElem?_eq_getElem (by omega)]
    rfl
  have CS := Lib.hid (fun (W : World) (hb : Below w.heap.size w W) (q : Nat) (u : Value) (hq : (ts.map (Value.int .u64))[q]? = some u) => (show W.cell? ((⟨g0, 0, none⟩ : Addr).add q) = some u from by
    have e : ((⟨g0, 0, none⟩ : Addr).add q) = ⟨g0, q, none⟩ := by simp [Addr.add]; omega
    have hql : q < ts.length := by have := (List.getElem?_eq_some_iff.1 hq).1; simpa using this
    rw [e, hb.cell (p := ⟨g0, q, none⟩) (World.ownsRow.lt h.ot g0 rfl).2, h.ot.cellAt q (by omega)]
    exact hq))
  have OC := Lib.hid (show ∀ y ∈ ts.map (Value.int .u64), y.oneCell' = true from fun y hy => by obtain ⟨x, _, rfl⟩ := List.mem_map.1 hy; rfl)
  have NL := Lib.hid (show (ts.map (Value.int .u64)).length = n1 * 1 by rw [List.length_map, hl, Nat.mul_one])
  have hR := (h.inlt (Or.inl rfl)).2
  have CR := Lib.hid (fun (W : World) (hb : Below w.heap.size w W) => (h.below hb).cell)
  have KB := Lib.hid (fun (W : World) (hb : Below w.heap.size w W) (w3 : World) (hg : W.grownBy w3 (Value.slice none 0 0).ownBlock) =>
    have e1 : w3.heap[R]? = some (.cells #[.int .i64 kind, .slice (some ⟨b, off, none⟩) n1 c1, .slice (some ⟨g0, 0, none⟩) ts.length c0v, .int .u64 virt] 122 (0, 0)) := (hg.block R (Nat.lt_of_lt_of_le hR hb.size) (by simp [Value.ownBlock])).trans ((hb.block R hR).trans h.blk)
    (⟨cell_of_row w3 R 2 _ _ (0, 0) e1, frozen_of_row w3 R 2 _ _ e1⟩ : w3.cell? ⟨R, 2, none⟩ = some (.slice (some ⟨g0, 0, none⟩) ts.length c0v) ∧ w3.frozen? ⟨R, 2, none⟩ = false))
  have END := Lib.hid (fun x w1 w3 (hb1 : Below w.heap.size w w1) (hg : w1.grownBy w3 none) g c ho => next16_end h hbase j x w1 w3 hb1 hg g c ho)
  obtain ⟨c0, c1', c2, c3, f2, f3⟩ := h.cell
  rw [hl] at c2
  obtain ⟨F, hF⟩ : ∃ F : Obj, F = .cells #[.int .u32 (fs.getD j Fl.nil).id, .int .u64 (fs.getD j Fl.nil).co, .int .u64 (fs.getD j Fl.nil).bu, .int .u64 (fs.getD j Fl.nil).sz, .int .u64 (fs.getD j Fl.nil).cp] 210 := ⟨_, rfl⟩
  have BF := Lib.hid ((Below.refl _ w).alloc (Nat.le_refl _) F)
  clear h hr h1 h2 hl
  obtain ⟨x, hx⟩ : ∃ x, fs.getD j Fl.nil = x := ⟨_, rfl⟩
  rw [hx] at x0 x1 x2 x3 x4 co0 co1 bu0 bu1 hF ⊢
  clear hx
  obtain ⟨xi, xc, xb, xs, xp⟩ := x
  dsimp only at x0 x1 x2 x3 x4 co0 co1 bu0 bu1 hF ⊢
  obtain ⟨t, ht⟩ : ∃ t, ts.getD j 0 = t := ⟨_, rfl⟩
  rw [ht] at cj t0 t1 ⊢
  clear ht
  have jz0 : (0 : Int) ≤ j := by omega
  have jz1 : (j : Int) < n1 := by omega
  have hsz := Lib.hid (show (w.alloc F).heap.size = w.heap.size + 1 by simp)
  rw [hF] at BF hsz
  clear hF
  rcases (by omega : kind = 1 ∨ kind = 2 ∨ kind = 3) with rfl | rfl | rfl
  · rw [show rkOf 1 virt now ⟨xi, xc, xb, t⟩ = max virt t from rfl, show tgOf 1 virt n ⟨xi, xc, xb, t⟩ = cap (max virt t + xc * n) from rfl]
    by_cases hc : t < virt
    · rw [show max virt t = virt by omega]
      have MA := Lib.hid (fun W => muladd_ref virt xc n (by omega) (by omega) co0 co1 hn0 hn2 W)
      generalize cap (virt + xc * n) = ct at *
      go_enter Try.func63, Try.ntmps63
      go_wp2_with fail
      refine FI.out.mono ?_
      rintro e w' ⟨rfl, rfl⟩
      go_wp2_with fail
      refine (MA.out _).mono ?_
      rintro e w2 ⟨rfl, b2⟩
      have BW := Lib.hid (BF.out.trans (b2.mono (by rw [hsz.out]; omega)))
      clear b2
      obtain ⟨d0, d1, d2, d3, e2, e3⟩ := CR.out w2 BW.out
      rw [HL.out] at d2
      go_wp2_with (at_builtin; refine wpList_append_own_at _ rfl _ _ 25 rfl w'.heap.size 22 i0 (.int .u64 0) 1 8 Try.underlying25 hif hz0 hz1 hz2 rfl (by decide) (.slice none 0 0) 0 [] rfl (World.ownsRow_nil _ _ _ _) ⟨g0, 0, none⟩ n1 c0v (ts.map (Value.int .u64)) rfl NL.out (CS.out _ BW.out) OC.out (by unfold maxLen; omega) (by omega) (BW.out).size ?_; intro v3 w3 ho3 hg3 hn3 hat3; clear hn3; obtain ⟨kc, kf⟩ := KB.out _ (BW.out) w3 hg3; rw [Nat.zero_add, List.nil_append] at ho3; obtain ⟨g3, c3', rfl, hg3l, _⟩ := ho3.form (by omega); have lc := ho3.cellAt j (by omega); rw [List.getElem?_map, List.getElem?_eq_getElem (by rw [HL.out]; exact hj)] at lc; have lf := ho3.frozenAt j; have hgR : g3 ≠ R := (by omega); have EN := Lib.hid (END.out (ct) _ w3 (BW.out) hg3 g3 c3' (by rw [HL.out]; exact ho3)); clear ho3 hg3 hat3)
      rw [HL.out] at EN kc
      go_wp2
      go_ret2
      exact ⟨rfl, _, EN.out.1, EN.out.2⟩
    · rw [show max virt t = t by omega]
      have MA := Lib.hid (fun W => muladd_ref t xc n (by omega) (by omega) co0 co1 hn0 hn2 W)
      generalize cap (t + xc * n) = ct at *
      go_enter Try.func63, Try.ntmps63
      go_wp2_with fail
      refine FI.out.mono ?_
      rintro e w' ⟨rfl, rfl⟩
      go_wp2_with fail
      refine (MA.out _).mono ?_
      rintro e w2 ⟨rfl, b2⟩
      have BW := Lib.hid (BF.out.trans (b2.mono (by rw [hsz.out]; omega)))
      clear b2
      obtain ⟨d0, d1, d2, d3, e2, e3⟩ := CR.out w2 BW.out
      rw [HL.out] at d2
      go_wp2_with (at_builtin; refine wpList_append_own_at _ rfl _ _ 25 rfl w'.heap.size 22 i0 (.int .u64 0) 1 8 Try.underlying25 hif hz0 hz1 hz2 rfl (by decide) (.slice none 0 0) 0 [] rfl (World.ownsRow_nil _ _ _ _) ⟨g0, 0, none⟩ n1 c0v (ts.map (Value.int .u64)) rfl NL.out (CS.out _ BW.out) OC.out (by unfold maxLen; omega) (by omega) (BW.out).size ?_; intro v3 w3 ho3 hg3 hn3 hat3; clear hn3; obtain ⟨kc, kf⟩ := KB.out _ (BW.out) w3 hg3; rw [Nat.zero_add, List.nil_append] at ho3; obtain ⟨g3, c3', rfl, hg3l, _⟩ := ho3.form (by omega); have lc := ho3.cellAt j (by omega); rw [List.getElem?_map, List.getElem?_eq_getElem (by rw [HL.out]; exact hj)] at lc; have lf := ho3.frozenAt j; have hgR : g3 ≠ R := (by omega); have EN := Lib.hid (END.out (ct) _ w3 (BW.out) hg3 g3 c3' (by rw [HL.out]; exact ho3)); clear ho3 hg3 hat3)
      rw [HL.out] at EN kc
      go_wp2
      go_ret2
      exact ⟨rfl, _, EN.out.1, EN.out.2⟩
  · rw [show rkOf 2 virt now ⟨xi, xc, xb, t⟩ = cap (now + xb) from rfl, show tgOf 2 virt n ⟨xi, xc, xb, t⟩ = t from rfl]
    have MA := Lib.hid (fun W => add_ref now xb hw0 hw1 bu0 bu1 W)
    generalize cap (now + xb) = ct at *
    go_enter Try.func63, Try.ntmps63
    go_wp2_with fail
    refine FI.out.mono ?_
    rintro e w' ⟨rfl, rfl⟩
    go_wp2_with fail
    refine (MA.out _).mono ?_
    rintro e w2 ⟨rfl, b2⟩
    have BW := Lib.hid (BF.out.trans (b2.mono (by rw [hsz.out]; omega)))
    clear b2
    obtain ⟨d0, d1, d2, d3, e2, e3⟩ := CR.out w2 BW.out
    rw [HL.out] at d2
    go_wp2_with (at_builtin; refine wpList_append_own_at _ rfl _ _ 25 rfl w'.heap.size 22 i0 (.int .u64 0) 1 8 Try.underlying25 hif hz0 hz1 hz2 rfl (by decide) (.slice none 0 0) 0 [] rfl (World.ownsRow_nil _ _ _ _) ⟨g0, 0, none⟩ n1 c0v (ts.map (Value.int .u64)) rfl NL.out (CS.out _ BW.out) OC.out (by unfold maxLen; omega) (by omega) (BW.out).size ?_; intro v3 w3 ho3 hg3 hn3 hat3; clear hn3; obtain ⟨kc, kf⟩ := KB.out _ (BW.out) w3 hg3; rw [Nat.zero_add, List.nil_append] at ho3; obtain ⟨g3, c3', rfl, hg3l, _⟩ := ho3.form (by omega); have lc := ho3.cellAt j (by omega); rw [List.getElem?_map, List.getElem?_eq_getElem (by rw [HL.out]; exact hj)] at lc; have lf := ho3.frozenAt j; have hgR : g3 ≠ R := (by omega); have EN := Lib.hid (END.out (t) _ w3 (BW.out) hg3 g3 c3' (by rw [HL.out]; exact ho3)); clear ho3 hg3 hat3)
    rw [HL.out] at EN kc
    go_wp2
    go_ret2
    exact ⟨rfl, _, EN.out.1, EN.out.2⟩
  · rw [show rkOf 3 virt now ⟨xi, xc, xb, t⟩ = t from rfl, show tgOf 3 virt n ⟨xi, xc, xb, t⟩ = sub0 t n from rfl]
    have MA := Lib.hid (fun W => sub_ref t n t0 t1 hn0 hn2 W)
    generalize sub0 t n = ct at *
    go_enter Try.func63, Try.ntmps63
    go_wp2_with fail
    refine FI.out.mono ?_
    rintro e w' ⟨rfl, rfl⟩
    go_wp2_with fail
    refine (MA.out _).mono ?_
    rintro e w2 ⟨rfl, rfl⟩
    have BW := BF
    obtain ⟨d0, d1, d2, d3, e2, e3⟩ := CR.out _ BW.out
    rw [HL.out] at d2
    go_wp2_with (at_builtin; refine wpList_append_own_at _ rfl _ _ 25 rfl w'.heap.size 22 i0 (.int .u64 0) 1 8 Try.underlying25 hif hz0 hz1 hz2 rfl (by decide) (.slice none 0 0) 0 [] rfl (World.ownsRow_nil _ _ _ _) ⟨g0, 0, none⟩ n1 c0v (ts.map (Value.int .u64)) rfl NL.out (CS.out _ BW.out) OC.out (by unfold maxLen; omega) (by omega) (BW.out).size ?_; intro v3 w3 ho3 hg3 hn3 hat3; clear hn3; obtain ⟨kc, kf⟩ := KB.out _ (BW.out) w3 hg3; rw [Nat.zero_add, List.nil_append] at ho3; obtain ⟨g3, c3', rfl, hg3l, _⟩ := ho3.form (by omega); have lc := ho3.cellAt j (by omega); rw [List.getElem?_map, List.getElem?_eq_getElem (by rw [HL.out]; exact hj)] at lc; have lf := ho3.frozenAt j; have hgR : g3 ≠ R := (by omega); have EN := Lib.hid (END.out (ct) _ w3 (BW.out) hg3 g3 c3' (by rw [HL.out]; exact ho3)); clear ho3 hg3 hat3)
    rw [HL.out] at EN kc
    go_wp2
    go_ret2
    exact ⟨rfl, _, EN.out.1, EN.out.2⟩
end Go.Proofs.Ytnnbkooikimedaa
