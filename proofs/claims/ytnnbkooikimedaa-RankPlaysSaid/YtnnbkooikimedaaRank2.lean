/-
  Package rank: where a flow's number stands; the rank of a packet, and the tag behind it. No condition but that New made them.
-/
import Derived.Test.YtnnbkooikimedaaRank1
import Derived.RegionTactic
import Derived.Deep.RegionWith
namespace Go.Proofs.Ytnnbkooikimedaa
set_option linter.unusedVariables false
set_option linter.unusedSimpArgs false
open Go.ChangeShapes Go.WideShapes Go.ChangeAt Go.RowKit
attribute [local go_sem] alloc_drewN setCell_drewN

theorem first_or (P : Nat → Prop) (n : Nat) : (∃ j, j < n ∧ P j ∧ ∀ i, i < j → ¬ P i) ∨ ∀ i, i < n → ¬ P i := by
  induction n with
  | zero => exact Or.inr (fun i h => absurd h (Nat.not_lt_zero _))
  | succ n ih =>
    rcases ih with ⟨j, h1, h2, h3⟩ | h
    · exact Or.inl ⟨j, by omega, h2, h3⟩
    · by_cases hp : P n
      · exact Or.inl ⟨n, by omega, hp, h⟩
      · refine Or.inr (fun i hi => ?_)
        by_cases e : i = n
        · rw [e]; exact hp
        · exact h i (by omega)
section
variable {w : World} {base B : Nat} {kind virt : Int} {ve : Value} {es : List Rf}
theorem ixf_none (a : Option Addr) (c : Nat) (fv : Value) (w : World) : Calls Try.prog 168 #[.slice a 0 c, fv] w fun e w' => e = .returned (.int .i64 (-1)) ∧ w' = w := by
  go_enter Try.func168, Try.ntmps168
  go_wp2
  go_loopw [8] (fun s8 wr => s8 = .int .i64 0 ∧ wr = w) (fun _ _ => 0)
  case atStart => exact ⟨rfl, rfl⟩
  case round =>
    obtain ⟨rfl, rfl⟩ := hrel
    go_wp2
    go_ret
    exact ⟨rfl, rfl⟩
/-- The closure of index: is it this number? -/
theorem ixf_pred (id : Int) (Bx : Nat) (w : World) (hB : Bx < w.heap.size) (hcell : w.cell? ⟨Bx, 0, none⟩ = some (.int .u32 id)) :
    PredBelow Try.prog 169 #[.pointer (some ⟨Bx, 0, none⟩)] (fun x => .agg (Rf.cells x).toArray) (fun x => decide (x.id = id)) w := fun W x hb => by
  have hc : W.cell? ⟨Bx, 0, none⟩ = some (.int .u32 id) := (hb.cell (p := ⟨Bx, 0, none⟩) hB).trans hcell
  have hBW : Bx < W.heap.size := Nat.lt_of_lt_of_le hB hb.size
  have hne : Bx ≠ W.heap.size := by omega
  show Calls Try.prog 169 #[.agg #[.int .u32 x.id, .int .u64 x.co, .int .u64 x.bu, .int .u64 x.tg], .pointer (some ⟨Bx, 0, none⟩)] W _
  go_enter Try.func169, Try.ntmps169
  go_wp2
  all_goals (go_ret; exact ⟨by simp_all <;> rfl, hb.alloc hb.size _⟩)
theorem rindex (h : RanksAt w base B kind virt ve es) (id : Int) : Calls Try.prog 123 #[.pointer (some ⟨B, 0, none⟩), .int .u32 id] w fun e w' => e = .returned (.int .i64 (Lib.idxBy (fun (_ : Rf) y => decide (y.id = id)) es default)) ∧ Below w.heap.size w w' := by
  have hml := h.ml
  by_cases h0 : es = []
  · subst h0
    obtain ⟨c0, c1, c2, -⟩ := h.cell
    obtain ⟨a, c, rfl⟩ := row_slice h.oe
    have hlt := (h.inlt (Or.inl rfl)).2
    have hne : B ≠ w.heap.size := by omega
    simp only [List.length_nil] at c2
    rw [show Lib.idxBy (fun (_ : Rf) y => decide (y.id = id)) [] default = -1 from rfl]
    clear h
    go_enter Try.func123, Try.ntmps123
    go_wp2_with fail
    refine (ixf_none _ _ _ _).mono ?_
    rintro e w' ⟨rfl, rfl⟩
    go_wp2
    go_ret
    exact ⟨rfl, (Below.refl _ w).alloc (Nat.le_refl _) _⟩
  · have hpos : 0 < es.length := List.length_pos_iff.2 h0
    obtain ⟨g, c, rfl, _, hg, _⟩ := h.at 0 hpos
    have eg : ∀ args w, (callFunc 169 args).run Try.prog w = .ok (.enter 169 args) w := enters_of Try.func169 (by kernel_rfl) rfl
    have hcon := AnyQ.slices_IndexFunc Try.ixf 4 Try.isAgg217 Try.sizeOf217 Rf.cells (fun _ => rfl) (fun x => decide (x.id = id)) 169 #[.pointer (some ⟨w.heap.size, 0, none⟩)] eg g 0 es.length c es (w.alloc (.cells #[.int .u32 id] 86))
      (ixf_pred id w.heap.size _ (by simp) (by simp)) (Nat.le_refl _) (by omega) (by simp; omega) (fun j hj i v hi => by
        refine Lib.cell?_alloc_some _ ?_
        have hi4 : i < 4 := by
          have := (List.getElem?_eq_some_iff.1 hi).1
          simpa [Rf.cells] using this
        have := h.oe.cellAt (j * 4 + i) (by omega)
        rw [rfs_at es j i hj hi4] at this
        rw [Nat.zero_add, this, ← hi]
        congr 2
        rw [getElem!_pos es j hj])
    rw [List.take_length] at hcon
    change Calls Try.prog 168 _ _ _ at hcon
    obtain ⟨c0, c1, c2, -⟩ := h.cell
    have hlt := (h.inlt (Or.inl rfl)).2
    have hne : B ≠ w.heap.size := by omega
    clear h
    generalize Lib.idxBy (fun (_ : Rf) y => decide (y.id = id)) es default = r at hcon ⊢
    go_enter Try.func123, Try.ntmps123
    go_wp2_with fail
    refine hcon.mono ?_
    rintro e w' ⟨rfl, hb'⟩
    have HB := Lib.hid (((Below.refl _ w).alloc (Nat.le_refl _) _).trans (hb'.mono (by simp)))
    clear hb'
    go_wp2
    go_ret
    exact ⟨rfl, HB.out⟩
theorem ix_hit (es : List Rf) (id : Int) (j : Nat) (hj : j < es.length) (h1 : (es.getD j Rf.nil).id = id) (h2 : ∀ i, i < j → (es.getD i Rf.nil).id ≠ id) : Lib.idxBy (fun (_ : Rf) y => decide (y.id = id)) es default = j := by
  have := Lib.idxBy_hit (fun (_ : Rf) y => decide (y.id = id)) es es.length j default hj (Nat.le_refl _) (by rw [getElem!_pos es j hj, ← rf_getD es j hj]; exact decide_eq_true h1) (fun i hi => by rw [getElem!_pos es i (by omega), ← rf_getD es i (by omega)]; exact decide_eq_false (h2 i hi))
  rw [List.take_length] at this
  exact this
theorem ix_miss (es : List Rf) (id : Int) (h2 : ∀ i, i < es.length → (es.getD i Rf.nil).id ≠ id) : Lib.idxBy (fun (_ : Rf) y => decide (y.id = id)) es default = -1 := by
  have := Lib.idxBy_miss (fun (_ : Rf) y => decide (y.id = id)) es es.length default (fun i hi => by rw [getElem!_pos es i (by omega), ← rf_getD es i (by omega)]; exact decide_eq_false (h2 i hi))
  rw [List.take_length] at this
  exact this
def rkOf (kind virt now : Int) (e : Rf) : Int := if kind = 1 then max virt e.tg else if kind = 2 then cap (now + e.bu) else e.tg
def tgOf (kind virt n : Int) (e : Rf) : Int := if kind = 1 then cap (max virt e.tg + e.co * n) else if kind = 2 then e.tg else sub0 e.tg n
set_option maxRecDepth 100000 in
set_option maxHeartbeats 1000000 in
theorem rtake (h : RanksAt w base B kind virt ve es) (hk0 : 1 ≤ kind) (hk1 : kind ≤ 3) (i : Nat) (hi : i < es.length) (g : Nat) (hg : ve.ownBlock = some g) (now n : Int) (hw0 : 0 ≤ now) (hw1 : now ≤ 18446744073709551615) (hn0 : 0 ≤ n) (hn1 : n ≤ 18446744073709551615) :
    Calls Try.prog 127 #[.pointer (some ⟨B, 0, none⟩), .pointer (some ⟨g, i * 4, none⟩), .int .u64 now, .int .u64 n] w fun e w' => e = .returned (.int .u64 (rkOf kind virt now (es.getD i Rf.nil))) ∧ RanksAt w' base B kind virt ve (es.set i ((es.getD i Rf.nil).wt (tgOf kind virt n (es.getD i Rf.nil)))) ∧ MvS w w' (inRa B ve) (inRa B ve) := by
  obtain ⟨g', c, rfl, hb, hgs, hgB, d0, d1, d2, d3, df⟩ := h.at i hi
  obtain rfl : g' = g := by injection hg
  obtain ⟨⟨a0, a1⟩, ⟨b0, b1⟩, t0, t1⟩ := h.okAt i hi
  obtain ⟨c0, c1, c2, f1, f2⟩ := h.cell
  obtain ⟨v0, v1⟩ := h.vt
  have SS := Lib.hid (h.setTg i hi)
  have HH := Lib.hid h
  have FX := Lib.hid (show es.set i ((es.getD i Rf.nil).wt (es.getD i Rf.nil).tg) = es by rw [rf_getD es i hi]; exact List.set_getElem_self hi)
  clear h hg
  obtain ⟨x, hx⟩ : ∃ x, es.getD i Rf.nil = x := ⟨_, rfl⟩
  rw [hx] at d0 d1 d2 d3 a0 a1 b0 b1 t0 t1 FX SS ⊢
  obtain ⟨xi, xc, xb, xt⟩ := x
  simp only at d0 d1 d2 d3 a0 a1 b0 b1 t0 t1 FX SS ⊢
  clear hx
  rcases (by omega : kind = 1 ∨ kind = 2 ∨ kind = 3) with rfl | rfl | rfl
  · rw [show rkOf 1 virt now ⟨xi, xc, xb, xt⟩ = max virt xt from rfl, show tgOf 1 virt n ⟨xi, xc, xb, xt⟩ = cap (max virt xt + xc * n) from rfl]
    obtain ⟨m, hm⟩ : ∃ m, max virt xt = m := ⟨_, rfl⟩
    have m0 : 0 ≤ m := by omega
    have m1 : m ≤ 18446744073709551615 := by omega
    have k0 := (wd_mul xc n a0 a1 hn0 hn1).1
    have k1 := cap_wd (show 0 ≤ m + xc * n by omega)
    obtain ⟨k2, k3⟩ := k1
    have MA := Lib.hid (fun W => sat_muladd m xc n m0 m1 a0 a1 hn0 hn1 W)
    rw [hm]
    have ST := Lib.hid (SS.out _ k2 k3)
    clear k2 k3 k0 SS
    generalize cap (m + xc * n) = ct at *
    rcases Int.lt_trichotomy virt xt with hc | hc | hc
    · have q0 : ¬ xt < virt := by omega
      have q1 : m = xt := by omega
      subst q1
      go_enter Try.func127, Try.ntmps127
      go_wp2
      go_region
      go_wp2_with fail
      refine (MA.out _).mono ?_
      rintro e w' ⟨rfl, rfl⟩
      go_wp2
      go_ret
      exact ⟨rfl, ST.out.1.keep (fun _ _ => rfl), ST.out.2.drewN 1⟩
    · subst hc
      obtain rfl : m = virt := by omega
      go_enter Try.func127, Try.ntmps127
      go_wp2
      go_region
      go_wp2_with fail
      refine (MA.out _).mono ?_
      rintro e w' ⟨rfl, rfl⟩
      go_wp2
      go_ret
      exact ⟨rfl, ST.out.1.keep (fun _ _ => rfl), ST.out.2.drewN 1⟩
    · have q0 : ¬ virt < xt := by omega
      obtain rfl : m = virt := by omega
      go_enter Try.func127, Try.ntmps127
      go_wp2
      go_region
      go_wp2_with fail
      refine (MA.out _).mono ?_
      rintro e w' ⟨rfl, rfl⟩
      go_wp2
      go_ret
      exact ⟨rfl, ST.out.1.keep (fun _ _ => rfl), ST.out.2.drewN 1⟩
  · rw [show rkOf 2 virt now ⟨xi, xc, xb, xt⟩ = cap (now + xb) from rfl, show tgOf 2 virt n ⟨xi, xc, xb, xt⟩ = xt from rfl, FX.out]
    have MA := Lib.hid (fun W => sat_add now xb hw0 hw1 b0 b1 W)
    clear SS FX
    generalize cap (now + xb) = ct at *
    go_enter Try.func127, Try.ntmps127
    go_wp2_with fail
    refine (MA.out _).mono ?_
    rintro e w' ⟨rfl, rfl⟩
    go_wp2
    go_ret
    exact ⟨rfl, HH.out, MvS.refl _ _⟩
  · rw [show rkOf 3 virt now ⟨xi, xc, xb, xt⟩ = xt from rfl, show tgOf 3 virt n ⟨xi, xc, xb, xt⟩ = sub0 xt n from rfl]
    have MA := Lib.hid (fun W => sat_sub xt n t0 t1 hn0 hn1 W)
    have k2 : 0 ≤ sub0 xt n := by unfold sub0; split <;> omega
    have k3 : sub0 xt n ≤ 18446744073709551615 := by unfold sub0; split <;> omega
    have ST := Lib.hid (SS.out _ k2 k3)
    clear SS FX k2 k3
    generalize sub0 xt n = ct at *
    go_enter Try.func127, Try.ntmps127
    go_wp2_with fail
    refine (MA.out _).mono ?_
    rintro e w' ⟨rfl, rfl⟩
    go_wp2
    go_ret
    exact ⟨rfl, ST.out.1, ST.out.2⟩
set_option maxRecDepth 100000 in
set_option maxHeartbeats 1000000 in
/-- The rank of a packet of a flow that is there. -/
theorem rnext_at (h : RanksAt w base B kind virt ve es) (hk0 : 1 ≤ kind) (hk1 : kind ≤ 3) (id : Int) (i : Nat) (hi : i < es.length) (h1 : (es.getD i Rf.nil).id = id) (h2 : ∀ k, k < i → (es.getD k Rf.nil).id ≠ id) (now n : Int) (hw0 : 0 ≤ now) (hw1 : now ≤ 18446744073709551615) (hn0 : 0 ≤ n) (hn1 : n ≤ 18446744073709551615) :
    Calls Try.prog 62 #[.pointer (some ⟨B, 0, none⟩), .int .u64 now, .int .u32 id, .int .u64 n] w fun e w' => e = .returned (.tuple #[.int .u64 (rkOf kind virt now (es.getD i Rf.nil)), .int .i64 0]) ∧ RanksAt w' base B kind virt ve (es.set i ((es.getD i Rf.nil).wt (tgOf kind virt n (es.getD i Rf.nil)))) ∧ MvS w w' (inRa B ve) (inRa B ve) := by
  have MD := Lib.hid (rmade h (by omega))
  have IX := rindex h id
  rw [ix_hit es id i hi h1 h2] at IX
  have IH := Lib.hid IX
  obtain ⟨g, c, hv, _, hgs, _⟩ := h.at i hi
  obtain ⟨c0, c1, c2, f1, f2⟩ := h.cell
  have hlt := (h.inlt (Or.inl rfl)).2
  have hml := h.ml
  have TK := Lib.hid (fun (W : World) (hb : Below w.heap.size w W) => rtake (h.below hb) hk0 hk1 i hi g (by rw [hv]; rfl) now n hw0 hw1 hn0 hn1)
  have i0 : ¬ (i : Int) < 0 := by omega
  have i1 : (i : Int) < es.length := by omega
  subst hv
  have CC := Lib.hid (fun (W : World) (hb : Below w.heap.size w W) => ((hb.cell (p := ⟨B, 2, none⟩) hlt).trans c2 : W.cell? ⟨B, 2, none⟩ = _))
  clear h IX h1 h2 c0 c1 c2 f1 f2
  obtain ⟨y, hy⟩ : ∃ y, rkOf kind virt now (es.getD i Rf.nil) = y := ⟨_, rfl⟩
  rw [hy] at TK ⊢
  obtain ⟨es2, hes2⟩ : ∃ es2, es.set i ((es.getD i Rf.nil).wt (tgOf kind virt n (es.getD i Rf.nil))) = es2 := ⟨_, rfl⟩
  rw [hes2] at TK ⊢
  clear hy hes2
  obtain ⟨ln, hln⟩ : ∃ ln, es.length = ln := ⟨_, rfl⟩
  rw [hln] at i1 hml TK CC hi ⊢
  clear hln
  go_enter Try.func62, Try.ntmps62
  go_wp2_with fail
  refine MD.out.mono ?_
  rintro e w' ⟨rfl, rfl⟩
  go_wp2_with fail
  refine IH.out.mono ?_
  rintro e w1 ⟨rfl, b1⟩
  have cc := CC.out w1 b1
  have B1 := Lib.hid b1
  clear b1
  go_wp2_with fail
  refine (TK.out w1 B1.out).mono ?_
  rintro e w2 ⟨rfl, r2, m2⟩
  have R2 := Lib.hid r2
  have M2 := Lib.hid ((MvS.of_below (inRa B (.slice (some ⟨g, 0, none⟩) ln c)) B1.out).trans m2)
  clear r2 m2 cc
  go_wp2
  go_ret2
  exact ⟨rfl, R2.out, M2.out⟩
theorem rnext_no (h : RanksAt w base B kind virt ve es) (hn : 0 < es.length) (id : Int) (h2 : ∀ k, k < es.length → (es.getD k Rf.nil).id ≠ id) (now n : Int) :
    Calls Try.prog 62 #[.pointer (some ⟨B, 0, none⟩), .int .u64 now, .int .u32 id, .int .u64 n] w fun e w' => e = .returned (.tuple #[.int .u64 0, .int .i64 13]) ∧ Below w.heap.size w w' := by
  have MD := Lib.hid (rmade h hn)
  have IX := rindex h id
  rw [ix_miss es id h2] at IX
  have IH := Lib.hid IX
  clear h IX h2
  go_enter Try.func62, Try.ntmps62
  go_wp2_with fail
  refine MD.out.mono ?_
  rintro e w' ⟨rfl, rfl⟩
  go_wp2_with fail
  refine IH.out.mono ?_
  rintro e w1 ⟨rfl, b1⟩
  have B1 := Lib.hid b1
  clear b1
  go_wp2
  go_ret2
  exact ⟨rfl, B1.out⟩
theorem rnext_nil (w : World) (id now n : Int) :
    Calls Try.prog 62 #[.pointer none, .int .u64 now, .int .u32 id, .int .u64 n] w fun e w' => e = .returned (.tuple #[.int .u64 0, .int .i64 10]) ∧ w' = w := by
  have MD := Lib.hid (rmade_nil w)
  go_enter Try.func62, Try.ntmps62
  go_wp2_with fail
  refine MD.out.mono ?_
  rintro e w' ⟨rfl, rfl⟩
  go_wp2
  go_ret2
  exact ⟨rfl, rfl⟩
end
end Go.Proofs.Ytnnbkooikimedaa
