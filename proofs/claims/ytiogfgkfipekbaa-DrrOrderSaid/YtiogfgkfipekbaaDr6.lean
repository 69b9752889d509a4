/-
  Package drr: the item whose turn it is is taken. No condition but that New made the turns.
-/
import Derived.Test.YtiogfgkfipekbaaDr5
namespace Go.Proofs.Ytiogfgkfipekbaa
set_option linter.unusedVariables false
set_option linter.unusedSimpArgs false
open Go.ChangeShapes Go.WideShapes Go.ChangeAt Go.RowKit
attribute [local go_sem] alloc_drewN setCell_drewN

/-- What is taken: the class, the item's size and number, whether there is one. -/
def Ts.first (S : Ts) : Int × Int × Int × Bool := if S.fin.R = [] then (0, 0, 0, false) else ((S.fin.hd : Int), fsz (S.fin.q S.fin.hd), ((S.fin.q S.fin.hd).getD 0 izI).2, true)
def Ts.next (S : Ts) : Ts := if S.fin.R = [] then S.fin else S.fin.take
theorem DrAt.setN {w : World} {base T n g c : Nat} {cs : List Dc} {Rb : Nat} {vr : Value} {rp : List Int} {rf rk : Nat} {bg : Bool} (h : DrAt w base T (.slice (some ⟨g, 0, none⟩) n c) cs Rb vr rp rf rk bg) (hn : n = cs.length) (i : Nat) (hi : i < cs.length) (x : Int) :
    DrAt (w.setCell ⟨g, i * 3 + 1, none⟩ (.int .u64 x)) base T (.slice (some ⟨g, 0, none⟩) n c) (cs.set i ⟨(cs[i]).qu, x, (cs[i]).B, (cs[i]).v, (cs[i]).ps, (cs[i]).f, (cs[i]).k⟩) Rb vr rp rf rk bg ∧ MvS w (w.setCell ⟨g, i * 3 + 1, none⟩ (.int .u64 x)) (inDr T (.slice (some ⟨g, 0, none⟩) n c) cs Rb vr) (inDr T (.slice (some ⟨g, 0, none⟩) n c) (cs.set i ⟨(cs[i]).qu, x, (cs[i]).B, (cs[i]).v, (cs[i]).ps, (cs[i]).f, (cs[i]).k⟩) Rb vr) := by
  subst hn
  exact h.setC i hi x
theorem DrAt.cells {w : World} {base T n g c : Nat} {cs : List Dc} {Rb : Nat} {vr : Value} {rp : List Int} {rf rk : Nat} {bg : Bool} (h : DrAt w base T (.slice (some ⟨g, 0, none⟩) n c) cs Rb vr rp rf rk bg) (i : Nat) (hi : i < cs.length) : w.cell? ⟨g, i * 3, none⟩ = some (.int .u64 (cs[i]).qu) ∧ w.cell? ⟨g, i * 3 + 1, none⟩ = some (.int .u64 (cs[i]).cr) ∧ w.cell? ⟨g, i * 3 + 2, none⟩ = some (.pointer (some ⟨(cs[i]).B, 0, none⟩)) ∧ w.frozen? ⟨g, i * 3 + 1, none⟩ = false := by
  obtain ⟨g', c', e, -, -, hcs⟩ := h.form
  obtain rfl : g = g' := by injection e with u1 u2 u3; injection u1 with u1; injection u1 with u1
  exact hcs i hi
theorem upd_upd {α : Type} (f : Nat → α) (i : Nat) (x y : α) : upd (upd f i x) i y = upd f i y := by
  funext j
  unfold upd
  by_cases e : j = i
  · rw [if_pos e, if_pos e]
  · rw [if_neg e, if_neg e, if_neg e]
set_option maxRecDepth 100000 in
set_option maxHeartbeats 4000000 in
theorem dnext {w : World} {base T : Nat} {S : Ts} {In : Nat → Prop} (h : DrG w base T S In) (hbase : base ≤ w.heap.size) : Calls Try.prog 37 #[.pointer (some ⟨T, 0, none⟩)] w fun e w' => e = .returned (.tuple #[.int .i64 S.first.1, .int .u64 S.first.2.1, .int .i64 S.first.2.2.1, .bool S.first.2.2.2]) ∧ ∃ In', DrG w' base T S.next In' ∧ MvS w w' In In' := by
  have TU := Lib.hid (dturn h hbase)
  have HB := Lib.hid hbase
  obtain ⟨st, iv, -, -, -⟩ := fin_ends h.inv
  have ST := Lib.hid st; have IV := Lib.hid iv
  unfold Ts.next Ts.first
  generalize S.fin = S1 at *
  clear h hbase
  by_cases hR : S1.R = []
  · rw [if_pos hR, if_pos hR]
    rw [hR] at TU
    have TUH := TU
    clear hR TU st iv
    go_enter Try.func37, Try.ntmps37
    go_wp2_with fail
    refine TUH.out.mono ?_
    rintro e w1 ⟨rfl, In1, d1, m1⟩
    have FIN := Lib.hid (And.intro d1 m1)
    clear d1 m1
    go_wp2
    refine bodyPost_ret (v := .tuple #[.int .i64 0, .int .u64 0, .int .i64 0, .bool false]) (by simp [results, Try.results37, go_sem]) rfl ⟨rfl, _, FIN.out.1, FIN.out.2⟩
  · rw [if_neg hR, if_neg hR]
    have hz := not_isEmpty hR
    obtain ⟨r, hr, hi, hq, hg0⟩ := IV.out.head hR
    have HR := Lib.hid hR; have HRR := Lib.hid hr; have HQ := Lib.hid hq
    rw [hz, hg0] at TU
    obtain ⟨i, hii⟩ : ∃ i, S1.hd = i := ⟨_, rfl⟩
    have HI := Lib.hid hii
    rw [hii] at hi hq TU
    rw [hii]
    have hb : S1.b = true ∧ fsz (S1.q i) ≤ S1.cr i := by
      have := ST.out.resolve_left hR
      rw [hii] at this
      exact this
    have TUH := TU
    have HBB := Lib.hid hb
    obtain ⟨x, hx⟩ : ∃ x, (S1.q i).getD 0 izI = x := ⟨_, rfl⟩
    have hfx : fsz (S1.q i) = x.1 := by unfold fsz; rw [hx]
    have HFX := Lib.hid hfx
    rw [hx, hfx]
    have HX := Lib.hid hx
    obtain ⟨x1, x2⟩ := x
    dsimp only at HFX HX ⊢
    rw [hfx] at hb
    have hcr0 := IV.out.c0 i hi; have hcr1 := IV.out.c2 i hi
    have hxx := fsz_le (IV.out.sz i hi)
    rw [hfx] at hxx
    have hw : IntKind.u64.wrap (S1.cr i - x1) = S1.cr i - x1 := by
      have := hb.2
      rw [IntKind.wrap_u64]; omega
    have z0 : (0 : Int) ≤ i := by omega
    have z1 : (i : Int) < S1.n := by omega
    clear hR hr hg0 hii hq TU st iv hz hx hfx hb
    go_enter Try.func37, Try.ntmps37
    go_wp2_with fail
    refine TUH.out.mono ?_
    rintro e w1 ⟨rfl, In1, d1, m1⟩
    have S1L := Lib.hid (Nat.le_trans HB.out m1.size)
    have M1 := Lib.hid m1
    obtain ⟨vc, cs, Rb, vr, rp, rf, rk, h1, h2, h3, h4, -, h6⟩ := d1
    have hic : i < cs.length := by omega
    have h3i := h3 i hic
    have hkq : (cs[i]'hic).k = (S1.q i).length := by rw [← h3i.2.2]; exact (cont_length _ _ _ _).symm
    obtain ⟨k, hk⟩ : ∃ k, (cs[i]'hic).k = k + 1 := ⟨(cs[i]'hic).k - 1, by
      have := List.length_pos_iff.2 (show S1.q i ≠ [] by have := HQ.out; rw [HI.out] at this; exact this)
      omega⟩
    have HE := h1.each i hic
    have TKI := qtake_inI (show RqAtI w1 base (cs[i]'hic).B 1024 (cs[i]'hic).v (cs[i]'hic).ps (cs[i]'hic).f (k + 1) by rw [← hk]; exact HE)
    have hcont : cont izI (cs[i]'hic).ps (cs[i]'hic).f (k + 1) = S1.q i := by rw [← hk]; exact h3i.2.2
    rw [hcont, HX.out] at TKI
    unfold iaggI at TKI
    dsimp only at TKI
    have TKH := Lib.hid TKI
    obtain ⟨g, c, rfl, hgb, hgl, hcs⟩ := h1.form
    obtain ⟨e0, e1, e2, f2⟩ := h1.cell
    obtain ⟨q0, q1, q2, q3⟩ := hcs i hic
    rw [h2] at e0
    have D1 := Lib.hid h1; have D2 := Lib.hid h2; have D3 := Lib.hid h3; have D4 := Lib.hid h4; have D6 := Lib.hid h6; have HK := Lib.hid hk; have HKQ := Lib.hid hkq
    clear h1 h2 h3 h4 h6 hcs h3i hkq hk HE TKI hcont TUH hgb m1
    go_wp2_with fail
    refine TKH.out.mono ?_
    rintro e w2 ⟨rfl, ps2, f2', r2, hc2, m2⟩
    obtain ⟨d2, m3⟩ := D1.out.setQ i hic m2 r2
    have V2 := Lib.hid (view_setQ D3.out i hic (cs[i]'hic).v ps2 f2' k)
    have B3 := Lib.hid ((Below.refl _ w2).alloc (Nat.le_refl _) (.cells #[.int .u64 x1, .int .i64 x2] 155))
    have A3 := Lib.hid (heap_alloc_new w2 (.cells #[.int .u64 x1, .int .i64 x2] 155))
    have DD := Lib.hid (d2.below B3.out)
    have M3 := Lib.hid (((M1.out.trans (m3.left D6.out))).trans (MvS.of_below _ B3.out))
    have HC2 := Lib.hid hc2
    have NI := Lib.hid (show ¬ inDr T _ _ Rb vr w2.heap.size from fun hj => by have := (d2.inlt hj).2; omega)
    clear d2 m3 m2 r2 hc2 TKH e0 e1 e2 f2 q0 q1 q2 q3
    go_upto_region 6 with (fail)
    generalize w2.alloc (.cells #[.int .u64 x1, .int .i64 x2] 155) = w3 at *
    generalize hA : w2.heap.size = A at *
    have AL := Lib.hid (show A < w3.heap.size from (Array.getElem?_eq_some_iff.1 A3.out).1)
    obtain ⟨cs2, hcs2⟩ : ∃ cs2, cs.set i ⟨(cs[i]'hic).qu, (cs[i]'hic).cr, (cs[i]'hic).B, (cs[i]'hic).v, ps2, f2', k⟩ = cs2 := ⟨_, rfl⟩
    have hl2 : cs2.length = cs.length := by rw [← hcs2, List.length_set]
    have hi2 : i < cs2.length := by omega
    have hk2 : (cs2[i]'hi2).k = k := by subst hcs2; rw [List.getElem_set_self]
    rw [hcs2] at DD V2 M3 NI
    have L2 := Lib.hid (show cs2.length = S1.n by rw [hl2]; exact D2.out)
    have HL2 := Lib.hid hl2.symm; have HK2 := Lib.hid hk2
    clear hcs2 hl2 hk2 hA D1 M1 B3
    obtain ⟨d4, m4⟩ := DD.out.setN HL2.out i hi2 (S1.cr i - x1)
    have V4 := Lib.hid (view_setC V2.out i hi2 (S1.cr i - x1))
    have D4W := Lib.hid d4; have M4 := Lib.hid (M3.out.trans m4)
    have NI3 := Lib.hid (fun hj => (m4.own A hj).elim (fun h1 => by have := AL.out; omega) NI.out)
    have AIN := Lib.hid (show A ≠ g from fun e => by
      have h1 := A3.out
      have h2 := DD.out.oc
      exact own_ne_blk h2 h1 (by decide) (by rw [e]; rfl))
    obtain ⟨q0, q1, q2, q3⟩ := DD.out.cells i hi2
    rw [(V2.out i hi2).2.1] at q1
    obtain ⟨e0, e1, e2, f2⟩ := DD.out.cell
    have a0 : w3.cell? ⟨A, 0, none⟩ = some (.int .u64 x1) := cell_of_row w3 A 0 _ _ (0, 0) A3.out
    have NA1 : ¬ A = g := AIN.out
    have NA2 : ¬ g = A := fun e => AIN.out e.symm
    clear d4 m4
    go_region
    have A4 := Lib.hid (show (w3.setCell ⟨g, i * 3 + 1, none⟩ (.int .u64 (S1.cr i - x1))).heap[A]? = some (.cells #[.int .u64 x1, .int .i64 x2] 155 (0, 0)) from (Below.heap_setCell w3 ⟨g, i * 3 + 1, none⟩ _ A AIN.out).trans A3.out)
    have D5 := Lib.hid (D4W.out.below (Below.refl _ _).drew)
    have A5 := Lib.hid (show (w3.setCell ⟨g, i * 3 + 1, none⟩ (.int .u64 (S1.cr i - x1))).drew.heap[A]? = some (.cells #[.int .u64 x1, .int .i64 x2] 155 (0, 0)) from A4.out)
    have M5 := Lib.hid (M4.out.drewN 1)
    have AL5 := Lib.hid (show A < (w3.setCell ⟨g, i * 3 + 1, none⟩ (.int .u64 (S1.cr i - x1))).drew.heap.size from (Array.getElem?_eq_some_iff.1 A5.out).1)
    have M5 := Lib.hid (show MvS w (w3.setCell ⟨g, i * 3 + 1, none⟩ (.int .u64 (S1.cr i - x1))).drew In _ from M5.out)
    obtain ⟨cs3, hcs3⟩ : ∃ cs3, cs2.set i ⟨(cs2[i]'hi2).qu, S1.cr i - x1, (cs2[i]'hi2).B, (cs2[i]'hi2).v, (cs2[i]'hi2).ps, (cs2[i]'hi2).f, (cs2[i]'hi2).k⟩ = cs3 := ⟨_, rfl⟩
    have hl3 : cs3.length = cs2.length := by rw [← hcs3, List.length_set]
    have hi3 : i < cs3.length := by omega
    have hk3 : (cs3[i]'hi3).k = k := by subst hcs3; rw [List.getElem_set_self]; exact HK2.out
    rw [hcs3] at D5 V4 M5 NI3
    have L3 := Lib.hid (show cs3.length = S1.n by rw [hl3]; exact L2.out)
    have HL3 := Lib.hid (show cs.length = cs3.length by rw [hl3]; exact HL2.out); have HK3 := Lib.hid hk3
    clear hcs3 hl3 q0 q1 q2 q3 e0 e1 e2 f2 a0 D4W M4 A4 A3 DD M3 NI AL
    generalize (w3.setCell ⟨g, i * 3 + 1, none⟩ (.int .u64 (S1.cr i - x1))).drew = w5 at *
    obtain ⟨q0, q1, q2, q3⟩ := D5.out.cells i hi3
    obtain ⟨e0, e1, e2, f2⟩ := D5.out.cell
    have LN := qlenI (D5.out.each i hi3)
    rw [hk3] at LN
    have LNH := Lib.hid LN
    clear hk3 LN
    go_wp2_with fail
    refine LNH.out.mono ?_
    rintro e w6 ⟨rfl, hw6⟩
    rw [← hw6]
    clear hw6 LNH
    have TI := Lib.hid (take_inv IV.out ST.out HR.out)
    have CL := Lib.hid (cont_length izI ps2 f2' k)
    have TK := Lib.hid (show S1.take = if (S1.q i).drop 1 = [] then { S1 with q := upd S1.q i [], cr := upd S1.cr i 0, R := S1.R.drop 1, b := false } else { S1 with q := upd S1.q i ((S1.q i).drop 1), cr := upd S1.cr i (S1.cr i - fsz (S1.q i)) } from by unfold Ts.take; rw [HI.out])
    by_cases hk0 : k = 0
    · have hd0 : (S1.q i).drop 1 = [] := List.length_eq_zero_iff.1 (by rw [← HC2.out, CL.out, hk0])
      have TK2 := TK.out
      rw [if_pos hd0] at TK2
      have TKH := Lib.hid TK2
      have gk : ((k : Int) == 0) = true := by rw [hk0]; rfl
      have gk2 : (k : Int) = 0 := by omega
      obtain ⟨d6, m6⟩ := D5.out.setN HL3.out i hi3 0
      have V6 := Lib.hid (view_setC V4.out i hi3 0)
      have NI6 := Lib.hid (fun hj => (m6.own A hj).elim (fun h1 => by have := AL5.out; omega) NI3.out)
      have A6 := Lib.hid ((m6.block A AL5.out NI3.out).trans A5.out)
      obtain ⟨j, rfl⟩ : ∃ j, rk = j + 1 := ⟨rk - 1, by
        have h5 := cont_length 0 rp rf rk
        rw [D4.out] at h5
        have := List.length_pos_iff.2 HR.out
        omega⟩
      have EN := Lib.hid (dend d6)
      have D6W := Lib.hid d6; have M6 := Lib.hid (M5.out.trans m6)
      have HD0 := Lib.hid hd0
      clear TK2 d6 m6 hk0 hd0
      go_wp2_with fail
      refine EN.out.mono ?_
      rintro e w7 ⟨rfl, rp7, rf7, d7, hc7, m7⟩
      have A7 := Lib.hid ((m7.block A (Array.getElem?_eq_some_iff.1 A6.out).1 NI6.out).trans A6.out)
      have a0 : w7.cell? ⟨A, 0, none⟩ = some (.int .u64 x1) := cell_of_row w7 A 0 _ _ (0, 0) A7.out
      have a1 : w7.cell? ⟨A, 1, none⟩ = some (.int .i64 x2) := cell_of_row w7 A 1 _ _ (0, 0) A7.out
      have FIN := Lib.hid (show DrG w7 base T S1.take _ ∧ MvS w w7 In _ from ⟨⟨_, _, Rb, vr, rp7, rf7, j, by rw [TKH.out]; exact d7, by rw [TKH.out, List.length_set]; exact L3.out, by
        rw [TKH.out]
        intro p hp
        have := V6.out p hp
        rw [upd_upd, HC2.out, HD0.out] at this
        exact this, by rw [TKH.out, hc7, D4.out], TI.out, fun j => Iff.rfl⟩, M6.out.trans m7⟩)
      clear d7 hc7 m7 EN q0 q1 q2 q3 e0 e1 e2 f2
      go_wp2
      go_quiet (fail)
      go_wp2
      refine bodyPost_ret (v := .tuple #[.int .i64 i, .int .u64 x1, .int .i64 x2, .bool true]) (by simp [results, Try.results37, go_sem]) rfl ⟨rfl, _, FIN.out.1.below (below_drewN _ (Below.refl _ _)), FIN.out.2.drewN _⟩
    · have hd0 : (S1.q i).drop 1 ≠ [] := fun e => hk0 (by rw [← CL.out, HC2.out, e]; rfl)
      have TK2 := TK.out
      rw [if_neg hd0] at TK2
      have TKH := Lib.hid TK2
      have gk : ((k : Int) == 0) = false := by rw [beq_eq_false_iff_ne]; omega
      have gk2 : ¬ (k : Int) = 0 := by omega
      have a0 : w5.cell? ⟨A, 0, none⟩ = some (.int .u64 x1) := cell_of_row w5 A 0 _ _ (0, 0) A5.out
      have a1 : w5.cell? ⟨A, 1, none⟩ = some (.int .i64 x2) := cell_of_row w5 A 1 _ _ (0, 0) A5.out
      have FIN := Lib.hid (show DrG w5 base T S1.take _ ∧ MvS w w5 In _ from ⟨⟨_, _, Rb, vr, rp, rf, rk, by rw [TKH.out]; exact D5.out, by rw [TKH.out]; exact L3.out, by
        rw [TKH.out]
        intro p hp
        have := V4.out p hp
        rw [HC2.out] at this
        rw [HFX.out]
        exact this, by rw [TKH.out]; exact D4.out, TI.out, fun j => Iff.rfl⟩, M5.out⟩)
      clear TK2 hd0 hk0
      go_wp2
      go_quiet (fail)
      go_wp2
      refine bodyPost_ret (v := .tuple #[.int .i64 i, .int .u64 x1, .int .i64 x2, .bool true]) (by simp [results, Try.results37, go_sem]) rfl ⟨rfl, _, FIN.out.1.below (below_drewN _ (Below.refl _ _)), FIN.out.2.drewN _⟩
end Go.Proofs.Ytiogfgkfipekbaa
