/-
  The law of layer 16 on ranks that hang on a flow's own packets alone: walked, for any flows and acts. No condition.
-/
import Derived.Test.YtnnbkooikimedaaRankL
import Derived.Deep.CutBlock
import Derived.Deep.DeepCutAuto
namespace Go.Proofs.Ytnnbkooikimedaa
set_option linter.unusedVariables false
set_option linter.unusedSimpArgs false
open Go.ChangeShapes Go.WideShapes Go.ChangeAt Go.RowKit
attribute [local go_sem] alloc_drewN setCell_drewN

theorem RowFl.below {w w' : World} {a : Option Addr} {n : Nat} {fs : List Fl} (h : RowFl w a n fs) (hb : Below w.heap.size w w') : RowFl w' a n fs :=
  ⟨h.1, h.2.1, h.2.2.1, fun hn => by
    obtain ⟨b, off, e, hlt, hc⟩ := h.2.2.2 hn
    refine ⟨b, off, e, Nat.lt_of_lt_of_le hlt hb.size, fun i hi => ?_⟩
    obtain ⟨c0, c1, c2, c3, c4⟩ := hc i hi
    exact ⟨(hb.cell (p := ⟨b, _, none⟩) hlt).trans c0, (hb.cell (p := ⟨b, _, none⟩) hlt).trans c1, (hb.cell (p := ⟨b, _, none⟩) hlt).trans c2, (hb.cell (p := ⟨b, _, none⟩) hlt).trans c3, (hb.cell (p := ⟨b, _, none⟩) hlt).trans c4⟩⟩
theorem RowA16.atR {w w' : World} {a : Option Addr} {n : Nat} {fs : List Act16} (h : RowA16 w a n fs) (hb : Below w.heap.size w w') (i : Nat) (hi : i < n) : ∃ b off, a = some ⟨b, off, none⟩ ∧ b < w.heap.size ∧
    w'.cell? ⟨b, off + i * 5, none⟩ = some (.int .u8 (fs.getD i Act16.nil).k) ∧ w'.cell? ⟨b, off + i * 5 + 1, none⟩ = some (.int .u32 (fs.getD i Act16.nil).id) ∧ w'.cell? ⟨b, off + i * 5 + 2, none⟩ = some (.int .u64 (fs.getD i Act16.nil).n) ∧ w'.cell? ⟨b, off + i * 5 + 3, none⟩ = some (.int .u32 (fs.getD i Act16.nil).lt) ∧ w'.cell? ⟨b, off + i * 5 + 4, none⟩ = some (.slice (fs.getD i Act16.nil).ta (fs.getD i Act16.nil).tn (fs.getD i Act16.nil).tc) := by
  obtain ⟨b, off, e, hlt, hc⟩ := h.2.2.2 (by omega)
  obtain ⟨c0, c1, c2, c3, c4⟩ := hc i hi
  exact ⟨b, off, e, hlt, (hb.cell (p := ⟨b, _, none⟩) hlt).trans c0, (hb.cell (p := ⟨b, _, none⟩) hlt).trans c1, (hb.cell (p := ⟨b, _, none⟩) hlt).trans c2, (hb.cell (p := ⟨b, _, none⟩) hlt).trans c3, (hb.cell (p := ⟨b, _, none⟩) hlt).trans c4⟩
theorem RowA16.okR {w : World} {a : Option Addr} {n : Nat} {fs : List Act16} (h : RowA16 w a n fs) (i : Nat) (hi : i < n) : (fs.getD i Act16.nil).ok w := by
  rw [List.getD_eq_getElem?_getD, List.getElem?_eq_getElem (by rw [h.1]; exact hi)]
  exact h.2.2.1 _ (List.getElem_mem _)
theorem MvS.cellR {w w' : World} {S S' : Nat → Prop} (h : MvS w w' S S') (b o : Nat) (hb : b < w.heap.size) (hS : ¬ S b) : w'.cell? ⟨b, o, none⟩ = w.cell? ⟨b, o, none⟩ := by
  unfold World.cell?
  rw [h.block b hb hS]
theorem rf_set (l : List Rf) (i j : Nat) (x : Rf) (hi : i < l.length) : (l.set i x).getD j Rf.nil = if i = j then x else l.getD j Rf.nil := by
  simp only [List.getD_eq_getElem?_getD, List.getElem?_set]
  by_cases e : i = j
  · rw [if_pos e, if_pos e, if_pos (by omega)]; rfl
  · rw [if_neg e, if_neg e]
/-- Two objects' flows: those of one number are the same. -/
def Twin16 (fs : List Fl) (id : Int) (ea eb : List Rf) : Prop :=
  ea.length = fs.length ∧ eb.length = fs.length ∧ (∀ j, j < fs.length → (ea.getD j Rf.nil).id = (fs.getD j Fl.nil).id ∧ (eb.getD j Rf.nil).id = (fs.getD j Fl.nil).id) ∧ ∀ j, j < fs.length → (fs.getD j Fl.nil).id = id → ea.getD j Rf.nil = eb.getD j Rf.nil
theorem Twin16.start (kind : Int) (fs : List Fl) (id : Int) : Twin16 fs id (fs.map (initR kind)) (fs.map (initR kind)) := by
  have e : ∀ j, j < fs.length → ((fs.map (initR kind)).getD j Rf.nil).id = (fs.getD j Fl.nil).id := fun j hj => by
    rw [List.getD_eq_getElem?_getD, List.getElem?_map, List.getElem?_eq_getElem hj, List.getD_eq_getElem?_getD, List.getElem?_eq_getElem hj]; rfl
  exact ⟨by simp, by simp, fun j hj => ⟨e j hj, e j hj⟩, fun _ _ _ => rfl⟩
theorem Twin16.one {fs : List Fl} {id : Int} {ea eb : List Rf} (h : Twin16 fs id ea eb) (i : Nat) (hi : i < fs.length) (hne : (fs.getD i Fl.nil).id ≠ id) (t : Int) : Twin16 fs id (ea.set i ((ea.getD i Rf.nil).wt t)) eb := by
  obtain ⟨h1, h2, h3, h4⟩ := h
  refine ⟨by rw [List.length_set]; exact h1, h2, fun j hj => ?_, fun j hj he => ?_⟩
  · rw [rf_set ea i j _ (by omega)]
    split
    · rename_i e; subst e; exact ⟨(h3 i hi).1, (h3 i hi).2⟩
    · exact h3 j hj
  · rw [rf_set ea i j _ (by omega), if_neg (fun e => hne (by rw [e]; exact he))]
    exact h4 j hj he
theorem Twin16.both {fs : List Fl} {id : Int} {ea eb : List Rf} (h : Twin16 fs id ea eb) (i : Nat) (hi : i < fs.length) (he : (fs.getD i Fl.nil).id = id) (t : Int) : Twin16 fs id (ea.set i ((ea.getD i Rf.nil).wt t)) (eb.set i ((eb.getD i Rf.nil).wt t)) := by
  obtain ⟨h1, h2, h3, h4⟩ := h
  refine ⟨by rw [List.length_set]; exact h1, by rw [List.length_set]; exact h2, fun j hj => ?_, fun j hj hj2 => ?_⟩
  · rw [rf_set ea i j _ (by omega), rf_set eb i j _ (by omega)]
    split
    · rename_i e; subst e; exact ⟨(h3 i hi).1, (h3 i hi).2⟩
    · exact h3 j hj
  · rw [rf_set ea i j _ (by omega), rf_set eb i j _ (by omega)]
    split
    · rw [h4 i hi he]
    · exact h4 j hj hj2
set_option maxRecDepth 100000 in
set_option maxHeartbeats 4000000 in
theorem walk_rankApart {w : World} (f : Act16) (hf : f.ok w) (a1 : Option Addr) (n1 c1 : Nat) (fs : List Fl) (hr : RowFl w a1 n1 fs) (hc1 : n1 ≤ c1) (a2 : Option Addr) (n2 c2 : Nat) (zs : List Act16) (h2 : RowA16 w a2 n2 zs) (hc2 : n2 ≤ c2) :
    Calls Try.prog 11 #[.agg #[.int .u8 f.k, .int .u32 f.id, .int .u64 f.n, .int .u32 f.lt, .slice f.ta f.tn f.tc], .slice a1 n1 c1, .slice a2 n2 c2] w fun e w' => e = .returned (.bool true) ∧ Below w.heap.size w w' := by
  obtain ⟨⟨k0, k1⟩, ⟨i0, i1⟩, -⟩ := hf
  obtain ⟨fk, fid, fn, flt, fta, ftn, ftc, ftz⟩ := f
  dsimp only at k0 k1 i0 i1 ⊢
  have LV := Lib.hid (fun W => lives16 W)
  have HR := Lib.hid hr; have H2 := Lib.hid h2
  clear hr h2
  obtain ⟨W0, hW0⟩ : ∃ W0, w.alloc (.cells #[.int .u8 fk, .int .u32 fid, .int .u64 fn, .int .u32 flt, .slice fta ftn ftc] 112) = W0 := ⟨_, rfl⟩
  have cc := cells5 w (.int .u8 fk) (.int .u32 fid) (.int .u64 fn) (.int .u32 flt) (.slice fta ftn ftc) 112
  rw [hW0] at cc
  obtain ⟨d0, d1, d2, d3, d4⟩ := cc
  have B0 := Lib.hid (show Below w.heap.size w W0 by rw [← hW0]; exact (Below.refl _ w).alloc (Nat.le_refl _) _)
  by_cases hbig : (200 : Int) < n2
  · go_enter Try.func11, Try.ntmps11
    go_wp2_with fail
    clear hW0
    go_quiet (fail)
    go_wp2_with fail
    refine (LV.out _).mono ?_
    rintro e w9 ⟨rfl, b9⟩
    have FIN := Lib.hid ((below_drewN nq B0.out).trans (b9.mono (by simpa using B0.out.size)))
    clear b9
    go_wp2
    go_ret
    exact ⟨rfl, FIN.out⟩
  · obtain ⟨k, hk⟩ : ∃ k, fk % 2 + 2 = k := ⟨_, rfl⟩
    have kk0 : 2 ≤ k := by omega
    have kk1 : k ≤ 3 := by omega
    have wk : IntKind.i64.wrap (fk % 2 + 2) = k := by rw [IntKind.wrap_i64]; omega
    go_enter Try.func11, Try.ntmps11
    go_wp2_with fail
    clear hW0
    go_quiet (fail)
    have F0 : Hid (∃ W1 : World, W0.drewN nq = W1 ∧ W1.heap = W0.heap) := Lib.hid ⟨_, rfl, rfl⟩
    obtain ⟨W1, hW1, hh⟩ := F0.out
    have HB1 := Lib.hid (show Below w.heap.size w W1 by rw [← hW1]; exact below_drewN nq B0.out)
    rw [hW1]
    clear d0 d1 d2 d3 d4 hh hW1 F0 B0
    by_cases hn : n1 < 1 ∨ 64 < n1
    · have NO := Lib.hid (fun W => rnew_count k (by omega) kk1 a1 n1 c1 hn W)
      go_wp2_with fail
      refine (NO.out _).mono ?_
      rintro e w2 ⟨rfl, rfl⟩
      go_wp2_with fail
      refine (NO.out _).mono ?_
      rintro e w2 ⟨rfl, rfl⟩
      go_wp2_with fail
      refine (LV.out _).mono ?_
      rintro e w9 ⟨rfl, b9⟩
      have FIN := Lib.hid (HB1.out.trans (b9.mono HB1.out.size))
      clear b9
      go_wp2
      go_ret
      exact ⟨rfl, FIN.out⟩
    · have RF := HR.out.below HB1.out
      have NA := Lib.hid (rnew_any k (by omega) kk1 a1 n1 c1 fs RF (by omega) (by omega))
      go_wp2_with fail
      refine NA.out.mono ?_
      rintro e w1 ⟨v, code, rfl, hp, hb⟩
      have RF2 := RF.below hb
      have NB := Lib.hid (rnew_any k (by omega) kk1 a1 n1 c1 fs RF2 (by omega) (by omega))
      rcases hp with ⟨hd, rfl, rfl, va, h0⟩ | ⟨hd, rfl, rfl⟩
      · have HD := Lib.hid hd
        have HA := Lib.hid h0
        have BA := Lib.hid hb
        clear hd h0 hb RF RF2 NA
        go_wp2_with fail
        refine NB.out.mono ?_
        rintro e w2 ⟨v, code, rfl, hp, hb⟩
        obtain ⟨rfl, rfl, vb, h0⟩ : v = .pointer (some ⟨w1.heap.size, 0, none⟩) ∧ code = 0 ∧ ∃ vb, RanksAt w2 w1.heap.size w1.heap.size k 0 vb (fs.map (initR k)) := by
          rcases hp with ⟨_, h2, h3, ve, h4⟩ | ⟨h1, _⟩
          · exact ⟨h2, h3, ve, h4⟩
          · exact absurd HD.out h1
        have SEP := Lib.hid (fun j (h1 : inRa W1.heap.size va j) (h3 : inRa w1.heap.size vb j) => (by
          have := (HA.out.inlt h1).2; have := (h0.inlt h3).1; omega : False))
        have LA := Lib.hid (fun j (h1 : inRa W1.heap.size va j) => (by have := (HA.out.inlt h1).1; have := HB1.out.size; omega : w.heap.size ≤ j))
        have LB := Lib.hid (fun j (h1 : inRa w1.heap.size vb j) => (by have := (h0.inlt h1).1; have := BA.out.size; have := HB1.out.size; omega : w.heap.size ≤ j))
        have A2 := Lib.hid (HA.out.below hb)
        have B2 := Lib.hid h0
        have BW := Lib.hid (HB1.out.trans ((BA.out.trans (hb.mono BA.out.size)).mono HB1.out.size))
        have TW := Lib.hid (Twin16.start k fs fid)
        have SZ := Lib.hid (show w.heap.size ≤ w2.heap.size from BW.out.size)
        have FL := Lib.hid HR.out.1
        clear hp h0 hb NB HA BA
        go_wp2
        go_loopw [14, 58] (fun nv z wr => ∃ (i : Nat) (now : Int) (ea eb : List Rf), i ≤ n2 ∧ nv = .int .u64 now ∧ z = .int .i64 i ∧ 0 ≤ now ∧ now ≤ i * 4294967295 ∧ RanksAt wr W1.heap.size W1.heap.size k 0 va ea ∧ RanksAt wr w1.heap.size w1.heap.size k 0 vb eb ∧ Twin16 fs fid ea eb ∧ Below w.heap.size w wr) (fun _ z _ => n2 - (intOf z).toNat)
        case atStart => exact ⟨0, 0, _, _, Nat.zero_le _, rfl, rfl, by omega, by omega, A2.out, B2.out, TW.out, BW.out⟩
        case round =>
          obtain ⟨i, now, ea, eb, hi, rfl, rfl, nw0, nw1, ha, hb, ht, hbel⟩ := hrel
          have HA := Lib.hid ha; have HB := Lib.hid hb; have HT := Lib.hid ht; have HW := Lib.hid hbel
          clear A2 B2 TW BW
          by_cases hlt : i < n2
          · obtain ⟨b, off, rfl, hblt, c0, c1, c2, c3, c4⟩ := H2.out.atR hbel i hlt
            obtain ⟨-, ⟨x0, x1⟩, ⟨y0, y1⟩, ⟨l0, l1⟩, -⟩ := H2.out.okR i hlt
            have z0 : (0 : Int) ≤ i := by omega
            have z1 : (i : Int) < n2 := by omega
            obtain ⟨x, hx⟩ : ∃ x, zs.getD i Act16.nil = x := ⟨_, rfl⟩
            rw [hx] at c0 c1 c2 c3 c4 x0 x1 y0 y1 l0 l1
            clear hx
            obtain ⟨xk, xi, xn, xl, xa, xm, xc, xz⟩ := x
            dsimp only at c0 c1 c2 c3 c4 x0 x1 y0 y1 l0 l1
            obtain ⟨nw, hnw⟩ : ∃ nw, now + xl = nw := ⟨_, rfl⟩
            have v0 : 0 ≤ nw := by omega
            have v1 : nw ≤ ((i + 1 : Nat) : Int) * 4294967295 := by omega
            have v2 : nw ≤ 18446744073709551615 := by omega
            have v3 : IntKind.u64.wrap (now + xl) = nw := by rw [IntKind.wrap_u64]; omega
            obtain ⟨F, hF⟩ : ∃ F : Obj, F = .cells #[.int .u8 xk, .int .u32 xi, .int .u64 xn, .int .u32 xl, .slice xa xm xc] 112 := ⟨_, rfl⟩
            have BF := Lib.hid ((Below.refl _ wr).alloc (Nat.le_refl _) F)
            have HA1 := Lib.hid (HA.out.below BF.out)
            have HB2 := Lib.hid (HB.out.below BF.out)
            have gg := cells5 wr (.int .u8 xk) (.int .u32 xi) (.int .u64 xn) (.int .u32 xl) (.slice xa xm xc) 112
            rw [← hF] at gg
            have NG := Lib.hid (fun h => Nat.lt_irrefl _ ((HA.out.inlt (j := wr.heap.size) h).2))
            have HW1 := Lib.hid (HW.out.trans (BF.out.mono HW.out.size))
            have SW := Lib.hid (show wr.heap.size < (wr.alloc F).heap.size by simp)
            obtain ⟨l1', l2', ids, twin⟩ := HT.out
            have ID := Lib.hid ids; have TWN := Lib.hid twin; have E1 := Lib.hid l1'; have E2 := Lib.hid l2'
            have FR := first_or (fun j => (fs.getD j Fl.nil).id = xi) fs.length
            clear ha hb ht hbel ids twin l1' l2'
            rcases FR with ⟨j, hj, h1, h2⟩ | hno
            · have NXA := Lib.hid (rnext_at HA1.out (by omega) kk1 xi j (by rw [E1.out]; exact hj) (by rw [(ID.out j hj).1]; exact h1) (fun q hq => by rw [(ID.out q (by omega)).1]; exact h2 q hq) nw xn v0 v2 y0 y1)
              by_cases hid : xi = fid
              · subst hid
                have EQ := Lib.hid (TWN.out j hj h1)
                have T3 := Lib.hid (HT.out.both j hj h1 (tgOf k 0 xn (ea.getD j Rf.nil)))
                have H1 := Lib.hid h1; have HH2 := Lib.hid h2
                have NXB := Lib.hid (fun (W : World) (h : RanksAt W w1.heap.size w1.heap.size k 0 vb eb) => rnext_at h (by omega) kk1 xi j (by rw [E2.out]; exact hj) (by rw [(ID.out j hj).2]; exact H1.out) (fun q hq => by rw [(ID.out q (by omega)).2]; exact HH2.out q hq) nw xn v0 v2 y0 y1)
                rw [← EQ.out] at NXB T3
                obtain ⟨rk, hrk⟩ : ∃ rk, rkOf k 0 nw (ea.getD j Rf.nil) = rk := ⟨_, rfl⟩
                rw [hrk] at NXA NXB
                obtain ⟨ea2, he2⟩ : ∃ ea2, ea.set j ((ea.getD j Rf.nil).wt (tgOf k 0 xn (ea.getD j Rf.nil))) = ea2 := ⟨_, rfl⟩
                rw [he2] at NXA T3
                obtain ⟨eb2, he3⟩ : ∃ eb2, eb.set j ((ea.getD j Rf.nil).wt (tgOf k 0 xn (ea.getD j Rf.nil))) = eb2 := ⟨_, rfl⟩
                rw [he3] at NXB T3
                clear hrk he2 he3 h1 h2 EQ
                rw [hF] at NXA
                go_wp2_with fail
                refine NXA.out.mono ?_
                rintro e w3 ⟨rfl, h3, m3⟩
                rw [← hF] at m3
                obtain ⟨g1, g2⟩ : w3.cell? ⟨wr.heap.size, 1, none⟩ = some (.int .u32 xi) ∧ w3.cell? ⟨wr.heap.size, 2, none⟩ = some (.int .u64 xn) := ⟨(m3.cellR _ 1 SW.out NG.out).trans gg.2.1, (m3.cellR _ 2 SW.out NG.out).trans gg.2.2.1⟩
                have HA3 := Lib.hid h3
                have HB3 := Lib.hid (HB2.out.keep (fun q hq => m3.block q (HB2.out.inlt hq).2 (fun hh => SEP.out q hh hq)))
                have HW3 := Lib.hid (m3.below HW1.out LA.out (by have := SW.out; have := HW.out.size; omega))
                have SZ3 := Lib.hid m3.size
                clear h3 m3 gg hF
                have NX3 := NXB.out w3 HB3.out
                clear NXA NXB
                have NX4 := Lib.hid NX3
                clear NX3
                go_wp2_with fail
                refine NX4.out.mono ?_
                rintro e w4 ⟨rfl, h4, m4⟩
                have HA4 := Lib.hid (HA3.out.keep (fun q hq => m4.block q (HA3.out.inlt hq).2 (fun hh => SEP.out q hq hh)))
                have HB4 := Lib.hid h4
                have HW4 := Lib.hid (m4.below HW3.out LB.out HW3.out.size)
                clear h4 m4 NX4 g1 g2
                go_wp2
                go_roundw
                case rel => exact ⟨i + 1, nw, ea2, eb2, by omega, rfl, by go_num, v0, v1, HA4.out, HB4.out, T3.out, HW4.out⟩
                case measure => simp [intOf] <;> omega
              · have T3 := Lib.hid (HT.out.one j hj (by rw [h1]; exact hid) (tgOf k 0 xn (ea.getD j Rf.nil)))
                generalize rkOf k 0 nw (ea.getD j Rf.nil) = rk at NXA
                obtain ⟨ea2, he2⟩ : ∃ ea2, ea.set j ((ea.getD j Rf.nil).wt (tgOf k 0 xn (ea.getD j Rf.nil))) = ea2 := ⟨_, rfl⟩
                rw [he2] at NXA T3
                clear he2 h1 h2
                rw [hF] at NXA
                go_wp2_with fail
                refine NXA.out.mono ?_
                rintro e w3 ⟨rfl, h3, m3⟩
                rw [← hF] at m3
                obtain ⟨g1, g2⟩ : w3.cell? ⟨wr.heap.size, 1, none⟩ = some (.int .u32 xi) ∧ w3.cell? ⟨wr.heap.size, 2, none⟩ = some (.int .u64 xn) := ⟨(m3.cellR _ 1 SW.out NG.out).trans gg.2.1, (m3.cellR _ 2 SW.out NG.out).trans gg.2.2.1⟩
                have HA3 := Lib.hid h3
                have HB3 := Lib.hid (HB2.out.keep (fun q hq => m3.block q (HB2.out.inlt hq).2 (fun hh => SEP.out q hh hq)))
                have HW3 := Lib.hid (m3.below HW1.out LA.out (by have := SW.out; have := HW.out.size; omega))
                clear h3 m3 gg hF NXA
                go_wp2
                go_roundw
                case rel => exact ⟨i + 1, nw, ea2, eb, by omega, rfl, by go_num, v0, v1, HA3.out, HB3.out, T3.out, HW3.out⟩
                case measure => simp [intOf] <;> omega
            · have PO := Lib.hid (show 0 < fs.length by rw [FL.out]; omega)
              have NXA := Lib.hid (rnext_no HA1.out (by rw [E1.out]; exact PO.out) xi (fun q hq => by rw [(ID.out q (by rw [E1.out] at hq; exact hq)).1]; exact hno q (by rw [E1.out] at hq; exact hq)) nw xn)
              by_cases hid : xi = fid
              · subst hid
                have HN := Lib.hid hno
                have NXB := Lib.hid (fun (W : World) (h : RanksAt W w1.heap.size w1.heap.size k 0 vb eb) => rnext_no h (by rw [E2.out]; exact PO.out) xi (fun q hq => by rw [(ID.out q (by rw [E2.out] at hq; exact hq)).2]; exact HN.out q (by rw [E2.out] at hq; exact hq)) nw xn)
                clear hno
                rw [hF] at NXA
                go_wp2_with fail
                refine NXA.out.mono ?_
                rintro e w3 ⟨rfl, b3⟩
                rw [← hF] at b3
                obtain ⟨g1, g2⟩ : w3.cell? ⟨wr.heap.size, 1, none⟩ = some (.int .u32 xi) ∧ w3.cell? ⟨wr.heap.size, 2, none⟩ = some (.int .u64 xn) := ⟨(b3.cell (p := ⟨wr.heap.size, 1, none⟩) SW.out).trans gg.2.1, (b3.cell (p := ⟨wr.heap.size, 2, none⟩) SW.out).trans gg.2.2.1⟩
                have HA3 := Lib.hid (HA1.out.below b3)
                have HB3 := Lib.hid (HB2.out.below b3)
                have HW3 := Lib.hid (HW1.out.trans (b3.mono (by have := SW.out; have := HW.out.size; omega)))
                clear b3 gg hF
                have NX4 := Lib.hid (NXB.out w3 HB3.out)
                clear NXA NXB
                go_wp2_with fail
                refine NX4.out.mono ?_
                rintro e w4 ⟨rfl, b4⟩
                have HA4 := Lib.hid (HA3.out.below b4)
                have HB4 := Lib.hid (HB3.out.below b4)
                have HW4 := Lib.hid (HW3.out.trans (b4.mono HW3.out.size))
                clear b4 NX4 g1 g2
                go_wp2
                go_roundw
                case rel => exact ⟨i + 1, nw, ea, eb, by omega, rfl, by go_num, v0, v1, HA4.out, HB4.out, HT.out, HW4.out⟩
                case measure => simp [intOf] <;> omega
              · clear hno
                rw [hF] at NXA
                go_wp2_with fail
                refine NXA.out.mono ?_
                rintro e w3 ⟨rfl, b3⟩
                rw [← hF] at b3
                obtain ⟨g1, g2⟩ : w3.cell? ⟨wr.heap.size, 1, none⟩ = some (.int .u32 xi) ∧ w3.cell? ⟨wr.heap.size, 2, none⟩ = some (.int .u64 xn) := ⟨(b3.cell (p := ⟨wr.heap.size, 1, none⟩) SW.out).trans gg.2.1, (b3.cell (p := ⟨wr.heap.size, 2, none⟩) SW.out).trans gg.2.2.1⟩
                have HA3 := Lib.hid (HA1.out.below b3)
                have HB3 := Lib.hid (HB2.out.below b3)
                have HW3 := Lib.hid (HW1.out.trans (b3.mono (by have := SW.out; have := HW.out.size; omega)))
                clear b3 gg hF NXA
                go_wp2
                go_roundw
                case rel => exact ⟨i + 1, nw, ea, eb, by omega, rfl, by go_num, v0, v1, HA3.out, HB3.out, HT.out, HW3.out⟩
                case measure => simp [intOf] <;> omega
          · go_wp2_with fail
            refine (LV.out _).mono ?_
            rintro e w9 ⟨rfl, b9⟩
            have FIN := Lib.hid (HW.out.trans (b9.mono HW.out.size))
            clear b9
            go_wp2
            go_ret
            exact ⟨rfl, FIN.out⟩
      · have HD := Lib.hid hd
        have BA := Lib.hid hb
        clear hd hb RF RF2 NA
        go_wp2_with fail
        refine NB.out.mono ?_
        rintro e w2 ⟨v, code, rfl, hp, hb⟩
        obtain ⟨rfl, rfl⟩ : v = .pointer none ∧ code = 30 := by
          rcases hp with ⟨h1, _⟩ | ⟨_, h2, h3⟩
          · exact absurd h1 HD.out
          · exact ⟨h2, h3⟩
        have BW := Lib.hid (HB1.out.trans ((BA.out.trans (hb.mono BA.out.size)).mono HB1.out.size))
        clear hp hb
        go_wp2_with fail
        refine (LV.out _).mono ?_
        rintro e w9 ⟨rfl, b9⟩
        have FIN := Lib.hid (BW.out.trans (b9.mono BW.out.size))
        clear b9
        go_wp2
        go_ret
        exact ⟨rfl, FIN.out⟩
end Go.Proofs.Ytnnbkooikimedaa
