/-
  The law of layer 13 on all that is offered and taken, walked: true for any gate, ranks and takes. No condition.
-/
import Derived.Test.YteblhgmepfegpaaAifoT
import Derived.Deep.CutBlock
import Derived.Deep.DeepCutAuto
import Derived.RegionTactic
import Derived.Deep.RegionWith
import Derived.Deep.RegionHeld3
namespace Go.Proofs.Yteblhgmepfegpaa
set_option linter.unusedVariables false
set_option linter.unusedSimpArgs false
open Go.ChangeShapes Go.WideShapes Go.ChangeAt Go.RowKit
attribute [local go_sem] alloc_drewN setCell_drewN

theorem Two.drew {w : World} {base G M : Nat} {room win num den : Int} {a b : Nat} {WA WB : List Int} {q : Nat} (h : Two w base G M room win num den a WA b WB) : Two (w.drewN q) base G M room win num den a WA b WB := h.heap rfl
theorem Two.drew1 {w : World} {base G M : Nat} {room win num den : Int} {a b : Nat} {WA WB : List Int} (h : Two w base G M room win num den a WA b WB) : Two w.drew base G M room win num den a WA b WB := h.heap rfl
theorem two_start {w : World} {base G R C : Nat} {room win num den : Int} (g : GtAt w base G R C room win num den 0 (.slice none 0 0) (.slice none 0 0) [] 0 0 []) (hb : base ≤ w.heap.size) (hchk : chk room win num den = 0) :
    Two (w.alloc (.cells #[.int .i64 room, .int .i64 win, .int .u64 num, .int .u64 den, .int .i64 0, .slice none 0 0] 81)) base G w.heap.size room win num den 0 [] 0 [] := by
  have ha := fun j hj => ((Below.refl w.heap.size w).alloc (Nat.le_refl _) (.cells #[.int .i64 room, .int .i64 win, .int .u64 num, .int .u64 den, .int .i64 0, .slice none 0 0] 81)).block j hj
  have hc : room ≥ 1 ∧ room ≤ 4096 ∧ win ≥ 1 ∧ win ≤ 1024 := by unfold chk at hchk; split at hchk <;> omega
  refine ⟨R, C, .slice none 0 0, .slice none 0 0, [], 0, 0, [], .slice none 0 0, g.keep (fun j hj => ha j (g.inlt hj).2), ⟨heap_alloc_new _ _, hb, U64s.nil _ _, hc.1, hc.2.1, hc.2.2.1, hc.2.2.2, g.n0, g.n1, g.d1, by simpa using (by omega : (0:Int) ≤ room), by simpa using (by omega : (0:Int) ≤ win)⟩, fun j hj hM => ?_, rfl⟩
  rcases hM with rfl | hM
  · have := (g.inlt hj).2; omega
  · simp [Value.ownBlock] at hM
theorem Row1.at {k : IntKind} {w w' : World} {a : Option Addr} {n : Nat} {zs : List Int} (h : Row1 k w a n zs) (hb : Below w.heap.size w w') (i : Nat) (hi : i < n) : ∃ b off, a = some ⟨b, off, none⟩ ∧ w'.cell? ⟨b, off + i, none⟩ = some (.int k (zs.getD i 0)) := by
  obtain ⟨b, off, e, hlt, hc⟩ := h.2.2.2 (by omega)
  exact ⟨b, off, e, (hb.cell (p := ⟨b, off + i, none⟩) hlt).trans (hc i hi)⟩
set_option maxRecDepth 100000 in
set_option maxHeartbeats 8000000 in
theorem plays13_at (room win num den : Int) (hroom : -9223372036854775808 ≤ room ∧ room ≤ 9223372036854775807) (hwin : -9223372036854775808 ≤ win ∧ win ≤ 9223372036854775807) (hnum : 0 ≤ num) (hden : 0 ≤ den) (a1 : Option Addr) (n1 c1 : Nat) (zs : List Int) (a2 : Option Addr) (n2 c2 : Nat) (ts : List Int) {w : World} (hr : Row1 .u64 w a1 n1 zs) (ht : Row1 .u8 w a2 n2 ts) (hchk : chk room win num den = 0) (hn1 : n1 ≤ 200) (hn2 : n2 ≤ 200) :
    Calls Try.prog 5 #[.agg #[.int .i64 room, .int .i64 win, .int .u64 num, .int .u64 den], .slice a1 n1 c1, .slice a2 n2 c2] w fun e w' => e = .returned (.bool true) ∧ Below w.heap.size w w' := by
  have hm1 : ¬ (200 : Int) < n1 := by omega
  have hm2 : ¬ (200 : Int) < n2 := by omega
  obtain ⟨W0, hW0⟩ : ∃ W0, w.alloc (.cells #[.int .i64 room, .int .i64 win, .int .u64 num, .int .u64 den] 73) = W0 := ⟨_, rfl⟩
  have B0 : Below w.heap.size w W0 := by rw [← hW0]; exact (Below.refl _ w).alloc (Nat.le_refl _) _
  have e0 : W0.cell? ⟨w.heap.size, 0, none⟩ = some (.int .i64 room) := by rw [← hW0]; simp [go_sem]
  have e1 : W0.cell? ⟨w.heap.size, 1, none⟩ = some (.int .i64 win) := by rw [← hW0]; simp [go_sem]
  have e2 : W0.cell? ⟨w.heap.size, 2, none⟩ = some (.int .u64 num) := by rw [← hW0]; simp [go_sem]
  have e3 : W0.cell? ⟨w.heap.size, 3, none⟩ = some (.int .u64 den) := by rw [← hW0]; simp [go_sem]
  have hlt : w.heap.size < W0.heap.size := by rw [← hW0]; simp
  have NW := Lib.hid (gnew_ok room win num den W0 hnum hchk)
  have RC := Lib.hid (rcheck room win num den)
  rw [hchk] at RC
  have HB0 := Lib.hid B0; have HLT := Lib.hid hlt
  have HR := Lib.hid hr; have HT := Lib.hid ht
  clear B0 hr ht hlt
  go_enter Try.func5, Try.ntmps5
  go_wp2_with fail
  refine NW.out.mono ?_
  rintro e w1 ⟨G, R, C, rfl, g1, b1⟩
  have f0 := (b1.cell (p := ⟨w.heap.size, 0, none⟩) HLT.out).trans e0
  have f1 := (b1.cell (p := ⟨w.heap.size, 1, none⟩) HLT.out).trans e1
  have f2 := (b1.cell (p := ⟨w.heap.size, 2, none⟩) HLT.out).trans e2
  have f3 := (b1.cell (p := ⟨w.heap.size, 3, none⟩) HLT.out).trans e3
  have hbs : W0.heap.size ≤ w1.heap.size := b1.size
  have G1 := Lib.hid (two_start g1 hbs hchk)
  have HB1 := Lib.hid (HB0.out.trans (b1.mono HB0.out.size))
  clear e0 e1 e2 e3 g1 b1 NW hW0
  go_wp2_with fail
  refine (RC.out _).mono ?_
  rintro e w' ⟨rfl, rfl⟩
  have HSZ := Lib.hid (show w.heap.size ≤ W0.heap.size by have := HLT.out; omega)
  have HBA : Hid (∀ o, Below w.heap.size w (w'.alloc o)) := Lib.hid (fun o => HB1.out.alloc HB1.out.size o)
  have HB2 : Hid (∀ o, W0.heap.size ≤ (w'.alloc o).heap.size) := Lib.hid (fun o => by simp; omega)
  go_wp2
  clear f0 f1 f2 f3
  go_loopw [70] (fun x wr => ∃ (i a : Nat) (WA : List Int), i ≤ n1 ∧ x = .int .i64 i ∧ Two wr W0.heap.size G w'.heap.size room win num den a WA a WA ∧ Below w.heap.size w wr ∧ W0.heap.size ≤ wr.heap.size) (fun x _ => n1 - (intOf x).toNat)
  case atStart => exact ⟨0, 0, [], Nat.zero_le _, rfl, G1.out, HBA.out _, HB2.out _⟩
  case round =>
    obtain ⟨i, a, WA, hi, rfl, htw, hb, hsz⟩ := hrel
    by_cases hlt : i < n1
    · have TW := Lib.hid htw
      have HB := Lib.hid hb
      have HS := Lib.hid hsz
      obtain ⟨g, off, rfl, cg⟩ := HR.out.at hb i hlt
      have i0 : (0 : Int) ≤ i := by omega
      have i1 : (i : Int) < n1 := by omega
      clear htw hb hsz
      generalize zs.getD i 0 = x at *
      go_wp2
      go_region_with (first
        | (go_at_call 32; refine (two_may1 TW.out.drew1 x).mono ?_; rintro e w2 ⟨rfl, q2, hw2⟩; have T2 := Lib.hid (hw2 ▸ TW.out.drew1.drew); have B2 := Lib.hid (hw2 ▸ below_drewN q2 HB.out.drew); have S2 := Lib.hid (show W0.heap.size ≤ w2.heap.size by rw [hw2]; simpa using HS.out); clear hw2)
        | (go_at_call 33; refine (two_may2 T2.out x).mono ?_; rintro e w3 ⟨rfl, q3, hw3⟩; have T3 := Lib.hid (hw3 ▸ T2.out.drew); have B3 := Lib.hid (hw3 ▸ below_drewN q3 B2.out); have S3 := Lib.hid (show W0.heap.size ≤ w3.heap.size by rw [hw3]; simpa using S2.out); clear hw3)
        | (go_at_call 34; refine (two_offer1 T3.out x S3.out).mono ?_; rintro e w4 ⟨rfl, t4, b4⟩; have T4 := Lib.hid t4; have B4 := Lib.hid (B3.out.trans (b4.mono HSZ.out)); have S4 := Lib.hid (Nat.le_trans S3.out b4.size); clear t4 b4)
        | (go_at_call 35; refine (two_offer2 T4.out x S4.out).mono ?_; rintro e w5 ⟨rfl, t5, b5⟩; have T5 := Lib.hid t5; have B5 := Lib.hid (B4.out.trans (b5.mono HSZ.out)); have S5 := Lib.hid (Nat.le_trans S4.out b5.size); have c5 := t5.cells.1; clear t5 b5)
        | (go_at_call 36; refine (two_len T5.out).mono ?_; rintro e w6 ⟨rfl, hw6⟩; subst hw6))
      all_goals
        clear TW HB HS T2 T3 T4 B2 B3 B4 S2 S3 S4 c5
        generalize bump a (mayP room num den a WA x) = a5 at *
        generalize winP WA win.toNat x = W5 at *
        go_wp2
        go_loopw [13] (fun y wq => ∃ (k c : Nat), k ≤ 2 ∧ y = .int .i64 k ∧ Two wq W0.heap.size G w'.heap.size room win num den c W5 c W5 ∧ Below w.heap.size w wq ∧ W0.heap.size ≤ wq.heap.size) (fun y _ => 2 - (intOf y).toNat)
        case atStart => exact ⟨0, a5, by omega, rfl, T5.out, B5.out, S5.out⟩
        case round =>
          obtain ⟨k, c, hk, rfl, htq, hbq, hsq⟩ := hrel
          by_cases h2 : i < n2
          · obtain ⟨g2, off2, rfl, cg2⟩ := HT.out.at hbq i h2
            obtain ⟨t0, t1⟩ := bounds_u8 (HT.out.2.2.1 (ts.getD i 0) (by
              have hl := HT.out.1
              rw [List.getD_eq_getElem?_getD, List.getElem?_eq_getElem (by omega)]
              exact List.getElem_mem _))
            generalize ts.getD i 0 = t at *
            have i2 : (i : Int) < n2 := by omega
            have hm3 : 0 ≤ t % 3 ∧ t % 3 ≤ 2 := by omega
            by_cases h3 : (k : Int) < t % 3
            · go_wp2
              have TQ := Lib.hid htq
              have BQ := Lib.hid hbq
              have SQ := Lib.hid hsq
              have c4 := htq.cells.1
              have hcr : ((c - 1 : Nat) : Int) ≤ room := by have := htq.wb; omega
              have hcb : c ≤ 4096 := by have := htq.wb; omega
              clear htq hbq hsq T5 B5 S5 cg cg2 HR HT
              go_region_held3 (fun v => v.cell? ⟨w'.heap.size, 4, none⟩ = some (.int .i64 c)) ((first | exact d4 | exact c4)) (first
                | (go_at_call 37; refine (two_take TQ.out.drew1 SQ.out).mono ?_; rintro e w2 ⟨rfl, t2, b2⟩; have T2 := Lib.hid t2; have B2 := Lib.hid (BQ.out.drew.trans (b2.mono HSZ.out)); have S2 := Lib.hid (Nat.le_trans SQ.out b2.size); have d4 := t2.cells.1; have df := t2.cells.2.1; clear t2 b2))
              all_goals
                have hv : (if (c : Int) - 1 < 0 then 0 else (c : Int) - 1) = ((c - 1 : Nat) : Int) := by split <;> omega
                obtain ⟨t9, b9⟩ := two_setM T2.out (c - 1) hcr S2.out
                have hb9 := B2.out.trans (b9.mono HSZ.out)
                have hs9 := Nat.le_trans S2.out b9.size
                clear b9
                go_wp2
                go_roundw
                case rel => exact ⟨k + 1, c - 1, by omega, by go_num, t9, hb9, hs9⟩
                case measure => simp [intOf] <;> omega
            · go_wp2
              clear cg2
              have TQ := Lib.hid htq
              have BQ := Lib.hid hbq
              have SQ := Lib.hid hsq
              have c4 := htq.cells.1
              obtain ⟨vm, c5, um⟩ := htq.cells.2.2
              have UM := Lib.hid um
              have hML : w'.heap.size < wr.heap.size := block_lt c5
              have WL := Lib.hid (show W5.length ≤ 100000 by have := htq.wb; omega)
              clear htq hbq hsq um T5 B5 S5 cg HR HT
              have DR := Lib.hid (Below.refl wr.heap.size wr)
              have SK : Hid (∀ v : World, Below wr.heap.size wr v → v.cell? ⟨w'.heap.size, 4, none⟩ = some (.int .i64 c) ∧ v.cell? ⟨w'.heap.size, 5, none⟩ = some vm) := Lib.hid (fun v hv => ⟨(hv.cell (p := ⟨w'.heap.size, 4, none⟩) hML).trans c4, (hv.cell (p := ⟨w'.heap.size, 5, none⟩) hML).trans c5⟩)
              go_region_held3 (fun v => v.cell? ⟨w'.heap.size, 4, none⟩ = some (.int .i64 c) ∧ v.cell? ⟨w'.heap.size, 5, none⟩ = some vm) ((first | exact SK.out _ D8.out | exact SK.out _ D7.out | exact SK.out _ DR.out.drew | exact SK.out _ DR.out)) (first
                | (go_at_call 36; refine (two_len TQ.out.drew1).mono ?_; rintro e w6 ⟨rfl, hw6⟩; subst hw6)
                | (go_at_call 39; refine (two_window TQ.out.drew1).mono ?_; rintro e w7 ⟨v7, rfl, u7, b7⟩; have U7 := Lib.hid u7; have M7 := Lib.hid ((U64s.heap (w' := World.drew _) UM.out rfl).below b7); have T7 := Lib.hid (TQ.out.drew1.below b7); have B7 := Lib.hid (BQ.out.drew.trans (b7.mono BQ.out.size)); have S7 := Lib.hid (Nat.le_trans SQ.out b7.size); have D7 := Lib.hid (DR.out.drew.trans (b7.mono (Nat.le_refl _))); clear u7 b7)
                | (go_at_call 38; refine (samenum U7.out M7.out WL.out).mono ?_; rintro e w8 ⟨rfl, b8⟩; have T8 := Lib.hid (T7.out.below b8); have B8 := Lib.hid (B7.out.trans (b8.mono B7.out.size)); have S8 := Lib.hid (Nat.le_trans S7.out b8.size); have D8 := Lib.hid (D7.out.trans (b8.mono D7.out.size)); clear b8))
              all_goals
                go_wp2
                go_roundw
                case rel => exact ⟨i + 1, c, W5, by omega, by go_num, T8.out, B8.out, S8.out⟩
                case measure => simp [intOf] <;> omega
          · have i2 : ¬ (i : Int) < n2 := by omega
            go_wp2
            have TQ := Lib.hid htq
            have BQ := Lib.hid hbq
            have SQ := Lib.hid hsq
            have c4 := htq.cells.1
            obtain ⟨vm, c5, um⟩ := htq.cells.2.2
            have UM := Lib.hid um
            have hML : w'.heap.size < wr.heap.size := block_lt c5
            have WL := Lib.hid (show W5.length ≤ 100000 by have := htq.wb; omega)
            clear htq hbq hsq um T5 B5 S5 cg HR HT
            have DR := Lib.hid (Below.refl wr.heap.size wr)
            have SK : Hid (∀ v : World, Below wr.heap.size wr v → v.cell? ⟨w'.heap.size, 4, none⟩ = some (.int .i64 c) ∧ v.cell? ⟨w'.heap.size, 5, none⟩ = some vm) := Lib.hid (fun v hv => ⟨(hv.cell (p := ⟨w'.heap.size, 4, none⟩) hML).trans c4, (hv.cell (p := ⟨w'.heap.size, 5, none⟩) hML).trans c5⟩)
            go_region_held3 (fun v => v.cell? ⟨w'.heap.size, 4, none⟩ = some (.int .i64 c) ∧ v.cell? ⟨w'.heap.size, 5, none⟩ = some vm) ((first | exact SK.out _ D8.out | exact SK.out _ D7.out | exact SK.out _ DR.out.drew | exact SK.out _ DR.out)) (first
              | (go_at_call 36; refine (two_len TQ.out.drew1).mono ?_; rintro e w6 ⟨rfl, hw6⟩; subst hw6)
              | (go_at_call 39; refine (two_window TQ.out.drew1).mono ?_; rintro e w7 ⟨v7, rfl, u7, b7⟩; have U7 := Lib.hid u7; have M7 := Lib.hid ((U64s.heap (w' := World.drew _) UM.out rfl).below b7); have T7 := Lib.hid (TQ.out.drew1.below b7); have B7 := Lib.hid (BQ.out.drew.trans (b7.mono BQ.out.size)); have S7 := Lib.hid (Nat.le_trans SQ.out b7.size); have D7 := Lib.hid (DR.out.drew.trans (b7.mono (Nat.le_refl _))); clear u7 b7)
              | (go_at_call 38; refine (samenum U7.out M7.out WL.out).mono ?_; rintro e w8 ⟨rfl, b8⟩; have T8 := Lib.hid (T7.out.below b8); have B8 := Lib.hid (B7.out.trans (b8.mono B7.out.size)); have S8 := Lib.hid (Nat.le_trans S7.out b8.size); have D8 := Lib.hid (D7.out.trans (b8.mono D7.out.size)); clear b8))
            all_goals
              go_wp2
              go_roundw
              case rel => exact ⟨i + 1, c, W5, by omega, by go_num, T8.out, B8.out, S8.out⟩
              case measure => simp [intOf] <;> omega
    · have HB := Lib.hid hb
      clear htw hb hsz HR HT
      go_wp2_with fail
      refine (lives13 _).mono ?_
      rintro e w2 ⟨rfl, b2⟩
      have hb2 := HB.out.trans (b2.mono HB.out.size)
      clear b2
      go_wp2
      go_ret
      exact ⟨rfl, hb2⟩
end Go.Proofs.Yteblhgmepfegpaa
