/-
  The law of plays of layer 10, walked: true for any room and any acts. No condition.
-/
import Derived.Test.YtiijlfpkninmgaaTwinStep
import Derived.Test.YtiijlfpkninmgaaLives10
import Derived.Test.YtiijlfpkninmgaaOpen10
namespace Go.Proofs.Ytiijlfpkninmgaa
set_option linter.unusedVariables false
set_option linter.unusedSimpArgs false
open Go.ChangeShapes Go.WideShapes Go.ChangeAt Go.RowKit
attribute [local go_sem] alloc_drewN setCell_drewN

theorem may9_yes (room : Int) (r0 : 1 ≤ room) (r1 : room ≤ 4096) (w : World) :
    Calls Try.prog 28 #[.int .i64 room] w fun e w' => e = .returned (.bool true) ∧ w = w' := by
  go_enter Try.func28, Try.ntmps28
  go_wp2
  go_ret
  exact ⟨rfl, rfl⟩
theorem may9_no (room : Int) (h : room < 1 ∨ 4096 < room) (w : World) :
    Calls Try.prog 28 #[.int .i64 room] w fun e w' => e = .returned (.bool false) ∧ w = w' := by
  have h' : (¬ 1 ≤ room) ∨ (1 ≤ room ∧ ¬ room ≤ 4096) := by omega
  clear h
  rcases h' with h | ⟨h1, h⟩
  all_goals
    go_enter Try.func28, Try.ntmps28
    go_wp2
    go_ret
    exact ⟨rfl, rfl⟩
/-- How queue and list stand between two acts. -/
structure Play10 (W0 w : World) (Bl B : Nat) (room pd : Int) (v mv : Value) (ms : List (Ent Int)) : Prop where
  tw : TwinBI W0 w W0.heap.size B room pd v ms
  box : w.heap[Bl]? = some (.cells #[mv] 58 (0, 0))
  its : Its w W0.heap.size mv (ms.map kv)
  lowL : W0.heap.size ≤ Bl
theorem Play10.on {W0 w w' : World} {Bl B : Nat} {room pd : Int} {v mv : Value} {ms : List (Ent Int)} (h : Play10 W0 w Bl B room pd v mv ms) (hb : Below w.heap.size w w') : Play10 W0 w' Bl B room pd v mv ms :=
  ⟨h.tw.below hb, (hb.block Bl (Array.getElem?_eq_some_iff.1 h.box).1).trans h.box, h.its.below hb, h.lowL⟩
set_option maxRecDepth 100000 in
set_option maxHeartbeats 4000000 in
theorem plays10_at (room : Int) (r0 : 1 ≤ room) (r1 : room ≤ 4096) (b off c : Nat) (zs : List Act10) (hn : zs.length ≤ 300) (hok : ∀ x ∈ zs, x.ok) (w : World) (hb : b < w.heap.size)
    (hc : ∀ i, i < zs.length → w.cell? ⟨b, off + i * 3, none⟩ = some (.int .u8 (zs.getD i Act10.nil).k) ∧ w.cell? ⟨b, off + i * 3 + 1, none⟩ = some (.int .u64 (zs.getD i Act10.nil).r) ∧ w.cell? ⟨b, off + i * 3 + 2, none⟩ = some (.int .i64 (zs.getD i Act10.nil).n)) :
    Calls Try.prog 8 #[.int .i64 room, .slice (some ⟨b, off, none⟩) zs.length c] w fun e w' => e = .returned (.bool true) ∧ Below w.heap.size w w' := by
  have HC := Lib.hid hc; have HOK := Lib.hid hok
  obtain ⟨n, hN⟩ : ∃ n, n = zs.length := ⟨_, rfl⟩
  have HN := Lib.hid hN
  rw [← hN] at hn ⊢
  clear hc hok hN
  have NW := Lib.hid (newWI room r0 r1 w w (Below.refl _ _))
  have LV := Lib.hid (fun w => lives10 w)
  have n300 : ¬ (300 : Int) < n := by omega
  go_enter Try.func8, Try.ntmps8
  go_wp2_with fail
  refine NW.out.mono ?_
  rintro e w1 ⟨rfl, h1, b1⟩
  have H1 := Lib.hid (show Play10 w (w1.alloc (.cells #[.slice none 0 0] 58)) w1.heap.size w.heap.size room 0 (.slice none 0 0) (.slice none 0 0) [] from ⟨h1.below ((Below.refl _ _).alloc (Nat.le_refl _) _), heap_alloc_new w1 _, Its.nil _ _, h1.b.size⟩)
  clear h1 b1
  go_wp2_with fail
  refine (may9_yes room r0 r1 _).mono ?_
  rintro e w' ⟨rfl, rfl⟩
  go_wp2
  generalize w1.heap.size = Bl at *
  go_loopw [58] (fun x wr => ∃ (i : Nat) (v mv : Value) (ms : List (Ent Int)) (pd : Int), x = .int .i64 i ∧ i ≤ n ∧ pd ≤ i ∧ Play10 w wr Bl w.heap.size room pd v mv ms) (fun x _ => n - (intOf x).toNat)
  case atStart => exact ⟨0, _, _, [], 0, rfl, Nat.zero_le _, by omega, H1.out⟩
  case round =>
    clear H1
    obtain ⟨i, v, mv, ms, pd, rfl, hi, hpd, hP⟩ := hrel
    by_cases hin : i < n
    · have g1 : (i : Int) < n := by omega
      have g0 : (0 : Int) ≤ i := by omega
      obtain ⟨z0, z1, z2⟩ := HC.out i (by rw [← HN.out]; exact hin)
      have z0 := (hP.tw.b.cell (p := ⟨b, off + i * 3, none⟩) hb).trans z0
      have z1 := (hP.tw.b.cell (p := ⟨b, off + i * 3 + 1, none⟩) hb).trans z1
      have z2 := (hP.tw.b.cell (p := ⟨b, off + i * 3 + 2, none⟩) hb).trans z2
      have hz := HOK.out (zs.getD i Act10.nil) (by rw [List.getD_eq_getElem?_getD, List.getElem?_eq_getElem (by rw [← HN.out]; exact hin)]; exact List.getElem_mem _)
      obtain ⟨⟨k0, k1⟩, -, -⟩ := hz
      generalize (zs.getD i Act10.nil).k = κ at *
      generalize (zs.getD i Act10.nil).r = ρ at *
      generalize (zs.getD i Act10.nil).n = N at *
      have H2 := hP.on (w' := wr.alloc (.cells #[.int .u8 κ, .int .u64 ρ, .int .i64 N] 77)) ((Below.refl _ _).alloc (Nat.le_refl _) _)
      have ST := Lib.hid (step10 H2.box H2.tw H2.its H2.lowL (by omega) k0 k1 (r := ρ) (x := N))
      have HI := Lib.hid hin; have HPD := Lib.hid hpd; have LBL := Lib.hid hP.lowL
      clear H2 hP k0 k1 hi hpd
      go_wp2_with fail
      refine ST.out.mono ?_
      rintro e w3 ⟨rfl, v3, mv3, ms3, pd3, tw3, box3, its3, hpd3⟩
      have P3 := Lib.hid (show Play10 w w3 Bl w.heap.size room pd3 v3 mv3 ms3 from ⟨tw3, box3, its3, LBL.out⟩)
      have HP3 := Lib.hid hpd3
      clear tw3 box3 its3 hpd3 ST
      obtain ⟨am, cm, hmv, -, -⟩ := P3.out.its.form
      rw [List.length_map] at hmv
      subst hmv
      have BOX := Lib.hid (fun W (hW : Below w3.heap.size w3 W) => (⟨cell_of_row W Bl 0 _ _ (0, 0) (P3.out.on hW).box, frozen_of_row W Bl 0 _ _ (P3.out.on hW).box⟩ : W.cell? ⟨Bl, 0, none⟩ = some (.slice am ms3.length cm) ∧ W.frozen? ⟨Bl, 0, none⟩ = false))
      have LEN := Lib.hid (fun W (hW : Below w3.heap.size w3 W) n => lenWI ((P3.out.on hW).tw.below (below_drewN n (Below.refl _ _))).g)
      rcases ms3 with _ | ⟨e0, t⟩
      · have MIN := Lib.hid (minW_noI P3.out.tw.g)
        have FRS := Lib.hid (fun W (hW : Below w3.heap.size w3 W) => first9_nil _ _ W (P3.out.on hW).its)
        have MAX := Lib.hid (fun W (hW : Below w3.heap.size w3 W) => maxW_noI (P3.out.on hW).tw.g)
        have LST := Lib.hid (fun W (hW : Below w3.heap.size w3 W) => last9_nil _ _ W (P3.out.on hW).its)
        go_wp2_with fail
        refine MIN.out.mono ?_
        rintro e w4 ⟨rfl, hw⟩
        have hw := hw.symm
        subst hw
        have B4 := Lib.hid (Below.refl w3.heap.size w3)
        obtain ⟨c4, f4⟩ := BOX.out _ B4.out
        go_wp2_with fail
        refine (FRS.out _ B4.out).mono ?_
        rintro e w5 ⟨rfl, b5⟩
        have B5 := Lib.hid b5
        clear b5
        go_wp2_with fail
        refine (MAX.out _ B5.out).mono ?_
        rintro e w6 ⟨rfl, b6⟩
        have B6 := Lib.hid (B5.out.trans (b6.mono B5.out.size))
        clear b6
        obtain ⟨c6, f6⟩ := BOX.out _ B6.out
        go_wp2_with fail
        refine (LST.out _ B6.out).mono ?_
        rintro e w7 ⟨rfl, b7⟩
        have B7 := Lib.hid (B6.out.trans (b7.mono B6.out.size))
        clear b7
        obtain ⟨c7, f7⟩ := BOX.out _ B7.out
        go_wp2
        go_quiet ((go_at_call 45; exact Calls.quiet_of_same (LEN.out _ B7.out _)))
        go_wp2
        go_roundw
        case rel => exact ⟨i + 1, v3, _, [], pd3, by first | rfl | (congr 1; omega), by have := HI.out; omega, by have := HPD.out; have := HP3.out; omega, (P3.out.on B7.out).on (below_drewN _ (Below.refl _ _))⟩
        case measure => have := HI.out; simp [intOf]; omega
      · obtain ⟨l, z, hlz⟩ : ∃ l z, e0 :: t = l ++ [z] := by
          rcases List.eq_nil_or_concat (e0 :: t) with h | ⟨l, z, h⟩
          · cases h
          · exact ⟨l, z, by simpa using h⟩
        have MIN := Lib.hid (minWI P3.out.tw.g)
        have FRS := Lib.hid (fun W (hW : Below w3.heap.size w3 W) => show Calls Try.prog 33 #[.slice am (e0 :: t).length cm] W (fun e w' => e = .returned (.tuple #[.int .u64 e0.rk, .int .i64 e0.x, .bool true]) ∧ Below W.heap.size W w') from first9 _ _ (e0.rk, e0.x) (t.map kv) W (P3.out.on hW).its)
        have MAX := Lib.hid (fun W (hW : Below w3.heap.size w3 W) => maxWI (e0 := z) (ms := l) (by rw [← hlz]; exact (P3.out.on hW).tw.g))
        have LST := Lib.hid (fun W (hW : Below w3.heap.size w3 W) => show Calls Try.prog 44 #[.slice am (e0 :: t).length cm] W (fun e w' => e = .returned (.tuple #[.int .u64 z.rk, .int .i64 z.x, .bool true]) ∧ Below W.heap.size W w') from last9 _ _ (l.map kv) (z.rk, z.x) W (by
          have h := (P3.out.on hW).its
          have e2 : (e0 :: t).map kv = l.map kv ++ [(z.rk, z.x)] := by rw [hlz, List.map_append]; rfl
          rw [e2] at h
          exact h))
        clear hlz
        generalize hq : e0 :: t = q at *
        have HQ := Lib.hid hq
        clear hq
        go_wp2_with fail
        refine MIN.out.mono ?_
        rintro e w4 ⟨rfl, b4⟩
        have B4 := Lib.hid b4
        clear b4
        obtain ⟨c4, f4⟩ := BOX.out _ B4.out
        go_wp2_with fail
        refine (FRS.out _ B4.out).mono ?_
        rintro e w5 ⟨rfl, b5⟩
        have B5 := Lib.hid (B4.out.trans (b5.mono B4.out.size))
        clear b5
        go_wp2_with fail
        refine (MAX.out _ B5.out).mono ?_
        rintro e w6 ⟨rfl, b6⟩
        have B6 := Lib.hid (B5.out.trans (b6.mono B5.out.size))
        clear b6
        obtain ⟨c6, f6⟩ := BOX.out _ B6.out
        go_wp2_with fail
        refine (LST.out _ B6.out).mono ?_
        rintro e w7 ⟨rfl, b7⟩
        have B7 := Lib.hid (B6.out.trans (b7.mono B6.out.size))
        clear b7
        obtain ⟨c7, f7⟩ := BOX.out _ B7.out
        go_wp2
        go_quiet ((go_at_call 45; exact Calls.quiet_of_same (LEN.out _ B7.out _)))
        go_wp2
        go_roundw
        case rel => exact ⟨i + 1, v3, _, q, pd3, by first | rfl | (congr 1; omega), by have := HI.out; omega, by have := HPD.out; have := HP3.out; omega, (P3.out.on B7.out).on (below_drewN _ (Below.refl _ _))⟩
        case measure => have := HI.out; simp [intOf]; omega
    · obtain rfl : i = n := by omega
      have HB := Lib.hid hP.tw.b
      clear hP hi hin
      go_wp2_with fail
      refine (LV.out _).mono ?_
      rintro e w9 ⟨rfl, b9⟩
      go_wp2
      go_ret
      exact ⟨rfl, HB.out.trans (b9.mono HB.out.size)⟩
theorem walk_twinPlays (room : Int) (r0 : -9223372036854775808 ≤ room) (r1 : room ≤ 9223372036854775807) (a : Option Addr) (n c : Nat) (zs : List Act10) {w : World} (hr : RowA10 w a n zs) (hcap : n ≤ c) :
    Calls Try.prog 8 #[.int .i64 room, .slice a n c] w fun e w' => e = .returned (.bool true) ∧ Below w.heap.size w w' := by
  obtain ⟨hz, hm, hw, hc⟩ := hr
  unfold maxLen at hm
  have LV := Lib.hid (fun w => lives10 w)
  by_cases hroom : 1 ≤ room ∧ room ≤ 4096
  · obtain ⟨h1, h2⟩ := hroom
    by_cases hn : n ≤ 300
    · rcases Nat.eq_zero_or_pos n with h0 | h0
      · subst h0
        have NW := Lib.hid (newWI room h1 h2 w w (Below.refl _ _))
        clear hc hw hz
        go_enter Try.func8, Try.ntmps8
        go_wp2_with fail
        refine NW.out.mono ?_
        rintro e w1 ⟨rfl, h3, b1⟩
        have H1 := Lib.hid h3.b
        clear h3 b1
        go_wp2_with fail
        refine (may9_yes room h1 h2 _).mono ?_
        rintro e w' ⟨rfl, rfl⟩
        go_wp2
        refine wp_loop_rounds 1 ?_
        rw [rounds_succ]
        go_wp2_with fail
        refine (LV.out _).mono ?_
        rintro e w9 ⟨rfl, b9⟩
        go_wp2
        go_ret
        have hbx := (H1.out.alloc H1.out.size (.cells #[.slice none 0 0] 58))
        exact ⟨rfl, hbx.trans (b9.mono hbx.size)⟩
      · obtain ⟨b, off, rfl, hb, hcell⟩ := hc h0
        subst hz
        exact plays10_at room h1 h2 b off c zs hn hw w hb hcell
    · have hn' : 300 < n := by omega
      have NW := Lib.hid (newWI room h1 h2 w w (Below.refl _ _))
      clear hc hw hz hn
      go_enter Try.func8, Try.ntmps8
      go_wp2_with fail
      refine NW.out.mono ?_
      rintro e w1 ⟨rfl, h3, b1⟩
      have H1 := Lib.hid h3.b
      clear h3 b1
      go_wp2_with fail
      refine (may9_yes room h1 h2 _).mono ?_
      rintro e w' ⟨rfl, rfl⟩
      go_wp2_with fail
      refine (LV.out _).mono ?_
      rintro e w9 ⟨rfl, b9⟩
      go_wp2
      go_ret
      exact ⟨rfl, H1.out.trans (b9.mono H1.out.size)⟩
  · have NO := Lib.hid (tnew_noI room (by omega) w)
    clear hc hw hz
    by_cases h1 : room < 1
    · have h1' : ¬ 1 ≤ room := by omega
      clear hroom
      go_enter Try.func8, Try.ntmps8
      go_wp2_with fail
      refine NO.out.mono ?_
      rintro e w1 ⟨rfl, hw1⟩
      have hw1 := hw1.symm
      subst hw1
      go_wp2_with fail
      refine (may9_no room (by omega) _).mono ?_
      rintro e w' ⟨rfl, rfl⟩
      go_wp2_with fail
      refine (LV.out _).mono ?_
      rintro e w9 ⟨rfl, b9⟩
      go_wp2
      go_ret
      exact ⟨rfl, b9⟩
    · have h1' : 1 ≤ room := by omega
      have h2' : ¬ room ≤ 4096 := by omega
      clear hroom
      go_enter Try.func8, Try.ntmps8
      go_wp2_with fail
      refine NO.out.mono ?_
      rintro e w1 ⟨rfl, hw1⟩
      have hw1 := hw1.symm
      subst hw1
      go_wp2_with fail
      refine (may9_no room (by omega) _).mono ?_
      rintro e w' ⟨rfl, rfl⟩
      go_wp2_with fail
      refine (LV.out _).mono ?_
      rintro e w9 ⟨rfl, b9⟩
      go_wp2
      go_ret
      exact ⟨rfl, b9⟩
end Go.Proofs.Ytiijlfpkninmgaa
