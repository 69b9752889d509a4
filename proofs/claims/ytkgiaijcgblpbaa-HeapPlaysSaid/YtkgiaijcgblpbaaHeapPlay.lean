/-
  The law of plays of layer 9, walked: true for any room and any acts. No condition.
-/
import Derived.Test.YtkgiaijcgblpbaaHeapAll
import Derived.Test.YtkgiaijcgblpbaaSame9
import Derived.Test.YtkgiaijcgblpbaaLives9
import Derived.Test.YtkgiaijcgblpbaaOpen10
import Derived.Deep.CutBlock
import Derived.Deep.DeepCutAuto
namespace Go.Proofs.Ytkgiaijcgblpbaa
set_option linter.unusedVariables false
set_option linter.unusedSimpArgs false
open Go.ChangeShapes Go.WideShapes Go.ChangeAt Go.RowKit
attribute [local go_sem] alloc_drewN setCell_drewN

theorem insR_kvH (e : Ent Int) : ∀ ms, (insR ms e).map kvH = insP (ms.map kvH) (kvH e)
  | [] => rfl
  | m :: ms => by
    unfold insR
    rw [List.map_cons, insP]
    by_cases h : e.rk < m.rk
    · rw [if_pos h, if_pos (show (kvH e).1 < (kvH m).1 from h)]; rfl
    · rw [if_neg h, if_neg (show ¬ (kvH e).1 < (kvH m).1 from h), List.map_cons, insR_kvH e ms]
theorem own_lower9 {w : World} {b b2 : Nat} {v : Value} {xs : List (Int × Int)} (h : Its w b v xs) (hb : b2 ≤ b) : Its w b2 v xs := by
  refine ⟨h.1, ?_⟩
  rcases h.2 with hh | ⟨g, cap, cur, e, hg, rest⟩
  · exact Or.inl hh
  · exact Or.inr ⟨g, cap, cur, e, Nat.le_trans hb hg, rest⟩
theorem mayH_yes (room : Int) (r0 : 1 ≤ room) (r1 : room ≤ 4096) (w : World) :
    Calls Try.prog 28 #[.int .i64 room] w fun e w' => e = .returned (.bool true) ∧ w = w' := by
  go_enter Try.func28, Try.ntmps28
  go_wp2
  go_ret
  exact ⟨rfl, rfl⟩
theorem mayH_no (room : Int) (h : room < 1 ∨ 4096 < room) (w : World) :
    Calls Try.prog 28 #[.int .i64 room] w fun e w' => e = .returned (.bool false) ∧ w = w' := by
  have h' : (¬ 1 ≤ room) ∨ (1 ≤ room ∧ ¬ room ≤ 4096) := by omega
  clear h
  rcases h' with h | ⟨h1, h⟩
  all_goals
    go_enter Try.func28, Try.ntmps28
    go_wp2
    go_ret
    exact ⟨rfl, rfl⟩
theorem hnew_noH (room : Int) (h : room < 1 ∨ 4096 < room) (w : World) :
    Calls Try.prog 27 #[.int .i64 room] w fun e w' => e = .returned (.tuple #[.pointer none, .int .i64 25]) ∧ w = w' := by
  rcases h with h | h
  · go_enter Try.func27, Try.ntmps27
    go_wp2
    go_ret2
    exact ⟨rfl, rfl⟩
  · have h0 : ¬ room < 1 := by omega
    go_enter Try.func27, Try.ntmps27
    go_wp2
    go_ret2
    exact ⟨rfl, rfl⟩
/-- How heap and list stand between two acts. -/
structure HPl (W0 w : World) (B : Nat) (room pd : Int) (v mv : Value) (ms : List (Ent Int)) : Prop where
  hp : HeapBI W0 w B room pd v ms
  its : Its w W0.heap.size mv (ms.map kvH)
theorem HPl.on {W0 w w' : World} {B : Nat} {room pd : Int} {v mv : Value} {ms : List (Ent Int)} (h : HPl W0 w B room pd v mv ms) (hb : Below w.heap.size w w') : HPl W0 w' B room pd v mv ms := ⟨h.hp.below hb, h.its.below hb⟩
theorem HPl.mv {W0 w w' : World} {B : Nat} {room pd pd' : Int} {v v' mv : Value} {ms ms' : List (Ent Int)} (h : HPl W0 w B room pd v mv ms) (h' : HeapBI W0 w' B room pd' v' ms') (m : Mv w w' B v v') : Its w' W0.heap.size mv (ms.map kvH) := by
  obtain ⟨k1, k2⟩ := h.hp.g.ints h.its (by decide) (by decide)
  exact (m.row h.its k1 k2).1
theorem Mv.cell9 {w w' : World} {B : Nat} {v v' : Value} (m : Mv w w' B v v') {A o : Nat} {u : Value} (h : w.cell? ⟨A, o, none⟩ = some u) (h1 : A ≠ B) (h2 : v.ownBlock ≠ some A) : w'.cell? ⟨A, o, none⟩ = some u := by
  have hlt : A < w.heap.size := block_lt h
  have e := m.block A hlt h1 (fun e => h2 e.symm)
  rw [← h]; unfold World.cell?; rw [e]
set_option maxRecDepth 100000 in
set_option maxHeartbeats 8000000 in
theorem plays9_at (room : Int) (r0 : 1 ≤ room) (r1 : room ≤ 4096) (b off c : Nat) (zs : List Act10) (hn : zs.length ≤ 200) (hok : ∀ x ∈ zs, x.ok) (w : World) (hb : b < w.heap.size)
    (hc : ∀ i, i < zs.length → w.cell? ⟨b, off + i * 3, none⟩ = some (.int .u8 (zs.getD i Act10.nil).k) ∧ w.cell? ⟨b, off + i * 3 + 1, none⟩ = some (.int .u64 (zs.getD i Act10.nil).r) ∧ w.cell? ⟨b, off + i * 3 + 2, none⟩ = some (.int .i64 (zs.getD i Act10.nil).n)) :
    Calls Try.prog 5 #[.int .i64 room, .slice (some ⟨b, off, none⟩) zs.length c] w fun e w' => e = .returned (.bool true) ∧ Below w.heap.size w w' := by
  have HC := Lib.hid hc; have HOK := Lib.hid hok
  obtain ⟨n, hN⟩ : ∃ n, n = zs.length := ⟨_, rfl⟩
  have HN := Lib.hid hN
  rw [← hN] at hn ⊢
  clear hc hok hN
  have NW := Lib.hid (newBI room r0 r1 w)
  have LV := Lib.hid (fun w => lives9 w)
  have n200 : ¬ (200 : Int) < n := by omega
  go_enter Try.func5, Try.ntmps5
  go_wp2_with fail
  refine NW.out.mono ?_
  rintro e w1 ⟨rfl, h1⟩
  have H1 : Hid (HPl w w1 w.heap.size room 0 (.slice none 0 0) (.slice none 0 0) []) := Lib.hid ⟨h1, Its.nil _ _⟩
  clear h1
  go_wp2_with fail
  refine (mayH_yes room r0 r1 _).mono ?_
  rintro e w' ⟨rfl, rfl⟩
  go_wp2
  generalize hB : w.heap.size = B at *
  have HB := Lib.hid hB
  clear hB
  go_loopw [8, 59] (fun y x wr => ∃ (i : Nat) (v mv : Value) (ms : List (Ent Int)) (pd : Int), mv = y ∧ x = .int .i64 i ∧ i ≤ n ∧ pd ≤ i ∧ HPl w wr B room pd v mv ms) (fun _ x _ => n - (intOf x).toNat)
  case atStart => exact ⟨0, _, _, [], 0, rfl, rfl, Nat.zero_le _, by omega, H1.out⟩
  case round =>
    clear H1
    obtain ⟨i, v, mv, ms, pd, rfl, rfl, hi, hpd, hP⟩ := hrel
    by_cases hin : i < n
    · have g1 : (i : Int) < n := by omega
      have g0 : (0 : Int) ≤ i := by omega
      obtain ⟨z0, z1, z2⟩ := HC.out i (by rw [← HN.out]; exact hin)
      have z0 := (hP.hp.b.cell (p := ⟨b, off + i * 3, none⟩) (by rw [HB.out]; exact hb)).trans z0
      have z1 := (hP.hp.b.cell (p := ⟨b, off + i * 3 + 1, none⟩) (by rw [HB.out]; exact hb)).trans z1
      have z2 := (hP.hp.b.cell (p := ⟨b, off + i * 3 + 2, none⟩) (by rw [HB.out]; exact hb)).trans z2
      have hz := HOK.out (zs.getD i Act10.nil) (by rw [List.getD_eq_getElem?_getD, List.getElem?_eq_getElem (by rw [← HN.out]; exact hin)]; exact List.getElem_mem _)
      obtain ⟨⟨k0, k1⟩, -, -⟩ := hz
      generalize (zs.getD i Act10.nil).k = κ at *
      generalize (zs.getD i Act10.nil).r = ρ at *
      generalize (zs.getD i Act10.nil).n = N at *
      have HI := Lib.hid hin; have HPD := Lib.hid hpd; have HP := Lib.hid hP
      clear hP hi hpd
      go_upto_block 2 with (fail)
      have q0 : 0 ≤ κ % 4 := by omega
      have q3 : κ % 4 ≤ 3 := by omega
      generalize κ % 4 = q at *
      have hbl : Below wr.heap.size wr (wr.alloc (.cells #[.int .u8 κ, .int .u64 ρ, .int .i64 N] 60)) := (Below.refl _ _).alloc (Nat.le_refl _) _
      have H2 := HP.out.on hbl
      have cA1 : (wr.alloc (.cells #[.int .u8 κ, .int .u64 ρ, .int .i64 N] 60)).cell? ⟨wr.heap.size, 1, none⟩ = some (.int .u64 ρ) := by simp [go_sem]
      have cA2 : (wr.alloc (.cells #[.int .u8 κ, .int .u64 ρ, .int .i64 N] 60)).cell? ⟨wr.heap.size, 2, none⟩ = some (.int .i64 N) := by simp [go_sem]
      have hA1 : wr.heap.size ≠ B := by have := HP.out.hp.g.own.2.1; omega
      have hA2 : v.ownBlock ≠ some wr.heap.size := fun e => by have := (HP.out.hp.g.own.2.2 _ e).2; omega
      clear HP z0 z1 z2 hbl
      generalize wr.alloc (.cells #[.int .u8 κ, .int .u64 ρ, .int .i64 N] 60) = wa at *
      generalize wr.heap.size = A at *
      go_cut [8] (fun y wx => ∃ (v mv : Value) (ms : List (Ent Int)) (pd : Int), mv = y ∧ pd ≤ i + 1 ∧ HPl w wx B room pd v mv ms)
      case first =>
        have hroom := H2.hp.g.room
        have hpds := HPD.out
        obtain ⟨am, cm, hmv, -, -⟩ := H2.its.form
        rw [List.length_map] at hmv
        subst hmv
        have hml : (ms.map kvH).length ≤ 100000 := by rw [List.length_map]; omega
        have HS := Lib.hid H2
        have hq : q = 0 ∨ q = 1 ∨ q = 2 ∨ q = 3 := by omega
        clear H2 q0 q3
        rcases hq with rfl | rfl | rfl | rfl
        iterate 2
          · by_cases hl : (ms.length : Int) < room
            · have PS := Lib.hid (pushB_inI HS.out.hp hl (by omega) ρ N)
              have HL := Lib.hid hml
              clear hml
              go_wp2_with fail
              refine PS.out.mono ?_
              rintro e w3 ⟨rfl, v3, h3, m3⟩
              have I3 := Lib.hid (HS.out.mv h3 m3)
              have d1 := m3.cell9 cA1 hA1 hA2
              have d2 := m3.cell9 cA2 hA1 hA2
              have H3 := Lib.hid h3
              have P9 := Lib.hid (push9 _ _ _ ρ N HL.out w3 I3.out)
              clear h3 m3 PS
              go_wp2_with fail
              refine P9.out.mono ?_
              rintro e w4 ⟨v4, rfl, i4, b4⟩
              have F4 : Hid (HPl w w4 B room (pd + 1) v3 v4 (insR ms ⟨ρ, N, pd⟩)) := Lib.hid ⟨H3.out.below b4, by rw [insR_kvH]; exact own_lower9 i4 H3.out.b.size⟩
              clear i4 b4
              go_wp2
              go_meet
              case rel => exact ⟨v3, _, _, pd + 1, rfl, by omega, F4.out⟩
            · have PO := Lib.hid (pushB_outI HS.out.hp hl (by omega) ρ N)
              clear hml
              go_wp2_with fail
              refine PO.out.mono ?_
              rintro e w3 ⟨rfl, h3, b3⟩
              have F4 := Lib.hid (HS.out.on b3)
              clear h3 b3
              go_wp2
              go_meet
              case rel => exact ⟨v, _, _, pd, rfl, by omega, F4.out⟩
        · rcases ms with _ | ⟨e0, t⟩
          · have PN := Lib.hid (popH_noI HS.out.hp.g)
            have FR := Lib.hid (first9_nil _ _ wa HS.out.its)
            have RS := Lib.hid (fun W (hW : Below wa.heap.size wa W) => rest9 _ _ _ hml W (HS.out.its.below hW))
            clear hml
            go_wp2_with fail
            refine PN.out.mono ?_
            rintro e w' ⟨rfl, hw⟩
            have hw := hw.symm
            subst hw
            go_wp2_with fail
            refine FR.out.mono ?_
            rintro e w3 ⟨rfl, b3⟩
            have B3 := Lib.hid b3
            clear b3
            go_wp2_with fail
            refine (RS.out _ B3.out).mono ?_
            rintro e w4 ⟨v4, rfl, i4, b4⟩
            have F4 : Hid (HPl w w4 B room pd v v4 []) := Lib.hid ⟨(HS.out.hp.below B3.out).below b4, own_lower9 i4 (Nat.le_trans HS.out.hp.b.size B3.out.size)⟩
            clear i4 b4
            go_wp2
            go_meet
            case rel => exact ⟨v, _, [], pd, rfl, by omega, F4.out⟩
          · have PN := Lib.hid (popB_inI HS.out.hp)
            have HL := Lib.hid hml
            clear hml
            generalize hl : (e0 :: t).length = ln at *
            go_wp2_with fail
            refine PN.out.mono ?_
            rintro e w3 ⟨rfl, v3, h3, m3⟩
            have I3 := Lib.hid (HS.out.mv h3 m3)
            have H3 := Lib.hid h3
            have FR := Lib.hid (show Calls Try.prog 33 #[.slice am ln cm] w3 (fun e w' => e = .returned (.tuple #[.int .u64 e0.rk, .int .i64 e0.x, .bool true]) ∧ Below w3.heap.size w3 w') from first9 _ _ (e0.rk, e0.x) (t.map kvH) w3 I3.out)
            clear h3 m3 PN
            go_wp2_with fail
            refine FR.out.mono ?_
            rintro e w4 ⟨rfl, b4⟩
            have B4 := Lib.hid b4
            clear b4
            have RS := Lib.hid (rest9 _ _ _ HL.out w4 (I3.out.below B4.out))
            go_wp2_with fail
            refine RS.out.mono ?_
            rintro e w5 ⟨v5, rfl, i5, b5⟩
            have F4 : Hid (HPl w w5 B room pd v3 v5 t) := Lib.hid ⟨(H3.out.below B4.out).below b5, own_lower9 i5 (Nat.le_trans H3.out.b.size B4.out.size)⟩
            clear i5 b5
            go_wp2
            go_meet
            case rel => exact ⟨v3, _, t, pd, rfl, by omega, F4.out⟩
        · go_wp2
          go_meet
          case rel => exact ⟨v, _, ms, pd, rfl, by omega, HS.out⟩
      case rest =>
        obtain ⟨v, mv, ms, pd, rfl, hpd, P⟩ := hcut
        clear cA1 cA2 H2
        obtain ⟨am, cm, hmv, -, -⟩ := P.its.form
        rw [List.length_map] at hmv
        subst hmv
        have hroom := P.hp.g.room
        have hml : (ms.map kvH).length ≤ 1000000 := by rw [List.length_map]; omega
        have HS := Lib.hid P
        have HPD2 := Lib.hid hpd
        have HL := Lib.hid hml
        have LN := Lib.hid (fun W (hW : Below wc.heap.size wc W) => lenHI (HS.out.hp.below hW).g)
        have AL := Lib.hid (fun W (hW : Below wc.heap.size wc W) => allHI (HS.out.hp.below hW).g)
        clear P hpd hml hroom
        rcases ms with _ | ⟨e0, t⟩
        · have PK := Lib.hid (peekH_noI HS.out.hp.g)
          have FR := Lib.hid (fun W (hW : Below wc.heap.size wc W) => first9_nil _ _ W (HS.out.its.below hW))
          have SM := Lib.hid (fun W2 (hW2 : Below wc.heap.size wc W2) W3 v3 (ho : W3.ownsRow W2.heap.size 94 2 v3 0 []) (hW3 : Below W2.heap.size W2 W3) => same_its9 W2.heap.size w.heap.size v3 (.slice am ([] : List (Ent Int)).length cm) [] (by simp) W3 ho ((HS.out.its.below hW2).below hW3))
          go_wp2_with fail
          refine PK.out.mono ?_
          rintro e w' ⟨rfl, hw⟩
          have hw := hw.symm
          subst hw
          have B4 := Lib.hid (Below.refl wc.heap.size wc)
          go_wp2_with fail
          refine (FR.out _ B4.out).mono ?_
          rintro e w5 ⟨rfl, b5⟩
          have B5 := Lib.hid b5
          clear b5
          go_wp2_with fail
          refine (LN.out _ B5.out).mono ?_
          rintro e w' ⟨rfl, hw⟩
          have hw := hw.symm
          subst hw
          go_wp2_with fail
          refine (AL.out _ B5.out).mono ?_
          rintro e w6 ⟨v6, rfl, ho6, b6⟩
          have B6 := Lib.hid (B5.out.trans (b6.mono B5.out.size))
          have S6 := Lib.hid (SM.out _ B5.out w6 v6 ho6 b6)
          clear ho6 b6
          go_wp2_with fail
          refine S6.out.mono ?_
          rintro e w7 ⟨rfl, b7⟩
          have F7 := Lib.hid (HS.out.on (B6.out.trans (b7.mono B6.out.size)))
          clear b7
          go_wp2
          go_roundw
          case rel => exact ⟨i + 1, v, _, [], pd, rfl, by first | rfl | (congr 1; omega), by have := HI.out; omega, by have := HPD2.out; omega, F7.out⟩
          case measure => have := HI.out; simp [intOf]; omega
        · have PK := Lib.hid (peekH_inI HS.out.hp.g)
          have FR := Lib.hid (fun W (hW : Below wc.heap.size wc W) => show Calls Try.prog 33 #[.slice am (e0 :: t).length cm] W (fun e w' => e = .returned (.tuple #[.int .u64 e0.rk, .int .i64 e0.x, .bool true]) ∧ Below W.heap.size W w') from first9 _ _ (e0.rk, e0.x) (t.map kvH) W (HS.out.its.below hW))
          have SM := Lib.hid (fun W2 (hW2 : Below wc.heap.size wc W2) W3 v3 (ho : W3.ownsRow W2.heap.size 94 2 v3 (e0 :: t).length (((e0 :: t).map kvH).flatMap icellI)) (hW3 : Below W2.heap.size W2 W3) => same_its9 W2.heap.size w.heap.size v3 (.slice am (e0 :: t).length cm) ((e0 :: t).map kvH) HL.out W3 (by unfold Hts; rw [List.length_map]; exact ho) ((HS.out.its.below hW2).below hW3))
          generalize hl : (e0 :: t).length = ln at *
          go_wp2_with fail
          refine PK.out.mono ?_
          rintro e w4 ⟨rfl, nd, rfl⟩
          have B4 := Lib.hid (below_drewN nd (Below.refl wc.heap.size wc))
          go_wp2_with fail
          refine (FR.out _ B4.out).mono ?_
          rintro e w5 ⟨rfl, b5⟩
          have B5 := Lib.hid (B4.out.trans (b5.mono B4.out.size))
          clear b5
          go_wp2_with fail
          refine (LN.out _ B5.out).mono ?_
          rintro e w' ⟨rfl, hw⟩
          have hw := hw.symm
          subst hw
          go_wp2_with fail
          refine (AL.out _ B5.out).mono ?_
          rintro e w6 ⟨v6, rfl, ho6, b6⟩
          have B6 := Lib.hid (B5.out.trans (b6.mono B5.out.size))
          have S6 := Lib.hid (SM.out _ B5.out w6 v6 ho6 b6)
          clear ho6 b6
          go_wp2_with fail
          refine S6.out.mono ?_
          rintro e w7 ⟨rfl, b7⟩
          have F7 := Lib.hid (HS.out.on (B6.out.trans (b7.mono B6.out.size)))
          clear b7
          go_wp2
          go_roundw
          case rel => exact ⟨i + 1, v, _, e0 :: t, pd, rfl, by first | rfl | (congr 1; omega), by have := HI.out; omega, by have := HPD2.out; omega, F7.out⟩
          case measure => have := HI.out; simp [intOf]; omega
    · obtain rfl : i = n := by omega
      have HB := Lib.hid hP.hp.b
      clear hP hi hin
      go_wp2_with fail
      refine (LV.out _).mono ?_
      rintro e w9 ⟨rfl, b9⟩
      go_wp2
      go_ret
      exact ⟨rfl, HB.out.trans (b9.mono HB.out.size)⟩
theorem walk_heapPlays (room : Int) (r0 : -9223372036854775808 ≤ room) (r1 : room ≤ 9223372036854775807) (a : Option Addr) (n c : Nat) (zs : List Act10) {w : World} (hr : RowA10 w a n zs) (hcap : n ≤ c) :
    Calls Try.prog 5 #[.int .i64 room, .slice a n c] w fun e w' => e = .returned (.bool true) ∧ Below w.heap.size w w' := by
  obtain ⟨hz, hm, hw, hc⟩ := hr
  unfold maxLen at hm
  have LV := Lib.hid (fun w => lives9 w)
  by_cases hroom : 1 ≤ room ∧ room ≤ 4096
  · obtain ⟨h1, h2⟩ := hroom
    by_cases hn : n ≤ 200
    · rcases Nat.eq_zero_or_pos n with h0 | h0
      · subst h0
        have NW := Lib.hid (newBI room h1 h2 w)
        clear hc hw hz
        go_enter Try.func5, Try.ntmps5
        go_wp2_with fail
        refine NW.out.mono ?_
        rintro e w1 ⟨rfl, h3⟩
        have H1 := Lib.hid h3.b
        clear h3
        go_wp2_with fail
        refine (mayH_yes room h1 h2 _).mono ?_
        rintro e w' ⟨rfl, rfl⟩
        go_wp2
        refine wp_loop_rounds 1 ?_
        rw [rounds_succ]
        go_wp2_with fail
        refine (LV.out _).mono ?_
        rintro e w9 ⟨rfl, b9⟩
        go_wp2
        go_ret
        exact ⟨rfl, H1.out.trans (b9.mono H1.out.size)⟩
      · obtain ⟨b, off, rfl, hb, hcell⟩ := hc h0
        subst hz
        exact plays9_at room h1 h2 b off c zs hn hw w hb hcell
    · have hn' : 200 < n := by omega
      have NW := Lib.hid (newBI room h1 h2 w)
      clear hc hw hz hn
      go_enter Try.func5, Try.ntmps5
      go_wp2_with fail
      refine NW.out.mono ?_
      rintro e w1 ⟨rfl, h3⟩
      have H1 := Lib.hid h3.b
      clear h3
      go_wp2_with fail
      refine (mayH_yes room h1 h2 _).mono ?_
      rintro e w' ⟨rfl, rfl⟩
      go_wp2_with fail
      refine (LV.out _).mono ?_
      rintro e w9 ⟨rfl, b9⟩
      go_wp2
      go_ret
      exact ⟨rfl, H1.out.trans (b9.mono H1.out.size)⟩
  · have NO := Lib.hid (hnew_noH room (by omega) w)
    clear hc hw hz
    by_cases h1 : room < 1
    · have h1' : ¬ 1 ≤ room := by omega
      clear hroom
      go_enter Try.func5, Try.ntmps5
      go_wp2_with fail
      refine NO.out.mono ?_
      rintro e w1 ⟨rfl, rfl⟩
      go_wp2_with fail
      refine (mayH_no room (by omega) _).mono ?_
      rintro e w' ⟨rfl, rfl⟩
      go_wp2_with fail
      refine (LV.out _).mono ?_
      rintro e w9 ⟨rfl, b9⟩
      go_wp2
      go_ret
      exact ⟨rfl, b9⟩
    · have h1' : 1 ≤ room := by omega
      have h2' : ¬ room ≤ 4096 := by omega
      clear hroom
      go_enter Try.func5, Try.ntmps5
      go_wp2_with fail
      refine NO.out.mono ?_
      rintro e w1 ⟨rfl, rfl⟩
      go_wp2_with fail
      refine (mayH_no room (by omega) _).mono ?_
      rintro e w' ⟨rfl, rfl⟩
      go_wp2_with fail
      refine (LV.out _).mono ?_
      rintro e w9 ⟨rfl, b9⟩
      go_wp2
      go_ret
      exact ⟨rfl, b9⟩
end Go.Proofs.Ytkgiaijcgblpbaa
