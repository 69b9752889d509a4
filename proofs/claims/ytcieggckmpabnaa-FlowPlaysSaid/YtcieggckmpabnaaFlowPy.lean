/-
  The law on a table and the document's answer: true for any room and any acts. No condition.
-/
import Derived.Test.YtcieggckmpabnaaFlowSt
import Derived.Test.YtcieggckmpabnaaFlowL
import Derived.Test.YtcieggckmpabnaaOpen15A
namespace Go.Proofs.Ytcieggckmpabnaa
set_option linter.unusedVariables false
set_option linter.unusedSimpArgs false
open Go.ChangeShapes Go.WideShapes Go.ChangeAt Go.RowKit
attribute [local go_sem] alloc_drewN setCell_drewN

theorem tnew_noI (room : Int) (h : room < 1 ∨ 4096 < room) (w : World) : Calls Try.prog 11 #[.int .i64 room] w fun e w' => e = .returned (.tuple #[.pointer none, .int .i64 25]) ∧ w' = w := by
  by_cases q1 : room < 1
  · go_enter Try.func11, Try.ntmps11
    go_wp2
    go_ret2
    exact ⟨rfl, rfl⟩
  · have q2 : 4096 < room := by omega
    go_enter Try.func11, Try.ntmps11
    go_wp2
    go_ret2
    exact ⟨rfl, rfl⟩
theorem get15 {w V : World} {n₀ B L : Nat} {room : Int} {v vl : Value} {es : List FeI} {xs : List (Int × Int)} (h : Two15 w V n₀ B L room v vl es xs) (id : Int) :
    Calls Try.prog 15 #[.pointer (some ⟨B, 0, none⟩), .int .u32 id] V fun e V' => e = .returned (.tuple #[.int .i64 (dval es id), .bool (isF (es.map FeI.id) id)]) ∧ Below V.heap.size V V' := by
  unfold dval
  cases hf : isF (es.map FeI.id) id with
  | true =>
    refine (tget_atI h.tb id hf).mono ?_
    rintro e V' ⟨rfl, hb⟩
    exact ⟨by simp, hb⟩
  | false =>
    refine (tget_noI h.tb id hf).mono ?_
    rintro e V' ⟨rfl, hb⟩
    exact ⟨by simp, hb⟩
theorem Two15.at {w V : World} {n₀ B L : Nat} {room : Int} {v vl : Value} {es : List FeI} (h : Two15 w V n₀ B L room v vl es (prs es)) {id : Int} (hF : isF (es.map FeI.id) id = true) :
    ∃ (k g c : Nat), k < es.length ∧ vl = .slice (some ⟨g, 0, none⟩) es.length c ∧ fat es id = k ∧ V.cell? ⟨g, k * 2 + 1, none⟩ = some (.int .i64 (dval es id)) := by
  obtain ⟨hl, hid⟩ := isF_at hF
  obtain ⟨a, c, hv, _, hc⟩ := h.ls.form
  rw [prs_len] at hv
  obtain ⟨g, rfl, _, _, h2⟩ := hc _ (show lessC (es.map FeI.id) id < (prs es).length by rw [prs_len]; exact hl)
  refine ⟨_, g, c, hl, hv, by unfold fat; rw [if_pos hF], ?_⟩
  rw [h2]
  have e1 : (prs es)[lessC (es.map FeI.id) id]'(by rw [prs_len]; exact hl) = ((es[lessC (es.map FeI.id) id]).id, (es[lessC (es.map FeI.id) id]).x) := by simp [prs]
  rw [e1]
  unfold dval
  rw [if_pos hF, List.getD_eq_getElem?_getD, List.getElem?_eq_getElem hl]
  rfl
set_option maxRecDepth 100000 in
set_option maxHeartbeats 4000000 in
theorem plays15_out (room : Int) (hroom : room < 1 ∨ 4096 < room) (a : Option Addr) (n cc : Nat) (w : World) :
    Calls Try.prog 3 #[.int .i64 room, .slice a n cc] w fun e w' => e = .returned (.bool true) ∧ Below w.heap.size w w' := by
  have LV := Lib.hid (fun W => lives15 W)
  have NW := Lib.hid (tnew_noI room hroom w)
  by_cases q1 : room < 1
  · have g1 : decide (1 ≤ room) = false := decide_eq_false (by omega)
    have g2 : ¬ 1 ≤ room := by omega
    clear hroom
    go_enter Try.func3, Try.ntmps3
    go_wp2_with fail
    refine NW.out.mono ?_
    rintro e w2 ⟨rfl, rfl⟩
    go_wp2_with fail
    refine (LV.out _).mono ?_
    rintro e w9 ⟨rfl, b9⟩
    go_wp2
    go_ret
    exact ⟨rfl, b9⟩
  · have g1 : 1 ≤ room := by omega
    have g2 : ¬ room ≤ 4096 := by omega
    clear hroom
    go_enter Try.func3, Try.ntmps3
    go_wp2_with fail
    refine NW.out.mono ?_
    rintro e w2 ⟨rfl, rfl⟩
    go_wp2_with fail
    refine (LV.out _).mono ?_
    rintro e w9 ⟨rfl, b9⟩
    go_wp2
    go_ret
    exact ⟨rfl, b9⟩
set_option maxRecDepth 100000 in
set_option maxHeartbeats 4000000 in
theorem walk_flowPlays (room : Int) (r0 : -9223372036854775808 ≤ room) (r1 : room ≤ 9223372036854775807) (a : Option Addr) (n cc : Nat) (fs : List Act15) {w : World} (hr : RowA15 w a n fs) (hcap : n ≤ cc) :
    Calls Try.prog 3 #[.int .i64 room, .slice a n cc] w fun e w' => e = .returned (.bool true) ∧ Below w.heap.size w w' := by
  by_cases hroom : room < 1 ∨ 4096 < room
  · exact plays15_out room hroom a n cc w
  have g1 : 1 ≤ room := by omega
  have g2 : room ≤ 4096 := by omega
  clear hroom r0 r1
  have LV := Lib.hid (fun W => lives15 W)
  have NW := Lib.hid (tnewI room g1 g2 w)
  have HR := Lib.hid hr
  clear hr
  by_cases hlong : 200 < n
  · have g3 : (200 : Int) < n := by omega
    clear hlong
    go_enter Try.func3, Try.ntmps3
    go_wp2_with fail
    refine NW.out.mono ?_
    rintro e w2 ⟨rfl, ht, hb⟩
    clear ht
    go_wp2_with fail
    refine (LV.out _).mono ?_
    rintro e w9 ⟨rfl, b9⟩
    have BB := Lib.hid (hb.trans (b9.mono hb.size))
    clear hb b9
    go_wp2
    go_ret
    exact ⟨rfl, BB.out⟩
  have g3 : ¬ (200 : Int) < n := by omega
  have hn200 : n ≤ 200 := by omega
  clear hlong
  go_enter Try.func3, Try.ntmps3
  go_wp2_with fail
  refine NW.out.mono ?_
  rintro e w1 ⟨rfl, ht, hb⟩
  obtain ⟨W2, hW2⟩ : ∃ W2, w1.alloc (.cells #[.slice none 0 0] 28) = W2 := ⟨_, rfl⟩
  have T2 : Hid (Two15 w W2 w.heap.size w.heap.size w1.heap.size room (.slice none 0 0) (.slice none 0 0) [] (prs [])) := Lib.hid (by
    rw [← hW2]
    have hba : Below w1.heap.size w1 (w1.alloc (.cells #[.slice none 0 0] 28)) := (Below.refl _ w1).alloc (Nat.le_refl _) _
    exact ⟨ht.below hba, Boxed.new w1 _ _, World.ownsRow_nil _ _ _ _, hb.size, Nat.le_trans hb.size hba.size, hb.trans (hba.mono hb.size)⟩)
  clear ht hb NW
  obtain ⟨L, hL⟩ : ∃ L, w1.heap.size = L := ⟨_, rfl⟩
  rw [hL] at T2
  generalize hB : w.heap.size = n₀ at T2
  go_wp2_with fail
  clear hW2 hL
  go_loopw [53] (fun e wr => ∃ (q : Nat) (v vl : Value) (es : List FeI), e = .int .i64 q ∧ q ≤ n ∧ Hid (Two15 w wr n₀ n₀ L room v vl es (prs es))) (fun e _ => n - (intOf e).toNat)
  case atStart => exact ⟨0, _, _, [], rfl, Nat.zero_le _, T2⟩
  case round =>
    clear T2
    obtain ⟨q, v, vl, es, rfl, hq, HT⟩ := hrel
    by_cases hlt : q < n
    · obtain ⟨hzl, hzm, hzw, hzc⟩ := HR.out
      obtain ⟨b, off, rfl, hb0, hcs⟩ := hzc (by omega)
      obtain ⟨cx0, cx1, cx2⟩ := hcs q hlt
      have xb := HT.out.b
      have ac0_ := (xb.cell (p := ⟨b, off + q * 3, none⟩) (by rw [← hB]; exact hb0)).trans cx0
      have ac1_ := (xb.cell (p := ⟨b, off + q * 3 + 1, none⟩) (by rw [← hB]; exact hb0)).trans cx1
      have ac2_ := (xb.cell (p := ⟨b, off + q * 3 + 2, none⟩) (by rw [← hB]; exact hb0)).trans cx2
      have hxw : (fs.getD q Act15.nil).ok := hzw _ (by rw [List.getD_eq_getElem?_getD, List.getElem?_eq_getElem (by omega : q < fs.length)]; exact List.getElem_mem _)
      generalize fs.getD q Act15.nil = act at *
      obtain ⟨ak, ad, an⟩ := act
      obtain ⟨⟨p0, p1⟩, ⟨p2, p3⟩, p4, p5⟩ := hxw
      dsimp only at p0 p1 p2 p3 p4 p5 ac0_ ac1_ ac2_
      clear hzl hzm hzw hzc hcs cx0 cx1 cx2 xb
      have z0 : (q : Int) < n := by omega
      have z1 : (0 : Int) ≤ q := by omega
      have hb3 : Below wr.heap.size wr (wr.alloc (.cells #[.int .u8 ak, .int .u32 ad, .int .i64 an] 31)) := (Below.refl _ wr).alloc (Nat.le_refl _) _
      have T3 := Lib.hid (HT.out.below hb3)
      have A3 := Lib.hid (heap_alloc_new wr (.cells #[.int .u8 ak, .int .u32 ad, .int .i64 an] 31))
      have NI : ¬ inTb n₀ v wr.heap.size := fun e => by have := (HT.out.tb.inlt e).2; omega
      have NL : wr.heap.size ≠ L := fun e => by have := HT.out.bx.lt; omega
      have SA : wr.heap.size < (wr.alloc (.cells #[.int .u8 ak, .int .u32 ad, .int .i64 an] 31)).heap.size := by simp
      have NI := Lib.hid NI; have NL := Lib.hid NL; have SA := Lib.hid SA
      have ST := Lib.hid (step15 p0 p1 T3.out (id := ad) (x := an))
      clear hb3
      go_wp2_with fail
      refine ST.out.mono ?_
      rintro e w4 ⟨rfl, v4, vl4, es4, t4, fr4⟩
      have A4 := Lib.hid ((fr4 _ SA.out NL.out NI.out).trans A3.out)
      clear fr4 ST SA NL NI A3 T3 HT
      generalize wr.heap.size = A at *
      obtain ⟨am, cm, hv4, _, _⟩ := t4.ls.form
      rw [prs_len] at hv4
      subst hv4
      have T4 := Lib.hid t4
      have TL := Lib.hid (tells15 t4.tb t4.ls)
      have c0 := t4.bx.cell
      have c1 := cell_of_row w4 A 1 _ _ (0, 0) A4.out
      clear t4
      go_wp2_with fail
      refine TL.out.mono ?_
      rintro e w5 ⟨rfl, b5⟩
      have T5 := Lib.hid (T4.out.below b5)
      have A5 := Lib.hid ((b5.block _ (Array.getElem?_eq_some_iff.1 A4.out).1).trans A4.out)
      clear b5 TL T4 A4 c0 c1
      have d0 := T5.out.bx.cell
      have d1 := cell_of_row w5 A 1 _ _ (0, 0) A5.out
      have GT := Lib.hid (get15 T5.out ad)
      cases hF : isF (es4.map FeI.id) ad with
      | false =>
        have hd : dval es4 ad = 0 := by unfold dval; rw [if_neg (by rw [hF]; decide)]
        have hf : fat es4 ad = -1 := by unfold fat; rw [if_neg (by rw [hF]; decide)]
        rw [hd, hF] at GT
        go_wp2_with fail
        refine GT.out.mono ?_
        rintro e w6 ⟨rfl, b6⟩
        have T6 := Lib.hid (T5.out.below b6)
        have A6 := Lib.hid ((b6.block _ (Array.getElem?_eq_some_iff.1 A5.out).1).trans A5.out)
        clear b6 GT T5 A5 d0 d1
        have d0 := T6.out.bx.cell
        have d1 := cell_of_row w6 A 1 _ _ (0, 0) A6.out
        have FN := Lib.hid (ans_find T6.out ad)
        rw [hf] at FN
        clear hd hf hF
        go_wp2_with fail
        refine FN.out.mono ?_
        rintro e w7 ⟨rfl, rfl⟩
        clear FN
        go_wp2
        go_roundw
        case rel => exact ⟨q + 1, v4, _, es4, by go_num, by omega, T6⟩
        case measure => simp [intOf] <;> omega
      | true =>
        obtain ⟨k, g, c, hk, hvl, hfat, hcell⟩ := T5.out.at hF
        injection hvl with e1 e2 e3
        subst e1 e3
        rw [hF] at GT
        have CE := Lib.hid hcell
        have HK := Lib.hid hk
        have GL := Lib.hid (show g < w5.heap.size from by
          obtain ⟨_, _, e0, _, hc⟩ := T5.out.ls.form
          obtain ⟨g', e1, hg, _⟩ := hc k (by rw [prs_len]; exact HK.out)
          injection e0 with e0 _ _
          rw [e1] at e0
          injection e0 with e0
          injection e0 with e0 _ _
          omega)
        have HF := Lib.hid hfat
        clear hcell hF hfat e2
        generalize dval es4 ad = dv at *
        go_wp2_with fail
        refine GT.out.mono ?_
        rintro e w6 ⟨rfl, b6⟩
        have T6 := Lib.hid (T5.out.below b6)
        have A6 := Lib.hid ((b6.block _ (Array.getElem?_eq_some_iff.1 A5.out).1).trans A5.out)
        have d2 := (b6.cell (p := ⟨g, k * 2 + 1, none⟩) GL.out).trans CE.out
        clear b6 GT T5 A5 d0 d1
        have d0 := T6.out.bx.cell
        have d1 := cell_of_row w6 A 1 _ _ (0, 0) A6.out
        have FN := Lib.hid (ans_find T6.out ad)
        rw [HF.out] at FN
        have k0 : (0 : Int) ≤ k := by omega
        have k1 : (k : Int) < es4.length := by omega
        clear HF GL CE
        go_wp2_with fail
        refine FN.out.mono ?_
        rintro e w7 ⟨rfl, rfl⟩
        clear FN
        go_wp2
        go_roundw
        case rel => exact ⟨q + 1, v4, _, es4, by go_num, by omega, T6⟩
        case measure => simp [intOf] <;> omega
    · obtain rfl : q = n := by omega
      have BB := Lib.hid HT.out.b
      have SZ := Lib.hid HT.out.size
      clear HT hlt hq
      go_wp2_with fail
      refine (LV.out _).mono ?_
      rintro e w9 ⟨rfl, b9⟩
      have B9 := Lib.hid (BB.out.trans (b9.mono SZ.out))
      clear b9 BB
      go_wp2
      go_ret
      exact ⟨rfl, by rw [hB]; exact B9.out⟩
end Go.Proofs.Ytcieggckmpabnaa
