/-
  The law of order of layer 35, walked: true for any room, any numbers, any takes. No condition.
-/
import Derived.Test.YtfjhcmihjffknaaMl7
import Derived.Test.YtfjhcmihjffknaaMl8
import Derived.Test.YtfjhcmihjffknaaOpen3
import Derived.Maps.Range
namespace Go.Proofs.Ytfjhcmihjffknaa
set_option linter.unusedVariables false
set_option linter.unusedSimpArgs false
open Go.ChangeShapes Go.WideShapes Go.ChangeAt Go.RowKit
attribute [local go_sem] alloc_drewN setCell_drewN

set_option maxRecDepth 100000 in
set_option maxHeartbeats 40000000 in
theorem order35_at (r : Nat) (r1 : r ≤ 255) (a : Option Addr) (c : Nat) (zs : List Int) (hn : zs.length ≤ 300) (a2 : Option Addr) (c2 : Nat) (ts : List Int) (hn2 : ts.length ≤ 300) (ht : ∀ i, i < ts.length → 0 ≤ ts.getD i 0 ∧ ts.getD i 0 ≤ 255) (w : World)
    (hc : ∀ i, i < zs.length → ∃ b off, a = some ⟨b, off, none⟩ ∧ b < w.heap.size ∧ w.cell? ⟨b, off + i, none⟩ = some (.int .i64 (zs.getD i 0)))
    (hc2 : ∀ i, i < ts.length → ∃ b off, a2 = some ⟨b, off, none⟩ ∧ b < w.heap.size ∧ w.cell? ⟨b, off + i, none⟩ = some (.int .u8 (ts.getD i 0))) :
    Calls Try.prog 4 #[.int .u8 r, .slice a zs.length c, .slice a2 ts.length c2] w fun e w' => e = .returned (.bool true) ∧ Below w.heap.size w w' := by
  have HC := Lib.hid hc; have HC2 := Lib.hid hc2; have HT := Lib.hid ht
  have NW := gnewI w (r + 1) (by omega) (by omega)
  have e1 : ((r + 1 : Nat) : Int) = (r : Int) + 1 := by omega
  rw [e1] at NW
  have NW := Lib.hid NW
  have R1 := Lib.hid r1
  clear hc hc2 ht e1
  go_enter Try.func4, Try.ntmps4
  go_wp2_with fail
  refine NW.out.mono ?_
  rintro e w1 ⟨B, rfl, ⟨In, h1⟩, b1⟩
  have M1 : Hid (Mo w w1 B (r + 1) false [] In (.slice none 0 0) (.slice none 0 0) [] []) := ⟨h1, Ints.nil _ _, Ints.nil _ _, fun j hj => (by cases hj), fun j hj => (by cases hj), fun j hj => (by cases hj), b1⟩
  clear h1 b1 NW
  go_wp2
  go_loopw [9, 10, 33] (fun x y z wr => ∃ (vs vg : Value) (sent got l : List Int) (In : Nat → Prop) (i : Nat), vs = x ∧ vg = y ∧ i ≤ zs.length ∧ z = .int .i64 i ∧ Hid (sent.length ≤ i) ∧ Hid (sent = got ++ l) ∧ Hid (Mo w wr B (r + 1) false l In vs vg sent got)) (fun _ _ z _ => zs.length - (intOf z).toNat)
  case atStart => exact ⟨_, _, [], [], [], In, 0, rfl, rfl, Nat.zero_le _, rfl, Nat.le_refl _, rfl, M1⟩
  case round =>
    clear M1
    obtain ⟨vs, vg, sent, got, l, In, i, rfl, rfl, hi, rfl, HL, HE, M⟩ := hrel
    by_cases hlt : i < zs.length
    · obtain ⟨b, off, rfl, hb, z1⟩ := HC.out i hlt
      have z1 := (M.out.b.cell (p := ⟨b, off + i, none⟩) hb).trans z1
      generalize zs.getD i 0 = x at *
      have SN := gsendI M.out.bx x
      have HLT := Lib.hid hlt
      have HGL := Lib.hid (show got.length + l.length = sent.length by rw [HE.out, List.length_append])
      by_cases hr : l.length < r + 1
      · rw [if_pos (And.intro rfl hr), decide_eq_true hr] at SN
        have SN := Lib.hid SN
        clear hr
        by_cases hti : i < ts.length
        · obtain ⟨bb, off2, rfl, hb2, z2⟩ := HC2.out i hti
          have Z2 := Lib.hid (fun (v : World) (hv : Below w.heap.size w v) => (hv.cell (p := ⟨bb, off2 + i, none⟩) hb2).trans z2)
          obtain ⟨t0, t1⟩ := HT.out i hti
          clear z2 hb2
          generalize ts.getD i 0 = t at *
          go_wp2_with fail
          refine SN.out.mono ?_
          rintro e w2 ⟨rfl, In2, b2, m2⟩
          have M2 := Lib.hid (M.out.box b2 m2)
          clear b2 m2 SN M z1 hb
          have MA := Lib.hid (M2.out.on ((Below.refl _ w2).alloc (Nat.le_refl _) (.cells #[.int .i64 x] 3)))
          go_wp2_with (at_builtin; refine wpList_append_ints rfl _ _ rfl w.heap.size w2.heap.size vs _ sent [x] rfl rfl MA.out.s (ints_one w2 x) (by have := HL.out; simp; omega) MA.out.base ?_; intro v3 w3 hi3 hg3 hat3; have M3 := Lib.hid (MA.out.putS hg3 hat3 hi3); clear hi3 hg3 hat3; have z2 := Z2.out w3 M3.out.b)
          clear MA M2
          have SM := Lib.hid (gsome M3.out.bx (t % 3))
          have TK := Lib.hid (show ((((l ++ [x])).take (t % 3).toNat).length + (((l ++ [x])).drop (t % 3).toNat).length = ((l ++ [x])).length) by rw [List.length_take, List.length_drop]; omega)
          refine SM.out.mono ?_
          rintro e w4 ⟨vx, rfl, hx, In4, b4, m4, -⟩
          have M4 := Lib.hid (M3.out.box b4 m4)
          have HX := Lib.hid hx
          have FE := Lib.hid (show (sent ++ [x]) = (got ++ ((l ++ [x])).take (t % 3).toNat) ++ ((l ++ [x])).drop (t % 3).toNat by rw [List.append_assoc, List.take_append_drop, HE.out]; simp)
          clear b4 m4 hx SM
          generalize ((l ++ [x])).take (t % 3).toNat = ys at *
          generalize ((l ++ [x])).drop (t % 3).toNat = l4 at *
          go_wp2_with (at_builtin; refine wpList_append_ints rfl _ _ rfl w.heap.size _ vg vx got ys rfl rfl M4.out.g HX.out (by have := HL.out; have := HGL.out; have := TK.out; first | omega | (simp at this; omega)) M4.out.base ?_; intro v5 w5 hi5 hg5 hat5; have M5 := Lib.hid (M4.out.putG hg5 hat5 hi5); clear hi5 hg5 hat5)
          go_roundw
          case rel => exact ⟨v3, v5, (sent ++ [x]), got ++ ys, l4, In4, i + 1, rfl, rfl, by have := HLT.out; omega, by go_num, (by have := HL.out; simp; omega : ((sent ++ [x])).length ≤ i + 1), FE.out, M5⟩
          case measure => have := HLT.out; simp [intOf] <;> omega
        · have htn : ¬ (i : Int) < ts.length := by omega
          go_wp2_with fail
          refine SN.out.mono ?_
          rintro e w2 ⟨rfl, In2, b2, m2⟩
          have M2 := Lib.hid (M.out.box b2 m2)
          clear b2 m2 SN M z1 hb
          have MA := Lib.hid (M2.out.on ((Below.refl _ w2).alloc (Nat.le_refl _) (.cells #[.int .i64 x] 3)))
          go_wp2_with (at_builtin; refine wpList_append_ints rfl _ _ rfl w.heap.size w2.heap.size vs _ sent [x] rfl rfl MA.out.s (ints_one w2 x) (by have := HL.out; simp; omega) MA.out.base ?_; intro v3 w3 hi3 hg3 hat3; have M3 := Lib.hid (MA.out.putS hg3 hat3 hi3); clear hi3 hg3 hat3)
          clear MA M2
          go_roundw
          case rel => exact ⟨v3, vg, (sent ++ [x]), got, (l ++ [x]), In2, i + 1, rfl, rfl, by have := HLT.out; omega, by go_num, (by have := HL.out; simp; omega : ((sent ++ [x])).length ≤ i + 1), (by rw [HE.out]; simp : (sent ++ [x]) = got ++ (l ++ [x])), M3⟩
          case measure => have := HLT.out; simp [intOf] <;> omega
      · rw [if_neg (fun h => hr h.2), decide_eq_false hr] at SN
        have SN := Lib.hid SN
        clear hr
        by_cases hti : i < ts.length
        · obtain ⟨bb, off2, rfl, hb2, z2⟩ := HC2.out i hti
          have Z2 := Lib.hid (fun (v : World) (hv : Below w.heap.size w v) => (hv.cell (p := ⟨bb, off2 + i, none⟩) hb2).trans z2)
          obtain ⟨t0, t1⟩ := HT.out i hti
          clear z2 hb2
          generalize ts.getD i 0 = t at *
          go_wp2_with fail
          refine SN.out.mono ?_
          rintro e w2 ⟨rfl, In2, b2, m2⟩
          have M2 := Lib.hid (M.out.box b2 m2)
          clear b2 m2 SN M z1 hb
          have z2 := Z2.out w2 M2.out.b
          go_wp2_with fail
          have SM := Lib.hid (gsome M2.out.bx (t % 3))
          have TK := Lib.hid (show (((l).take (t % 3).toNat).length + ((l).drop (t % 3).toNat).length = (l).length) by rw [List.length_take, List.length_drop]; omega)
          refine SM.out.mono ?_
          rintro e w4 ⟨vx, rfl, hx, In4, b4, m4, -⟩
          have M4 := Lib.hid (M2.out.box b4 m4)
          have HX := Lib.hid hx
          have FE := Lib.hid (show sent = (got ++ (l).take (t % 3).toNat) ++ (l).drop (t % 3).toNat by rw [List.append_assoc, List.take_append_drop, HE.out])
          clear b4 m4 hx SM
          generalize (l).take (t % 3).toNat = ys at *
          generalize (l).drop (t % 3).toNat = l4 at *
          go_wp2_with (at_builtin; refine wpList_append_ints rfl _ _ rfl w.heap.size _ vg vx got ys rfl rfl M4.out.g HX.out (by have := HL.out; have := HGL.out; have := TK.out; first | omega | (simp at this; omega)) M4.out.base ?_; intro v5 w5 hi5 hg5 hat5; have M5 := Lib.hid (M4.out.putG hg5 hat5 hi5); clear hi5 hg5 hat5)
          go_roundw
          case rel => exact ⟨vs, v5, sent, got ++ ys, l4, In4, i + 1, rfl, rfl, by have := HLT.out; omega, by go_num, (by have := HL.out; simp; omega : (sent).length ≤ i + 1), FE.out, M5⟩
          case measure => have := HLT.out; simp [intOf] <;> omega
        · have htn : ¬ (i : Int) < ts.length := by omega
          go_wp2_with fail
          refine SN.out.mono ?_
          rintro e w2 ⟨rfl, In2, b2, m2⟩
          have M2 := Lib.hid (M.out.box b2 m2)
          clear b2 m2 SN M z1 hb
          go_wp2
          go_roundw
          case rel => exact ⟨vs, vg, sent, got, l, In2, i + 1, rfl, rfl, by have := HLT.out; omega, by go_num, (by have := HL.out; simp; omega : (sent).length ≤ i + 1), (by rw [HE.out] : sent = got ++ l), M2⟩
          case measure => have := HLT.out; simp [intOf] <;> omega
    · have SH := Lib.hid (gshutI M.out.bx)
      have HGL := Lib.hid (show got.length + l.length = sent.length by rw [HE.out, List.length_append])
      have HN := Lib.hid (show sent.length ≤ 300 by have := HL.out; omega)
      have z1 : ¬ (i : Int) < zs.length := by omega
      clear HC HC2 HT hn hn2 hi hlt HL
      go_wp2_with fail
      refine SH.out.mono ?_
      rintro e w2 ⟨rfl, b2, m2⟩
      have M2 := Lib.hid (M.out.box b2 m2)
      have SM := gsome b2 1000
      clear b2 m2 SH M
      have e1 : l.take (1000 : Int).toNat = l ∧ l.drop (1000 : Int).toNat = [] := by
        have hl1 : l.length ≤ (1000 : Int).toNat := by have := M2.out.bx.le; omega
        exact ⟨List.take_of_length_le hl1, List.drop_of_length_le hl1⟩
      rw [e1.1, e1.2] at SM
      have SM := Lib.hid SM
      clear e1
      go_wp2_with fail
      refine SM.out.mono ?_
      rintro e w4 ⟨vx, rfl, hx, In4, b4, m4, -⟩
      have M4 := Lib.hid (M2.out.box b4 m4)
      have HX := Lib.hid hx
      clear b4 m4 hx SM M2
      go_wp2_with (at_builtin; refine wpList_append_ints rfl _ _ rfl w.heap.size _ vg vx got l rfl rfl M4.out.g HX.out (by have := HN.out; have := HGL.out; omega) M4.out.base ?_; intro v5 w5 hi5 hg5 hat5; have M5 := Lib.hid (M4.out.putG hg5 hat5 hi5); clear hi5 hg5 hat5)
      have SA := same6 _ _ vs v5 sent (by have := HN.out; omega) w5 M5.out.s (by rw [HE.out]; exact M5.out.g)
      refine SA.mono ?_
      rintro e w6 ⟨rfl, b6⟩
      have M6 := Lib.hid (M5.out.on b6)
      have LN := Lib.hid (glenI M6.out.bx)
      clear b6 SA
      go_wp2_with fail
      refine LN.out.mono ?_
      rintro e w7 ⟨rfl, rfl⟩
      go_wp2_with fail
      refine (lives35 _).mono ?_
      rintro e w8 ⟨rfl, b8⟩
      have FIN := Lib.hid (M6.out.b.trans (b8.mono M6.out.base))
      clear b8
      go_wp2
      go_ret
      exact ⟨rfl, FIN.out⟩
theorem walk_mailOrder (room : Int) (r0 : 0 ≤ room) (r1 : room ≤ 255) (a : Option Addr) (n c : Nat) (zs : List Int) {w : World} (hr : Row1 .i64 w a n zs) (hcap : n ≤ c) (a2 : Option Addr) (n2 c2 : Nat) (ts : List Int) (hr2 : Row1 .u8 w a2 n2 ts) (hcap2 : n2 ≤ c2) :
    Calls Try.prog 4 #[.int .u8 room, .slice a n c, .slice a2 n2 c2] w fun e w' => e = .returned (.bool true) ∧ Below w.heap.size w w' := by
  obtain ⟨hz, hm, hw, hc⟩ := hr
  obtain ⟨hz2, hm2, hw2, hc2⟩ := hr2
  by_cases h : n ≤ 300 ∧ n2 ≤ 300
  · obtain ⟨h1, h2⟩ := h
    subst hz hz2
    obtain ⟨r, rfl⟩ : ∃ r : Nat, room = r := ⟨room.toNat, by omega⟩
    refine order35_at r (by omega) a c zs h1 a2 c2 ts h2 (fun i hi => ?_) w (fun i hi => ?_) (fun i hi => ?_)
    · exact bounds_u8 (hw2 _ (by rw [List.getD_eq_getElem?_getD, List.getElem?_eq_getElem hi]; exact List.getElem_mem _))
    · obtain ⟨b, off, e, hb, hcell⟩ := hc (by omega)
      exact ⟨b, off, e, hb, hcell i hi⟩
    · obtain ⟨b, off, e, hb, hcell⟩ := hc2 (by omega)
      exact ⟨b, off, e, hb, hcell i hi⟩
  · clear hc hc2 hw hw2 hz hz2
    unfold maxLen at hm hm2
    have LV := Lib.hid (lives35 w)
    by_cases h1 : 300 < n
    · clear h
      go_enter Try.func4, Try.ntmps4
      go_wp2_with fail
      refine LV.out.mono ?_
      rintro e w9 ⟨rfl, b9⟩
      go_wp2
      go_ret
      exact ⟨rfl, b9⟩
    · have h2 : 300 < n2 := by omega
      have h1' : ¬ (300 : Int) < (n : Int) := by omega
      clear h
      go_enter Try.func4, Try.ntmps4
      go_wp2_with fail
      refine LV.out.mono ?_
      rintro e w9 ⟨rfl, b9⟩
      go_wp2
      go_ret
      exact ⟨rfl, b9⟩
end Go.Proofs.Ytfjhcmihjffknaa
