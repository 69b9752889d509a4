/-
  The answer of layer 14, walked: the order, the longest row. Nothing below the heap's end turns. No condition but that the row has at most 400 numbers.
-/
import Derived.Test.YteblhgmepfegpabInvR
import Derived.Test.YteblhgmepfegpabPoolMath
namespace Go.Proofs.Yteblhgmepfegpab
set_option linter.unusedVariables false
set_option linter.unusedSimpArgs false
open Go.ChangeShapes Go.WideShapes Go.ChangeAt Go.RowKit
attribute [local go_sem] alloc_drewN setCell_drewN

def rkP (z : Nat → Int) (i k : Nat) : Bool := decide (z k < z i) || decide (z k = z i) && decide (k < i)
theorem rkP_one {zk zi : Int} (k i : Nat) : (zk < zi → (decide (zk < zi) || decide (zk = zi) && decide (k < i)) = true) ∧ (¬ zk < zi → zk = zi → k < i → (decide (zk < zi) || decide (zk = zi) && decide (k < i)) = true) ∧ (¬ zk < zi → zk = zi → ¬ k < i → (decide (zk < zi) || decide (zk = zi) && decide (k < i)) = false) ∧ (¬ zk < zi → ¬ zk = zi → (decide (zk < zi) || decide (zk = zi) && decide (k < i)) = false) := by
  refine ⟨fun h => by simp [h], fun h1 h2 h3 => by simp [h1, h2, h3], fun h1 h2 h3 => by simp [h1, h2, h3], fun h1 h2 => by simp [h1, h2]⟩
theorem repl_row (i : Nat) : List.replicate i (0 : Int) ++ [0] = List.replicate (i + 1) 0 := by
  rw [List.replicate_succ']
theorem ends_row (z : Nat → Int) (i : Nat) : (endsL z i).map (fun x : Nat => (x : Int)) ++ [(dpn z (endsL z i) i i : Int)] = (endsL z (i + 1)).map (fun x : Nat => (x : Int)) := by
  show _ = (endsL z i ++ [dpn z (endsL z i) i i]).map _
  rw [List.map_append]; rfl
set_option maxRecDepth 100000 in
set_option maxHeartbeats 2000000 in
theorem rorder14 {z : Nat → Int} {n : Nat} (hn : n ≤ 400) (a : Option Addr) (c : Nat) (w : World) (hN : NumAt w w.heap.size (.slice a n c) z n) :
    Calls Try.prog 11 #[.slice a n c] w fun e w' => ∃ v, e = .returned v ∧ Ints w' w.heap.size v ((ordN z n).map (fun i : Nat => (i : Int))) ∧ Below w.heap.size w w' := by
  obtain ⟨i0, hi0, hz0, hz1, hz2⟩ := info_parts infoInt
  have HC := Lib.hid hN.open
  clear hN
  go_enter Try.func11, Try.ntmps11
  go_wp2
  go_loopw [3, 4] (fun x y wr => ∃ (vo : Value) (i : Nat), vo = x ∧ i ≤ n ∧ y = .int .i64 i ∧ Ints wr w.heap.size vo (List.replicate i 0) ∧ Below w.heap.size w wr) (fun _ y _ => n - (intOf y).toNat)
  case atStart => exact ⟨_, 0, rfl, Nat.zero_le _, rfl, Ints.nil _ _, Below.refl _ _⟩
  case round =>
    obtain ⟨vo, i, rfl, hi, rfl, ho, hb⟩ := hrel
    have hs := hb.size
    by_cases hlt : i < n
    · have HO := Lib.hid ho
      have HR := Lib.hid (repl_row i)
      have hl : (List.replicate i (0 : Int)).length = i := by simp
      have HL := Lib.hid hl
      have HBB := Lib.hid hb
      clear ho hb hl
      generalize List.replicate i (0 : Int) = xs at *
      have ho3 := HO.out
      unfold Ints at ho3
      have hxl : xs.length ≤ 400 := by have := HL.out; omega
      go_wp2_with (at_builtin; refine wpList_append_own _ rfl _ _ 27 rfl w.heap.size 3 i0 (.int .i64 0) 1 8 Try.underlying27 hi0 hz0 hz1 hz2 rfl (by decide) vo _ _ rfl (ho3.alloc _) ⟨wr.heap.size, 0, none⟩ 1 1 [.int .i64 0] rfl rfl (cells_one6 _ _ _) (fun x hx => by simp at hx; subst hx; rfl) (by unfold maxLen; omega) (by omega) (by simp; omega) ?_; intro v3 w3 ho4 hg3 hn3; clear hn3)
      go_roundw
      case rel => exact ⟨v3, i + 1, rfl, by omega, by go_num, by rw [← HR.out]; exact Ints.of_append ho4, (HBB.out.alloc hs _).grown hg3 (by simp; omega) (fun g hg => (World.ownsRow.lt HO.out g hg).1)⟩
      case measure => simp [intOf] <;> omega
    · obtain rfl : i = n := by omega
      obtain ⟨ao, co, rfl, -, -⟩ := ho.form
      rw [List.length_replicate] at ho ⊢
      have HO := Lib.hid ho
      clear ho
      go_wp2
      go_loopw [5] (fun y w2 => ∃ (j : Nat) (out : List Int), j ≤ i ∧ y = .int .i64 j ∧ out.length = i ∧ (∀ q, q < j → out.getD (rkN z i q) 0 = (q : Int)) ∧ Ints w2 w.heap.size (.slice ao i co) out ∧ Below w.heap.size w w2) (fun y _ => i - (intOf y).toNat)
      case atStart => exact ⟨0, List.replicate i 0, Nat.zero_le _, rfl, by simp, (fun q h => absurd h (Nat.not_lt_zero _)), HO.out, hb⟩
      case round =>
        obtain ⟨j, out, hj, rfl, hol, hout, ho, hb'⟩ := hrel
        by_cases hlj : j < i
        · obtain ⟨b, off, rfl, hb1, hb2, ci⟩ := HC.out j hlj
          have HOUT := Lib.hid hout
          have HO2 := Lib.hid ho
          clear hout ho
          go_wp2
          go_loopw [6, 7] (fun x y w2 => ∃ k : Nat, k ≤ i ∧ x = .int .i64 (cR (rkP z j) k : Nat) ∧ y = .int .i64 k ∧ Hid (w2.heap = wr.heap) ∧ Below w.heap.size w w2) (fun _ y _ => i - (intOf y).toNat)
          case atStart => exact ⟨0, Nat.zero_le _, rfl, rfl, Lib.hid rfl, hb'⟩
          case round =>
            obtain ⟨k, hk, rfl, rfl, hh, hb2'⟩ := hrel
            by_cases hlk : k < i
            · have ca := (hb2'.cell (p := ⟨b, off + j, none⟩) hb1).trans ci
              have ck : _ := (hb2'.cell (p := ⟨b, off + k, none⟩) hb1).trans (by
                obtain ⟨b2, off2, e, _, _, ck⟩ := HC.out k (by omega)
                injection e with e; injection e with e1 e2; subst e1; subst e2; exact ck)
              have e1 := cR_succ (rkP z j) k
              have hcl := cR_le (rkP z j) k
              have k0 : (0 : Int) ≤ k := by omega
              have k1 : (k : Int) < i := by omega
              have j0 : (0 : Int) ≤ j := by omega
              have j1 : (j : Int) < i := by omega
              have HP := Lib.hid (rkP_one (zk := z k) (zi := z j) k j)
              have HE := Lib.hid (show cR (rkP z j) (k + 1) = cR (rkP z j) k + one1 (decide (z k < z j) || decide (z k = z j) && decide (k < j)) from e1)
              clear e1
              generalize cR (rkP z j) k = q at *
              generalize z k = zk at *
              generalize z j = zj at *
              have w2' : IntKind.i64.wrap ((q : Int) + 1) = (q : Int) + 1 := by rw [IntKind.wrap_i64]; omega
              by_cases h1 : zk < zj
              · have d1 : decide (zk < zj) = true := decide_eq_true h1
                have EE := HE.out
                rw [HP.out.1 h1] at EE
                have HF := Lib.hid (show cR (rkP z j) (k + 1) = q + 1 from EE)
                clear EE
                go_wp2
                go_quiet (fail)
                go_wp2
                go_roundw
                case rel => exact ⟨k + 1, by omega, by rw [HF.out]; go_num, by go_num, Lib.hid hh.out, below_drewN _ hb2'⟩
                case measure => simp [intOf] <;> omega
              · have d1 : decide (zk < zj) = false := decide_eq_false h1
                by_cases h2 : zk = zj
                · have d2 : (zk == zj) = true := by simp [h2]
                  by_cases h3 : k < j
                  · have d3 : decide ((k : Int) < j) = true := decide_eq_true (by omega)
                    have EE := HE.out
                    rw [HP.out.2.1 h1 h2 h3] at EE
                    have HF := Lib.hid (show cR (rkP z j) (k + 1) = q + 1 from EE)
                    clear EE h2
                    go_wp2
                    go_quiet (fail)
                    go_wp2
                    go_roundw
                    case rel => exact ⟨k + 1, by omega, by rw [HF.out]; go_num, by go_num, Lib.hid hh.out, below_drewN _ hb2'⟩
                    case measure => simp [intOf] <;> omega
                  · have d3 : decide ((k : Int) < j) = false := decide_eq_false (by omega)
                    have EE := HE.out
                    rw [HP.out.2.2.1 h1 h2 h3] at EE
                    have HF := Lib.hid (show cR (rkP z j) (k + 1) = q from EE)
                    clear EE h2
                    go_wp2
                    go_quiet (fail)
                    go_wp2
                    go_roundw
                    case rel => exact ⟨k + 1, by omega, by rw [HF.out], by go_num, Lib.hid hh.out, below_drewN _ hb2'⟩
                    case measure => simp [intOf] <;> omega
                · have d2 : (zk == zj) = false := by simp [h2]
                  have EE := HE.out
                  rw [HP.out.2.2.2 h1 h2] at EE
                  have HF := Lib.hid (show cR (rkP z j) (k + 1) = q from EE)
                  clear EE
                  go_wp2
                  go_quiet (fail)
                  go_wp2
                  go_roundw
                  case rel => exact ⟨k + 1, by omega, by rw [HF.out], by go_num, Lib.hid hh.out, below_drewN _ hb2'⟩
                  case measure => simp [intOf] <;> omega
            · obtain rfl : k = i := by omega
              have hk2 : cR (rkP z j) k = rkN z k j := rfl
              have hrl := rkN_lt z k j hlj
              have KP := Lib.hid (order_keep z k j out hlj hol HOUT.out)
              have HO3 := HO2.out.heap hh.out
              obtain ⟨a5, c5, e5, _, hc5⟩ := HO3.form
              injection e5 with e6 e7 e8
              subst e6; subst e8
              obtain ⟨g, rfl, hg, cg⟩ := hc5 (rkN z k j) (by omega)
              have hb3 := hb2'
              have hlow : w.heap.size ≤ g := (World.ownsRow.lt HO3 g rfl).1
              have hof := HO3
              unfold Ints at hof
              rw [hol] at hof
              have fg := World.ownsRow.frozenAt hof (rkN z k j)
              have SP := Lib.hid (row_put hof (rkN z k j) (.int .i64 (j : Int)))
              rw [hk2]
              clear hk2 hc5 hof HO3
              generalize rkN z k j = r at *
              generalize out.getD r 0 = old at *
              have r0 : (0 : Int) ≤ r := by omega
              have r1 : (r : Int) < k := by omega
              have HOL := Lib.hid hol
              clear hol
              go_wp2
              go_roundw
              case rel => exact ⟨j + 1, out.set r j, by omega, by go_num, by rw [List.length_set]; exact HOL.out, KP.out, by
                unfold Ints
                rw [List.length_set, HOL.out, List.map_set]
                exact SP.out, below_set hb3 hlow⟩
              case measure => simp [intOf] <;> omega
        · obtain rfl : j = i := by omega
          have HE := Lib.hid (order_eq z j out hol hout)
          have HO2 := Lib.hid ho
          clear hout ho hol
          go_wp2
          go_ret
          exact ⟨_, rfl, by rw [← HE.out]; exact HO2.out, hb'⟩
theorem mostL_le (z : Nat → Int) (i : Nat) : mostL z i ≤ i := by rw [most_tls]; exact tls_le z i
theorem endsL_le (z : Nat → Int) (i k : Nat) (hk : k < i) : (endsL z i).getD k 0 ≤ i := by
  have hT := tls_all z i
  have hl : k < (endsL z i).length := by rw [hT.len]; exact hk
  obtain ⟨h1, h2, _⟩ := hT.one k hl
  have := tls_le z i
  rw [List.getD_eq_getElem?_getD, List.getElem?_eq_getElem hl]
  show (endsL z i)[k] ≤ i
  omega
set_option maxRecDepth 100000 in
set_option maxHeartbeats 2000000 in
theorem rlong14 {z : Nat → Int} {n : Nat} (hn : n ≤ 400) (a : Option Addr) (c : Nat) (w : World) (hN : NumAt w w.heap.size (.slice a n c) z n) :
    Calls Try.prog 15 #[.slice a n c] w fun e w' => e = .returned (.int .i64 ((tls z n).length : Nat)) ∧ Below w.heap.size w w' := by
  obtain ⟨i0, hi0, hz0, hz1, hz2⟩ := info_parts infoInt
  have HC := Lib.hid hN.open
  clear hN
  go_enter Try.func15, Try.ntmps15
  go_wp2
  go_loopw [3, 4, 5] (fun x m y wr => ∃ (vo : Value) (i : Nat), vo = x ∧ i ≤ n ∧ m = .int .i64 (mostL z i : Nat) ∧ y = .int .i64 i ∧ Ints wr w.heap.size vo ((endsL z i).map (fun x : Nat => (x : Int))) ∧ Below w.heap.size w wr) (fun _ _ y _ => n - (intOf y).toNat)
  case atStart => exact ⟨_, 0, rfl, Nat.zero_le _, rfl, rfl, Ints.nil _ _, Below.refl _ _⟩
  case round =>
    obtain ⟨vo, i, rfl, hi, rfl, rfl, ho, hb⟩ := hrel
    by_cases hlt : i < n
    · obtain ⟨b, off, rfl, hb1, hb2, ci⟩ := HC.out i hlt
      obtain ⟨ao, co, rfl, -, hco⟩ := ho.form
      have el : ((endsL z i).map (fun x : Nat => (x : Int))).length = i := by rw [List.length_map, endsL_length]
      rw [el] at ho hco ⊢
      have HCO := Lib.hid hco
      have HO := Lib.hid ho
      clear ho hco
      go_wp2
      go_loopw [6, 7] (fun x y w2 => ∃ k : Nat, k ≤ i ∧ x = .int .i64 (dpn z (endsL z i) i k : Nat) ∧ y = .int .i64 k ∧ Hid (w2.heap = wr.heap) ∧ Below w.heap.size w w2) (fun _ y _ => i - (intOf y).toNat)
      case atStart => exact ⟨0, Nat.zero_le _, rfl, rfl, Lib.hid rfl, hb⟩
      case round =>
        obtain ⟨k, hk, rfl, rfl, hh, hb'⟩ := hrel
        by_cases hlk : k < i
        · have ca := (hb'.cell (p := ⟨b, off + i, none⟩) hb1).trans ci
          have ck : _ := (hb'.cell (p := ⟨b, off + k, none⟩) hb1).trans (by
            obtain ⟨b2, off2, e, _, _, ck⟩ := HC.out k (by omega)
            injection e with e; injection e with e1 e2; subst e1; subst e2; exact ck)
          obtain ⟨g, rfl, hg, cg⟩ := HCO.out k (by omega)
          have cg : wr.cell? ⟨g, k, none⟩ = some (.int .i64 ((endsL z i).getD k 0 : Nat)) := (World.cell?_of_block (by rw [hh.out])).trans (cg.trans (by
            rw [List.getD_eq_getElem?_getD, List.getElem?_map, List.getD_eq_getElem?_getD, List.getElem?_eq_getElem (by rw [endsL_length]; omega)]; rfl))
          have HD := Lib.hid (show dpn z (endsL z i) i (k + 1) = if z k ≤ z i ∧ dpn z (endsL z i) i k < (endsL z i).getD k 0 + 1 then (endsL z i).getD k 0 + 1 else dpn z (endsL z i) i k from rfl)
          have hel := endsL_le z i k hlk
          have k0 : (0 : Int) ≤ k := by omega
          have k1 : (k : Int) < n := by omega
          have k2 : (k : Int) < i := by omega
          have i00 : (0 : Int) ≤ i := by omega
          have i1 : (i : Int) < n := by omega
          generalize (endsL z i).getD k 0 = ek at *
          have HQ := Lib.hid (⟨_, rfl⟩ : ∃ q2, dpn z (endsL z i) i (k + 1) = q2)
          obtain ⟨q2, hq2⟩ := HQ.out
          rw [hq2] at HD
          have HQ2 := Lib.hid hq2
          clear HQ hq2
          generalize dpn z (endsL z i) i k = d at *
          generalize z k = zk at *
          generalize z i = zi at *
          have w2' : IntKind.i64.wrap ((ek : Int) + 1) = (ek : Int) + 1 := by rw [IntKind.wrap_i64]; omega
          by_cases h1 : zk ≤ zi
          · have d1 : decide (zk ≤ zi) = true := decide_eq_true h1
            by_cases h2 : d < ek + 1
            · have d2 : decide ((d : Int) < (ek : Int) + 1) = true := decide_eq_true (by omega)
              have HE := Lib.hid (show q2 = ek + 1 by rw [HD.out, if_pos ⟨h1, h2⟩])
              go_wp2
              go_quiet (fail)
              go_wp2
              go_roundw
              case rel => exact ⟨k + 1, by omega, by rw [HQ2.out, HE.out]; go_num, by go_num, Lib.hid hh.out, below_drewN _ hb'⟩
              case measure => simp [intOf] <;> omega
            · have d2 : decide ((d : Int) < (ek : Int) + 1) = false := decide_eq_false (by omega)
              have HE := Lib.hid (show q2 = d by rw [HD.out, if_neg (fun hh => h2 hh.2)])
              go_wp2
              go_quiet (fail)
              go_wp2
              go_roundw
              case rel => exact ⟨k + 1, by omega, by rw [HQ2.out, HE.out], by go_num, Lib.hid hh.out, below_drewN _ hb'⟩
              case measure => simp [intOf] <;> omega
          · have d1 : decide (zk ≤ zi) = false := decide_eq_false h1
            have HE := Lib.hid (show q2 = d by rw [HD.out, if_neg (fun hh => h1 hh.1)])
            go_wp2
            go_quiet (fail)
            go_wp2
            go_roundw
            case rel => exact ⟨k + 1, by omega, by rw [HQ2.out, HE.out], by go_num, Lib.hid hh.out, below_drewN _ hb'⟩
            case measure => simp [intOf] <;> omega
        · obtain rfl : k = i := by omega
          have HR := Lib.hid (ends_row z k)
          have HM := Lib.hid (show mostL z (k + 1) = if mostL z k < dpn z (endsL z k) k k then dpn z (endsL z k) k k else mostL z k from rfl)
          have ho2 : Ints wr w.heap.size (.slice ao k co) ((endsL z k).map (fun x : Nat => (x : Int))) := HO.out.heap hh.out
          have hs := hb'.size
          have HO2 := Lib.hid ho2
          have HL := Lib.hid el
          have HBB := Lib.hid hb'
          obtain ⟨q2, hq2⟩ : ∃ q2, mostL z (k + 1) = q2 := ⟨_, rfl⟩
          rw [hq2] at HM
          have HQ2 := Lib.hid hq2
          clear ho2 el hb hb' hh hq2
          generalize (endsL z k).map (fun x : Nat => (x : Int)) = xs at *
          generalize dpn z (endsL z k) k k = d at *
          generalize mostL z k = mo at *
          have ho3 := HO2.out
          unfold Ints at ho3
          have hxl : xs.length ≤ 400 := by have := HL.out; omega
          have hxk : xs.length = k := HL.out
          by_cases hmd : mo < d
          · have HE := Lib.hid (show q2 = d by rw [HM.out, if_pos hmd])
            have hmd' : (mo : Int) < (d : Int) := by omega
            go_wp2_with (at_builtin; refine wpList_append_own _ rfl _ _ 27 rfl w.heap.size 3 i0 (.int .i64 0) 1 8 Try.underlying27 hi0 hz0 hz1 hz2 rfl (by decide) (.slice ao k co) _ _ rfl (ho3.alloc _) ⟨wr.heap.size, 0, none⟩ 1 1 [.int .i64 (d : Int)] rfl rfl (cells_one6 _ _ _) (fun x hx => by simp at hx; subst hx; rfl) (by unfold maxLen; omega) (by omega) (by simp; omega) ?_; intro v3 w3 ho4 hg3 hn3; clear hn3)
            go_roundw
            case rel => exact ⟨v3, k + 1, rfl, by omega, by rw [HQ2.out, HE.out], by go_num, by rw [← HR.out]; exact Ints.of_append ho4, (HBB.out.alloc hs _).grown hg3 (by simp; omega) (fun g hg => (World.ownsRow.lt HO2.out g hg).1)⟩
            case measure => simp [intOf] <;> omega
          · have HE := Lib.hid (show q2 = mo by rw [HM.out, if_neg hmd])
            have hmd' : ¬ (mo : Int) < (d : Int) := by omega
            go_wp2_with (at_builtin; refine wpList_append_own _ rfl _ _ 27 rfl w.heap.size 3 i0 (.int .i64 0) 1 8 Try.underlying27 hi0 hz0 hz1 hz2 rfl (by decide) (.slice ao k co) _ _ rfl (ho3.alloc _) ⟨wr.heap.size, 0, none⟩ 1 1 [.int .i64 (d : Int)] rfl rfl (cells_one6 _ _ _) (fun x hx => by simp at hx; subst hx; rfl) (by unfold maxLen; omega) (by omega) (by simp; omega) ?_; intro v3 w3 ho4 hg3 hn3; clear hn3)
            go_roundw
            case rel => exact ⟨v3, k + 1, rfl, by omega, by rw [HQ2.out, HE.out], by go_num, by rw [← HR.out]; exact Ints.of_append ho4, (HBB.out.alloc hs _).grown hg3 (by simp; omega) (fun g hg => (World.ownsRow.lt HO2.out g hg).1)⟩
            case measure => simp [intOf] <;> omega
    · obtain rfl : i = n := by omega
      have HM := Lib.hid (most_tls z i)
      go_wp2
      go_ret
      exact ⟨by rw [← HM.out]; rfl, hb⟩
end Go.Proofs.Yteblhgmepfegpab
