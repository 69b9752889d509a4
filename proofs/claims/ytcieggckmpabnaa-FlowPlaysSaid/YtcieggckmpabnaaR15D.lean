/-
  The answer of layer 15, walked: an entry taken out. What lay below the heap's end stands. No condition.
-/
import Derived.Test.YtcieggckmpabnaaR15S
import Derived.Test.YtcieggckmpabnaaApp0
import Derived.Test.YtcieggckmpabnaaFlowI5
import Derived.RegionTactic
import Derived.Deep.RegionWith
import Derived.Deep.RegionHeld3
import Derived.Deep.AppendLies
import Derived.StillTactics
import Derived.WalkSpells
namespace Go.Proofs.Ytcieggckmpabnaa
set_option linter.unusedVariables false
set_option linter.unusedSimpArgs false
open Go.ChangeShapes Go.WideShapes Go.ChangeAt Go.RowKit
attribute [local go_sem] alloc_drewN setCell_drewN

set_option maxRecDepth 100000 in
set_option maxHeartbeats 2000000 in
theorem drop15_at (base : Nat) (v : Value) (xs : List (Int × Int)) (e1 : Int) (hn : xs.length ≤ 100000) (w : World) (h : Its15 w base v xs) (hyes : ∃ m ∈ xs, m.1 = e1) :
    Calls Try.prog 74 #[v, .int .u32 e1] w fun e w' => ∃ k, ∃ hk : k < xs.length, (xs[k]).1 = e1 ∧ ∃ v', e = .returned (.tuple #[v', .int .i64 (xs[k]).2, .bool true]) ∧ Its15 w' w.heap.size v' (xs.take k ++ xs.drop (k + 1)) ∧ Below w.heap.size w w' := by
  obtain ⟨i0, hi, hz0, hz1, hz2⟩ := info_parts infoEnt15
  have FH := Lib.hid (find15 h hn e1)
  have HY := Lib.hid hyes
  have h' := h
  unfold Its15 at h'
  have hpos : 0 < xs.length := by
    obtain ⟨m, hm, _⟩ := hyes
    exact List.length_pos_of_mem hm
  obtain ⟨g, cap, rfl, _, hglt⟩ := h'.form hpos
  have HC := Lib.hid (h'.cells (g := g) rfl)
  have hcap : xs.length ≤ cap := by
    obtain ⟨a', c', e', hc', _⟩ := h.form
    injection e' with _ _ e3
    omega
  have HF := Lib.hid h
  have HG := Lib.hid hglt
  clear h h' hyes hglt
  go_enter Try.func74, Try.ntmps74
  go_wp2_with fail
  refine FH.out.mono ?_
  rintro e w' ⟨r, rfl, hf, rfl⟩
  obtain ⟨k, hk, rfl, he⟩ : ∃ k : Nat, ∃ h : k < xs.length, r = k ∧ (xs[k]).1 = e1 := by
    rcases hf with hf | ⟨_, hno⟩
    · exact hf
    · obtain ⟨m, hm, he⟩ := HY.out
      exact absurd he (hno m hm)
  have HE := Lib.hid he
  clear hf he FH HY
  have q0 : (0 : Int) ≤ k := by omega
  have q1 : (k : Int) < xs.length := by omega
  have q2 : ¬ (k : Int) < 0 := by omega
  have q3 : (k : Int) ≤ cap := by omega
  have HL := Lib.hid (show ((xs.take k).flatMap itc15).length = k * 2 by rw [its15_len, List.length_take]; omega)
  have H1 := Lib.hid (its15_one (xs.take k))
  have HD := Lib.hid (show ∀ (j : Nat) (u : Value), ((xs.take k).flatMap itc15)[j]? = some u → w'.cell? ((⟨g, 0, none⟩ : Addr).add j) = some u from fun j u hj => HC.out j u (by
    rw [← List.take_append_drop k xs, List.flatMap_append, List.getElem?_append_left (List.getElem?_eq_some_iff.1 hj).1]
    exact hj))
  go_wp2_with (at_builtin; refine wpList_append_own _ rfl _ _ 28 rfl w'.heap.size 39 i0 (.agg #[.int .u32 0, .int .i64 0]) 2 16 Try.underlying28 hi hz0 hz1 hz2 rfl (by decide) (.slice none 0 0) 0 [] rfl (World.ownsRow_nil _ _ _ _) ⟨g, 0, none⟩ k cap ((xs.take k).flatMap itc15) rfl HL.out HD.out H1.out (by unfold maxLen; omega) (by omega) (by simp) ?_; intro v1 w1 ho1 hg1 hn1; clear hn1; have hs1 := hg1.size; rw [Nat.zero_add, List.nil_append] at ho1; have B1 := Lib.hid (show Below w'.heap.size w' w1 from (Below.refl _ _).grown hg1 (Nat.le_refl _) (fun g hg => by simp [Value.ownBlock] at hg)); have HO1 := Lib.hid ho1; clear hg1 ho1)
  have CL := Lib.hid (show ∀ W, Below w'.heap.size w' W → W.cell? ⟨g, k * 2 + 1, none⟩ = some (.int .i64 (xs[k]).2) from fun W hW => by
    have hu := its15_at xs k 1 hk (by omega)
    have := HC.out (k * 2 + 1) (.int .i64 (xs[k]).2) (by rw [hu]; rfl)
    exact (hW.cell (p := ⟨g, k * 2 + 1, none⟩) HG.out).trans (by simpa [Addr.add] using this))
  have c1 := CL.out w1 B1.out
  have b3 : IntKind.i64.wrap ((k : Int) + 1) = (k : Int) + 1 := by rw [IntKind.wrap_i64]; omega
  by_cases hend : k + 1 = xs.length
  · have e0 : xs.drop (k + 1) = [] := List.drop_eq_nil_of_le (by omega)
    have F1 := Lib.hid (show Its15 w1 w'.heap.size v1 (xs.take k ++ xs.drop (k + 1)) from by
      rw [e0, List.append_nil]
      unfold Its15
      rw [List.length_take, Nat.min_eq_left (by omega)]
      exact HO1.out)
    have q4 : (k : Int) + 1 ≤ xs.length := by omega
    have q6 : (k : Int) + 1 ≤ cap := by omega
    have q7 : (0 : Int) ≤ (k : Int) + 1 := by omega
    have q8 : xs.length - (k + 1) = 0 := by omega
    have b4 : ((k : Int) + 1).toNat = k + 1 := by omega
    generalize hy : (xs[k]).2 = y at *
    have AP := Lib.hid (fun (ao : Option Addr) (c : Nat) (ty : TypeId) => run_append_owned_zero (P := Try.prog) (w := w1) w'.heap.size 28 ty 39 i0 2 Try.underlying28 hi v1 k _ HO1.out ao c)
    have APD := Lib.hid (fun (ao : Option Addr) (c : Nat) (ty : TypeId) => run_append_owned_zero (P := Try.prog) (w := w1.drew) w'.heap.size 28 ty 39 i0 2 Try.underlying28 hi v1 k _ HO1.out.drew ao c)
    by_cases hce : cap = k + 1
    · go_region_held3 (fun v => v.cell? ⟨g, k * 2 + 1, none⟩ = some (.int .i64 y)) ((exact c1))
        ((refine step_appendKI rfl _ _ 28 28 rfl v1 (.slice (some ⟨g, 0, none⟩) 0 0) (by simp [Act.eval, Act.put]) (by simp [Act.eval, Act.put, hce, q8]) v1 _ (by first | exact AP.out _ _ _ | exact APD.out _ _ _) ?_))
      have FF := Lib.hid (show Its15 w1.drew w'.heap.size v1 (xs.take k ++ xs.drop (k + 1)) from World.ownsRow.drew F1.out)
      have BB := Lib.hid (show Below w'.heap.size w' w1.drew from below_drewN 1 B1.out)
      clear F1 AP APD
      go_wp2
      go_ret3
      exact ⟨k, hk, HE.out, _, by rw [hy]; rfl, FF.out, BB.out⟩
    · have hce2 : ¬ cap = xs.length := by omega
      go_region_held3 (fun v => v.cell? ⟨g, k * 2 + 1, none⟩ = some (.int .i64 y)) ((exact c1))
        ((refine step_appendKI rfl _ _ 28 28 rfl v1 (.slice (some ⟨g, xs.length * 2, none⟩) 0 (cap - xs.length)) (by simp [Act.eval, Act.put]) (by simp [Act.eval, Act.put, hce2, q8]) v1 _ (by first | exact AP.out _ _ _ | exact APD.out _ _ _) ?_))
      have FF := Lib.hid (show Its15 w1.drew w'.heap.size v1 (xs.take k ++ xs.drop (k + 1)) from World.ownsRow.drew F1.out)
      have BB := Lib.hid (show Below w'.heap.size w' w1.drew from below_drewN 1 B1.out)
      clear F1 AP APD
      go_wp2
      go_ret3
      exact ⟨k, hk, HE.out, _, by rw [hy]; rfl, FF.out, BB.out⟩
  · have q4 : (k : Int) + 1 ≤ xs.length := by omega
    have q5 : ¬ (cap = k + 1) := by omega
    have q6 : (k : Int) + 1 ≤ cap := by omega
    have q7 : (0 : Int) ≤ (k : Int) + 1 := by omega
    have HL2 := Lib.hid (show ((xs.drop (k + 1)).flatMap itc15).length = (xs.length - (k + 1)) * 2 by rw [its15_len, List.length_drop])
    have H2 := Lib.hid (its15_one (xs.drop (k + 1)))
    have HD2 := Lib.hid (show ∀ (W : World), Below w'.heap.size w' W → ∀ (j : Nat) (u : Value), ((xs.drop (k + 1)).flatMap itc15)[j]? = some u → W.cell? ((⟨g, (k + 1) * 2, none⟩ : Addr).add j) = some u from fun W hW j u hj => by
      have e : (xs.flatMap itc15)[(k + 1) * 2 + j]? = some u := by
        have hL : ((xs.take (k + 1)).flatMap itc15).length = (k + 1) * 2 := by rw [its15_len, List.length_take]; omega
        rw [← List.take_append_drop (k + 1) xs, List.flatMap_append, List.getElem?_append_right (by rw [hL]; omega), hL, Nat.add_sub_cancel_left]
        exact hj
      have := HC.out ((k + 1) * 2 + j) u e
      have e2 : (⟨g, (k + 1) * 2, none⟩ : Addr).add j = (⟨g, 0, none⟩ : Addr).add ((k + 1) * 2 + j) := by simp [Addr.add]
      rw [e2]
      exact (hW.cell (p := (⟨g, 0, none⟩ : Addr).add ((k + 1) * 2 + j)) (by simpa [Addr.add] using HG.out)).trans this)
    have hsum : k + (xs.length - (k + 1)) ≤ 100000 := by omega
    have GR := Lib.hid (fun (W W3 : World) (hb : Below w'.heap.size w' W) (hg : W.grownBy W3 v1.ownBlock) => hb.grown hg hb.size (fun g hg => (World.ownsRow.lt HO1.out g hg).1))
    have BD := Lib.hid (fun n => below_drewN n B1.out)
    have b4 : ((k : Int) + 1).toNat = k + 1 := by omega
    generalize hy : (xs[k]).2 = y at *
    have hm0 : 0 < xs.length - (k + 1) := by omega
    have hml : k + (xs.length - (k + 1)) ≤ maxLen := by unfold maxLen; omega
    have hmb : (k + (xs.length - (k + 1))) * 16 ≤ 140737488355328 := by omega
    go_region_held3 (fun v => v.cell? ⟨g, k * 2 + 1, none⟩ = some (.int .i64 y)) ((first | exact CL.out _ (GR.out _ _ (by first | exact B1.out | exact below_drewN 1 B1.out) hgrow) | exact c1))
      ((refine step_append_lies _ (by rfl) _ _ _ (by rfl) w'.heap.size 39 i0 _ 2 16 Try.underlying28 hi hz0 hz1 hz2 rfl (by omega) v1 k ((xs.take k).flatMap itc15) (by rfl) (by first | exact HO1.out | exact HO1.out.drew) ⟨g, (k + 1) * 2, none⟩ (xs.length - (k + 1)) (cap - (k + 1)) ((xs.drop (k + 1)).flatMap itc15) (by rfl) HL2.out (HD2.out _ (by first | exact B1.out | exact below_drewN 1 B1.out)) H2.out hm0 hml hmb hs1 w1.heap.size (by simp) ?_; intro gg cap2 w3 hown3 hgrow hat hlt))
    have B3 := GR.out _ _ (by first | exact B1.out | exact below_drewN 1 B1.out) hgrow
    have F3 : Its15 w3 w'.heap.size (.slice (some ⟨gg, 0, none⟩) (k + (xs.length - (k + 1))) cap2) (xs.take k ++ xs.drop (k + 1)) := by
      unfold Its15
      rw [List.length_append, List.length_take, List.length_drop, Nat.min_eq_left (by omega), List.flatMap_append]
      exact hown3
    have FF := Lib.hid F3
    have BB := Lib.hid B3
    clear F3 B3 hown3 hgrow
    go_wp2
    go_ret3
    exact ⟨k, hk, HE.out, _, by rw [hy]; rfl, FF.out, BB.out⟩
end Go.Proofs.Ytcieggckmpabnaa
