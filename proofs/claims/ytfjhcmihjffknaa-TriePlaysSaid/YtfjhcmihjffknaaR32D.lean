/-
  The answer of layer 32, walked: a thing taken out. What lay below the heap's end stands. No condition but those that the texts name.
-/
import Derived.Test.YtfjhcmihjffknaaR32
import Derived.Test.YtfjhcmihjffknaaApp0
import Derived.RegionTactic
import Derived.Deep.RegionWith
import Derived.Deep.RegionHeld3
import Derived.Deep.AppendLies
import Derived.StillTactics
import Derived.WalkSpells
import Derived.Lib.AppendZeros
namespace Go.Proofs.Ytfjhcmihjffknaa
set_option linter.unusedVariables false
set_option linter.unusedSimpArgs false
open Go.ChangeShapes Go.WideShapes Go.ChangeAt Go.RowKit
attribute [local go_sem] alloc_drewN setCell_drewN

theorem step_append32 {P : Program} {ops : Array Oper} {o : Oper} {a : Act} {w : World} {K : Act → World → Prop} {Q : Exit → Act → World → Prop} {E : Prop}
    (hg : o.guard = none) (s x : Operand) (t tn : TypeId) (hop : o.op = .call { callee := .builtin .append, args := #[s, x], argTypes := #[t, tn] }) (vs vx : Value) (hs : a.eval s = vs) (hx : a.eval x = vx)
    (v' : Value) (w' : World) (hr : (Builtin.append_ #[t, tn] o.type #[vs, vx]).run P w = .ok v' w') (hK : K (a.put o.dst v') w') : if Region.wanted o (yielded ops a.tmps) = true then Oper.wp P o a w K Q else E := by
  rw [if_pos (by simp [Region.wanted, hg])]
  exact Lib.wp_append_run w s x t tn hop vs vx hs hx v' w' hr hK
theorem its32_one (xs : List (Int × Int × Int)) : ∀ u ∈ xs.flatMap itc32, u.oneCell' = true := fun u hu => by
  obtain ⟨y, _, hy⟩ := List.mem_flatMap.1 hu
  simp [itc32] at hy
  rcases hy with rfl | rfl | rfl <;> rfl
set_option maxRecDepth 100000 in
set_option maxHeartbeats 2000000 in
theorem drop32_no (base : Nat) (v : Value) (xs : List (Int × Int × Int)) (a n : Int) (hn : xs.length ≤ 100000) (w : World) (h : Its32 w base v xs) (hno : ∀ m ∈ xs, ¬ (m.1 = a ∧ m.2.1 = n)) :
    Calls Try.prog 41 #[v, .agg #[.int .u32 a, .int .i64 n]] w fun e w' => e = .returned (.tuple #[v, .int .i64 0, .bool false]) ∧ Below w.heap.size w w' := by
  have HB := Lib.hid ((Below.refl _ w).alloc (Nat.le_refl _) (.cells #[.int .u32 a, .int .i64 n] 70))
  have HP := Lib.hid (heap_alloc_new w (.cells #[.int .u32 a, .int .i64 n] 70))
  have AT := Lib.hid (at32 (h.below HB.out) hn a n)
  have HN := Lib.hid hno
  obtain ⟨p0, p1⟩ := box2 HP.out
  clear h hno
  go_enter Try.func41, Try.ntmps41
  go_wp2_with fail
  generalize w.alloc (.cells #[.int .u32 a, .int .i64 n] 70) = W at *
  refine AT.out.mono ?_
  rintro e w2 ⟨r, rfl, hf, b2⟩
  have FIN := Lib.hid (HB.out.trans (b2.mono HB.out.size))
  obtain rfl : r = -1 := by
    rcases hf with ⟨k, h1, h2, h3⟩ | ⟨hno, -⟩
    · exact absurd h3 (HN.out _ (List.getElem_mem h1))
    · exact hno
  clear hf b2 AT p0 p1
  go_wp2
  go_ret3
  exact ⟨rfl, FIN.out⟩
set_option maxRecDepth 100000 in
set_option maxHeartbeats 4000000 in
theorem drop32_at (base : Nat) (v : Value) (xs : List (Int × Int × Int)) (a n : Int) (hn : xs.length ≤ 100000) (w : World) (h : Its32 w base v xs) (hyes : ∃ m ∈ xs, m.1 = a ∧ m.2.1 = n) :
    Calls Try.prog 41 #[v, .agg #[.int .u32 a, .int .i64 n]] w fun e w' => ∃ k, ∃ hk : k < xs.length, ((xs[k]).1 = a ∧ (xs[k]).2.1 = n) ∧ ∃ v', e = .returned (.tuple #[v', .int .i64 (xs[k]).2.2, .bool true]) ∧ (∃ B, w.heap.size ≤ B ∧ Its32 w' B v' (xs.take k ++ xs.drop (k + 1))) ∧ Below w.heap.size w w' := by
  obtain ⟨i0, hi, hz0, hz1, hz2⟩ := info_parts infoEnt32
  have HB := Lib.hid ((Below.refl _ w).alloc (Nat.le_refl _) (.cells #[.int .u32 a, .int .i64 n] 70))
  have HP := Lib.hid (heap_alloc_new w (.cells #[.int .u32 a, .int .i64 n] 70))
  have HH := Lib.hid (h.below HB.out)
  have AT := Lib.hid (at32 HH.out hn a n)
  have HY := Lib.hid hyes
  obtain ⟨p0, p1⟩ := box2 HP.out
  have h' := h
  unfold Its32 at h'
  have hpos : 0 < xs.length := by
    obtain ⟨m, hm, _⟩ := hyes
    exact List.length_pos_of_mem hm
  obtain ⟨g, cap, rfl, -, -⟩ := h'.form hpos
  have hcap : xs.length ≤ cap := by
    obtain ⟨a', c', e', hc', _⟩ := h.form
    injection e' with _ _ e3
    omega
  clear h h' hyes
  go_enter Try.func41, Try.ntmps41
  go_wp2_with fail
  generalize w.alloc (.cells #[.int .u32 a, .int .i64 n] 70) = W at *
  refine AT.out.mono ?_
  rintro e w2 ⟨r, rfl, hf, b2⟩
  have B2 := Lib.hid (HB.out.trans (b2.mono HB.out.size))
  have HF := Lib.hid (HH.out.below b2)
  have h2 := HF.out
  unfold Its32 at h2
  have HC := Lib.hid (h2.cells (g := g) rfl)
  have HG : Hid (g < w2.heap.size) := Lib.hid (by
    obtain ⟨g', cap', e', -, hlt'⟩ := h2.form hpos
    injection e' with e' _ _
    injection e' with e'
    injection e' with e'
    subst e'
    exact hlt')
  obtain ⟨k, hk, rfl, he⟩ : ∃ k : Nat, ∃ h : k < xs.length, r = k ∧ ((xs[k]).1 = a ∧ (xs[k]).2.1 = n) := by
    rcases hf with hf | ⟨_, hno⟩
    · exact hf
    · obtain ⟨m, hm, he⟩ := HY.out
      exact absurd he (hno m hm)
  have HE := Lib.hid he
  clear hf he AT HY h2 b2 p0 p1 HP
  have q0 : (0 : Int) ≤ k := by omega
  have q1 : (k : Int) < xs.length := by omega
  have q2 : ¬ (k : Int) < 0 := by omega
  have q3 : (k : Int) ≤ cap := by omega
  have HL := Lib.hid (show ((xs.take k).flatMap itc32).length = k * 3 by rw [its32_len, List.length_take]; omega)
  have H1 := Lib.hid (its32_one (xs.take k))
  have HD := Lib.hid (show ∀ (j : Nat) (u : Value), ((xs.take k).flatMap itc32)[j]? = some u → w2.cell? ((⟨g, 0, none⟩ : Addr).add j) = some u from fun j u hj => HC.out j u (by
    rw [← List.take_append_drop k xs, List.flatMap_append, List.getElem?_append_left (List.getElem?_eq_some_iff.1 hj).1]
    exact hj))
  go_wp2_with (at_builtin; refine wpList_append_own _ rfl _ _ 84 rfl w2.heap.size 91 i0 (.agg #[.int .u32 0, .int .i64 0, .int .i64 0]) 3 24 Try.underlying84 hi hz0 hz1 hz2 rfl (by decide) (.slice none 0 0) 0 [] rfl (World.ownsRow_nil _ _ _ _) ⟨g, 0, none⟩ k cap ((xs.take k).flatMap itc32) rfl HL.out HD.out H1.out (by unfold maxLen; omega) (by omega) (by simp) ?_; intro v1 w1 ho1 hg1 hn1; clear hn1; have hs1 := hg1.size; rw [Nat.zero_add, List.nil_append] at ho1; have B1 := Lib.hid (show Below w2.heap.size w2 w1 from (Below.refl _ _).grown hg1 (Nat.le_refl _) (fun g hg => by simp [Value.ownBlock] at hg)); have HO1 := Lib.hid ho1; clear hg1 ho1)
  have CL := Lib.hid (show ∀ W, Below w2.heap.size w2 W → W.cell? ⟨g, k * 3 + 2, none⟩ = some (.int .i64 (xs[k]).2.2) from fun W hW => by
    have hu := its32_at xs k 2 hk (by omega)
    have := HC.out (k * 3 + 2) (.int .i64 (xs[k]).2.2) (by rw [hu]; rfl)
    exact (hW.cell (p := ⟨g, k * 3 + 2, none⟩) HG.out).trans (by simpa [Addr.add] using this))
  have c1 := CL.out w1 B1.out
  have b3 : IntKind.i64.wrap ((k : Int) + 1) = (k : Int) + 1 := by rw [IntKind.wrap_i64]; omega
  by_cases hend : k + 1 = xs.length
  · have e0 : xs.drop (k + 1) = [] := List.drop_eq_nil_of_le (by omega)
    have F1 := Lib.hid (show Its32 w1 w2.heap.size v1 (xs.take k ++ xs.drop (k + 1)) from by
      rw [e0, List.append_nil]
      unfold Its32
      rw [List.length_take, Nat.min_eq_left (by omega)]
      exact HO1.out)
    have q4 : (k : Int) + 1 ≤ xs.length := by omega
    have q6 : (k : Int) + 1 ≤ cap := by omega
    have q7 : (0 : Int) ≤ (k : Int) + 1 := by omega
    have q8 : xs.length - (k + 1) = 0 := by omega
    have b4 : ((k : Int) + 1).toNat = k + 1 := by omega
    generalize hy : (xs[k]).2.2 = y at *
    have AP := Lib.hid (fun (ao : Option Addr) (c : Nat) (ty : TypeId) => run_append_owned_zero (P := Try.prog) (w := w1) w2.heap.size 84 ty 91 i0 3 Try.underlying84 hi v1 k _ HO1.out ao c)
    have APD := Lib.hid (fun (ao : Option Addr) (c : Nat) (ty : TypeId) => run_append_owned_zero (P := Try.prog) (w := w1.drew) w2.heap.size 84 ty 91 i0 3 Try.underlying84 hi v1 k _ HO1.out.drew ao c)
    by_cases hce : cap = k + 1
    · go_region_held3 (fun v => v.cell? ⟨g, k * 3 + 2, none⟩ = some (.int .i64 y)) ((exact c1))
        ((refine step_append32 rfl _ _ 84 84 rfl v1 (.slice (some ⟨g, 0, none⟩) 0 0) (by simp [Act.eval, Act.put]) (by simp [Act.eval, Act.put, hce, q8]) v1 _ (by first | exact AP.out _ _ _ | exact APD.out _ _ _) ?_))
      have FF := Lib.hid (show Its32 w1.drew w2.heap.size v1 (xs.take k ++ xs.drop (k + 1)) from World.ownsRow.drew F1.out)
      have BB := Lib.hid (show Below w2.heap.size w2 w1.drew from below_drewN 1 B1.out)
      clear F1 AP APD
      go_wp2
      go_ret3
      exact ⟨k, hk, HE.out, _, by rw [hy]; rfl, ⟨_, B2.out.size, FF.out⟩, B2.out.trans (BB.out.mono B2.out.size)⟩
    · have hce2 : ¬ cap = xs.length := by omega
      go_region_held3 (fun v => v.cell? ⟨g, k * 3 + 2, none⟩ = some (.int .i64 y)) ((exact c1))
        ((refine step_append32 rfl _ _ 84 84 rfl v1 (.slice (some ⟨g, xs.length * 3, none⟩) 0 (cap - xs.length)) (by simp [Act.eval, Act.put]) (by simp [Act.eval, Act.put, hce2, q8]) v1 _ (by first | exact AP.out _ _ _ | exact APD.out _ _ _) ?_))
      have FF := Lib.hid (show Its32 w1.drew w2.heap.size v1 (xs.take k ++ xs.drop (k + 1)) from World.ownsRow.drew F1.out)
      have BB := Lib.hid (show Below w2.heap.size w2 w1.drew from below_drewN 1 B1.out)
      clear F1 AP APD
      go_wp2
      go_ret3
      exact ⟨k, hk, HE.out, _, by rw [hy]; rfl, ⟨_, B2.out.size, FF.out⟩, B2.out.trans (BB.out.mono B2.out.size)⟩
  · have q4 : (k : Int) + 1 ≤ xs.length := by omega
    have q5 : ¬ (cap = k + 1) := by omega
    have q6 : (k : Int) + 1 ≤ cap := by omega
    have q7 : (0 : Int) ≤ (k : Int) + 1 := by omega
    have HL2 := Lib.hid (show ((xs.drop (k + 1)).flatMap itc32).length = (xs.length - (k + 1)) * 3 by rw [its32_len, List.length_drop])
    have H2 := Lib.hid (its32_one (xs.drop (k + 1)))
    have HD2 := Lib.hid (show ∀ (W : World), Below w2.heap.size w2 W → ∀ (j : Nat) (u : Value), ((xs.drop (k + 1)).flatMap itc32)[j]? = some u → W.cell? ((⟨g, (k + 1) * 3, none⟩ : Addr).add j) = some u from fun W hW j u hj => by
      have e : (xs.flatMap itc32)[(k + 1) * 3 + j]? = some u := by
        have hL : ((xs.take (k + 1)).flatMap itc32).length = (k + 1) * 3 := by rw [its32_len, List.length_take]; omega
        rw [← List.take_append_drop (k + 1) xs, List.flatMap_append, List.getElem?_append_right (by rw [hL]; omega), hL, Nat.add_sub_cancel_left]
        exact hj
      have := HC.out ((k + 1) * 3 + j) u e
      have e2 : (⟨g, (k + 1) * 3, none⟩ : Addr).add j = (⟨g, 0, none⟩ : Addr).add ((k + 1) * 3 + j) := by simp [Addr.add]
      rw [e2]
      exact (hW.cell (p := (⟨g, 0, none⟩ : Addr).add ((k + 1) * 3 + j)) (by simpa [Addr.add] using HG.out)).trans this)
    have hsum : k + (xs.length - (k + 1)) ≤ 100000 := by omega
    have GR := Lib.hid (fun (W W3 : World) (hb : Below w2.heap.size w2 W) (hg : W.grownBy W3 v1.ownBlock) => hb.grown hg hb.size (fun g hg => (World.ownsRow.lt HO1.out g hg).1))
    have BD := Lib.hid (fun n => below_drewN n B1.out)
    have b4 : ((k : Int) + 1).toNat = k + 1 := by omega
    generalize hy : (xs[k]).2.2 = y at *
    have hm0 : 0 < xs.length - (k + 1) := by omega
    have hml : k + (xs.length - (k + 1)) ≤ maxLen := by unfold maxLen; omega
    have hmb : (k + (xs.length - (k + 1))) * 24 ≤ 140737488355328 := by omega
    go_region_held3 (fun v => v.cell? ⟨g, k * 3 + 2, none⟩ = some (.int .i64 y)) ((first | exact CL.out _ (GR.out _ _ (by first | exact B1.out | exact below_drewN 1 B1.out) hgrow) | exact c1))
      ((refine step_append_lies _ (by rfl) _ _ _ (by rfl) w2.heap.size 91 i0 _ 3 24 Try.underlying84 hi hz0 hz1 hz2 rfl (by omega) v1 k ((xs.take k).flatMap itc32) (by rfl) (by first | exact HO1.out | exact HO1.out.drew) ⟨g, (k + 1) * 3, none⟩ (xs.length - (k + 1)) (cap - (k + 1)) ((xs.drop (k + 1)).flatMap itc32) (by rfl) HL2.out (HD2.out _ (by first | exact B1.out | exact below_drewN 1 B1.out)) H2.out hm0 hml hmb hs1 w1.heap.size (by simp) ?_; intro gg cap2 w3 hown3 hgrow hat hlt))
    have B3 := GR.out _ _ (by first | exact B1.out | exact below_drewN 1 B1.out) hgrow
    have F3 : Its32 w3 w2.heap.size (.slice (some ⟨gg, 0, none⟩) (k + (xs.length - (k + 1))) cap2) (xs.take k ++ xs.drop (k + 1)) := by
      unfold Its32
      rw [List.length_append, List.length_take, List.length_drop, Nat.min_eq_left (by omega), List.flatMap_append]
      exact hown3
    have FF := Lib.hid F3
    have BB := Lib.hid B3
    clear F3 B3 hown3 hgrow
    go_wp2
    go_ret3
    exact ⟨k, hk, HE.out, _, by rw [hy]; rfl, ⟨_, B2.out.size, FF.out⟩, B2.out.trans (BB.out.mono B2.out.size)⟩
end Go.Proofs.Ytfjhcmihjffknaa
