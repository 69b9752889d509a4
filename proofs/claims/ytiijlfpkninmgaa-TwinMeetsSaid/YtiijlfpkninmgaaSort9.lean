/-
  The answer of layer 9: items sorted; what the first so many of a sorted list are when one more comes. No condition.
-/
import Derived.Test.YtiijlfpkninmgaaRef9
import Derived.StillTailTactics
namespace Go.Proofs.Ytiijlfpkninmgaa
set_option linter.unusedVariables false
set_option linter.unusedSimpArgs false
open Go.ChangeShapes Go.WideShapes Go.ChangeAt Go.RowKit
attribute [local go_sem] alloc_drewN setCell_drewN

def srtP (xs : List (Int × Int)) : Nat → List (Int × Int)
  | 0 => []
  | k + 1 => insP (srtP xs k) (xs.getD k (0, 0))
theorem srtP_length (xs : List (Int × Int)) : ∀ k, (srtP xs k).length = k
  | 0 => rfl
  | k + 1 => by rw [srtP, insP_length, srtP_length]
theorem insP_mem (e m : Int × Int) : ∀ L, m ∈ insP L e → m = e ∨ m ∈ L
  | [], h => Or.inl (List.mem_singleton.1 h)
  | x :: L, h => by
    unfold insP at h
    split at h
    · rcases List.mem_cons.1 h with h | h
      · exact Or.inl h
      · exact Or.inr h
    · rcases List.mem_cons.1 h with h | h
      · exact Or.inr (h ▸ List.mem_cons_self ..)
      · rcases insP_mem e m L h with h | h
        · exact Or.inl h
        · exact Or.inr (List.mem_cons_of_mem _ h)
def SrtP (L : List (Int × Int)) : Prop := L.Pairwise (fun a b => a.1 ≤ b.1)
theorem insP_srt (e : Int × Int) : ∀ L, SrtP L → SrtP (insP L e)
  | [], _ => List.pairwise_singleton _ _
  | x :: L, h => by
    have h' := List.pairwise_cons.1 h
    unfold insP
    split
    · rename_i hx
      refine List.pairwise_cons.2 ⟨fun y hy => ?_, h⟩
      rcases List.mem_cons.1 hy with rfl | hy
      · omega
      · have := h'.1 y hy; omega
    · rename_i hx
      refine List.pairwise_cons.2 ⟨fun y hy => ?_, insP_srt e L h'.2⟩
      rcases insP_mem e y L hy with rfl | hy
      · omega
      · exact h'.1 y hy
theorem srtP_srt (xs : List (Int × Int)) : ∀ k, SrtP (srtP xs k)
  | 0 => List.Pairwise.nil
  | k + 1 => insP_srt _ _ (srtP_srt xs k)
theorem insP_snoc (e z : Int × Int) (hz : e.1 < z.1) : ∀ L, insP (L ++ [z]) e = insP L e ++ [z]
  | [] => by
    show insP [z] e = [e, z]
    unfold insP
    rw [if_pos hz]
  | x :: L => by
    rw [List.cons_append, insP, insP]
    by_cases h : e.1 < x.1
    · rw [if_pos h, if_pos h]; rfl
    · rw [if_neg h, if_neg h, insP_snoc e z hz L]; rfl
theorem best_in (L : List (Int × Int)) (e : Int × Int) (n : Nat) (h : L.length < n) : (insP L e).take n = insP (L.take n) e := by
  rw [List.take_of_length_le (by rw [insP_length]; omega), List.take_of_length_le (by omega)]
theorem best_split (L : List (Int × Int)) (n : Nat) (h1 : 1 ≤ n) (h : n ≤ L.length) : ∃ I z R, L = I ++ [z] ++ R ∧ L.take n = I ++ [z] ∧ I.length + 1 = n := by
  have hn : n - 1 < L.length := by omega
  refine ⟨L.take (n - 1), L[n - 1], L.drop n, ?_, ?_, by rw [List.length_take]; omega⟩
  · have e := (List.take_succ_eq_append_getElem hn).symm
    rw [show n - 1 + 1 = n by omega] at e
    rw [e, List.take_append_drop]
  · have e := (List.take_succ_eq_append_getElem hn).symm
    rw [show n - 1 + 1 = n by omega] at e
    exact e.symm
theorem best_stay (I R : List (Int × Int)) (z e : Int × Int) (hs : SrtP (I ++ [z] ++ R)) (hr : z.1 ≤ e.1) : (insP (I ++ [z] ++ R) e).take (I.length + 1) = I ++ [z] := by
  have h1 := (List.pairwise_append.1 hs).1
  have h2 := (List.pairwise_append.1 h1).2.2
  rw [insP_none e (I ++ [z]) R (fun m hm => by
    rcases List.mem_append.1 hm with hm | hm
    · have := h2 m hm z (List.mem_singleton.2 rfl); omega
    · rw [List.mem_singleton.1 hm]; omega)]
  rw [List.take_left' (by simp)]
theorem best_out (I R : List (Int × Int)) (z e : Int × Int) (hr : ¬ z.1 ≤ e.1) : (insP (I ++ [z] ++ R) e).take (I.length + 1) = insP I e := by
  rw [insP_some e (I ++ [z]) R ⟨z, by simp, by omega⟩, insP_snoc e z (by omega), List.append_assoc, List.take_left' (by rw [insP_length])]
set_option maxRecDepth 100000 in
set_option maxHeartbeats 2000000 in
theorem sort9 (base : Nat) (v : Value) (xs : List (Int × Int)) (hn : xs.length ≤ 100000) (w : World) (h : Its w base v xs) :
    Calls Try.prog 50 #[v] w fun e w' => ∃ v', e = .returned v' ∧ Its w' w.heap.size v' (srtP xs xs.length) ∧ Below w.heap.size w w' := by
  obtain ⟨a, c, rfl, _, hc⟩ := h.form
  have HC := Lib.hid hc
  clear h hc
  obtain ⟨n, hN⟩ : ∃ n, n = xs.length := ⟨_, rfl⟩
  have HN := Lib.hid hN
  rw [← hN] at hn ⊢
  clear hN
  go_enter Try.func50, Try.ntmps50
  go_wp2
  go_loopw [3, 4] (fun x y wr => ∃ (vo : Value) (k : Nat), vo = x ∧ k ≤ n ∧ y = .int .i64 k ∧ Its wr w.heap.size vo (srtP xs k) ∧ Below w.heap.size w wr) (fun _ y _ => n - (intOf y).toNat)
  case atStart => exact ⟨_, 0, rfl, Nat.zero_le _, rfl, Its.nil _ _, Below.refl _ _⟩
  case round =>
    obtain ⟨vo, k, rfl, hk, rfl, ho, hb⟩ := hrel
    by_cases hlt : k < n
    · obtain ⟨g, rfl, hg, cg, cg2⟩ := HC.out k (by rw [← HN.out]; exact hlt)
      have cg := (hb.cell (p := ⟨g, k * 2, none⟩) hg).trans cg
      have cg2 := (hb.cell (p := ⟨g, k * 2 + 1, none⟩) hg).trans cg2
      have e1 : (k : Int) < n := by omega
      have e0 : (0 : Int) ≤ k := by omega
      have hgd : xs.getD k (0, 0) = xs[k]'(by rw [← HN.out]; exact hlt) := by rw [List.getD_eq_getElem?_getD, List.getElem?_eq_getElem (by rw [← HN.out]; exact hlt)]; rfl
      have PS := push9 w.heap.size vo (srtP xs k) (xs[k]'(by rw [← HN.out]; exact hlt)).1 (xs[k]'(by rw [← HN.out]; exact hlt)).2 (by rw [srtP_length]; omega) wr.drew (show Its wr.drew w.heap.size vo (srtP xs k) from ho.below (Below.refl _ wr).drew)
      have hst : srtP xs (k + 1) = insP (srtP xs k) ((xs[k]'(by rw [← HN.out]; exact hlt)).1, (xs[k]'(by rw [← HN.out]; exact hlt)).2) := by rw [srtP, hgd]
      rw [← hst] at PS
      have PH := Lib.hid PS
      have HB := Lib.hid hb
      clear PS hst hgd ho hb
      generalize xs[k]'(by rw [← HN.out]; exact hlt) = y at *
      obtain ⟨y1, y2⟩ := y
      dsimp only at cg cg2 PH
      go_wp2
      refine wp_region_still_tail 11 (by kernel_rfl) (by kernel_rfl) ?_
      simp only [List.take_succ_cons, List.take_zero, List.drop_succ_cons, List.drop_zero]
      repeat still_step
      refine wpStill_nil ?_
      change wpList _ _ _ _ _ wr.drew
      go_wp2_with (go_at_call 31; refine PH.out.mono ?_; rintro e w3 ⟨v3, rfl, h3, b3⟩)
      have hsz : w.heap.size ≤ wr.drew.heap.size := HB.out.size
      go_roundw
      case rel => exact ⟨v3, k + 1, rfl, by omega, by go_num, (by
        refine ⟨h3.1, ?_⟩
        rcases h3.2 with hh | ⟨g, cap, cur, e, hg, rest⟩
        · exact Or.inl hh
        · exact Or.inr ⟨g, cap, cur, e, Nat.le_trans hsz hg, rest⟩), HB.out.trans ((Below.refl _ wr).drew.trans b3 |>.mono HB.out.size)⟩
      case measure => simp [intOf] <;> omega
    · obtain rfl : k = n := by omega
      go_wp2
      go_ret
      exact ⟨_, rfl, ho, hb⟩
end Go.Proofs.Ytiijlfpkninmgaa
