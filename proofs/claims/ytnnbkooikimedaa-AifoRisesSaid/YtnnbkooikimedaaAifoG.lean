/-
  A gate alone: what is done with it, whatever is asked. No condition but that New made it.
-/
import Derived.Test.YtnnbkooikimedaaAifo5
import Derived.Test.YtnnbkooikimedaaAifoL
namespace Go.Proofs.Ytnnbkooikimedaa
set_option linter.unusedVariables false
set_option linter.unusedSimpArgs false
open Go.ChangeShapes Go.WideShapes Go.ChangeAt Go.RowKit
attribute [local go_sem] alloc_drewN setCell_drewN

def One (w : World) (base G : Nat) (room win num den : Int) (a : Nat) (WA : List Int) : Prop :=
  ∃ R C vr vs ps f k S, GtAt w base G R C room win num den a vr vs ps f k S ∧ cont 0 ps f k = WA
section
variable {w : World} {base G : Nat} {room win num den : Int} {a : Nat} {WA : List Int}
theorem One.heap {w' : World} (h : One w base G room win num den a WA) (e : w'.heap = w.heap) : One w' base G room win num den a WA := by
  obtain ⟨R, C, vr, vs, ps, f, k, S, g, hc⟩ := h
  exact ⟨R, C, vr, vs, ps, f, k, S, g.keep (fun _ _ => by rw [e]), hc⟩
theorem One.drew (h : One w base G room win num den a WA) : One w.drew base G room win num den a WA := h.heap rfl
theorem One.drewN {q : Nat} (h : One w base G room win num den a WA) : One (w.drewN q) base G room win num den a WA := h.heap rfl
theorem One.below {w' : World} (h : One w base G room win num den a WA) (hb : Below w.heap.size w w') : One w' base G room win num den a WA := by
  obtain ⟨R, C, vr, vs, ps, f, k, S, g, hc⟩ := h
  exact ⟨R, C, vr, vs, ps, f, k, S, g.keep (fun j hj => hb.block j (g.inlt hj).2), hc⟩
theorem One.bounds (h : One w base G room win num den a WA) : 1 ≤ room ∧ room ≤ 4096 ∧ 0 ≤ num ∧ num < den ∧ den ≤ 65536 ∧ (a : Int) ≤ room := by
  obtain ⟨R, C, vr, vs, ps, f, k, S, g, hc⟩ := h
  exact ⟨g.r0, g.r1, g.n0, g.n1, g.d1, g.wt⟩
theorem One.wlen (h : One w base G room win num den a WA) : WA.length ≤ 1024 := by
  obtain ⟨R, C, vr, vs, ps, f, k, S, g, hc⟩ := h
  have h1 := g.rk.perm.length_eq
  have h2 := g.rk.sr.lim
  rw [hc] at h1
  omega
theorem one_may (h : One w base G room win num den a WA) (x : Int) : Calls Try.prog 17 #[.pointer (some ⟨G, 0, none⟩), .int .u64 x] w fun e w' => e = .returned (.bool (mayP room num den a WA x)) ∧ ∃ q, w' = w.drewN q := by
  obtain ⟨R, C, vr, vs, ps, f, k, S, g, hc⟩ := h
  rw [← hc]
  exact gmay g x
theorem one_offer (h : One w base G room win num den a WA) (x : Int) (hb : base ≤ w.heap.size) : Calls Try.prog 15 #[.pointer (some ⟨G, 0, none⟩), .int .u64 x] w fun e w' => e = .returned (.bool (mayP room num den a WA x)) ∧ One w' base G room win num den (bump a (mayP room num den a WA x)) (winP WA win.toNat x) ∧ Below base w w' := by
  obtain ⟨R, C, vr, vs, ps, f, k, S, g, hc⟩ := h
  rw [← hc]
  refine (goffer g x hb).mono ?_
  rintro e w' ⟨rfl, vr', vs', ps', f', k', S', g', hc', m⟩
  exact ⟨rfl, ⟨R, C, vr', vs', ps', f', k', S', g', hc'⟩, ⟨m.os, m.tape, m.output, m.size, fun j hj => m.block j (by omega) (fun e => by have := (g.inlt e).1; omega)⟩⟩
theorem one_take (h : One w base G room win num den a WA) (hb : base ≤ w.heap.size) : Calls Try.prog 16 #[.pointer (some ⟨G, 0, none⟩)] w fun e w' => e = .returned (.bool (decide (0 < a))) ∧ One w' base G room win num den (a - 1) WA ∧ Below base w w' := by
  obtain ⟨R, C, vr, vs, ps, f, k, S, g, hc⟩ := h
  refine (gtake g).mono ?_
  rintro e w' ⟨rfl, g', m⟩
  exact ⟨rfl, ⟨R, C, vr, vs, ps, f, k, S, g', hc⟩, ⟨m.os, m.tape, m.output, m.size, fun j hj => m.block j (by omega) (fun e => by have := (g.inlt e).1; omega)⟩⟩
theorem one_len (h : One w base G room win num den a WA) : Calls Try.prog 19 #[.pointer (some ⟨G, 0, none⟩)] w fun e w' => e = .returned (.int .i64 a) ∧ w' = w := by
  obtain ⟨R, C, vr, vs, ps, f, k, S, g, hc⟩ := h
  exact glen g
theorem one_window (h : One w base G room win num den a WA) : Calls Try.prog 18 #[.pointer (some ⟨G, 0, none⟩)] w fun e w' => ∃ v, e = .returned v ∧ U64s w' w.heap.size v WA ∧ Below w.heap.size w w' := by
  obtain ⟨R, C, vr, vs, ps, f, k, S, g, hc⟩ := h
  rw [← hc]
  exact gwindow g
end
theorem lessC_leG (W : List Int) (x : Int) : lessC W x ≤ W.length := List.countP_le_length
theorem mayP_mono {room num den : Int} {a : Nat} {W : List Int} {x y : Int} (h0 : 1 ≤ room) (hn : num < den) (hxy : x ≤ y) (h : mayP room num den a W y = true) : mayP room num den a W x = true := by
  unfold mayP at h ⊢
  obtain ⟨h1, h2⟩ := Bool.and_eq_true_iff.1 h
  have h2 := of_decide_eq_true h2
  refine Bool.and_eq_true_iff.2 ⟨h1, decide_eq_true ?_⟩
  have hl : ((lessC W x : Nat) : Int) ≤ lessC W y := by have := lessC_mono (W := W) hxy; omega
  have e1 : ((lessC W x : Nat) : Int) * (den - num) ≤ (lessC W y : Int) * (den - num) := Int.mul_le_mul_of_nonneg_right hl (by omega)
  have e2 := Int.mul_le_mul_of_nonneg_right e1 (show 0 ≤ room by omega)
  omega
theorem mayP_least {room num den : Int} {a : Nat} {W : List Int} {x : Int} (ha : (a : Int) ≤ room) (hd : 0 < den) (h : ∀ y ∈ W, x ≤ y) : mayP room num den a W x = decide ((a : Int) < room) := by
  unfold mayP
  rw [lessC_least h]
  have e : 0 ≤ (room - a) * den * (W.length : Int) := Int.mul_nonneg (Int.mul_nonneg (by omega) (by omega)) (by omega)
  simp [e]
theorem mayP_slack {room num den : Int} {a : Nat} {W : List Int} {x : Int} (h0 : 1 ≤ room) (hn : num < den) (ha : (a : Int) < room) (hs : (a : Int) * den ≤ num * room) : mayP room num den a W x = true := by
  unfold mayP
  refine Bool.and_eq_true_iff.2 ⟨decide_eq_true ha, decide_eq_true ?_⟩
  have hl : ((lessC W x : Nat) : Int) ≤ W.length := by have := lessC_leG W x; omega
  have e0 : (den - num) * room ≤ (room - a) * den := by
    have := Int.sub_mul den num room; have := Int.sub_mul room a den; have := Int.mul_comm den room
    omega
  have e1 : ((lessC W x : Nat) : Int) * ((den - num) * room) ≤ (W.length : Int) * ((den - num) * room) := Int.mul_le_mul_of_nonneg_right hl (Int.mul_nonneg (by omega) (by omega))
  have e2 : (W.length : Int) * ((den - num) * room) ≤ (W.length : Int) * ((room - a) * den) := Int.mul_le_mul_of_nonneg_left e0 (by omega)
  have e3 := Int.mul_assoc (lessC W x : Int) (den - num) room
  have e4 := Int.mul_comm (W.length : Int) ((room - a) * den)
  omega
end Go.Proofs.Ytnnbkooikimedaa
