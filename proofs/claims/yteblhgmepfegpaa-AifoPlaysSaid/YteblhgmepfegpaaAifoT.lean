/-
  A gate beside the document's: what is done with one leaves the other. No block turns but theirs. No condition but that both were made.
-/
import Derived.Test.YteblhgmepfegpaaAifoR2
import Derived.Test.YteblhgmepfegpaaAifoL
import Derived.Test.YteblhgmepfegpaaOpen
namespace Go.Proofs.Yteblhgmepfegpaa
set_option linter.unusedVariables false
set_option linter.unusedSimpArgs false
open Go.ChangeShapes Go.WideShapes Go.ChangeAt Go.RowKit
attribute [local go_sem] alloc_drewN setCell_drewN

def Two (w : World) (base G M : Nat) (room win num den : Int) (a : Nat) (WA : List Int) (b : Nat) (WB : List Int) : Prop :=
  ∃ R C vr vs ps f k S vm, GtAt w base G R C room win num den a vr vs ps f k S ∧ R13 w base M room win num den b vm WB ∧ (∀ j, inGt G R C vr vs j → ¬ inM M vm j) ∧ cont 0 ps f k = WA
theorem MvS.belowB {w w' : World} {base : Nat} {X Y : Nat → Prop} (m : MvS w w' X Y) (h : ∀ j, X j → base ≤ j) (hs : base ≤ w.heap.size) : Below base w w' :=
  ⟨m.os, m.tape, m.output, m.size, fun j hj => m.block j (by omega) (fun e => by have := h j e; omega)⟩
section
variable {w : World} {base G M : Nat} {room win num den : Int} {a b : Nat} {WA WB : List Int}
theorem Two.heap {w' : World} (h : Two w base G M room win num den a WA b WB) (e : w'.heap = w.heap) : Two w' base G M room win num den a WA b WB := by
  obtain ⟨R, C, vr, vs, ps, f, k, S, vm, g, r, ap, hc⟩ := h
  exact ⟨R, C, vr, vs, ps, f, k, S, vm, g.keep (fun _ _ => by rw [e]), r.keep (fun _ _ => by rw [e]), ap, hc⟩
theorem Two.below {w' : World} (h : Two w base G M room win num den a WA b WB) (hb : Below w.heap.size w w') : Two w' base G M room win num den a WA b WB := by
  obtain ⟨R, C, vr, vs, ps, f, k, S, vm, g, r, ap, hc⟩ := h
  exact ⟨R, C, vr, vs, ps, f, k, S, vm, g.keep (fun j hj => hb.block j (g.inlt hj).2), r.keep (fun j hj => hb.block j (r.inlt hj).2), ap, hc⟩
theorem Two.wb (h : Two w base G M room win num den a WA b WB) : (b : Int) ≤ 4096 ∧ (b : Int) ≤ room ∧ WB.length ≤ 1024 := by
  obtain ⟨R, C, vr, vs, ps, f, k, S, vm, g, r, ap, hc⟩ := h
  have := r.wt; have := r.r1; have := r.wl; have := r.w1
  omega
theorem two_may1 (h : Two w base G M room win num den a WA b WB) (x : Int) : Calls Try.prog 32 #[.pointer (some ⟨G, 0, none⟩), .int .u64 x] w fun e w' => e = .returned (.bool (mayP room num den a WA x)) ∧ ∃ q, w' = w.drewN q := by
  obtain ⟨R, C, vr, vs, ps, f, k, S, vm, g, r, ap, hc⟩ := h
  rw [← hc]
  exact gmay g x
theorem two_may2 (h : Two w base G M room win num den a WA b WB) (x : Int) : Calls Try.prog 33 #[.pointer (some ⟨M, 0, none⟩), .int .u64 x] w fun e w' => e = .returned (.bool (mayP room num den b WB x)) ∧ ∃ q, w' = w.drewN q := by
  obtain ⟨R, C, vr, vs, ps, f, k, S, vm, g, r, ap, hc⟩ := h
  exact rmay r x
theorem two_offer1 (h : Two w base G M room win num den a WA b WB) (x : Int) (hb : base ≤ w.heap.size) : Calls Try.prog 34 #[.pointer (some ⟨G, 0, none⟩), .int .u64 x] w fun e w' => e = .returned (.bool (mayP room num den a WA x)) ∧ Two w' base G M room win num den (bump a (mayP room num den a WA x)) (winP WA win.toNat x) b WB ∧ Below base w w' := by
  obtain ⟨R, C, vr, vs, ps, f, k, S, vm, g, r, ap, hc⟩ := h
  rw [← hc]
  refine (goffer g x hb).mono ?_
  rintro e w' ⟨rfl, vr', vs', ps', f', k', S', g', hc', m⟩
  refine ⟨rfl, ⟨R, C, vr', vs', ps', f', k', S', vm, g', r.keep (fun j hj => m.block j (r.inlt hj).2 (fun e => ap j e hj)), fun j hj hM => ?_, hc'⟩, m.belowB (fun j hj => (g.inlt hj).1) hb⟩
  rcases m.own j hj with h1 | h1
  · have := (r.inlt hM).2; omega
  · exact ap j h1 hM
theorem two_offer2 (h : Two w base G M room win num den a WA b WB) (x : Int) (hb : base ≤ w.heap.size) : Calls Try.prog 35 #[.pointer (some ⟨M, 0, none⟩), .int .u64 x] w fun e w' => e = .returned (.bool (mayP room num den b WB x)) ∧ Two w' base G M room win num den a WA (bump b (mayP room num den b WB x)) (winP WB win.toNat x) ∧ Below base w w' := by
  obtain ⟨R, C, vr, vs, ps, f, k, S, vm, g, r, ap, hc⟩ := h
  refine (roffer r x hb).mono ?_
  rintro e w' ⟨rfl, vm', r', m⟩
  refine ⟨rfl, ⟨R, C, vr, vs, ps, f, k, S, vm', g.keep (fun j hj => m.block j (g.inlt hj).2 (ap j hj)), r', fun j hj hM => ?_, hc⟩, m.belowB (fun j hj => (r.inlt hj).1) hb⟩
  rcases m.own j hM with h1 | h1
  · have := (g.inlt hj).2; omega
  · exact ap j hj h1
theorem two_take (h : Two w base G M room win num den a WA b WB) (hb : base ≤ w.heap.size) : Calls Try.prog 37 #[.pointer (some ⟨G, 0, none⟩)] w fun e w' => e = .returned (.bool (decide (0 < a))) ∧ Two w' base G M room win num den (a - 1) WA b WB ∧ Below base w w' := by
  obtain ⟨R, C, vr, vs, ps, f, k, S, vm, g, r, ap, hc⟩ := h
  refine (gtake g).mono ?_
  rintro e w' ⟨rfl, g', m⟩
  exact ⟨rfl, ⟨R, C, vr, vs, ps, f, k, S, vm, g', r.keep (fun j hj => m.block j (r.inlt hj).2 (fun e => ap j e hj)), ap, hc⟩, m.belowB (fun j hj => (g.inlt hj).1) hb⟩
theorem two_len (h : Two w base G M room win num den a WA b WB) : Calls Try.prog 36 #[.pointer (some ⟨G, 0, none⟩)] w fun e w' => e = .returned (.int .i64 a) ∧ w' = w := by
  obtain ⟨R, C, vr, vs, ps, f, k, S, vm, g, r, ap, hc⟩ := h
  exact glen g
theorem two_window (h : Two w base G M room win num den a WA b WB) : Calls Try.prog 39 #[.pointer (some ⟨G, 0, none⟩)] w fun e w' => ∃ v, e = .returned v ∧ U64s w' w.heap.size v WA ∧ Below w.heap.size w w' := by
  obtain ⟨R, C, vr, vs, ps, f, k, S, vm, g, r, ap, hc⟩ := h
  rw [← hc]
  exact gwindow g
theorem two_setM (h : Two w base G M room win num den a WA b WB) (q : Nat) (hq : (q : Int) ≤ room) (hb : base ≤ w.heap.size) : Two (w.setCell ⟨M, 4, none⟩ (.int .i64 q)) base G M room win num den a WA q WB ∧ Below base w (w.setCell ⟨M, 4, none⟩ (.int .i64 q)) := by
  obtain ⟨R, C, vr, vs, ps, f, k, S, vm, g, r, ap, hc⟩ := h
  obtain ⟨r', m⟩ := r.setW q hq
  exact ⟨⟨R, C, vr, vs, ps, f, k, S, vm, g.keep (fun j hj => m.block j (g.inlt hj).2 (ap j hj)), r', ap, hc⟩, m.belowB (fun j hj => (r.inlt hj).1) hb⟩
theorem Two.cells (h : Two w base G M room win num den a WA b WB) : w.cell? ⟨M, 4, none⟩ = some (.int .i64 b) ∧ w.frozen? ⟨M, 4, none⟩ = false ∧ ∃ vm, w.cell? ⟨M, 5, none⟩ = some vm ∧ U64s w base vm WB := by
  obtain ⟨R, C, vr, vs, ps, f, k, S, vm, g, r, ap, hc⟩ := h
  obtain ⟨c0, c1, c2, c3, c4, c5⟩ := r.cell
  exact ⟨c4, r.frz 4, vm, c5, r.own⟩
theorem samenum {b1 b2 : Nat} {v1 v2 : Value} {bs : List Int} (h1 : U64s w b1 v1 bs) (h2 : U64s w b2 v2 bs) (hn : bs.length ≤ 100000) :
    Calls Try.prog 38 #[v1, v2] w fun e w' => e = .returned (.bool true) ∧ Below w.heap.size w w' := by
  obtain ⟨a1, c1, rfl, _, hc1⟩ := h1.form
  obtain ⟨a2, c2, rfl, _, hc2⟩ := h2.form
  have HC1 := Lib.hid hc1; have HC2 := Lib.hid hc2
  clear h1 h2 hc1 hc2
  go_enter Try.func38, Try.ntmps38
  go_wp2
  go_loopw [5] (fun x wr => ∃ k : Nat, k ≤ bs.length ∧ x = .int .i64 k ∧ Below w.heap.size w wr) (fun x _ => bs.length - (intOf x).toNat)
  case atStart => exact ⟨0, Nat.zero_le _, rfl, Below.refl _ _⟩
  case round =>
    obtain ⟨k, hk, rfl, hbw⟩ := hrel
    by_cases hlt : k < bs.length
    · obtain ⟨g, rfl, _, hg, cg, _⟩ := HC1.out k hlt
      obtain ⟨g2, rfl, _, hg2, cg2, _⟩ := HC2.out k hlt
      have c0 := (hbw.cell (p := ⟨g, k, none⟩) hg).trans cg
      have d0 := (hbw.cell (p := ⟨g2, k, none⟩) hg2).trans cg2
      clear cg cg2
      generalize bs.getD k 0 = f at *
      have x0 : (0 : Int) ≤ (k : Int) := by omega
      have x1 : (k : Int) < (bs.length : Int) := by omega
      go_wp2
      go_quiet (fail)
      go_wp2
      go_roundw
      case rel => exact ⟨k + 1, by omega, by go_num, below_drewN _ hbw⟩
      case measure => simp [intOf] <;> omega
    · go_wp2
      go_ret
      exact ⟨rfl, hbw⟩
end
end Go.Proofs.Yteblhgmepfegpaa
