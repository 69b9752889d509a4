/-
  A box beside two rows of numbers, and what each thing that is done leaves of the three; a row of numbers is appended to another one. No condition.
-/
import Derived.Test.YtfjhcmihjffknaaMl6
import Derived.Laws.AppendOwnNone
import Derived.Maps.AppendAt
namespace Go.Proofs.Ytfjhcmihjffknaa
set_option linter.unusedVariables false
set_option linter.unusedSimpArgs false
open Go.ChangeShapes Go.WideShapes Go.ChangeAt Go.RowKit

theorem wpList_append_ints {w : World} {ops : Array Oper} {rest : List Oper} {o : Oper} {a : Act} {Q : Exit → Act → World → Prop} (hgd : o.guard = none) (s x : Operand)
    (ho : o.op = .call { callee := .builtin .append, args := #[s, x], argTypes := #[30, 30] })
    (base b2 : Nat) (v vx : Value) (xs ys : List Int) (hs : a.eval s = v) (hx : a.eval x = vx) (hv : Ints w base v xs) (hy : Ints w b2 vx ys) (hl : xs.length + ys.length ≤ 1000000) (hbase : base ≤ w.heap.size)
    (h : ∀ v' w', Ints w' base v' (xs ++ ys) → w.grownBy w' v.ownBlock → (v'.ownBlock = v.ownBlock ∨ v'.ownBlock = some w.heap.size) → wpList Try.prog ops Q rest (a.put o.dst v') w') :
    wpList Try.prog ops Q (o :: rest) a w := by
  obtain ⟨i0, hi0, hz0, hz1, hz2⟩ := info_parts infoInt
  rcases hy.2 with ⟨rfl, h0⟩ | ⟨g, cap, cur, rfl, hb, hg, h1, _⟩
  · have h0' : ys = [] := List.length_eq_zero_iff.1 h0
    refine wpList_append_own_none hgd s x 30 ho base 3 i0 1 Try.underlying30 hi0 v xs.length (xs.map (Value.int .i64)) hs hv hx ?_
    exact h v w (by rw [h0', List.append_nil]; exact hv) (World.grownBy.refl w _) (Or.inl rfl)
  · have hc : ∀ j u, (ys.map (Value.int .i64))[j]? = some u → w.cell? ((⟨g, 0, none⟩ : Addr).add j) = some u := fun j u hu => by
      have hj : j < ys.length := by
        have := (List.getElem?_eq_some_iff.1 hu).1
        simpa using this
      have e : ((⟨g, 0, none⟩ : Addr).add j) = ⟨g, j, none⟩ := by simp [Addr.add]; omega
      rw [e, hy.cellAt j (by omega)]
      exact hu
    refine wpList_append_own_at _ hgd s x 30 ho base 3 i0 (.int .i64 0) 1 8 Try.underlying30 hi0 hz0 hz1 hz2 rfl (by decide) v xs.length (xs.map (Value.int .i64)) hs hv ⟨g, 0, none⟩ ys.length cap (ys.map (Value.int .i64)) hx (by simp) hc (fun u hu => by obtain ⟨y, _, rfl⟩ := List.mem_map.1 hu; rfl) (by unfold maxLen; omega) (by omega) hbase ?_
    intro v' w' h1 h2 _ h4
    exact h v' w' (by unfold Ints; rw [List.length_append, List.map_append]; exact h1) h2 h4

/-- A box, and two rows of numbers, apart. -/
structure Mo (W0 w : World) (B room : Nat) (sh : Bool) (l : List Int) (In : Nat → Prop) (vs vg : Value) (sent got : List Int) : Prop where
  bx : BxGI w W0.heap.size B room sh l In
  s : Ints w W0.heap.size vs sent
  g : Ints w W0.heap.size vg got
  sn : ∀ j, vs.ownBlock = some j → ¬ In j
  gn : ∀ j, vg.ownBlock = some j → ¬ In j
  sg : ∀ j, vs.ownBlock = some j → vg.ownBlock ≠ some j
  b : Below W0.heap.size W0 w
section
variable {W0 w : World} {B room : Nat} {sh : Bool} {l : List Int} {In : Nat → Prop} {vs vg : Value} {sent got : List Int}
theorem Mo.box (h : Mo W0 w B room sh l In vs vg sent got) {w' : World} {sh' : Bool} {l' : List Int} {In' : Nat → Prop} (hb : BxGI w' W0.heap.size B room sh' l' In') (m : MvS w w' In In') : Mo W0 w' B room sh' l' In' vs vg sent got := by
  have hs := fun j hj => (World.ownsRow.lt h.s j hj).2
  have hg := fun j hj => (World.ownsRow.lt h.g j hj).2
  refine ⟨hb, own_on35 h.s (fun j hj => m.block j (hs j hj) (h.sn j hj)), own_on35 h.g (fun j hj => m.block j (hg j hj) (h.gn j hj)), fun j hj hi => ?_, fun j hj hi => ?_, h.sg, h.bx.bel m h.b⟩
  · have := hs j hj
    rcases m.own j hi with h1 | h1
    · omega
    · exact h.sn j hj h1
  · have := hg j hj
    rcases m.own j hi with h1 | h1
    · omega
    · exact h.gn j hj h1
theorem Mo.on (h : Mo W0 w B room sh l In vs vg sent got) {w' : World} (hb : Below w.heap.size w w') : Mo W0 w' B room sh l In vs vg sent got :=
  h.box (h.bx.below hb) (MvS.of_below In hb)
theorem Mo.putS (h : Mo W0 w B room sh l In vs vg sent got) {w' : World} {v' : Value} {sent' : List Int} (hg : w.grownBy w' vs.ownBlock) (hat : v'.ownBlock = vs.ownBlock ∨ v'.ownBlock = some w.heap.size) (hi : Ints w' W0.heap.size v' sent') : Mo W0 w' B room sh l In v' vg sent' got := by
  have hgl := fun j hj => (World.ownsRow.lt h.g j hj).2
  refine ⟨h.bx.keep (fun j hj => hg.block j (h.bx.inlt hj).2 (fun e => h.sn j e.symm hj)), hi, own_on35 h.g (fun j hj => hg.block j (hgl j hj) (fun e => h.sg j e.symm hj)), fun j hj hIn => ?_, h.gn, fun j hj hj2 => ?_, h.b.grown hg h.b.size (fun j hj => (World.ownsRow.lt h.s j hj).1)⟩
  · rcases hat with e | e
    · exact h.sn j (e.symm.trans hj) hIn
    · have := (h.bx.inlt hIn).2
      rw [e] at hj
      injection hj with hj
      omega
  · rcases hat with e | e
    · exact h.sg j (e.symm.trans hj) hj2
    · have := hgl j hj2
      rw [e] at hj
      injection hj with hj
      omega
theorem Mo.flip (h : Mo W0 w B room sh l In vs vg sent got) : Mo W0 w B room sh l In vg vs got sent := ⟨h.bx, h.g, h.s, h.gn, h.sn, fun j hj e => h.sg j e hj, h.b⟩
theorem Mo.putG (h : Mo W0 w B room sh l In vs vg sent got) {w' : World} {v' : Value} {got' : List Int} (hg : w.grownBy w' vg.ownBlock) (hat : v'.ownBlock = vg.ownBlock ∨ v'.ownBlock = some w.heap.size) (hi : Ints w' W0.heap.size v' got') : Mo W0 w' B room sh l In vs v' sent got' :=
  (h.flip.putS hg hat hi).flip
theorem Mo.base (h : Mo W0 w B room sh l In vs vg sent got) : W0.heap.size ≤ w.heap.size := h.b.size
end
/-- One number, just laid down, as a row. -/
theorem ints_one (w : World) (x : Int) : Ints (w.alloc (.cells #[.int .i64 x] 3)) w.heap.size (.slice (some ⟨w.heap.size, 0, none⟩) 1 1) [x] := by
  have hb := heap_alloc_new w (.cells #[.int .i64 x] 3)
  exact ⟨rfl, Or.inr ⟨w.heap.size, 1, #[.int .i64 x], rfl, Nat.le_refl _, hb, Nat.le_refl _, by unfold maxLen; omega, rfl, rfl⟩⟩
end Go.Proofs.Ytfjhcmihjffknaa
