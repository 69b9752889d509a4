/-
  Boxes, the row of their places, and two rows of numbers, and what each thing that is done leaves of them. No condition.
-/
import Derived.Test.YtfjhcmihjffknaaMl12
import Derived.Test.YtfjhcmihjffknaaOpen35
namespace Go.Proofs.Ytfjhcmihjffknaa
set_option linter.unusedVariables false
set_option linter.unusedSimpArgs false
open Go.ChangeShapes Go.WideShapes Go.ChangeAt Go.RowKit

theorem row1_35 {w w' : World} {a : Option Addr} {n : Nat} {zs : List Int} (h : Row1 .i64 w a n zs) (hb : Below w.heap.size w w') : Row1 .i64 w' a n zs := by
  obtain ⟨h1, h2, h3, h4⟩ := h
  refine ⟨h1, h2, h3, fun hn => ?_⟩
  obtain ⟨b, off, e, hlt, hc⟩ := h4 hn
  exact ⟨b, off, e, Nat.lt_of_lt_of_le hlt hb.size, fun i hi => (hb.cell (p := ⟨b, off + i, none⟩) hlt).trans (hc i hi)⟩
theorem wpList_append_row {w : World} {ops : Array Oper} {rest : List Oper} {o : Oper} {a : Act} {Q : Exit → Act → World → Prop} (hgd : o.guard = none) (s x : Operand)
    (ho : o.op = .call { callee := .builtin .append, args := #[s, x], argTypes := #[30, 30] })
    (base : Nat) (v : Value) (xs : List Int) (ra : Option Addr) (rn rc : Nat) (ys : List Int) (hs : a.eval s = v) (hx : a.eval x = .slice ra rn rc) (hv : Ints w base v xs) (hy : Row1 .i64 w ra rn ys) (hnil : ra = none → rc = 0) (hl : xs.length + rn ≤ 1000000) (hbase : base ≤ w.heap.size)
    (h : ∀ v' w', Ints w' base v' (xs ++ ys) → w.grownBy w' v.ownBlock → (v'.ownBlock = v.ownBlock ∨ v'.ownBlock = some w.heap.size) → wpList Try.prog ops Q rest (a.put o.dst v') w') :
    wpList Try.prog ops Q (o :: rest) a w := by
  obtain ⟨i0, hi0, hz0, hz1, hz2⟩ := info_parts infoInt
  obtain ⟨h1, h2, h3, h4⟩ := hy
  cases ra with
  | none =>
    have hc := hnil rfl
    subst hc
    have hn : rn = 0 := by
      rcases Nat.eq_zero_or_pos rn with h0 | h0
      · exact h0
      · obtain ⟨b, off, e, _⟩ := h4 h0
        cases e
    subst hn
    have h0' : ys = [] := List.length_eq_zero_iff.1 h1
    refine wpList_append_own_none hgd s x 30 ho base 3 i0 1 Try.underlying30 hi0 v xs.length (xs.map (Value.int .i64)) hs hv hx ?_
    exact h v w (by rw [h0', List.append_nil]; exact hv) (World.grownBy.refl w _) (Or.inl rfl)
  | some ad =>
    have hc : ∀ j u, (ys.map (Value.int .i64))[j]? = some u → w.cell? (ad.add j) = some u := fun j u hu => by
      have hj : j < ys.length := by
        have := (List.getElem?_eq_some_iff.1 hu).1
        simpa using this
      obtain ⟨b, off, e, hlt, hcell⟩ := h4 (by omega)
      cases e
      rw [Go.WideShapes.add_plain, hcell j (by omega)]
      rw [List.getElem?_map, List.getElem?_eq_getElem hj] at hu
      rw [List.getD_eq_getElem?_getD, List.getElem?_eq_getElem hj]
      exact hu
    refine wpList_append_own_at _ hgd s x 30 ho base 3 i0 (.int .i64 0) 1 8 Try.underlying30 hi0 hz0 hz1 hz2 rfl (by decide) v xs.length (xs.map (Value.int .i64)) hs hv ad rn rc (ys.map (Value.int .i64)) hx (by rw [List.length_map, h1, Nat.mul_one]) hc (fun u hu => by obtain ⟨y, _, rfl⟩ := List.mem_map.1 hu; rfl) (by unfold maxLen; omega) (by omega) hbase ?_
    intro v' w' g1 g2 _ g4
    exact h v' w' (by unfold Ints; rw [List.length_append, List.map_append, h1]; exact g1) g2 g4
theorem own_new35 {v v' : Value} {w : World} (hat : v'.ownBlock = v.ownBlock ∨ v'.ownBlock = some w.heap.size) {j : Nat} (hj : v'.ownBlock = some j) : v.ownBlock = some j ∨ j = w.heap.size := by
  rcases hat with e | e
  · exact Or.inl (e ▸ hj)
  · right
    rw [e] at hj
    injection hj with hj
    exact hj.symm
theorem BxGI.lower {w : World} {b2 base B room : Nat} {sh : Bool} {l : List Int} {In : Nat → Prop} (h : BxGI w b2 B room sh l In) (hb : base ≤ b2) : BxGI w base B room sh l In := by
  obtain ⟨c, ps, h1, h2⟩ := h
  exact ⟨c, ps, ⟨h1.blk, h1.ch, Nat.le_trans hb h1.lowB, Nat.le_trans hb h1.lowc, h1.r0, h1.r1, h1.lp, h1.le, fun i p hp => ⟨Nat.le_trans hb (h1.el i p hp).1, (h1.el i p hp).2⟩⟩, h2⟩
/-- Boxes, their places' row, two rows of numbers: all apart. -/
structure Mf (W0 w : World) (vb va vg : Value) (Bs : List Nat) (ls : List (List Int)) (In : Nat → Prop) (all got : List Int) : Prop where
  bx : BxsG w W0.heap.size Bs ls In
  rb : PtrsR w W0.heap.size vb Bs
  ra : Ints w W0.heap.size va all
  rg : Ints w W0.heap.size vg got
  nb : ∀ j, vb.ownBlock = some j → ¬ In j
  na : ∀ j, va.ownBlock = some j → ¬ In j
  ng : ∀ j, vg.ownBlock = some j → ¬ In j
  ab : ∀ j, vb.ownBlock = some j → va.ownBlock ≠ some j
  bg : ∀ j, vb.ownBlock = some j → vg.ownBlock ≠ some j
  ag : ∀ j, va.ownBlock = some j → vg.ownBlock ≠ some j
  b : Below W0.heap.size W0 w
section
variable {W0 w : World} {vb va vg : Value} {Bs : List Nat} {ls : List (List Int)} {In : Nat → Prop} {all got : List Int}
theorem Mf.lt (h : Mf W0 w vb va vg Bs ls In all got) : (∀ j, vb.ownBlock = some j → W0.heap.size ≤ j ∧ j < w.heap.size) ∧ (∀ j, va.ownBlock = some j → W0.heap.size ≤ j ∧ j < w.heap.size) ∧ (∀ j, vg.ownBlock = some j → W0.heap.size ≤ j ∧ j < w.heap.size) :=
  ⟨fun j hj => World.ownsRow.lt h.rb j hj, fun j hj => World.ownsRow.lt h.ra j hj, fun j hj => World.ownsRow.lt h.rg j hj⟩
theorem Mf.boxes (h : Mf W0 w vb va vg Bs ls In all got) {w' : World} {ls' : List (List Int)} {In' : Nat → Prop} (hb : BxsG w' W0.heap.size Bs ls' In') (m : MvS w w' In In') : Mf W0 w' vb va vg Bs ls' In' all got := by
  obtain ⟨l1, l2, l3⟩ := h.lt
  have far : ∀ (v : Value), (∀ j, v.ownBlock = some j → W0.heap.size ≤ j ∧ j < w.heap.size) → (∀ j, v.ownBlock = some j → ¬ In j) → ∀ j, v.ownBlock = some j → ¬ In' j := fun v hl hn j hj hi => by
    rcases m.own j hi with h1 | h1
    · have := (hl j hj).2; omega
    · exact hn j hj h1
  refine ⟨hb, own_on35 h.rb (fun j hj => m.block j (l1 j hj).2 (h.nb j hj)), own_on35 h.ra (fun j hj => m.block j (l2 j hj).2 (h.na j hj)), own_on35 h.rg (fun j hj => m.block j (l3 j hj).2 (h.ng j hj)), far vb l1 h.nb, far va l2 h.na, far vg l3 h.ng, h.ab, h.bg, h.ag, ?_⟩
  exact m.below h.b (fun j hj => (h.bx.inlt hj).1) h.b.size
theorem Mf.on (h : Mf W0 w vb va vg Bs ls In all got) {w' : World} (hb : Below w.heap.size w w') : Mf W0 w' vb va vg Bs ls In all got := h.boxes (h.bx.below hb) (MvS.of_below In hb)
theorem Mf.putG (h : Mf W0 w vb va vg Bs ls In all got) {w' : World} {v' : Value} {got' : List Int} (hg : w.grownBy w' vg.ownBlock) (hat : v'.ownBlock = vg.ownBlock ∨ v'.ownBlock = some w.heap.size) (hi : Ints w' W0.heap.size v' got') : Mf W0 w' vb va v' Bs ls In all got' := by
  obtain ⟨l1, l2, l3⟩ := h.lt
  refine ⟨h.bx.keep (fun j hj => hg.block j (h.bx.inlt hj).2 (fun e => h.ng j e.symm hj)), own_on35 h.rb (fun j hj => hg.block j (l1 j hj).2 (fun e => h.bg j hj e.symm)), own_on35 h.ra (fun j hj => hg.block j (l2 j hj).2 (fun e => h.ag j hj e.symm)), hi, h.nb, h.na, fun j hj hin => ?_, h.ab, fun j hj e => ?_, fun j hj e => ?_, h.b.grown hg h.b.size (fun j hj => (l3 j hj).1)⟩
  · rcases own_new35 hat hj with h1 | h1
    · exact h.ng j h1 hin
    · have := (h.bx.inlt hin).2; omega
  · rcases own_new35 hat e with h1 | h1
    · exact h.bg j hj h1
    · have := (l1 j hj).2; omega
  · rcases own_new35 hat e with h1 | h1
    · exact h.ag j hj h1
    · have := (l2 j hj).2; omega
theorem Mf.putA (h : Mf W0 w vb va vg Bs ls In all got) {w' : World} {v' : Value} {all' : List Int} (hg : w.grownBy w' va.ownBlock) (hat : v'.ownBlock = va.ownBlock ∨ v'.ownBlock = some w.heap.size) (hi : Ints w' W0.heap.size v' all') : Mf W0 w' vb v' vg Bs ls In all' got := by
  obtain ⟨l1, l2, l3⟩ := h.lt
  refine ⟨h.bx.keep (fun j hj => hg.block j (h.bx.inlt hj).2 (fun e => h.na j e.symm hj)), own_on35 h.rb (fun j hj => hg.block j (l1 j hj).2 (fun e => h.ab j hj e.symm)), hi, own_on35 h.rg (fun j hj => hg.block j (l3 j hj).2 (fun e => h.ag j e.symm hj)), h.nb, fun j hj hin => ?_, h.ng, fun j hj e => ?_, h.bg, fun j hj e => ?_, h.b.grown hg h.b.size (fun j hj => (l2 j hj).1)⟩
  · rcases own_new35 hat hj with h1 | h1
    · exact h.na j h1 hin
    · have := (h.bx.inlt hin).2; omega
  · rcases own_new35 hat e with h1 | h1
    · exact h.ab j hj h1
    · have := (l1 j hj).2; omega
  · rcases own_new35 hat hj with h1 | h1
    · exact h.ag j h1 e
    · have := (l3 j e).2; omega
/-- A box more, behind the others, and its place. -/
theorem Mf.more (h : Mf W0 w vb va vg Bs ls In all got) {w' : World} {v' : Value} {B : Nat} {l : List Int} {InB : Nat → Prop} (hB : BxGI w W0.heap.size B 60 false l InB) (hap : ∀ j, InB j → ¬ In j ∧ vb.ownBlock ≠ some j ∧ va.ownBlock ≠ some j ∧ vg.ownBlock ≠ some j)
    (hg : w.grownBy w' vb.ownBlock) (hat : v'.ownBlock = vb.ownBlock ∨ v'.ownBlock = some w.heap.size) (hi : PtrsR w' W0.heap.size v' (Bs ++ [B])) : Mf W0 w' v' va vg (Bs ++ [B]) (ls ++ [l]) (fun j => In j ∨ InB j) all got := by
  obtain ⟨l1, l2, l3⟩ := h.lt
  refine ⟨BxsG.add (h.bx.keep (fun j hj => hg.block j (h.bx.inlt hj).2 (fun e => h.nb j e.symm hj))) (hB.keep (fun j hj => hg.block j (hB.inlt hj).2 (fun e => (hap j hj).2.1 e.symm))) (fun j hj hj2 => (hap j hj2).1 hj), hi, own_on35 h.ra (fun j hj => hg.block j (l2 j hj).2 (fun e => h.ab j e.symm hj)), own_on35 h.rg (fun j hj => hg.block j (l3 j hj).2 (fun e => h.bg j e.symm hj)), fun j hj hin => ?_, fun j hj hin => ?_, fun j hj hin => ?_, fun j hj e => ?_, fun j hj e => ?_, h.ag, h.b.grown hg h.b.size (fun j hj => (l1 j hj).1)⟩
  · rcases own_new35 hat hj with h1 | h1
    · rcases hin with hin | hin
      · exact h.nb j h1 hin
      · exact (hap j hin).2.1 h1
    · rcases hin with hin | hin
      · have := (h.bx.inlt hin).2; omega
      · have := (hB.inlt hin).2; omega
  · rcases hin with hin | hin
    · exact h.na j hj hin
    · exact (hap j hin).2.2.1 hj
  · rcases hin with hin | hin
    · exact h.ng j hj hin
    · exact (hap j hin).2.2.2 hj
  · rcases own_new35 hat hj with h1 | h1
    · exact h.ab j h1 e
    · have := (l2 j e).2; omega
  · rcases own_new35 hat hj with h1 | h1
    · exact h.bg j h1 e
    · have := (l3 j e).2; omega
end
theorem infoPB : (Try.prog.info? 23).map (fun i => (i.zero, i.size, i.bytes)) = some (some (.pointer none), 1, 8) := by kernel_rfl
theorem PtrsR.of_append {w' : World} {base : Nat} {v' : Value} {Bs : List Nat} {B : Nat} (h : w'.ownsRow base 23 1 v' (Bs.length + 1) (Bs.map (fun B => Value.pointer (some ⟨B, 0, none⟩)) ++ [.pointer (some ⟨B, 0, none⟩)])) : PtrsR w' base v' (Bs ++ [B]) := by
  unfold PtrsR
  rw [List.length_append, List.map_append]
  exact h
end Go.Proofs.Ytfjhcmihjffknaa
