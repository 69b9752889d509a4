/-
  Three queues at once: what is done with one keeps the other two. Plain words on worlds. No condition.
-/
import Derived.Test.YtiijlfpkninmgaaTwinBest1
import Derived.Test.YtiijlfpkninmgaaInts
namespace Go.Proofs.Ytiijlfpkninmgaa
set_option linter.unusedVariables false
set_option linter.unusedSimpArgs false
open Go.ChangeShapes Go.WideShapes Go.ChangeAt Go.RowKit
attribute [local go_sem] alloc_drewN setCell_drewN

/-- Two rows lie apart. -/
def Ap (v u : Value) : Prop := v.ownBlock = none ∨ v.ownBlock ≠ u.ownBlock
theorem Ap.symm {v u : Value} (h : Ap v u) : Ap u v := by
  unfold Ap at *
  rcases h with h | h
  · cases hu : u.ownBlock with
    | none => exact Or.inl rfl
    | some j => exact Or.inr (by rw [h]; simp)
  · exact Or.inr (fun e => h e.symm)
theorem TwinBI.another {W0 w w' : World} {base B base2 B2 : Nat} {room pd room2 pd2 : Int} {v v' v2 : Value} {ms ms2 : List (Ent Int)} (h : TwinBI W0 w base B room pd v ms) (h2 : TwinBI W0 w base2 B2 room2 pd2 v2 ms2) (m : Mv w w' B v v') (hne : B2 ≠ B) (ap : Ap v2 v) : TwinBI W0 w' base2 B2 room2 pd2 v2 ms2 ∧ Ap v2 v' := by
  have hb' := h.mv m
  obtain ⟨⟨es1, j1, j2⟩, _, _, _⟩ := h
  obtain ⟨⟨es, k1, k2⟩, hb, hs, hz⟩ := h2
  have hlt : B2 < w.heap.size := (Array.getElem?_eq_some_iff.1 k1.blk).1
  have hr := m.row k1.own (own_ne_blk k1.own j1.blk (by decide)) ap
  refine ⟨⟨⟨es, ⟨(m.block B2 hlt hne (fun e => own_ne_blk j1.own k1.blk (by decide) e.symm)).trans k1.blk, k1.low, hr.1, k1.r0, k1.r1, k1.le⟩, k2⟩, hb', hs, Nat.le_trans hz m.size⟩, hr.2⟩
/-- Three queues behind a world. -/
structure Tri (W0 w : World) (A B C : Nat) (room : Int) (pa pb pc : Int) (va vb vc : Value) (ma mb mc : List (Ent Int)) : Prop where
  a : TwinBI W0 w A A room pa va ma
  b : TwinBI W0 w B B room pb vb mb
  c : TwinBI W0 w C C room pc vc mc
  ne1 : A < B
  ne2 : B < C
  ab : Ap va vb
  ac : Ap va vc
  bc : Ap vb vc
theorem Tri.putA {W0 w w' : World} {A B C : Nat} {room pa pb pc pa' : Int} {va vb vc va' : Value} {ma mb mc ma' : List (Ent Int)} (h : Tri W0 w A B C room pa pb pc va vb vc ma mb mc) (h1 : TwinBI W0 w' A A room pa' va' ma') (m : Mv w w' A va va') : Tri W0 w' A B C room pa' pb pc va' vb vc ma' mb mc := by
  have n1 := h.ne1
  have n2 := h.ne2
  obtain ⟨b1, b2⟩ := h.a.another h.b m (by omega) h.ab.symm
  obtain ⟨c1, c2⟩ := h.a.another h.c m (by omega) h.ac.symm
  exact ⟨h1, b1, c1, n1, n2, b2.symm, c2.symm, h.bc⟩
theorem Tri.putB {W0 w w' : World} {A B C : Nat} {room pa pb pc pb' : Int} {va vb vc vb' : Value} {ma mb mc mb' : List (Ent Int)} (h : Tri W0 w A B C room pa pb pc va vb vc ma mb mc) (h1 : TwinBI W0 w' B B room pb' vb' mb') (m : Mv w w' B vb vb') : Tri W0 w' A B C room pa pb' pc va vb' vc ma mb' mc := by
  have n1 := h.ne1
  have n2 := h.ne2
  obtain ⟨a1, a2⟩ := h.b.another h.a m (by omega) h.ab
  obtain ⟨c1, c2⟩ := h.b.another h.c m (by omega) h.bc.symm
  exact ⟨a1, h1, c1, n1, n2, a2, h.ac, c2.symm⟩
theorem Tri.putC {W0 w w' : World} {A B C : Nat} {room pa pb pc pc' : Int} {va vb vc vc' : Value} {ma mb mc mc' : List (Ent Int)} (h : Tri W0 w A B C room pa pb pc va vb vc ma mb mc) (h1 : TwinBI W0 w' C C room pc' vc' mc') (m : Mv w w' C vc vc') : Tri W0 w' A B C room pa pb pc' va vb vc' ma mb mc' := by
  have n1 := h.ne1
  have n2 := h.ne2
  obtain ⟨a1, a2⟩ := h.c.another h.a m (by omega) h.ac
  obtain ⟨b1, b2⟩ := h.c.another h.b m (by omega) h.bc
  exact ⟨a1, b1, h1, n1, n2, h.ab, a2, b2⟩
theorem Tri.below {W0 w w' : World} {A B C : Nat} {room pa pb pc : Int} {va vb vc : Value} {ma mb mc : List (Ent Int)} (h : Tri W0 w A B C room pa pb pc va vb vc ma mb mc) (hb : Below w.heap.size w w') : Tri W0 w' A B C room pa pb pc va vb vc ma mb mc :=
  ⟨h.a.below hb, h.b.below hb, h.c.below hb, h.ne1, h.ne2, h.ab, h.ac, h.bc⟩
theorem Tri.start {W0 w1 w2 w3 : World} {room : Int} (h1 : TwinBI W0 w1 W0.heap.size W0.heap.size room 0 (.slice none 0 0) []) (h2 : TwinBI W0 w2 w1.heap.size w1.heap.size room 0 (.slice none 0 0) []) (b2 : Below w1.heap.size w1 w2) (h3 : TwinBI W0 w3 w2.heap.size w2.heap.size room 0 (.slice none 0 0) []) (b3 : Below w2.heap.size w2 w3) : Tri W0 w3 W0.heap.size w1.heap.size w2.heap.size room 0 0 0 (.slice none 0 0) (.slice none 0 0) (.slice none 0 0) [] [] [] :=
  ⟨(h1.below b2).below b3, h2.below b3, h3, h1.g.own.2.1, h2.g.own.2.1, Or.inl rfl, Or.inl rfl, Or.inl rfl⟩
theorem TwinBI.grownInts {W0 w w3 : World} {base B : Nat} {room pd : Int} {v : Value} {ms : List (Ent Int)} (h : TwinBI W0 w base B room pd v ms) (o : Obj) (u : Value) (xs : List Int) (hu : Ints w W0.heap.size u xs) (hg : (w.alloc o).grownBy w3 u.ownBlock) : TwinBI W0 w3 base B room pd v ms := by
  obtain ⟨a1, a2⟩ := h.g.ints hu (by decide) (by decide)
  obtain ⟨⟨es, k1, k2⟩, hb, hs, hz⟩ := h
  have hB : B < w.heap.size := (Array.getElem?_eq_some_iff.1 k1.blk).1
  have hsz : w.heap.size ≤ w3.heap.size := Nat.le_trans (by simp) hg.size
  refine ⟨⟨es, ⟨(hg.block B (by simp; omega) (fun e => a1 e.symm)).trans ((heap_alloc_old w o hB).trans k1.blk), k1.low, World.ownsRow.kept (k1.own.alloc o) hg ?_, k1.r0, k1.r1, k1.le⟩, k2⟩, ?_, hs, Nat.le_trans hz hsz⟩
  · rcases a2 with a2 | a2
    · cases hv : v.ownBlock with
      | none => exact Or.inl rfl
      | some j => exact Or.inr (by rw [a2]; simp)
    · exact Or.inr (fun e => a2 e.symm)
  · exact (hb.alloc hb.size o).grown hg (by simp; have := hb.size; omega) (fun g hgg => (World.ownsRow.lt hu g hgg).1)
theorem Tri.grown {W0 w w3 : World} {A B C : Nat} {room pa pb pc : Int} {va vb vc : Value} {ma mb mc : List (Ent Int)} (h : Tri W0 w A B C room pa pb pc va vb vc ma mb mc) (o : Obj) (u : Value) (xs : List Int) (hu : Ints w W0.heap.size u xs) (hg : (w.alloc o).grownBy w3 u.ownBlock) : Tri W0 w3 A B C room pa pb pc va vb vc ma mb mc :=
  ⟨h.a.grownInts o u xs hu hg, h.b.grownInts o u xs hu hg, h.c.grownInts o u xs hu hg, h.ne1, h.ne2, h.ab, h.ac, h.bc⟩
/-- A row of ints stands when a queue is worked on. -/
theorem Ints.kept {W0 w w' : World} {base B : Nat} {room pd : Int} {v v' : Value} {ms : List (Ent Int)} (h : TwinBI W0 w base B room pd v ms) {b : Nat} {u : Value} {xs : List Int} (hu : Ints w b u xs) (m : Mv w w' B v v') : Ints w' b u xs := by
  obtain ⟨a1, a2⟩ := h.g.ints hu (by decide) (by decide)
  exact (m.row hu a1 a2).1
end Go.Proofs.Ytiijlfpkninmgaa
