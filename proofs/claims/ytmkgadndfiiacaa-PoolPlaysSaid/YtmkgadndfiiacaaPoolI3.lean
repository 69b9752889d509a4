/-
  What package pool does for elements of type int: a handle is taken that was given back. No block turns but the pool's own. No condition but that the pool is one that New made.
-/
import Derived.Test.YtmkgadndfiiacaaPoolI2
import Derived.WalkSmall
namespace Go.Proofs.Ytmkgadndfiiacaa
set_option linter.unusedVariables false
set_option linter.unusedSimpArgs false
open Go.ChangeShapes Go.WideShapes Go.ChangeAt Go.RowKit
attribute [local go_sem] alloc_drewN setCell_drewN

theorem ents_setI (es : List EntI) (h : Nat) (e : EntI) (hh : h < es.length) : ((((entsI es).set (h * 4) (Value.int .i64 e.x)).set (h * 4 + 1) (.bool e.tk)).set (h * 4 + 2) (.bool e.qd)).set (h * 4 + 3) (.int .u16 e.nx) = entsI (es.set h e) := by
  apply List.ext_getElem?
  intro j
  rcases Nat.lt_or_ge j (es.length * 4) with hj | hj
  · obtain ⟨q, r, rfl, hr⟩ : ∃ q r, j = q * 4 + r ∧ r < 4 := ⟨j / 4, j % 4, by omega, Nat.mod_lt _ (by omega)⟩
    have hq : q < es.length := by omega
    rw [ents_atI (es.set h e) q r (by rw [List.length_set]; exact hq) hr]
    by_cases hqh : h = q
    · subst hqh
      have hL := ents_lenI es
      simp only [List.getElem?_set, List.length_set, hL, List.getElem_set_self]
      match r, hr with
      | 0, _ => simp [EntI.cells]; omega
      | 1, _ => simp [EntI.cells]; omega
      | 2, _ => simp [EntI.cells]; omega
      | 3, _ => simp [EntI.cells]; omega
    · rw [List.getElem?_set_ne (by omega), List.getElem?_set_ne (by omega), List.getElem?_set_ne (by omega), List.getElem?_set_ne (by omega), ents_atI es q r hq hr, List.getElem_set_ne hqh]
  · rw [List.getElem?_eq_none (by simp [ents_lenI]; omega), List.getElem?_eq_none (by simp [ents_lenI]; omega)]
/-- An entry is put. -/
theorem PoolAtI.setEnt {w : World} {base B : Nat} {most : Int} {g c : Nat} {vf vq : Value} {es : List EntI} {fr : List Int} {qs : List (Int × Int × Int)} (h : PoolAtI w base B most (.slice (some ⟨g, 0, none⟩) es.length c) vf vq es fr qs) (i : Nat) (hi : i < es.length) (e : EntI) :
    PoolAtI ((((w.setCell ⟨g, i * 4, none⟩ (Value.int .i64 e.x)).setCell ⟨g, i * 4 + 1, none⟩ (.bool e.tk)).setCell ⟨g, i * 4 + 2, none⟩ (.bool e.qd)).setCell ⟨g, i * 4 + 3, none⟩ (.int .u16 e.nx)) base B most (.slice (some ⟨g, 0, none⟩) es.length c) vf vq (es.set i e) fr qs ∧
    MvS w ((((w.setCell ⟨g, i * 4, none⟩ (Value.int .i64 e.x)).setCell ⟨g, i * 4 + 1, none⟩ (.bool e.tk)).setCell ⟨g, i * 4 + 2, none⟩ (.bool e.qd)).setCell ⟨g, i * 4 + 3, none⟩ (.int .u16 e.nx)) (inP B (.slice (some ⟨g, 0, none⟩) es.length c) vf vq) (inP B (.slice (some ⟨g, 0, none⟩) es.length c) vf vq) := by
  have hgB : B ≠ g := fun e => h.ne.1 (by rw [e]; rfl)
  have hst := row_put (row_put (row_put (row_put h.oe (i * 4) (Value.int .i64 e.x)) (i * 4 + 1) (.bool e.tk)) (i * 4 + 2) (.bool e.qd)) (i * 4 + 3) (.int .u16 e.nx)
  rw [ents_setI es i e hi] at hst
  have hh : ∀ j, j ≠ g → ((((w.setCell ⟨g, i * 4, none⟩ (Value.int .i64 e.x)).setCell ⟨g, i * 4 + 1, none⟩ (.bool e.tk)).setCell ⟨g, i * 4 + 2, none⟩ (.bool e.qd)).setCell ⟨g, i * 4 + 3, none⟩ (.int .u16 e.nx)).heap[j]? = w.heap[j]? := fun j hj =>
    (Below.heap_setCell _ ⟨g, _, none⟩ _ j hj).trans ((Below.heap_setCell _ ⟨g, _, none⟩ _ j hj).trans ((Below.heap_setCell _ ⟨g, _, none⟩ _ j hj).trans (Below.heap_setCell _ ⟨g, _, none⟩ _ j hj)))
  have hgr : w.grownBy ((((w.setCell ⟨g, i * 4, none⟩ (Value.int .i64 e.x)).setCell ⟨g, i * 4 + 1, none⟩ (.bool e.tk)).setCell ⟨g, i * 4 + 2, none⟩ (.bool e.qd)).setCell ⟨g, i * 4 + 3, none⟩ (.int .u16 e.nx)) (some g) :=
    ⟨rfl, rfl, rfl, by simp [World.setCell], fun k _ hk => hh k (fun e => hk (by rw [e]))⟩
  refine ⟨⟨(hh B hgB).trans h.blk, h.low, by rw [List.length_set]; exact hst, h.of.kept hgr h.apart.1, h.oq.kept hgr h.apart.2.1, h.m0, h.m1, by rw [List.length_set]; exact h.le, by rw [List.length_set]; exact h.lf, by rw [List.length_set]; exact h.fi⟩, ?_⟩
  exact ⟨rfl, rfl, rfl, by simp [World.setCell], fun j _ hj => hh j (fun e => hj (Or.inr (Or.inl (by rw [e]; rfl)))), fun j hj => Or.inr hj⟩
/-- The last handle that was given back goes from the row. -/
theorem PoolAtI.popped {w : World} {base B : Nat} {most : Int} {g c : Nat} {ve vq : Value} {es : List EntI} {fs : List Int} {k : Int} {qs : List (Int × Int × Int)} (h : PoolAtI w base B most ve (.slice (some ⟨g, 0, none⟩) (fs.length + 1) c) vq es (fs ++ [k]) qs) :
    PoolAtI (w.setCell ⟨B, 2, none⟩ (.slice (some ⟨g, 0, none⟩) fs.length c)) base B most ve (.slice (some ⟨g, 0, none⟩) fs.length c) vq es fs qs ∧ MvS w (w.setCell ⟨B, 2, none⟩ (.slice (some ⟨g, 0, none⟩) fs.length c)) (inP B ve (.slice (some ⟨g, 0, none⟩) (fs.length + 1) c) vq) (inP B ve (.slice (some ⟨g, 0, none⟩) fs.length c) vq) := by
  have ho := h.of
  simp only [List.length_append, List.length_singleton, List.map_append, List.map_cons, List.map_nil] at ho
  have ho2 : w.ownsRow base 3 1 (.slice (some ⟨g, 0, none⟩) fs.length c) fs.length (fs.map (.int .i64)) := ownsRow_pop (by simp) ho
  have hlf := h.lf
  rw [List.length_append, List.length_singleton] at hlf
  refine ⟨⟨?_, h.low, ownsRow_setCell_other (a := ⟨B, 2, none⟩) h.oe h.ne.1 _, ownsRow_setCell_other (a := ⟨B, 2, none⟩) ho2 h.ne.2.1 _, ownsRow_setCell_other (a := ⟨B, 2, none⟩) h.oq h.ne.2.2 _, h.m0, h.m1, h.le, by omega, fun j hj => h.fi j (List.mem_append.2 (Or.inl hj))⟩, ?_⟩
  · have e := heap_set h.blk 2 (.slice (some ⟨g, 0, none⟩) fs.length c)
    simpa using e
  · exact ⟨rfl, rfl, rfl, by simp [World.setCell], fun j _ hj => Below.heap_setCell _ ⟨B, 2, none⟩ _ j (fun e => hj (Or.inl e)), fun j hj => Or.inr hj⟩
set_option maxRecDepth 100000 in
set_option maxHeartbeats 1000000 in
theorem take_freePI {w : World} {base B : Nat} {most : Int} {ve vf vq : Value} {es : List EntI} {fs : List Int} {k : Nat} {qs : List (Int × Int × Int)} (h : PoolAtI w base B most ve vf vq es (fs ++ [(k : Int)]) qs) (x : Int) :
    Calls Try.prog 109 #[.pointer (some ⟨B, 0, none⟩), Value.int .i64 x] w fun e w' => e = .returned (.tuple #[.int .i64 k, .bool true]) ∧ ∃ vf', PoolAtI w' base B most ve vf' vq (es.set k ⟨x, true, false, 0⟩) fs qs ∧ MvS w w' (inP B ve vf vq) (inP B ve vf' vq) := by
  have MD := Lib.hid (fun n => madePI (h.drewN n))
  have LN := Lib.hid (fun n => lenPI (h.drewN n))
  obtain ⟨c0, c1, c2, c3⟩ := h.cell
  have hk : k < es.length := by have := (h.fi (k : Int) (by simp)).2; omega
  have hm1 := h.m1; have hle := h.le; have hlf := h.lf
  obtain ⟨ge, ce, rfl, _, _⟩ := h.oe.form (by omega)
  obtain ⟨gf, cf, hvf, _, _⟩ := h.of.form (by simp)
  rw [List.length_append, List.length_singleton] at hvf
  subst hvf
  have ck : w.cell? ⟨gf, fs.length, none⟩ = some (.int .i64 k) := by
    have ho := h.of
    simp only [List.length_append, List.length_singleton] at ho
    rw [ho.cellAt fs.length (by omega)]; simp
  rw [List.length_append, List.length_singleton] at hlf LN
  have hcap : fs.length + 1 ≤ cf := by
    rcases h.of.2 with ⟨hh, _⟩ | ⟨_, _, _, hh, _, _, h1, _⟩
    · cases hh
    · injection hh with _ _ h3; rw [List.length_append, List.length_singleton] at h1; omega
  have hne : ¬ (((es.length - (fs.length + 1) : Nat) : Int) = most) := by omega
  have hb2 := frozen_of_row w B 2 _ _ h.blk
  obtain ⟨k0, k1, k2, k3⟩ := h.entAt k hk
  have z0 := h.oe.frozenAt (k * 4)
  have z1 := h.oe.frozenAt (k * 4 + 1)
  have z2 := h.oe.frozenAt (k * 4 + 2)
  have z3 := h.oe.frozenAt (k * 4 + 3)
  have hB1 : ¬ ge = B := fun e => h.ne.1 (by rw [e]; rfl)
  have hB2 : ¬ B = ge := fun e => hB1 e.symm
  have P1 := Lib.hid h.popped
  have H := Lib.hid h
  clear h
  go_enter Try.func109, Try.ntmps109
  go_wp2
  go_quiet ((first | (go_at_call 117; exact Calls.quiet_of_same (MD.out _)) | (go_at_call 59; exact Calls.quiet_of (LN.out _))))
  go_wp2
  go_ret2
  obtain ⟨p1, p2⟩ := P1.out
  obtain ⟨t1, t2⟩ := p1.setEnt k hk ⟨x, true, false, 0⟩
  exact ⟨rfl, _, t1.drewN _, (p2.trans t2).drewN _⟩
end Go.Proofs.Ytmkgadndfiiacaa
