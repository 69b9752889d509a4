/-
  The library's Insert of one entry, for elements of type *pacemaker/admit.data, at the end. No block turns but the row's own. No condition.
-/
import Derived.Test.YtiogfgkfipekbaaFlowP1
import Derived.Maps.AppendAt
namespace Go.Proofs.Ytiogfgkfipekbaa
set_option linter.unusedVariables false
set_option linter.unusedSimpArgs false
open Go.ChangeShapes Go.WideShapes Go.ChangeAt Go.RowKit
attribute [local go_sem] alloc_drewN setCell_drewN

theorem infoFeP : (Try.prog.info? 171).map (fun i => (i.zero, i.size, i.bytes)) = some (some (.agg #[.int .u32 0, Value.pointer none]), 2, 16) := by kernel_rfl
/-- What an Insert leaves. -/
def InsdP (w : World) (base : Nat) (v : Value) (es' : List FeP) (v' : Value) (w' : World) : Prop :=
  FesAtP w' base v' es' ∧ w.grownBy w' v.ownBlock ∧ (v'.ownBlock = v.ownBlock ∨ ∃ g, v'.ownBlock = some g ∧ w.heap.size ≤ g)
set_option maxRecDepth 100000 in
set_option maxHeartbeats 2000000 in
theorem ins_endP {w : World} {base : Nat} {v : Value} {es : List FeP} (h : FesAtP w base v es) (hn : es.length < 100000) (id : Int) (x : Option Addr) (vb : Nat) (hb : w.heap[vb]? = some (.cells #[.int .u32 id, Value.pointer x] 171 (0, 0))) (hbase : base ≤ w.heap.size) :
    Calls Try.prog 116 #[v, .int .i64 es.length, .slice (some ⟨vb, 0, none⟩) 1 1] w fun e w' => ∃ v', e = .returned v' ∧ InsdP w base v (es ++ [⟨id, x⟩]) v' w' := by
  obtain ⟨i0, hif, hz0, hz1, hz2⟩ := info_parts infoFeP
  obtain ⟨ao, co, hv⟩ := row_slice h
  subst hv
  have HH := Lib.hid h
  have NW := Lib.hid (World.news_of_block hb)
  have OC := Lib.hid (show ∀ y ∈ ([.int .u32 id, Value.pointer x] : List Value), y.oneCell' = true from fun y hy => by simp at hy; rcases hy with rfl | rfl <;> rfl)
  have hcap : es.length ≤ co ∧ co ≤ maxLen := by
    rcases h.2 with ⟨h1, h2⟩ | ⟨g, cap, cur, h1, _, _, h2, h3, _⟩
    · injection h1 with e1 e2 e3; exact ⟨by omega, by unfold maxLen; omega⟩
    · injection h1 with e1 e2 e3; rw [e3]; exact ⟨h2, h3⟩
  obtain ⟨hc1, hc2⟩ := hcap
  unfold maxLen at hc2
  have HP := Lib.hid (fun w3 v3 (ho : w3.ownsRow base 171 2 v3 (es.length + 1) (fesP es ++ [.int .u32 id, Value.pointer x])) => show FesAtP w3 base v3 (es ++ [⟨id, x⟩]) from by
    unfold FesAtP
    rw [List.length_append, show fesP (es ++ [⟨id, x⟩]) = fesP es ++ [.int .u32 id, Value.pointer x] by simp [fesP, FeP.cells]]
    exact ho)
  obtain ⟨n, hN⟩ : ∃ n, es.length = n := ⟨_, rfl⟩
  have OR := Lib.hid (show w.ownsRow base 171 2 (.slice ao n co) n (fesP es) by have := h; unfold FesAtP at this; rw [hN] at this; exact this)
  rw [hN] at hn hc1 HP HH ⊢
  have NN := Lib.hid hN
  clear h hb hN
  have q0 : (0 : Int) ≤ n := by omega
  go_enter Try.func116, Try.ntmps116
  rcases (show (ao = none ∧ n = 0 ∧ co = 0) ∨ ∃ g, ao = some ⟨g, 0, none⟩ from by
    rcases OR.out.2 with ⟨h1, h2⟩ | ⟨g, cap, cur, h1, _⟩
    · injection h1 with e1 e2 e3; exact Or.inl ⟨e1, h2, e3⟩
    · injection h1 with e1 e2 e3; exact Or.inr ⟨g, e1⟩) with ⟨rfl, rfl, rfl⟩ | ⟨g, rfl⟩
  · go_wp2_with (at_builtin; refine wpList_append_own_at _ rfl _ _ 172 rfl base 171 i0 (.agg #[.int .u32 0, Value.pointer none]) 2 16 Try.underlying172 hif hz0 hz1 hz2 rfl (by decide) (.slice none 0 0) 0 _ rfl OR.out ⟨vb, 0, none⟩ 1 1 [.int .u32 id, Value.pointer x] rfl rfl NW.out OC.out (by unfold maxLen; omega) (by omega) hbase ?_; intro v3 w3 ho3 hg3 hn3 hat3; clear hn3; have HO3 := Lib.hid ho3; have HG3 := Lib.hid hg3; have HA3 := Lib.hid hat3; obtain ⟨a3, c3', rfl⟩ := row_slice ho3; clear ho3 hg3 hat3)
    all_goals
      go_ret
      exact ⟨_, rfl, HP.out _ _ HO3.out, HG3.out, HA3.out.imp (fun e => e) (fun e => ⟨_, e, Nat.le_refl _⟩)⟩
  · go_wp2_with (at_builtin; refine wpList_append_own_at _ rfl _ _ 172 rfl base 171 i0 (.agg #[.int .u32 0, Value.pointer none]) 2 16 Try.underlying172 hif hz0 hz1 hz2 rfl (by decide) (.slice (some ⟨g, 0, none⟩) n co) n _ rfl OR.out ⟨vb, 0, none⟩ 1 1 [.int .u32 id, Value.pointer x] rfl rfl NW.out OC.out (by unfold maxLen; omega) (by omega) hbase ?_; intro v3 w3 ho3 hg3 hn3 hat3; clear hn3; have HO3 := Lib.hid ho3; have HG3 := Lib.hid hg3; have HA3 := Lib.hid hat3; obtain ⟨a3, c3', rfl⟩ := row_slice ho3; clear ho3 hg3 hat3)
    all_goals
      go_ret
      exact ⟨_, rfl, HP.out _ _ HO3.out, HG3.out, HA3.out.imp (fun e => e) (fun e => ⟨_, e, Nat.le_refl _⟩)⟩
end Go.Proofs.Ytiogfgkfipekbaa
