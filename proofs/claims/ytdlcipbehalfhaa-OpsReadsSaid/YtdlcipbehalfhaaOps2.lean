/-
  The document's answer for layer 25, whether an operation has an encoding, and its fields; package ops, its fields. What lay below the heap's end stands.
-/
import Derived.Test.YtdlcipbehalfhaaOps1
namespace Go.Proofs.Ytdlcipbehalfhaa
set_option linter.unusedVariables false
set_option linter.unusedSimpArgs false
open Go.ChangeShapes Go.WideShapes Go.ChangeAt Go.RowKit
attribute [-go_sem] run_index_string binOp_string_eql binOp_string_neq run_string_add_if run_slice_string_from_if run_slice_string_to_if
attribute [local go_sem] index_bt add_fits slice_from slice_to eql_str neq_str alloc_drewN setCell_drewN

def FRow (w0 w : World) (v : Value) (fl : List Fd) : Prop := w.ownsRow w0.heap.size 165 3 v fl.length (fl.flatMap Fd.cells)
theorem lit_frow {w0 W : World} {g n : Nat} {cs : Array Value} {fl : List Fd} (hb : w0.heap.size ≤ W.heap.size) (hg : W.heap.size = g) (hn : fl.length = n) (hm : n ≤ maxLen) (hc : cs.toList = fl.flatMap Fd.cells) (hl : cs.size = n * 3) :
    FRow w0 (W.alloc (.cells cs 165)) (.slice (some ⟨g, 0, none⟩) n n) fl := by
  subst hn hg
  have := World.ownsRow_lit (e := 165) (size := 3) (base := w0.heap.size) W cs fl.length hb hm hl
  rw [hc] at this
  exact this
theorem own_lowerF {w : World} {b b2 : Nat} {t : TypeId} {z : Nat} {v : Value} {n : Nat} {xs : List Value} (h : w.ownsRow b t z v n xs) (hb : b2 ≤ b) : w.ownsRow b2 t z v n xs :=
  ⟨h.1, h.2.imp id fun ⟨g, c, cur, a, b', d⟩ => ⟨g, c, cur, a, Nat.le_trans hb b', d⟩⟩
set_option maxHeartbeats 2000000 in
theorem ofields_any (x : Opn) (h : x.right = true) (hx : x.ok) (w : World) :
    Calls Try.prog 92 #[x.val] w fun e w' => ∃ v, e = .returned v ∧ FRow w w' v x.fds ∧ Below w.heap.size w w' := by
  obtain ⟨_, o1, o2, o3, o4⟩ := hx
  rcases x.right_cases h with ⟨f, i, n, rfl⟩ | rfl | rfl | ⟨t, rfl⟩ | ⟨n, rfl, hn, hn2⟩
  · simp only at o1 o2 o3 o4
    clear h
    obtain ⟨f0, f1⟩ := o1
    obtain ⟨i0, i1⟩ := o2
    obtain ⟨n0, n1⟩ := o3
    clear o4
    unfold Opn.val
    go_enter Try.func92, Try.ntmps92
    go_wp2
    go_ret
    refine ⟨_, rfl, ?_, ?_⟩
    · exact lit_frow (fl := [⟨1, 1, ⟨#[]⟩⟩, ⟨3, f, ⟨#[]⟩⟩, ⟨3, i, ⟨#[]⟩⟩, ⟨5, n, ⟨#[]⟩⟩]) (by simp; try omega) (by simp) rfl (by unfold maxLen; decide) rfl rfl
    · (repeat' (first | (with_reducible exact Below.refl _ _) | (with_reducible refine Below.setCell ?_ (by simp) _) | (with_reducible refine Below.alloc ?_ (by simp; try omega) _)))
  · clear h o1 o2 o3 o4
    unfold Opn.val
    go_enter Try.func92, Try.ntmps92
    go_wp2
    go_ret
    refine ⟨_, rfl, ?_, ?_⟩
    · exact lit_frow (fl := [⟨1, 2, ⟨#[]⟩⟩]) (by simp; try omega) (by simp) rfl (by unfold maxLen; decide) rfl rfl
    · (repeat' (first | (with_reducible exact Below.refl _ _) | (with_reducible refine Below.setCell ?_ (by simp) _) | (with_reducible refine Below.alloc ?_ (by simp; try omega) _)))
  · clear h o1 o2 o3 o4
    unfold Opn.val
    go_enter Try.func92, Try.ntmps92
    go_wp2
    go_ret
    refine ⟨_, rfl, ?_, ?_⟩
    · exact lit_frow (fl := [⟨1, 4, ⟨#[]⟩⟩]) (by simp; try omega) (by simp) rfl (by unfold maxLen; decide) rfl rfl
    · (repeat' (first | (with_reducible exact Below.refl _ _) | (with_reducible refine Below.setCell ?_ (by simp) _) | (with_reducible refine Below.alloc ?_ (by simp; try omega) _)))
  · clear h o1 o2 o3
    obtain ⟨t0, t1⟩ := o4
    simp only at t0 t1
    unfold Opn.val
    go_enter Try.func92, Try.ntmps92
    go_wp2
    go_ret
    refine ⟨_, rfl, ?_, ?_⟩
    · exact lit_frow (fl := [⟨1, 3, ⟨#[]⟩⟩, ⟨5, t, ⟨#[]⟩⟩]) (by simp; try omega) (by simp) rfl (by unfold maxLen; decide) rfl rfl
    · (repeat' (first | (with_reducible exact Below.refl _ _) | (with_reducible refine Below.setCell ?_ (by simp) _) | (with_reducible refine Below.alloc ?_ (by simp; try omega) _)))
  · clear h o1 o2 o4 hn2
    obtain ⟨n0, n1⟩ := o3
    simp only at n0 n1
    unfold Opn.val
    go_enter Try.func92, Try.ntmps92
    go_wp2
    go_ret
    refine ⟨_, rfl, ?_, ?_⟩
    · exact lit_frow (fl := [⟨1, n, ⟨#[]⟩⟩]) (by simp; try omega) (by simp) rfl (by unfold maxLen; decide) rfl rfl
    · (repeat' (first | (with_reducible exact Below.refl _ _) | (with_reducible refine Below.setCell ?_ (by simp) _) | (with_reducible refine Below.alloc ?_ (by simp; try omega) _)))
end Go.Proofs.Ytdlcipbehalfhaa
