/-
  The document's answer for layer 25: whether an operation has an encoding, and its fields. What lay below the heap's end stands.
-/
import Derived.Test.YtdlcipbehalfhaaOps2
import Derived.Test.YtdlcipbehalfhaaVal
import Derived.StillTailTactics
import Derived.Deep.CutBlock
import Derived.Deep.DeepCutAuto
namespace Go.Proofs.Ytdlcipbehalfhaa
set_option linter.unusedVariables false
set_option linter.unusedSimpArgs false
open Go.ChangeShapes Go.WideShapes Go.ChangeAt Go.RowKit
attribute [-go_sem] run_index_string binOp_string_eql binOp_string_neq run_string_add_if run_slice_string_from_if run_slice_string_to_if
attribute [local go_sem] index_bt add_fits slice_from slice_to eql_str neq_str alloc_drewN setCell_drewN

set_option maxRecDepth 100000 in
set_option maxHeartbeats 4000000 in
theorem rright_any (x : Opn) (hx : x.ok) (w : World) :
    Calls Try.prog 20 #[x.val] w fun e w' => e = .returned (.bool x.right) ∧ Below w.heap.size w w' := by
  obtain ⟨k, f, i, n, t⟩ := x
  obtain ⟨⟨k0, k1⟩, ⟨f0, f1⟩, ⟨i0, i1⟩, ⟨n0, n1⟩, t0, t1⟩ := hx
  simp only at k0 k1 f0 f1 i0 i1 n0 n1 t0 t1
  unfold Opn.val
  simp only
  by_cases h1 : k = 1
  · subst h1
    by_cases ht : t = 0
    · subst ht
      rw [show (Opn.mk 1 f i n 0).right = true from by rw [opn_right1]; (repeat' split) <;> first | rfl | exact decide_eq_true (by omega) | omega]
      go_enter Try.func20, Try.ntmps20
      go_wp2
      go_ret
      exact ⟨rfl, (Below.refl _ _).alloc (Nat.le_refl _) _⟩
    · have gt : (t == 0) = false := by simp [ht]
      rw [show (Opn.mk 1 f i n t).right = false from by rw [opn_right1]; (repeat' split) <;> first | rfl | exact decide_eq_false (by omega) | omega]
      clear ht
      go_enter Try.func20, Try.ntmps20
      go_wp2
      go_ret
      exact ⟨rfl, (Below.refl _ _).alloc (Nat.le_refl _) _⟩
  · by_cases h2 : k = 2
    · subst h2
      by_cases hf : f = 0
      · subst hf
        by_cases hi : i = 0
        · subst hi
          by_cases hn : n = 0
          · subst hn
            by_cases ht : t = 0
            · subst ht
              rw [show (Opn.mk 2 0 0 0 0).right = true from by rw [opn_right2]; (repeat' split) <;> first | rfl | exact decide_eq_true (by omega) | omega]
              go_enter Try.func20, Try.ntmps20
              go_wp2
              go_ret
              exact ⟨rfl, (Below.refl _ _).alloc (Nat.le_refl _) _⟩
            · have gt : (t == 0) = false := by simp [ht]
              rw [show (Opn.mk 2 0 0 0 t).right = false from by rw [opn_right2]; (repeat' split) <;> first | rfl | exact decide_eq_false (by omega) | omega]
              clear ht
              go_enter Try.func20, Try.ntmps20
              go_wp2
              go_ret
              exact ⟨rfl, (Below.refl _ _).alloc (Nat.le_refl _) _⟩
          · have gn : (n == 0) = false := by simp [hn]
            rw [show (Opn.mk 2 0 0 n t).right = false from by rw [opn_right2]; (repeat' split) <;> first | rfl | exact decide_eq_false (by omega) | omega]
            clear hn
            go_enter Try.func20, Try.ntmps20
            go_wp2
            go_ret
            exact ⟨rfl, (Below.refl _ _).alloc (Nat.le_refl _) _⟩
        · have gi : (i == 0) = false := by simp [hi]
          rw [show (Opn.mk 2 0 i n t).right = false from by rw [opn_right2]; (repeat' split) <;> first | rfl | exact decide_eq_false (by omega) | omega]
          clear hi
          go_enter Try.func20, Try.ntmps20
          go_wp2
          go_ret
          exact ⟨rfl, (Below.refl _ _).alloc (Nat.le_refl _) _⟩
      · have gf : (f == 0) = false := by simp [hf]
        rw [show (Opn.mk 2 f i n t).right = false from by rw [opn_right2]; (repeat' split) <;> first | rfl | exact decide_eq_false (by omega) | omega]
        clear hf
        go_enter Try.func20, Try.ntmps20
        go_wp2
        go_ret
        exact ⟨rfl, (Below.refl _ _).alloc (Nat.le_refl _) _⟩
    · by_cases h4 : k = 4
      · subst h4
        by_cases hf : f = 0
        · subst hf
          by_cases hi : i = 0
          · subst hi
            by_cases hn : n = 0
            · subst hn
              by_cases ht : t = 0
              · subst ht
                rw [show (Opn.mk 4 0 0 0 0).right = true from by rw [opn_right4]; (repeat' split) <;> first | rfl | exact decide_eq_true (by omega) | omega]
                go_enter Try.func20, Try.ntmps20
                go_wp2
                go_ret
                exact ⟨rfl, (Below.refl _ _).alloc (Nat.le_refl _) _⟩
              · have gt : (t == 0) = false := by simp [ht]
                rw [show (Opn.mk 4 0 0 0 t).right = false from by rw [opn_right4]; (repeat' split) <;> first | rfl | exact decide_eq_false (by omega) | omega]
                clear ht
                go_enter Try.func20, Try.ntmps20
                go_wp2
                go_ret
                exact ⟨rfl, (Below.refl _ _).alloc (Nat.le_refl _) _⟩
            · have gn : (n == 0) = false := by simp [hn]
              rw [show (Opn.mk 4 0 0 n t).right = false from by rw [opn_right4]; (repeat' split) <;> first | rfl | exact decide_eq_false (by omega) | omega]
              clear hn
              go_enter Try.func20, Try.ntmps20
              go_wp2
              go_ret
              exact ⟨rfl, (Below.refl _ _).alloc (Nat.le_refl _) _⟩
          · have gi : (i == 0) = false := by simp [hi]
            rw [show (Opn.mk 4 0 i n t).right = false from by rw [opn_right4]; (repeat' split) <;> first | rfl | exact decide_eq_false (by omega) | omega]
            clear hi
            go_enter Try.func20, Try.ntmps20
            go_wp2
            go_ret
            exact ⟨rfl, (Below.refl _ _).alloc (Nat.le_refl _) _⟩
        · have gf : (f == 0) = false := by simp [hf]
          rw [show (Opn.mk 4 f i n t).right = false from by rw [opn_right4]; (repeat' split) <;> first | rfl | exact decide_eq_false (by omega) | omega]
          clear hf
          go_enter Try.func20, Try.ntmps20
          go_wp2
          go_ret
          exact ⟨rfl, (Below.refl _ _).alloc (Nat.le_refl _) _⟩
      · by_cases h3 : k = 3
        · subst h3
          by_cases hf : f = 0
          · subst hf
            by_cases hi : i = 0
            · subst hi
              by_cases hn : n = 0
              · subst hn
                rw [show (Opn.mk 3 0 0 0 t).right = true from by rw [opn_right3]; (repeat' split) <;> first | rfl | exact decide_eq_true (by omega) | omega]
                go_enter Try.func20, Try.ntmps20
                go_wp2
                go_ret
                exact ⟨rfl, (Below.refl _ _).alloc (Nat.le_refl _) _⟩
              · have gn : (n == 0) = false := by simp [hn]
                rw [show (Opn.mk 3 0 0 n t).right = false from by rw [opn_right3]; (repeat' split) <;> first | rfl | exact decide_eq_false (by omega) | omega]
                clear hn
                go_enter Try.func20, Try.ntmps20
                go_wp2
                go_ret
                exact ⟨rfl, (Below.refl _ _).alloc (Nat.le_refl _) _⟩
            · have gi : (i == 0) = false := by simp [hi]
              rw [show (Opn.mk 3 0 i n t).right = false from by rw [opn_right3]; (repeat' split) <;> first | rfl | exact decide_eq_false (by omega) | omega]
              clear hi
              go_enter Try.func20, Try.ntmps20
              go_wp2
              go_ret
              exact ⟨rfl, (Below.refl _ _).alloc (Nat.le_refl _) _⟩
          · have gf : (f == 0) = false := by simp [hf]
            rw [show (Opn.mk 3 f i n t).right = false from by rw [opn_right3]; (repeat' split) <;> first | rfl | exact decide_eq_false (by omega) | omega]
            clear hf
            go_enter Try.func20, Try.ntmps20
            go_wp2
            go_ret
            exact ⟨rfl, (Below.refl _ _).alloc (Nat.le_refl _) _⟩
        · by_cases h0 : k = 0
          · subst h0
            by_cases hf : f = 0
            · subst hf
              by_cases hi : i = 0
              · subst hi
                by_cases ht : t = 0
                · subst ht
                  by_cases h6 : n < 256
                  · have g6 : decide (n < 256) = true := decide_eq_true h6
                    by_cases hn : n = 0
                    · subst hn
                      rw [show (Opn.mk 0 0 0 0 0).right = true from by rw [opn_right0]; (repeat' split) <;> first | rfl | exact decide_eq_true (by omega) | omega]
                      go_enter Try.func20, Try.ntmps20
                      go_wp2
                      go_ret
                      exact ⟨rfl, (Below.refl _ _).alloc (Nat.le_refl _) _⟩
                    · have gn : (n == 0) = false := by simp [hn]
                      by_cases h5 : 4 < n
                      · have g5 : decide (4 < n) = true := decide_eq_true h5
                        rw [show (Opn.mk 0 0 0 n 0).right = true from by rw [opn_right0]; (repeat' split) <;> first | rfl | exact decide_eq_true (by omega) | omega]
                        clear h5
                        go_enter Try.func20, Try.ntmps20
                        go_wp2
                        go_ret
                        exact ⟨rfl, (Below.refl _ _).alloc (Nat.le_refl _) _⟩
                      · have g5 : decide (4 < n) = false := decide_eq_false h5
                        rw [show (Opn.mk 0 0 0 n 0).right = false from by rw [opn_right0]; (repeat' split) <;> first | rfl | exact decide_eq_false (by omega) | omega]
                        clear h5 hn
                        go_enter Try.func20, Try.ntmps20
                        go_wp2
                        go_ret
                        exact ⟨rfl, (Below.refl _ _).alloc (Nat.le_refl _) _⟩
                  · have g6 : decide (n < 256) = false := decide_eq_false h6
                    rw [show (Opn.mk 0 0 0 n 0).right = false from by rw [opn_right0]; (repeat' split) <;> first | rfl | exact decide_eq_false (by omega) | omega]
                    clear h6
                    go_enter Try.func20, Try.ntmps20
                    go_wp2
                    go_ret
                    exact ⟨rfl, (Below.refl _ _).alloc (Nat.le_refl _) _⟩
                · have gt : (t == 0) = false := by simp [ht]
                  rw [show (Opn.mk 0 0 0 n t).right = false from by rw [opn_right0]; (repeat' split) <;> first | rfl | exact decide_eq_false (by omega) | omega]
                  clear ht
                  go_enter Try.func20, Try.ntmps20
                  go_wp2
                  go_ret
                  exact ⟨rfl, (Below.refl _ _).alloc (Nat.le_refl _) _⟩
              · have gi : (i == 0) = false := by simp [hi]
                rw [show (Opn.mk 0 0 i n t).right = false from by rw [opn_right0]; (repeat' split) <;> first | rfl | exact decide_eq_false (by omega) | omega]
                clear hi
                go_enter Try.func20, Try.ntmps20
                go_wp2
                go_ret
                exact ⟨rfl, (Below.refl _ _).alloc (Nat.le_refl _) _⟩
            · have gf : (f == 0) = false := by simp [hf]
              rw [show (Opn.mk 0 f i n t).right = false from by rw [opn_right0]; (repeat' split) <;> first | rfl | exact decide_eq_false (by omega) | omega]
              clear hf
              go_enter Try.func20, Try.ntmps20
              go_wp2
              go_ret
              exact ⟨rfl, (Below.refl _ _).alloc (Nat.le_refl _) _⟩
          · rw [show (Opn.mk k f i n t).right = false from by simp [Opn.right, h0, h1, h2, h3, h4]]
            have q1 : (k == 1) = false := by simp [h1]
            have q2 : (k == 2) = false := by simp [h2]
            have q3 : (k == 3) = false := by simp [h3]
            have q4 : (k == 4) = false := by simp [h4]
            have q0 : (k == 0) = false := by simp [h0]
            clear h0 h1 h2 h3 h4
            by_cases hf : f = 0
            · subst hf
              by_cases hi : i = 0
              · subst hi
                go_enter Try.func20, Try.ntmps20
                go_wp2
                go_ret
                exact ⟨rfl, (Below.refl _ _).alloc (Nat.le_refl _) _⟩
              · have gi : (i == 0) = false := by simp [hi]
                clear hi
                go_enter Try.func20, Try.ntmps20
                go_wp2
                go_ret
                exact ⟨rfl, (Below.refl _ _).alloc (Nat.le_refl _) _⟩
            · have gf : (f == 0) = false := by simp [hf]
              clear hf
              go_enter Try.func20, Try.ntmps20
              go_wp2
              go_ret
              exact ⟨rfl, (Below.refl _ _).alloc (Nat.le_refl _) _⟩
end Go.Proofs.Ytdlcipbehalfhaa
