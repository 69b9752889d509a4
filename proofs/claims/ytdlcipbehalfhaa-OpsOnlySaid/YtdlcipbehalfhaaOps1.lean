/-
  Package ops and the document's answer for layer 25, an operation by itself: whether it has an encoding, its fields, what fields say. What lay below the heap's end stands.
-/
import Derived.Test.YtdlcipbehalfhaaOpenOp
import Derived.Test.YtdlcipbehalfhaaWalk4
import Derived.Laws.StructEq
namespace Go.Proofs.Ytdlcipbehalfhaa
set_option linter.unusedVariables false
set_option linter.unusedSimpArgs false
open Go.ChangeShapes Go.WideShapes Go.ChangeAt Go.RowKit
attribute [-go_sem] run_index_string binOp_string_eql binOp_string_neq run_string_add_if run_slice_string_from_if run_slice_string_to_if
attribute [local go_sem] index_bt add_fits slice_from slice_to eql_str neq_str alloc_drewN setCell_drewN

def Opn.val (x : Opn) : Value := .agg #[.int .i64 x.k, .int .u32 x.fl, .int .u32 x.nr, .int .u64 x.ln, .int .u64 x.ti]
def Opn.cells (x : Opn) : List Value := [.int .i64 x.k, .int .u32 x.fl, .int .u32 x.nr, .int .u64 x.ln, .int .u64 x.ti]
/-- A byte that begins no operation. -/
def jnk (n : Int) : Bool := decide (n = 0 ∨ (4 < n ∧ n < 256))

theorem junk_any (n : Int) (n0 : 0 ≤ n) (n1 : n ≤ 18446744073709551615) (w : World) :
    Calls Try.prog 91 #[.int .u64 n] w fun e w' => e = .returned (.bool (jnk n)) ∧ w = w' := by
  by_cases h0 : n < 1
  · have hj : jnk n = true := decide_eq_true (by omega)
    rw [hj]
    go_enter Try.func91, Try.ntmps91
    go_wp2
    go_ret
    exact ⟨rfl, rfl⟩
  · by_cases h4 : 4 < n
    · by_cases h5 : n < 256
      · have hj : jnk n = true := decide_eq_true (by omega)
        rw [hj]
        go_enter Try.func91, Try.ntmps91
        go_wp2
        go_ret
        exact ⟨rfl, rfl⟩
      · have hj : jnk n = false := decide_eq_false (by omega)
        rw [hj]
        go_enter Try.func91, Try.ntmps91
        go_wp2
        go_ret
        exact ⟨rfl, rfl⟩
    · have hj : jnk n = false := decide_eq_false (by omega)
      rw [hj]
      go_enter Try.func91, Try.ntmps91
      go_wp2
      go_ret
      exact ⟨rfl, rfl⟩

theorem opn_right1 (f i n t : Int) : (Opn.mk 1 f i n t).right = decide (t = 0) := rfl
theorem opn_right0 (f i n t : Int) : (Opn.mk 0 f i n t).right = if f ≠ 0 ∨ i ≠ 0 then false else decide (t = 0 ∧ n < 256 ∧ (n = 0 ∨ 4 < n)) := rfl
theorem opn_right3 (f i n t : Int) : (Opn.mk 3 f i n t).right = if f ≠ 0 ∨ i ≠ 0 then false else decide (n = 0) := rfl
theorem opn_right2 (f i n t : Int) : (Opn.mk 2 f i n t).right = if f ≠ 0 ∨ i ≠ 0 then false else decide ((True) ∧ n = 0 ∧ t = 0) := by
  unfold Opn.right
  simp
theorem opn_right4 (f i n t : Int) : (Opn.mk 4 f i n t).right = if f ≠ 0 ∨ i ≠ 0 then false else decide ((True) ∧ n = 0 ∧ t = 0) := by
  unfold Opn.right
  simp
set_option maxHeartbeats 4000000 in
theorem right_any (x : Opn) (hx : x.ok) (w : World) :
    Calls Try.prog 19 #[x.val] w fun e w' => e = .returned (.bool x.right) ∧ Below w.heap.size w w' := by
  obtain ⟨k, f, i, n, t⟩ := x
  obtain ⟨⟨k0, k1⟩, ⟨f0, f1⟩, ⟨i0, i1⟩, ⟨n0, n1⟩, t0, t1⟩ := hx
  simp only at k0 k1 f0 f1 i0 i1 n0 n1 t0 t1
  have hm : Try.prog.eqGuardType Try.prog.depth 30 = false := by kernel_rfl
  unfold Opn.val
  simp only
  by_cases h1 : k = 1
  · subst h1
    by_cases ht : t = 0
    · subst ht
      go_enter Try.func19, Try.ntmps19
      go_wp2
      go_ret
      exact ⟨rfl, (Below.refl _ _).alloc (Nat.le_refl _) _⟩
    · have gt : (t == 0) = false := by simp [ht]
      rw [show (Opn.mk 1 f i n t).right = false from decide_eq_false ht]
      clear ht
      go_enter Try.func19, Try.ntmps19
      go_wp2
      go_ret
      exact ⟨rfl, (Below.refl _ _).alloc (Nat.le_refl _) _⟩
  · by_cases h2 : k = 2
    · subst h2
      by_cases hf : f = 0
      · subst hf
        by_cases hi : i = 0
        · subst hi
          by_cases hn : n = 0
          · subst hn
            by_cases ht : t = 0
            · subst ht
              go_enter Try.func19, Try.ntmps19
              go_wp2
              go_ret
              exact ⟨rfl, (Below.refl _ _).alloc (Nat.le_refl _) _⟩
            · have gt : (t == 0) = false := by simp [ht]
              rw [show (Opn.mk 2 0 0 0 t).right = false from by rw [opn_right2]; (repeat' split) <;> first | rfl | exact decide_eq_false (by omega) | omega]
              clear ht
              go_enter Try.func19, Try.ntmps19
              go_wp2
              go_ret
              exact ⟨rfl, (Below.refl _ _).alloc (Nat.le_refl _) _⟩
          · have gn : (n == 0) = false := by simp [hn]
            rw [show (Opn.mk 2 0 0 n t).right = false from by rw [opn_right2]; (repeat' split) <;> first | rfl | exact decide_eq_false (by omega) | omega]
            clear hn
            go_enter Try.func19, Try.ntmps19
            go_wp2
            go_ret
            exact ⟨rfl, (Below.refl _ _).alloc (Nat.le_refl _) _⟩
        · have gi : (i == 0) = false := by simp [hi]
          rw [show (Opn.mk 2 0 i n t).right = false from by rw [opn_right2]; (repeat' split) <;> first | rfl | exact decide_eq_false (by omega) | omega]
          clear hi
          go_enter Try.func19, Try.ntmps19
          go_wp2
          go_ret
          exact ⟨rfl, (Below.refl _ _).alloc (Nat.le_refl _) _⟩
      · have gf : (f == 0) = false := by simp [hf]
        rw [show (Opn.mk 2 f i n t).right = false from by rw [opn_right2]; (repeat' split) <;> first | rfl | exact decide_eq_false (by omega) | omega]
        clear hf
        go_enter Try.func19, Try.ntmps19
        go_wp2
        go_ret
        exact ⟨rfl, (Below.refl _ _).alloc (Nat.le_refl _) _⟩
    · by_cases h4 : k = 4
      · subst h4
        by_cases hf : f = 0
        · subst hf
          by_cases hi : i = 0
          · subst hi
            by_cases hn : n = 0
            · subst hn
              by_cases ht : t = 0
              · subst ht
                go_enter Try.func19, Try.ntmps19
                go_wp2
                go_ret
                exact ⟨rfl, (Below.refl _ _).alloc (Nat.le_refl _) _⟩
              · have gt : (t == 0) = false := by simp [ht]
                rw [show (Opn.mk 4 0 0 0 t).right = false from by rw [opn_right4]; (repeat' split) <;> first | rfl | exact decide_eq_false (by omega) | omega]
                clear ht
                go_enter Try.func19, Try.ntmps19
                go_wp2
                go_ret
                exact ⟨rfl, (Below.refl _ _).alloc (Nat.le_refl _) _⟩
            · have gn : (n == 0) = false := by simp [hn]
              rw [show (Opn.mk 4 0 0 n t).right = false from by rw [opn_right4]; (repeat' split) <;> first | rfl | exact decide_eq_false (by omega) | omega]
              clear hn
              go_enter Try.func19, Try.ntmps19
              go_wp2
              go_ret
              exact ⟨rfl, (Below.refl _ _).alloc (Nat.le_refl _) _⟩
          · have gi : (i == 0) = false := by simp [hi]
            rw [show (Opn.mk 4 0 i n t).right = false from by rw [opn_right4]; (repeat' split) <;> first | rfl | exact decide_eq_false (by omega) | omega]
            clear hi
            go_enter Try.func19, Try.ntmps19
            go_wp2
            go_ret
            exact ⟨rfl, (Below.refl _ _).alloc (Nat.le_refl _) _⟩
        · have gf : (f == 0) = false := by simp [hf]
          rw [show (Opn.mk 4 f i n t).right = false from by rw [opn_right4]; (repeat' split) <;> first | rfl | exact decide_eq_false (by omega) | omega]
          clear hf
          go_enter Try.func19, Try.ntmps19
          go_wp2
          go_ret
          exact ⟨rfl, (Below.refl _ _).alloc (Nat.le_refl _) _⟩
      · by_cases h3 : k = 3
        · subst h3
          by_cases hf : f = 0
          · subst hf
            by_cases hi : i = 0
            · subst hi
              by_cases hn : n = 0
              · subst hn
                go_enter Try.func19, Try.ntmps19
                go_wp2
                go_ret
                exact ⟨rfl, (Below.refl _ _).alloc (Nat.le_refl _) _⟩
              · have gn : (n == 0) = false := by simp [hn]
                rw [show (Opn.mk 3 0 0 n t).right = false from by rw [opn_right3]; (repeat' split) <;> first | rfl | exact decide_eq_false (by omega) | omega]
                clear hn
                go_enter Try.func19, Try.ntmps19
                go_wp2
                go_ret
                exact ⟨rfl, (Below.refl _ _).alloc (Nat.le_refl _) _⟩
            · have gi : (i == 0) = false := by simp [hi]
              rw [show (Opn.mk 3 0 i n t).right = false from by rw [opn_right3]; (repeat' split) <;> first | rfl | exact decide_eq_false (by omega) | omega]
              clear hi
              go_enter Try.func19, Try.ntmps19
              go_wp2
              go_ret
              exact ⟨rfl, (Below.refl _ _).alloc (Nat.le_refl _) _⟩
          · have gf : (f == 0) = false := by simp [hf]
            rw [show (Opn.mk 3 f i n t).right = false from by rw [opn_right3]; (repeat' split) <;> first | rfl | exact decide_eq_false (by omega) | omega]
            clear hf
            go_enter Try.func19, Try.ntmps19
            go_wp2
            go_ret
            exact ⟨rfl, (Below.refl _ _).alloc (Nat.le_refl _) _⟩
        · by_cases h0 : k = 0
          · subst h0
            by_cases hf : f = 0
            · subst hf
              by_cases hi : i = 0
              · subst hi
                by_cases ht : t = 0
                · subst ht
                  have JK := Lib.hid (fun W => junk_any n n0 n1 W)
                  have e0 : (Opn.mk 0 0 0 n 0).right = jnk n := by rw [opn_right0, if_neg (by rintro (h | h) <;> exact h rfl)]; exact decide_eq_decide.2 (by omega)
                  rw [e0]
                  clear e0
                  generalize jnk n = b at *
                  go_enter Try.func19, Try.ntmps19
                  go_wp2_with fail
                  refine (JK.out _).mono ?_
                  rintro e w' ⟨rfl, rfl⟩
                  go_wp2
                  go_ret
                  exact ⟨rfl, (Below.refl _ _).alloc (Nat.le_refl _) _⟩
                · have gt : (t == 0) = false := by simp [ht]
                  rw [show (Opn.mk 0 0 0 n t).right = false from by rw [opn_right0]; (repeat' split) <;> first | rfl | exact decide_eq_false (by omega) | omega]
                  clear ht
                  go_enter Try.func19, Try.ntmps19
                  go_wp2
                  go_ret
                  exact ⟨rfl, (Below.refl _ _).alloc (Nat.le_refl _) _⟩
              · have gi : (i == 0) = false := by simp [hi]
                rw [show (Opn.mk 0 0 i n t).right = false from by rw [opn_right0]; (repeat' split) <;> first | rfl | exact decide_eq_false (by omega) | omega]
                clear hi
                go_enter Try.func19, Try.ntmps19
                go_wp2
                go_ret
                exact ⟨rfl, (Below.refl _ _).alloc (Nat.le_refl _) _⟩
            · have gf : (f == 0) = false := by simp [hf]
              rw [show (Opn.mk 0 f i n t).right = false from by rw [opn_right0]; (repeat' split) <;> first | rfl | exact decide_eq_false (by omega) | omega]
              clear hf
              go_enter Try.func19, Try.ntmps19
              go_wp2
              go_ret
              exact ⟨rfl, (Below.refl _ _).alloc (Nat.le_refl _) _⟩
          · rw [show (Opn.mk k f i n t).right = false from by simp [Opn.right, h0, h1, h2, h3, h4]]
            have q1 : (k == 1) = false := by simp [h1]
            have q2 : (k == 2) = false := by simp [h2]
            have q3 : (k == 3) = false := by simp [h3]
            have q4 : (k == 4) = false := by simp [h4]
            have q0 : (k == 0) = false := by simp [h0]
            clear h0 h1 h2 h3 h4
            go_enter Try.func19, Try.ntmps19
            go_wp2
            go_ret
            exact ⟨rfl, (Below.refl _ _).alloc (Nat.le_refl _) _⟩
end Go.Proofs.Ytdlcipbehalfhaa
