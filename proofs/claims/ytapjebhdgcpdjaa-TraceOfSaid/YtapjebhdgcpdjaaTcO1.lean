/-
  How many packets left by records, and how many bytes, by the document's answer for layer 39. What lay below the heap's end stands.
-/
import Derived.Test.YtapjebhdgcpdjaaTc9
namespace Go.Proofs.Ytapjebhdgcpdjaa
set_option linter.unusedVariables false
set_option linter.unusedSimpArgs false
open Go.ChangeShapes Go.WideShapes Go.ChangeAt Go.RowKit
attribute [-go_sem] run_index_string binOp_string_eql binOp_string_neq run_string_add_if run_slice_string_from_if run_slice_string_to_if
attribute [local go_sem] index_bt add_fits slice_from slice_to eql_str neq_str alloc_drewN setCell_drewN

set_option maxRecDepth 100000 in
set_option maxHeartbeats 4000000 in
theorem rleft39_at (b off c : Nat) (l : List Rec) (hn : l.length ≤ 1000) (hok : ∀ x ∈ l, x.ok) (w : World) (hb : b < w.heap.size) (hc : RCells w b off l) :
    Calls Try.prog 38 #[.slice (some ⟨b, off, none⟩) l.length c] w fun e w' => e = .returned (.tuple #[.int .u64 (lsum l).1, .int .u64 (lsum l).2]) ∧ Below w.heap.size w w' := by
  have HC := Lib.hid hc; have HOK := Lib.hid hok
  clear hc hok
  go_enter Try.func38, Try.ntmps38
  go_wp2
  go_loopw [4, 5, 6] (fun x y z wr => ∃ k : Nat, k ≤ l.length ∧ x = .int .u64 (lsum (l.take k)).1 ∧ y = .int .u64 (lsum (l.take k)).2 ∧ z = .int .i64 k ∧ Below w.heap.size w wr) (fun _ _ z _ => l.length - (intOf z).toNat)
  case atStart => exact ⟨0, Nat.zero_le _, rfl, rfl, rfl, Below.refl _ _⟩
  case round =>
    obtain ⟨k, hk, rfl, rfl, rfl, hbw⟩ := hrel
    have hsize := hbw.size
    by_cases hlt : k < l.length
    · obtain ⟨c0, c1, c2, c3, c4, c5⟩ := HC.out k hlt
      have c0 := (hbw.cell (p := ⟨b, off + k * 6, none⟩) hb).trans c0
      have c1 := (hbw.cell (p := ⟨b, off + k * 6 + 1, none⟩) hb).trans c1
      have c2 := (hbw.cell (p := ⟨b, off + k * 6 + 2, none⟩) hb).trans c2
      have c3 := (hbw.cell (p := ⟨b, off + k * 6 + 3, none⟩) hb).trans c3
      have c4 := (hbw.cell (p := ⟨b, off + k * 6 + 4, none⟩) hb).trans c4
      have c5 := (hbw.cell (p := ⟨b, off + k * 6 + 5, none⟩) hb).trans c5
      have hx := HOK.out _ (getD_mem_rec hlt)
      have x0 : (0 : Int) ≤ (k : Int) := by omega
      have x1 : (k : Int) < (l.length : Int) := by omega
      have TS := Lib.hid (lsum_snoc (l.take k) (l.getD k Rec.nil))
      have TS2 := Lib.hid (take_snoc6 l k hlt)
      obtain ⟨p0, p1, q0, q1⟩ := lsum_bd l k hk HOK.out
      obtain ⟨Q, hQ⟩ : ∃ Q, lsum (l.take k) = Q := ⟨_, rfl⟩
      obtain ⟨x, hxe⟩ : ∃ x, l.getD k Rec.nil = x := ⟨_, rfl⟩
      rw [hxe] at hx c0 c1 c2 c3 c4 c5 TS TS2
      rw [hQ] at TS p0 p1 q0 q1 ⊢
      obtain ⟨P, S⟩ := Q
      simp only at p0 p1 q0 q1
      have HB := Lib.hid hbw
      obtain ⟨xt, xk, xf, xi, xn, xc⟩ := x
      obtain ⟨⟨t0, t1⟩, ⟨k0, k1⟩, ⟨f0, f1⟩, ⟨i0, i1⟩, ⟨n0, n1⟩, d0, d1⟩ := hx
      simp only at c0 c1 c2 c3 c4 c5 t0 t1 k0 k1 f0 f1 i0 i1 n0 n1 d0 d1
      clear hxe hQ hbw
      by_cases h2 : xk = 2
      · subst h2
        by_cases h3 : xc = 0
        · subst h3
          have ES : Hid (lsum (l.take (k + 1)) = (P + 1, cap (S + xn))) := Lib.hid (by rw [TS2.out, TS.out]; rfl)
          go_wp2_with fail
          refine (add_ref S xn q0 q1 n0 n1 _).mono ?_
          rintro e w1 ⟨rfl, h1⟩
          go_wp2
          go_roundw
          case rel =>
            refine ⟨k + 1, by omega, by rw [ES.out], by rw [ES.out], by go_num, ?_⟩
            exact HB.out.trans (h1.mono hsize)
          case measure => simp [intOf] <;> omega
        · have g3 : (xc == 0) = false := by simp [h3]
          have ES : Hid (lsum (l.take (k + 1)) = (P, S)) := Lib.hid (by rw [TS2.out, TS.out]; unfold lstep; rw [if_neg (fun h => h3 h.2)])
          clear h3
          go_wp2
          go_roundw
          case rel =>
            refine ⟨k + 1, by omega, by rw [ES.out], by rw [ES.out], by go_num, ?_⟩
            exact HB.out
          case measure => simp [intOf] <;> omega
      · have g2 : (xk == 2) = false := by simp [h2]
        have ES : Hid (lsum (l.take (k + 1)) = (P, S)) := Lib.hid (by rw [TS2.out, TS.out]; unfold lstep; rw [if_neg (fun h => h2 h.1)])
        clear h2
        go_wp2
        go_roundw
        case rel =>
          refine ⟨k + 1, by omega, by rw [ES.out], by rw [ES.out], by go_num, ?_⟩
          exact HB.out
        case measure => simp [intOf] <;> omega
    · have ek : k = l.length := by omega
      subst ek
      have et : l.take l.length = l := List.take_of_length_le (by simp)
      rw [et]
      clear et
      go_wp2
      go_ret2
      exact ⟨rfl, hbw⟩
theorem rleft39_none (a : Option Addr) (c : Nat) (w : World) :
    Calls Try.prog 38 #[.slice a 0 c] w fun e w' => e = .returned (.tuple #[.int .u64 0, .int .u64 0]) ∧ Below w.heap.size w w' := by
  go_enter Try.func38, Try.ntmps38
  go_wp2
  refine wp_loop_rounds 1 ?_
  rw [rounds_succ]
  go_wp2
  go_ret2
  exact ⟨rfl, Below.refl _ _⟩
theorem rleft39 (l : List Rec) (hn : l.length ≤ 1000) (hok : ∀ x ∈ l, x.ok) {w : World} {v : Value} (h : SRc w v l) :
    Calls Try.prog 38 #[v] w fun e w' => e = .returned (.tuple #[.int .u64 (lsum l).1, .int .u64 (lsum l).2]) ∧ Below w.heap.size w w' := by
  obtain ⟨a, c, rfl, h⟩ := h
  by_cases h2 : 0 < l.length
  · obtain ⟨b, off, rfl, hb, hc⟩ := h h2
    exact rleft39_at b off c l hn hok w hb hc
  · have hl : l = [] := List.length_eq_zero_iff.1 (by omega)
    subst hl
    exact rleft39_none a c w
end Go.Proofs.Ytapjebhdgcpdjaa
