/-
  How many packets left by records, and how many bytes, by package trace. What lay below the heap's end stands.
-/
import Derived.Test.YtapjebhdgcpdjaaTc5
import Derived.Test.YtapjebhdgcpdjaaSat
namespace Go.Proofs.Ytapjebhdgcpdjaa
set_option linter.unusedVariables false
set_option linter.unusedSimpArgs false
open Go.ChangeShapes Go.WideShapes Go.ChangeAt Go.RowKit
attribute [-go_sem] run_index_string binOp_string_eql binOp_string_neq run_string_add_if run_slice_string_from_if run_slice_string_to_if
attribute [local go_sem] index_bt add_fits slice_from slice_to eql_str neq_str alloc_drewN setCell_drewN

def lstep (q : Int × Int) (x : Rec) : Int × Int := if x.k = 2 ∧ x.c = 0 then (q.1 + 1, cap (q.2 + x.n)) else q
def lsum (l : List Rec) : Int × Int := l.foldl lstep (0, 0)
theorem lsum_snoc (l : List Rec) (x : Rec) : lsum (l ++ [x]) = lstep (lsum l) x := by unfold lsum; rw [List.foldl_append]; rfl
theorem cap_bd9 (n : Int) (h : 0 ≤ n) : 0 ≤ cap n ∧ cap n ≤ 18446744073709551615 := by unfold cap; split <;> omega
theorem lfold_bd : ∀ (l : List Rec) (q : Int × Int), (∀ x ∈ l, x.ok) → 0 ≤ q.1 → (0 ≤ q.2 ∧ q.2 ≤ 18446744073709551615) → 0 ≤ (l.foldl lstep q).1 ∧ (l.foldl lstep q).1 ≤ q.1 + l.length ∧ 0 ≤ (l.foldl lstep q).2 ∧ (l.foldl lstep q).2 ≤ 18446744073709551615
  | [], q, _, h1, h2 => ⟨h1, by simp, h2.1, h2.2⟩
  | x :: l, q, hx, h1, h2 => by
    have hn := (hx x (by simp)).2.2.2.2.1
    rw [List.foldl_cons, List.length_cons]
    unfold lstep
    split
    · have hc := cap_bd9 (q.2 + x.n) (by omega)
      have := lfold_bd l (q.1 + 1, cap (q.2 + x.n)) (fun y hy => hx y (by simp [hy])) (by show 0 ≤ q.1 + 1; omega) hc
      unfold lstep at this
      simp only at this
      refine ⟨this.1, ?_, this.2.2⟩
      have := this.2.1
      push_cast
      omega
    · have := lfold_bd l q (fun y hy => hx y (by simp [hy])) h1 h2
      unfold lstep at this
      refine ⟨this.1, ?_, this.2.2⟩
      have := this.2.1
      push_cast
      omega
theorem lsum_bd (l : List Rec) (k : Nat) (hk : k ≤ l.length) (hx : ∀ x ∈ l, x.ok) : 0 ≤ (lsum (l.take k)).1 ∧ (lsum (l.take k)).1 ≤ k ∧ 0 ≤ (lsum (l.take k)).2 ∧ (lsum (l.take k)).2 ≤ 18446744073709551615 := by
  have h := lfold_bd (l.take k) (0, 0) (fun x h => hx x (List.mem_of_mem_take h)) (Int.le_refl _) ⟨Int.le_refl _, by decide⟩
  have hl : (l.take k).length = k := by rw [List.length_take]; omega
  rw [hl] at h
  have h1 := h.2.1
  simp only at h1
  exact ⟨h.1, by unfold lsum; omega, h.2.2⟩
set_option maxRecDepth 100000 in
set_option maxHeartbeats 4000000 in
theorem tleft_at (b off c : Nat) (l : List Rec) (hn : l.length ≤ 1000) (hok : ∀ x ∈ l, x.ok) (w : World) (hb : b < w.heap.size) (hc : RCells w b off l) :
    Calls Try.prog 37 #[.slice (some ⟨b, off, none⟩) l.length c] w fun e w' => e = .returned (.tuple #[.int .u64 (lsum l).1, .int .u64 (lsum l).2]) ∧ Below w.heap.size w w' := by
  have HC := Lib.hid hc; have HOK := Lib.hid hok
  clear hc hok
  go_enter Try.func37, Try.ntmps37
  go_wp2
  go_loopw [4, 5, 10] (fun x y z wr => ∃ k : Nat, k ≤ l.length ∧ x = .int .u64 (lsum (l.take k)).1 ∧ y = .int .u64 (lsum (l.take k)).2 ∧ z = .int .i64 k ∧ Below w.heap.size w wr) (fun _ _ z _ => l.length - (intOf z).toNat)
  case atStart => exact ⟨0, Nat.zero_le _, rfl, rfl, rfl, Below.refl _ _⟩
  case round =>
    obtain ⟨k, hk, rfl, rfl, rfl, hbw⟩ := hrel
    have hsize := hbw.size
    by_cases hlt : k < l.length
    · obtain ⟨c0, c1, c2, c3, c4, c5⟩ := HC.out k hlt
      have c0 := (hbw.cell (p := ⟨b, off + k * 6, none⟩) hb).trans c0
      have c1 := (hbw.cell (p := ⟨b, off + k * 6 + 1, none⟩) hb).trans c1
      have c2 := (hbw.cell (p := ⟨b, off + k * 6 + 2, none⟩) hb).trans c2
      have c3 := (hbw.cell (p := ⟨b, off + k * 6 + 3, none⟩) hb).trans c3
      have c4 := (hbw.cell (p := ⟨b, off + k * 6 + 4, none⟩) hb).trans c4
      have c5 := (hbw.cell (p := ⟨b, off + k * 6 + 5, none⟩) hb).trans c5
      have hx := HOK.out _ (getD_mem_rec hlt)
      have x0 : (0 : Int) ≤ (k : Int) := by omega
      have x1 : (k : Int) < (l.length : Int) := by omega
      have TS := Lib.hid (lsum_snoc (l.take k) (l.getD k Rec.nil))
      have TS2 := Lib.hid (take_snoc6 l k hlt)
      obtain ⟨p0, p1, q0, q1⟩ := lsum_bd l k hk HOK.out
      obtain ⟨Q, hQ⟩ : ∃ Q, lsum (l.take k) = Q := ⟨_, rfl⟩
      obtain ⟨x, hxe⟩ : ∃ x, l.getD k Rec.nil = x := ⟨_, rfl⟩
      rw [hxe] at hx c0 c1 c2 c3 c4 c5 TS TS2
      rw [hQ] at TS p0 p1 q0 q1 ⊢
      obtain ⟨P, S⟩ := Q
      simp only at p0 p1 q0 q1
      have HB := Lib.hid hbw
      obtain ⟨xt, xk, xf, xi, xn, xc⟩ := x
      obtain ⟨⟨t0, t1⟩, ⟨k0, k1⟩, ⟨f0, f1⟩, ⟨i0, i1⟩, ⟨n0, n1⟩, d0, d1⟩ := hx
      simp only at c0 c1 c2 c3 c4 c5 t0 t1 k0 k1 f0 f1 i0 i1 n0 n1 d0 d1
      clear hxe hQ hbw
      by_cases h2 : xk = 2
      · subst h2
        by_cases h3 : xc = 0
        · subst h3
          have ES : Hid (lsum (l.take (k + 1)) = (P + 1, cap (S + xn))) := Lib.hid (by rw [TS2.out, TS.out]; rfl)
          go_wp2_with fail
          refine (sat_add S xn q0 q1 n0 n1 _).mono ?_
          rintro e w1 ⟨rfl, rfl⟩
          go_wp2
          go_roundw
          case rel =>
            refine ⟨k + 1, by omega, by rw [ES.out], by rw [ES.out], by go_num, ?_⟩
            exact HB.out.alloc (by omega) _
          case measure => simp [intOf] <;> omega
        · have g3 : (xc == 0) = false := by simp [h3]
          have ES : Hid (lsum (l.take (k + 1)) = (P, S)) := Lib.hid (by rw [TS2.out, TS.out]; unfold lstep; rw [if_neg (fun h => h3 h.2)])
          clear h3
          go_wp2
          go_roundw
          case rel =>
            refine ⟨k + 1, by omega, by rw [ES.out], by rw [ES.out], by go_num, ?_⟩
            exact HB.out.alloc (by omega) _
          case measure => simp [intOf] <;> omega
      · have g2 : (xk == 2) = false := by simp [h2]
        have ES : Hid (lsum (l.take (k + 1)) = (P, S)) := Lib.hid (by rw [TS2.out, TS.out]; unfold lstep; rw [if_neg (fun h => h2 h.1)])
        clear h2
        go_wp2
        go_roundw
        case rel =>
          refine ⟨k + 1, by omega, by rw [ES.out], by rw [ES.out], by go_num, ?_⟩
          exact HB.out.alloc (by omega) _
        case measure => simp [intOf] <;> omega
    · have ek : k = l.length := by omega
      subst ek
      have et : l.take l.length = l := List.take_of_length_le (by simp)
      rw [et]
      clear et
      go_wp2
      go_ret2
      exact ⟨rfl, hbw⟩
theorem tleft_none (a : Option Addr) (c : Nat) (w : World) :
    Calls Try.prog 37 #[.slice a 0 c] w fun e w' => e = .returned (.tuple #[.int .u64 0, .int .u64 0]) ∧ Below w.heap.size w w' := by
  go_enter Try.func37, Try.ntmps37
  go_wp2
  refine wp_loop_rounds 1 ?_
  rw [rounds_succ]
  go_wp2
  go_ret2
  exact ⟨rfl, Below.refl _ _⟩
theorem tleft (l : List Rec) (hn : l.length ≤ 1000) (hok : ∀ x ∈ l, x.ok) {w : World} {v : Value} (h : SRc w v l) :
    Calls Try.prog 37 #[v] w fun e w' => e = .returned (.tuple #[.int .u64 (lsum l).1, .int .u64 (lsum l).2]) ∧ Below w.heap.size w w' := by
  obtain ⟨a, c, rfl, h⟩ := h
  by_cases h2 : 0 < l.length
  · obtain ⟨b, off, rfl, hb, hc⟩ := h h2
    exact tleft_at b off c l hn hok w hb hc
  · have hl : l = [] := List.length_eq_zero_iff.1 (by omega)
    subst hl
    exact tleft_none a c w
end Go.Proofs.Ytapjebhdgcpdjaa
