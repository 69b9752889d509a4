/-
  What package pool tells of elements of type int: what lies under a handle; is there a queue; its first handle; what is not given back. The heap stands. No condition but that the pool is one that New made.
-/
import Derived.Test.YtmkgadndfiiacaaPoolI4
namespace Go.Proofs.Ytmkgadndfiiacaa
set_option linter.unusedVariables false
set_option linter.unusedSimpArgs false
open Go.ChangeShapes Go.WideShapes Go.ChangeAt Go.RowKit
attribute [local go_sem] alloc_drewN setCell_drewN

/-- Is it a taken handle. -/
def tkOfI (es : List EntI) (k : Int) : Bool := decide (0 ≤ k) && ((es[k.toNat]?).map EntI.tk).getD false
theorem tkOf_inI (es : List EntI) (k : Nat) (hk : k < es.length) : tkOfI es k = (es[k]).tk := by
  unfold tkOfI
  rw [Int.toNat_natCast, List.getElem?_eq_getElem hk]
  simp
theorem tkOf_outI (es : List EntI) (k : Int) (hk : k < 0 ∨ (es.length : Int) ≤ k) : tkOfI es k = false := by
  unfold tkOfI
  rcases hk with hk | hk
  · rw [decide_eq_false (by omega)]; rfl
  · rw [List.getElem?_eq_none (by omega)]; simp
theorem tkOf_trueI {es : List EntI} {k : Int} (h : tkOfI es k = true) : ∃ i : Nat, k = i ∧ ∃ hi : i < es.length, (es[i]).tk = true := by
  rcases Int.lt_or_le k 0 with h0 | h0
  · rw [tkOf_outI es k (Or.inl h0)] at h; cases h
  · obtain ⟨i, rfl⟩ := Int.eq_ofNat_of_zero_le h0
    rcases Nat.lt_or_ge i es.length with hi | hi
    · exact ⟨i, rfl, hi, by rw [← tkOf_inI es i hi]; exact h⟩
    · rw [tkOf_outI es _ (Or.inr (by omega))] at h; cases h
theorem takenPI {w : World} {base B : Nat} {most : Int} {ve vf vq : Value} {es : List EntI} {fr : List Int} {qs : List (Int × Int × Int)} (h : PoolAtI w base B most ve vf vq es fr qs) (k : Int) :
    Calls Try.prog 118 #[.pointer (some ⟨B, 0, none⟩), .int .i64 k] w fun e w' => e = .returned (.bool (tkOfI es k)) ∧ w' = w := by
  rcases Int.lt_or_le k 0 with h0 | h0
  · rw [tkOf_outI es k (Or.inl h0)]; exact takenP_outI h k (Or.inl h0)
  · obtain ⟨i, rfl⟩ := Int.eq_ofNat_of_zero_le h0
    rcases Nat.lt_or_ge i es.length with hi | hi
    · rw [tkOf_inI es i hi]; exact takenP_inI h i hi
    · rw [tkOf_outI es _ (Or.inr (by omega))]; exact takenP_outI h _ (Or.inr (by omega))
theorem getP_noI {w : World} {base B : Nat} {most : Int} {ve vf vq : Value} {es : List EntI} {fr : List Int} {qs : List (Int × Int × Int)} (h : PoolAtI w base B most ve vf vq es fr qs) (k : Int) (hk : tkOfI es k = false) :
    Calls Try.prog 60 #[.pointer (some ⟨B, 0, none⟩), .int .i64 k] w fun e w' => e = .returned (.tuple #[Value.int .i64 0, .bool false]) ∧ w' = w := by
  have TK := Lib.hid (takenPI h k)
  rw [hk] at TK
  clear h
  go_enter Try.func60, Try.ntmps60
  go_wp2_with (go_at_call 118; refine (TK.out).mono ?_; rintro e w' ⟨rfl, rfl⟩)
  go_ret2
  exact ⟨rfl, rfl⟩
theorem getP_inI {w : World} {base B : Nat} {most : Int} {ve vf vq : Value} {es : List EntI} {fr : List Int} {qs : List (Int × Int × Int)} (h : PoolAtI w base B most ve vf vq es fr qs) (k : Nat) (hk : k < es.length) (ht : (es[k]).tk = true) :
    Calls Try.prog 60 #[.pointer (some ⟨B, 0, none⟩), .int .i64 k] w fun e w' => e = .returned (.tuple #[Value.int .i64 (es[k]).x, .bool true]) ∧ w' = w := by
  have TK := Lib.hid (takenP_inI h k hk)
  rw [ht] at TK
  obtain ⟨c0, c1, c2, c3⟩ := h.cell
  obtain ⟨ge, ce, rfl, _, _⟩ := h.oe.form (by omega)
  obtain ⟨k0, k1, k2, k3⟩ := h.entAt k hk
  have hm1 := h.m1; have hle := h.le
  have a0 : (0 : Int) ≤ k := by omega
  have a1 : (k : Int) < es.length := by omega
  clear h ht
  generalize es[k] = en at *
  go_enter Try.func60, Try.ntmps60
  go_wp2_with (go_at_call 118; refine (TK.out).mono ?_; rintro e w' ⟨rfl, rfl⟩)
  go_ret2
  exact ⟨rfl, rfl⟩
theorem give_nonePI {w : World} {base B : Nat} {most : Int} {ve vf vq : Value} {es : List EntI} {fr : List Int} {qs : List (Int × Int × Int)} (h : PoolAtI w base B most ve vf vq es fr qs) (k : Int) (hk : tkOfI es k = false) :
    Calls Try.prog 111 #[.pointer (some ⟨B, 0, none⟩), .int .i64 k] w fun e w' => e = .returned (.tuple #[Value.int .i64 0, .int .i64 7]) ∧ w' = w := by
  have MD := Lib.hid (madePI h)
  have TK := Lib.hid (takenPI h k)
  rw [hk] at TK
  clear h
  go_enter Try.func111, Try.ntmps111
  go_wp2_with (first
    | (go_at_call 117; refine (MD.out).mono ?_; rintro e w' ⟨rfl, rfl⟩)
    | (go_at_call 118; refine (TK.out).mono ?_; rintro e w' ⟨rfl, rfl⟩))
  go_ret2
  exact ⟨rfl, rfl⟩
theorem give_statePI {w : World} {base B : Nat} {most : Int} {ve vf vq : Value} {es : List EntI} {fr : List Int} {qs : List (Int × Int × Int)} (h : PoolAtI w base B most ve vf vq es fr qs) (k : Nat) (hk : k < es.length) (ht : (es[k]).tk = true) (hq : (es[k]).qd = true) :
    Calls Try.prog 111 #[.pointer (some ⟨B, 0, none⟩), .int .i64 k] w fun e w' => e = .returned (.tuple #[Value.int .i64 0, .int .i64 9]) ∧ w' = w := by
  have MD := Lib.hid (madePI h)
  have TK := Lib.hid (takenP_inI h k hk)
  rw [ht] at TK
  obtain ⟨c0, c1, c2, c3⟩ := h.cell
  obtain ⟨ge, ce, rfl, _, _⟩ := h.oe.form (by omega)
  obtain ⟨k0, k1, k2, k3⟩ := h.entAt k hk
  rw [hq] at k2
  have hm1 := h.m1; have hle := h.le
  have a0 : (0 : Int) ≤ k := by omega
  have a1 : (k : Int) < es.length := by omega
  clear h ht hq
  generalize es[k] = en at *
  go_enter Try.func111, Try.ntmps111
  go_wp2_with (first
    | (go_at_call 117; refine (MD.out).mono ?_; rintro e w' ⟨rfl, rfl⟩)
    | (go_at_call 118; refine (TK.out).mono ?_; rintro e w' ⟨rfl, rfl⟩))
  go_ret2
  exact ⟨rfl, rfl⟩
end Go.Proofs.Ytmkgadndfiiacaa
