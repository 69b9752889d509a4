/-
  Package mail: the first box that has something gives its first thing. No condition but that New made the boxes.
-/
import Derived.Test.YtfjhcmihjffknaaMl11
namespace Go.Proofs.Ytfjhcmihjffknaa
set_option linter.unusedVariables false
set_option linter.unusedSimpArgs false
open Go.ChangeShapes Go.WideShapes Go.ChangeAt Go.RowKit
attribute [local go_sem] alloc_drewN setCell_drewN

/-- A row of boxes' places. -/
def PtrsR (w : World) (base : Nat) (v : Value) (Bs : List Nat) : Prop := w.ownsRow base 23 1 v Bs.length (Bs.map (fun B => Value.pointer (some ⟨B, 0, none⟩)))
theorem PtrsR.form {w : World} {base : Nat} {v : Value} {Bs : List Nat} (h : PtrsR w base v Bs) : ∃ a c, v = .slice a Bs.length c ∧ ∀ i, i < Bs.length → ∃ g, a = some ⟨g, 0, none⟩ ∧ g < w.heap.size ∧ w.cell? ⟨g, i, none⟩ = some (.pointer (some ⟨Bs.getD i 0, 0, none⟩)) := by
  have h' := h
  unfold PtrsR at h'
  rcases h'.2 with ⟨rfl, h0⟩ | ⟨g, cap, cur, rfl, hb, hg, h1, _⟩
  · exact ⟨none, 0, by rw [h0], fun i hi => by omega⟩
  · refine ⟨some ⟨g, 0, none⟩, cap, rfl, fun i hi => ⟨g, rfl, (Array.getElem?_eq_some_iff.1 hg).1, ?_⟩⟩
    rw [h'.cellAt i (by omega), List.getElem?_map, List.getElem?_eq_getElem hi, List.getD_eq_getElem?_getD, List.getElem?_eq_getElem hi]
    rfl
section
variable {w : World} {base : Nat} {Bs : List Nat} {ls : List (List Int)} {In : Nat → Prop}
set_option maxRecDepth 100000 in
set_option maxHeartbeats 2000000 in
theorem gfirst_at (h : BxsG w base Bs ls In) {b2 : Nat} {vb : Value} (hr : PtrsR w b2 vb Bs) (hn : Bs.length ≤ 1000) {i : Nat} {x : Int} {l : List Int} (hi : i < Bs.length) (hl : ls.getD i [] = x :: l) (hk : ∀ k, k < i → ls.getD k [] = []) : Calls Try.prog 24 #[vb] w fun e w' => e = .returned (.tuple #[.int .i64 i, .int .i64 x, .bool true]) ∧ ∃ In', BxsG w' base Bs (ls.set i l) In' ∧ MvS w w' In In' ∧ ∀ j, In' j → In j := by
  obtain ⟨a, c, rfl, hc⟩ := hr.form
  have HC := Lib.hid hc
  have TK := Lib.hid (h.take hi hl)
  have NO := Lib.hid (fun k (hki : k < i) => h.none (Nat.lt_trans hki hi) (hk k hki))
  obtain ⟨n, hnn⟩ : ∃ n, Bs.length = n := ⟨_, rfl⟩
  rw [hnn] at hi hn HC
  rw [hnn]
  have HI := Lib.hid hi
  have HN := Lib.hid hn
  clear h hr hc hk hl hnn
  go_enter Try.func24, Try.ntmps24
  go_wp2
  go_loopw [12] (fun z wr => ∃ k : Nat, z = .int .i64 k ∧ k ≤ i ∧ wr = w) (fun z _ => i + 1 - (intOf z).toNat)
  case atStart => exact ⟨0, rfl, Nat.zero_le _, rfl⟩
  case round =>
    obtain ⟨k, rfl, hki, rfl⟩ := hrel
    obtain ⟨g, rfl, hg, cg⟩ := HC.out k (by omega)
    have z1 : (k : Int) < n := by omega
    have z0 : (0 : Int) ≤ k := by omega
    have hw1 : IntKind.i64.wrap ((k : Int) + 1) = (k : Int) + 1 := by rw [IntKind.wrap_i64]; have := HN.out; omega
    rcases Nat.lt_or_ge k i with hlt | hge
    · have N1 := Lib.hid (NO.out k hlt)
      go_wp2_with fail
      refine N1.out.mono ?_
      rintro e w2 ⟨rfl, hw2⟩
      rw [hw2]
      clear hw2
      go_wp2
      go_roundw
      case rel => exact ⟨k + 1, by go_num, hlt, trivial⟩
      case measure => simp [intOf] <;> omega
    · obtain rfl : k = i := by omega
      go_wp2_with fail
      refine TK.out.mono ?_
      rintro e w2 ⟨rfl, F⟩
      have FH := Lib.hid F
      clear F
      go_wp2
      go_ret3
      exact ⟨rfl, FH.out⟩
set_option maxRecDepth 100000 in
set_option maxHeartbeats 2000000 in
theorem gfirst_no (h : BxsG w base Bs ls In) {b2 : Nat} {vb : Value} (hr : PtrsR w b2 vb Bs) (hn : Bs.length ≤ 1000) (hk : ∀ k, k < Bs.length → ls.getD k [] = []) : Calls Try.prog 24 #[vb] w fun e w' => e = .returned (.tuple #[.int .i64 0, .int .i64 0, .bool false]) ∧ w' = w := by
  obtain ⟨a, c, rfl, hc⟩ := hr.form
  have HC := Lib.hid hc
  have NO := Lib.hid (fun k (hki : k < Bs.length) => h.none hki (hk k hki))
  obtain ⟨n, hnn⟩ : ∃ n, Bs.length = n := ⟨_, rfl⟩
  rw [hnn] at hn HC NO
  rw [hnn]
  have HN := Lib.hid hn
  clear h hr hc hk hnn
  go_enter Try.func24, Try.ntmps24
  go_wp2
  go_loopw [12] (fun z wr => ∃ k : Nat, z = .int .i64 k ∧ k ≤ n ∧ wr = w) (fun z _ => n - (intOf z).toNat)
  case atStart => exact ⟨0, rfl, Nat.zero_le _, rfl⟩
  case round =>
    obtain ⟨k, rfl, hki, rfl⟩ := hrel
    rcases Nat.lt_or_ge k n with hlt | hge
    · obtain ⟨g, rfl, hg, cg⟩ := HC.out k hlt
      have z1 : (k : Int) < n := by omega
      have z0 : (0 : Int) ≤ k := by omega
      have hw1 : IntKind.i64.wrap ((k : Int) + 1) = (k : Int) + 1 := by rw [IntKind.wrap_i64]; have := HN.out; omega
      have N1 := Lib.hid (NO.out k hlt)
      go_wp2_with fail
      refine N1.out.mono ?_
      rintro e w2 ⟨rfl, hw2⟩
      rw [hw2]
      clear hw2
      go_wp2
      go_roundw
      case rel => exact ⟨k + 1, by go_num, hlt, trivial⟩
      case measure => simp [intOf] <;> omega
    · obtain rfl : k = n := by omega
      go_wp2
      go_ret3
      exact ⟨rfl, rfl⟩
end
end Go.Proofs.Ytfjhcmihjffknaa
