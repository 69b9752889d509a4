/-
  The example of layer 16, walked: true; ranks that nobody made. No condition.
-/
import Derived.Test.YtnnbkooikimedaaRankN
namespace Go.Proofs.Ytnnbkooikimedaa
set_option linter.unusedVariables false
set_option linter.unusedSimpArgs false
open Go.ChangeShapes Go.WideShapes Go.ChangeAt Go.RowKit
attribute [local go_sem] alloc_drewN setCell_drewN

theorem rtags_nil (w : World) : Calls Try.prog 66 #[.pointer none] w fun e w' => e = .returned (.slice none 0 0) ∧ w' = w := by
  have MD := Lib.hid (rmade_nil w)
  go_enter Try.func66, Try.ntmps66
  go_wp2_with fail
  refine MD.out.mono ?_
  rintro e w' ⟨rfl, rfl⟩
  go_wp2
  go_ret
  exact ⟨rfl, rfl⟩
theorem rlay_nil (w : World) (v : Int) (a : Option Addr) (n c : Nat) : Calls Try.prog 60 #[.pointer none, .int .u64 v, .slice a n c] w fun e w' => e = .returned (.int .i64 10) ∧ w' = w := by
  have MD := Lib.hid (rmade_nil w)
  go_enter Try.func60, Try.ntmps60
  go_wp2_with fail
  refine MD.out.mono ?_
  rintro e w' ⟨rfl, rfl⟩
  go_wp2
  go_ret
  exact ⟨rfl, rfl⟩
theorem rnew_kind (kind : Int) (hk : kind < 1 ∨ 3 < kind) (s : Value) (w : World) : Calls Try.prog 55 #[.int .i64 kind, s] w fun e w' => e = .returned (.tuple #[.pointer none, .int .i64 22]) ∧ w' = w := by
  rcases hk with hk | hk
  · go_enter Try.func55, Try.ntmps55
    go_wp2
    go_ret2
    exact ⟨rfl, rfl⟩
  · have : ¬ kind < 1 := by omega
    go_enter Try.func55, Try.ntmps55
    go_wp2
    go_ret2
    exact ⟨rfl, rfl⟩
theorem rnew_count (kind : Int) (hk0 : 1 ≤ kind) (hk1 : kind ≤ 3) (a : Option Addr) (n c : Nat) (hn : n < 1 ∨ 64 < n) (w : World) : Calls Try.prog 55 #[.int .i64 kind, .slice a n c] w fun e w' => e = .returned (.tuple #[.pointer none, .int .i64 29]) ∧ w' = w := by
  have q1 : ¬ kind < 1 := by omega
  have q2 : ¬ 3 < kind := by omega
  rcases hn with hn | hn
  · have q3 : (n : Int) < 1 := by omega
    go_enter Try.func55, Try.ntmps55
    go_wp2
    go_ret2
    exact ⟨rfl, rfl⟩
  · have q3 : ¬ (n : Int) < 1 := by omega
    have q4 : 64 < (n : Int) := by omega
    go_enter Try.func55, Try.ntmps55
    go_wp2
    go_ret2
    exact ⟨rfl, rfl⟩
theorem rowfl_one (w : World) (x : Fl) (hx : x.ok) : RowFl (w.alloc (.cells #[.int .u32 x.id, .int .u64 x.co, .int .u64 x.bu, .int .u64 x.sz, .int .u64 x.cp] 210)) (some ⟨w.heap.size, 0, none⟩) 1 [x] := by
  refine ⟨rfl, by unfold maxLen; omega, fun y hy => (by rw [List.mem_singleton.1 hy]; exact hx), fun _ => ⟨w.heap.size, 0, rfl, by simp, fun i hi => ?_⟩⟩
  obtain rfl : i = 0 := by omega
  have := cells5 w (.int .u32 x.id) (.int .u64 x.co) (.int .u64 x.bu) (.int .u64 x.sz) (.int .u64 x.cp) 210
  simp only [Nat.zero_mul, Nat.zero_add, Nat.add_zero]
  exact this
set_option maxRecDepth 100000 in
set_option maxHeartbeats 1000000 in
theorem lives16 (w : World) : Calls Try.prog 54 #[] w fun e w' => e = .returned (.bool true) ∧ Below w.heap.size w w' := by
  have RF := rowfl_one w ⟨1, 2, 0, 0, 0⟩ ⟨by decide, by decide, by decide, by decide, by decide⟩
  have NW := Lib.hid (rnew_any (w := w.alloc (.cells #[.int .u32 1, .int .u64 2, .int .u64 0, .int .u64 0, .int .u64 0] 210)) 1 (by decide) (by decide) (some ⟨w.heap.size, 0, none⟩) 1 1 [⟨1, 2, 0, 0, 0⟩] RF (by decide) (by decide))
  clear RF
  go_enter Try.func54, Try.ntmps54
  go_wp2_with fail
  refine NW.out.mono ?_
  rintro e w1 ⟨v, code, rfl, hp, hb⟩
  obtain ⟨_, rfl, rfl, ve, h0⟩ : distF [⟨1, 2, 0, 0, 0⟩] 1 ∧ v = .pointer (some ⟨w.heap.size + 1, 0, none⟩) ∧ code = 0 ∧ ∃ ve, RanksAt w1 (w.heap.size + 1) (w.heap.size + 1) 1 0 ve [⟨1, 2, 0, 0⟩] := by
    rcases hp with ⟨h1, h2, h3, ve, h4⟩ | ⟨h1, _⟩
    · exact ⟨h1, by simpa using h2, h3, ve, by simpa [initR] using h4⟩
    · exact absurd (fun a b hab hb => by simp at hb; omega) h1
  have H0 := Lib.hid h0
  have B0 := Lib.hid (show Below w.heap.size w w1 from ((Below.refl _ w).alloc (Nat.le_refl _) _).trans (hb.mono (by simp)))
  have S0 := Lib.hid (show w.heap.size + 1 ≤ w1.heap.size from by simpa using hb.size)
  clear hb hp h0 NW
  have N1 := Lib.hid (rnext_at H0.out (by decide) (by decide) 1 0 (by decide) rfl (fun k hk => absurd hk (Nat.not_lt_zero _)) 0 10 (by decide) (by decide) (by decide) (by decide))
  rw [show rkOf 1 0 0 (([⟨1, 2, 0, 0⟩] : List Rf).getD 0 Rf.nil) = 0 from by decide, show ([⟨1, 2, 0, 0⟩] : List Rf).set 0 ((([⟨1, 2, 0, 0⟩] : List Rf).getD 0 Rf.nil).wt (tgOf 1 0 10 (([⟨1, 2, 0, 0⟩] : List Rf).getD 0 Rf.nil))) = [⟨1, 2, 0, 20⟩] from by rfl] at N1
  go_wp2_with fail
  refine N1.out.mono ?_
  rintro e w2 ⟨rfl, h1, m1⟩
  have H1 := Lib.hid h1
  have M1 := Lib.hid m1
  clear h1 m1 N1
  have N2 := Lib.hid (rnext_at H1.out (by decide) (by decide) 1 0 (by decide) rfl (fun k hk => absurd hk (Nat.not_lt_zero _)) 0 5 (by decide) (by decide) (by decide) (by decide))
  rw [show rkOf 1 0 0 (([⟨1, 2, 0, 20⟩] : List Rf).getD 0 Rf.nil) = 20 from by decide, show ([⟨1, 2, 0, 20⟩] : List Rf).set 0 ((([⟨1, 2, 0, 20⟩] : List Rf).getD 0 Rf.nil).wt (tgOf 1 0 5 (([⟨1, 2, 0, 20⟩] : List Rf).getD 0 Rf.nil))) = [⟨1, 2, 0, 30⟩] from by rfl] at N2
  go_wp2_with fail
  refine N2.out.mono ?_
  rintro e w3 ⟨rfl, h1, m1⟩
  have H2 := Lib.hid h1
  have M2 := Lib.hid (M1.out.trans m1)
  clear h1 m1 N2
  have N3 := Lib.hid (rsent H2.out (by decide) 50 (by decide) (by decide))
  go_wp2_with fail
  refine N3.out.mono ?_
  rintro e w4 ⟨rfl, h1, m1⟩
  have H3 := Lib.hid (show RanksAt w4 (w.heap.size + 1) (w.heap.size + 1) 1 50 ve [⟨1, 2, 0, 30⟩] from h1)
  have M3 := Lib.hid (M2.out.trans m1)
  clear h1 m1 N3
  have N4 := Lib.hid (rnext_at H3.out (by decide) (by decide) 1 0 (by decide) rfl (fun k hk => absurd hk (Nat.not_lt_zero _)) 0 1 (by decide) (by decide) (by decide) (by decide))
  rw [show rkOf 1 50 0 (([⟨1, 2, 0, 30⟩] : List Rf).getD 0 Rf.nil) = 50 from by decide, show ([⟨1, 2, 0, 30⟩] : List Rf).set 0 ((([⟨1, 2, 0, 30⟩] : List Rf).getD 0 Rf.nil).wt (tgOf 1 50 1 (([⟨1, 2, 0, 30⟩] : List Rf).getD 0 Rf.nil))) = [⟨1, 2, 0, 52⟩] from by rfl] at N4
  go_wp2_with fail
  refine N4.out.mono ?_
  rintro e w5 ⟨rfl, h1, m1⟩
  have H4 := Lib.hid h1
  have M4 := Lib.hid (M3.out.trans m1)
  clear h1 m1 N4
  have N5 := Lib.hid (rnext_at H4.out (by decide) (by decide) 1 0 (by decide) rfl (fun k hk => absurd hk (Nat.not_lt_zero _)) 0 1 (by decide) (by decide) (by decide) (by decide))
  rw [show rkOf 1 50 0 (([⟨1, 2, 0, 52⟩] : List Rf).getD 0 Rf.nil) = 52 from by decide] at N5
  go_wp2_with fail
  refine N5.out.mono ?_
  rintro e w6 ⟨rfl, h1, m1⟩
  have H5 := Lib.hid h1
  have M5 := Lib.hid (M4.out.trans m1)
  clear h1 m1 N5
  have N6 := Lib.hid (rvirtual H5.out)
  go_wp2_with fail
  refine N6.out.mono ?_
  rintro e w7 ⟨rfl, rfl⟩
  have FIN := Lib.hid (M5.out.below B0.out (fun j hj => by have := (H0.out.inlt hj).1; omega) (by have := S0.out; omega))
  go_wp2
  go_ret
  exact ⟨rfl, FIN.out⟩
set_option maxRecDepth 100000 in
theorem walk_rankNobody (now : Int) (h0 : 0 ≤ now) (h1 : now ≤ 18446744073709551615) (id : Int) (i0 : 0 ≤ id) (i1 : id ≤ 4294967295) (n : Int) (n0 : 0 ≤ n) (n1 : n ≤ 18446744073709551615) (w : World) :
    Calls Try.prog 12 #[.int .u64 now, .int .u32 id, .int .u64 n] w fun e w' => e = .returned (.bool true) ∧ Below w.heap.size w w' := by
  have NX := Lib.hid (fun W => rnext_nil W id now n)
  have SN := Lib.hid (fun W => rsent_nil W n)
  have LV := Lib.hid (fun W => lives16 W)
  have LY := Lib.hid (fun W => rlay_nil W n none 0 0)
  go_enter Try.func12, Try.ntmps12
  go_wp2_with (first
    | (go_at_call 62; refine (NX.out _).mono ?_; rintro e w' ⟨rfl, rfl⟩)
    | (go_at_call 58; refine (SN.out _).mono ?_; rintro e w' ⟨rfl, rfl⟩)
    | (go_at_call 64; refine (rvirtual_nil _).mono ?_; rintro e w' ⟨rfl, rfl⟩)
    | (go_at_call 66; refine (rtags_nil _).mono ?_; rintro e w' ⟨rfl, rfl⟩)
    | (go_at_call 60; refine (LY.out _).mono ?_; rintro e w' ⟨rfl, rfl⟩)
    | (go_at_call 54; refine (LV.out _).mono ?_; rintro e w' ⟨rfl, b9⟩))
  go_ret
  exact ⟨rfl, b9⟩
end Go.Proofs.Ytnnbkooikimedaa
