/-
  pacemakerlaw39.TracePuts, walked. No condition.
-/
import Derived.Test.YtapjebhdgcpdjaaTc10
import Derived.Test.YtapjebhdgcpdjaaTc8
import Derived.Deep.CutBlock
import Derived.Deep.DeepCutAuto
namespace Go.Proofs.Ytapjebhdgcpdjaa
set_option linter.unusedVariables false
set_option linter.unusedSimpArgs false
open Go.ChangeShapes Go.WideShapes Go.ChangeAt Go.RowKit
attribute [-go_sem] run_index_string binOp_string_eql binOp_string_neq run_string_add_if run_slice_string_from_if run_slice_string_to_if
attribute [local go_sem] index_bt add_fits slice_from slice_to eql_str neq_str alloc_drewN setCell_drewN

set_option maxRecDepth 100000 in
set_option maxHeartbeats 4000000 in
theorem puts39 (a : Option Addr) (c : Nat) (l : List Rec) {w : World} (hr : RowRc w a l.length l) (hl : ¬ (l.length : Int) > 100) (s : ByteArray) (hs : ¬ (s.size : Int) > 5000)
    (T : ByteArray) (E : Int) (B : Bool) (hEB : (E = 0 ∧ B = true) ∨ (E = 6 ∧ B = false))
    (PT : Hid (∀ W v, SRc W v l → Calls Try.prog 31 #[v] W fun e w' => e = .returned (.tuple #[.string T, .int .i64 E]) ∧ Below W.heap.size W w'))
    (RP : Hid (∀ W v, SRc W v l → Calls Try.prog 32 #[v] W fun e w' => e = .returned (.tuple #[.string T, .bool B]) ∧ Below W.heap.size W w')) :
    Calls Try.prog 8 #[.slice a l.length c, .string s] w fun e w' => e = .returned (.bool true) ∧ Below w.heap.size w w' := by
  have HSR := Lib.hid (SRc.of_row (c := c) hr)
  obtain ⟨-, -, hok, hc⟩ := hr
  have HOK := Lib.hid hok; have HC := Lib.hid hc
  have RD := Lib.hid (fun W => tcread s (by omega) W)
  have RR := Lib.hid (fun W => rread39 s (by omega) W)
  clear hok hc
  rcases hEB with ⟨rfl, rfl⟩ | ⟨rfl, rfl⟩
  · go_enter Try.func8, Try.ntmps8
    go_wp2
    go_loopw [26] (fun x wr => ∃ k : Nat, k ≤ l.length ∧ x = .int .i64 k ∧ Below w.heap.size w wr) (fun x _ => l.length - (intOf x).toNat)
    case atStart => exact ⟨0, Nat.zero_le _, rfl, Below.refl _ _⟩
    case round =>
      obtain ⟨k, hk, rfl, hbw⟩ := hrel
      have hsize := hbw.size
      by_cases hlt : k < l.length
      · obtain ⟨b, off, rfl, hb, hcc⟩ := HC.out (by omega)
        obtain ⟨c0, c1, c2, c3, c4, c5⟩ := hcc k hlt
        have c0 := (hbw.cell (p := ⟨b, off + k * 6, none⟩) hb).trans c0
        have c1 := (hbw.cell (p := ⟨b, off + k * 6 + 1, none⟩) hb).trans c1
        have c2 := (hbw.cell (p := ⟨b, off + k * 6 + 2, none⟩) hb).trans c2
        have c3 := (hbw.cell (p := ⟨b, off + k * 6 + 3, none⟩) hb).trans c3
        have c4 := (hbw.cell (p := ⟨b, off + k * 6 + 4, none⟩) hb).trans c4
        have c5 := (hbw.cell (p := ⟨b, off + k * 6 + 5, none⟩) hb).trans c5
        have hx := HOK.out _ (getD_mem_rec hlt)
        have x0 : (0 : Int) ≤ (k : Int) := by omega
        have x1 : (k : Int) < (l.length : Int) := by omega
        obtain ⟨x, hxe⟩ : ∃ x, l.getD k Rec.nil = x := ⟨_, rfl⟩
        rw [hxe] at hx c0 c1 c2 c3 c4 c5
        have RA := Lib.hid (fun W => tright_any x hx W)
        have RB := Lib.hid (fun W => rright39_any x hx W)
        have HB := Lib.hid hbw
        clear hx hxe hbw hcc
        obtain ⟨q, hq⟩ : ∃ q, decide x.rt = q := ⟨_, rfl⟩
        rw [hq] at RA RB
        clear hq
        obtain ⟨xt, xk, xf, xi, xn, xc⟩ := x
        unfold Rec.val at RA RB
        simp only at c0 c1 c2 c3 c4 c5 RA RB
        have gq : (q != q) = false := by cases q <;> rfl
        go_upto_region 6 with (fail)
        refine wp_genc ?_
        intro v1 hv1
        have XB : Below w.heap.size w v1 := by
          have XB0 := HB.out
          rw [hv1]
          (repeat' (first | (with_reducible exact Below.refl _ _) | (with_reducible assumption) | (with_reducible refine below_drewN _ ?_) | (with_reducible refine Below.drew ?_) | (with_reducible refine Below.setCell ?_ (by first | omega | (simp; done) | (simp; omega)) _) | (with_reducible refine Below.alloc ?_ (by first | omega | (simp; done) | (simp; omega)) _)))
        have X9 : v1.heap[wr.heap.size]? = some (.cells #[.int .u64 xt, .int .i64 xk, .int .u32 xf, .int .u32 xi, .int .u64 xn, .int .i64 xc] 64 (0, 0)) := by
          rw [hv1]
          (repeat' (first | (with_reducible exact heap_alloc_new _ _) | (with_reducible refine blk_drew ?_)))
        obtain ⟨B9, hB9⟩ : ∃ B, B = wr.heap.size := ⟨_, rfl⟩
        rw [← hB9] at X9
        try rw [← hB9]
        clear hv1 hB9 c0 c1 c2 c3 c4 c5
        have SC : Hid (∀ v, Below v1.heap.size v1 v → v.cell? ⟨B9, 0, none⟩ = some (.int .u64 xt) ∧ v.cell? ⟨B9, 1, none⟩ = some (.int .i64 xk) ∧ v.cell? ⟨B9, 2, none⟩ = some (.int .u32 xf) ∧ v.cell? ⟨B9, 3, none⟩ = some (.int .u32 xi) ∧ v.cell? ⟨B9, 4, none⟩ = some (.int .u64 xn) ∧ v.cell? ⟨B9, 5, none⟩ = some (.int .i64 xc)) := Lib.hid fun v h => by
          have Y := blk_call h X9
          obtain ⟨y0, y1, y2, y3, y4, y5, -⟩ := at6 Y
          exact ⟨y0, y1, y2, y3, y4, y5⟩
        obtain ⟨c0, c1, c2, c3, c4, c5⟩ := SC.out _ (Below.refl _ _)
        have HXB := Lib.hid XB
        have hs1 := XB.size
        clear X9 XB
        go_region_held3 (fun v => v.cell? ⟨B9, 0, none⟩ = some (.int .u64 xt) ∧ v.cell? ⟨B9, 1, none⟩ = some (.int .i64 xk) ∧ v.cell? ⟨B9, 2, none⟩ = some (.int .u32 xf) ∧ v.cell? ⟨B9, 3, none⟩ = some (.int .u32 xi) ∧ v.cell? ⟨B9, 4, none⟩ = some (.int .u64 xn) ∧ v.cell? ⟨B9, 5, none⟩ = some (.int .i64 xc)) ((first | exact ⟨c0, c1, c2, c3, c4, c5⟩ | exact SC.out _ h4' | exact SC.out _ h3' | exact SC.out _ (by (repeat' (first | (with_reducible exact Below.refl _ _) | (with_reducible exact h3') | (with_reducible refine below_drewN _ ?_) | (with_reducible refine Below.drew ?_))))))
          (first
            | (go_at_call 30; refine (RB.out _).mono ?_; rintro e w4 ⟨rfl, h4⟩; have h4' : Below v1.heap.size v1 w4 := bel_call h4 (by (repeat' (first | (with_reducible exact Below.refl _ _) | (with_reducible exact h3') | (with_reducible refine below_drewN _ ?_) | (with_reducible refine Below.drew ?_)))) (Nat.le_refl _))
            | (go_at_call 29; refine (RA.out _).mono ?_; rintro e w3 ⟨rfl, h3⟩; have h3' : Below v1.heap.size v1 w3 := bel_call h3 (by (repeat' (first | (with_reducible exact Below.refl _ _) | (with_reducible exact h3') | (with_reducible refine below_drewN _ ?_) | (with_reducible refine Below.drew ?_)))) (Nat.le_refl _))
            | fail)
        go_wp2
        go_roundw
        case rel =>
          refine ⟨k + 1, by omega, by go_num, ?_⟩
          have := HXB.out.trans (h4'.mono hs1)
          (repeat' (first | (with_reducible exact Below.refl _ _) | (with_reducible assumption) | (with_reducible refine below_drewN _ ?_) | (with_reducible refine Below.drew ?_) | (with_reducible refine Below.setCell ?_ (by first | omega | (simp; done) | (simp; omega)) _) | (with_reducible refine Below.alloc ?_ (by first | omega | (simp; done) | (simp; omega)) _)))
        case measure => simp [intOf] <;> omega
      · have ek : ¬ ((k : Int) < (l.length : Int)) := by omega
        have HS0 := Lib.hid (HSR.out.later hbw)
        have HB := Lib.hid hbw
        clear hbw
        go_wp2_with fail
        refine (PT.out _ _ HS0.out).mono ?_
        rintro e w1 ⟨rfl, h1⟩
        have HS1 := Lib.hid (HS0.out.later h1)
        have HB1 := Lib.hid (HB.out.trans (h1.mono hsize))
        have hz1 := HB1.out.size
        clear h1
        go_wp2_with fail
        refine (RP.out _ _ HS1.out).mono ?_
        rintro e w2 ⟨rfl, h2⟩
        have HB2 := Lib.hid (HB1.out.trans (h2.mono hz1))
        have hz2 := HB2.out.size
        clear h2
        go_wp2_with fail
        refine (RD.out _).mono ?_
        rintro e w3 ⟨v3, k3, rfl, hk3, ho3, h3⟩
        have HB3 := Lib.hid (HB2.out.trans (h3.mono hz2))
        have hz3 := HB3.out.size
        have HR3 := Lib.hid (SRc.of_own ho3)
        clear h3 ho3
        go_wp2_with fail
        refine (RR.out _).mono ?_
        rintro e w4 ⟨v4, k4, rfl, hk4, ho4, h4⟩
        have HB4 := Lib.hid (HB3.out.trans (h4.mono hz3))
        have hz4 := HB4.out.size
        have HR4 := Lib.hid (SRc.of_own ho4)
        have HR3b := Lib.hid (HR3.out.later h4)
        have ek4 : k4 = k3 := isrd_one hk4 hk3
        subst ek4
        have hlen : (rl s k4).length ≤ 100000 := by have := isrd_size hk3; rw [rl_len]; omega
        have SM := Lib.hid (same39 hlen HR3b.out HR4.out)
        clear h4 ho4 hk3 hk4 hlen
        go_wp2_with fail
        refine (SM.out).mono ?_
        rintro e w5 ⟨rfl, h5⟩
        have HB5 := Lib.hid (HB4.out.trans (h5.mono hz4))
        have hz5 := HB5.out.size
        clear h5
        go_wp2_with fail
        refine (lives39 _).mono ?_
        rintro e w6 ⟨rfl, h6⟩
        go_wp2
        go_ret
        exact ⟨rfl, HB5.out.trans (h6.mono hz5)⟩
  · go_enter Try.func8, Try.ntmps8
    go_wp2
    go_loopw [26] (fun x wr => ∃ k : Nat, k ≤ l.length ∧ x = .int .i64 k ∧ Below w.heap.size w wr) (fun x _ => l.length - (intOf x).toNat)
    case atStart => exact ⟨0, Nat.zero_le _, rfl, Below.refl _ _⟩
    case round =>
      obtain ⟨k, hk, rfl, hbw⟩ := hrel
      have hsize := hbw.size
      by_cases hlt : k < l.length
      · obtain ⟨b, off, rfl, hb, hcc⟩ := HC.out (by omega)
        obtain ⟨c0, c1, c2, c3, c4, c5⟩ := hcc k hlt
        have c0 := (hbw.cell (p := ⟨b, off + k * 6, none⟩) hb).trans c0
        have c1 := (hbw.cell (p := ⟨b, off + k * 6 + 1, none⟩) hb).trans c1
        have c2 := (hbw.cell (p := ⟨b, off + k * 6 + 2, none⟩) hb).trans c2
        have c3 := (hbw.cell (p := ⟨b, off + k * 6 + 3, none⟩) hb).trans c3
        have c4 := (hbw.cell (p := ⟨b, off + k * 6 + 4, none⟩) hb).trans c4
        have c5 := (hbw.cell (p := ⟨b, off + k * 6 + 5, none⟩) hb).trans c5
        have hx := HOK.out _ (getD_mem_rec hlt)
        have x0 : (0 : Int) ≤ (k : Int) := by omega
        have x1 : (k : Int) < (l.length : Int) := by omega
        obtain ⟨x, hxe⟩ : ∃ x, l.getD k Rec.nil = x := ⟨_, rfl⟩
        rw [hxe] at hx c0 c1 c2 c3 c4 c5
        have RA := Lib.hid (fun W => tright_any x hx W)
        have RB := Lib.hid (fun W => rright39_any x hx W)
        have HB := Lib.hid hbw
        clear hx hxe hbw hcc
        obtain ⟨q, hq⟩ : ∃ q, decide x.rt = q := ⟨_, rfl⟩
        rw [hq] at RA RB
        clear hq
        obtain ⟨xt, xk, xf, xi, xn, xc⟩ := x
        unfold Rec.val at RA RB
        simp only at c0 c1 c2 c3 c4 c5 RA RB
        have gq : (q != q) = false := by cases q <;> rfl
        go_upto_region 6 with (fail)
        refine wp_genc ?_
        intro v1 hv1
        have XB : Below w.heap.size w v1 := by
          have XB0 := HB.out
          rw [hv1]
          (repeat' (first | (with_reducible exact Below.refl _ _) | (with_reducible assumption) | (with_reducible refine below_drewN _ ?_) | (with_reducible refine Below.drew ?_) | (with_reducible refine Below.setCell ?_ (by first | omega | (simp; done) | (simp; omega)) _) | (with_reducible refine Below.alloc ?_ (by first | omega | (simp; done) | (simp; omega)) _)))
        have X9 : v1.heap[wr.heap.size]? = some (.cells #[.int .u64 xt, .int .i64 xk, .int .u32 xf, .int .u32 xi, .int .u64 xn, .int .i64 xc] 64 (0, 0)) := by
          rw [hv1]
          (repeat' (first | (with_reducible exact heap_alloc_new _ _) | (with_reducible refine blk_drew ?_)))
        obtain ⟨B9, hB9⟩ : ∃ B, B = wr.heap.size := ⟨_, rfl⟩
        rw [← hB9] at X9
        try rw [← hB9]
        clear hv1 hB9 c0 c1 c2 c3 c4 c5
        have SC : Hid (∀ v, Below v1.heap.size v1 v → v.cell? ⟨B9, 0, none⟩ = some (.int .u64 xt) ∧ v.cell? ⟨B9, 1, none⟩ = some (.int .i64 xk) ∧ v.cell? ⟨B9, 2, none⟩ = some (.int .u32 xf) ∧ v.cell? ⟨B9, 3, none⟩ = some (.int .u32 xi) ∧ v.cell? ⟨B9, 4, none⟩ = some (.int .u64 xn) ∧ v.cell? ⟨B9, 5, none⟩ = some (.int .i64 xc)) := Lib.hid fun v h => by
          have Y := blk_call h X9
          obtain ⟨y0, y1, y2, y3, y4, y5, -⟩ := at6 Y
          exact ⟨y0, y1, y2, y3, y4, y5⟩
        obtain ⟨c0, c1, c2, c3, c4, c5⟩ := SC.out _ (Below.refl _ _)
        have HXB := Lib.hid XB
        have hs1 := XB.size
        clear X9 XB
        go_region_held3 (fun v => v.cell? ⟨B9, 0, none⟩ = some (.int .u64 xt) ∧ v.cell? ⟨B9, 1, none⟩ = some (.int .i64 xk) ∧ v.cell? ⟨B9, 2, none⟩ = some (.int .u32 xf) ∧ v.cell? ⟨B9, 3, none⟩ = some (.int .u32 xi) ∧ v.cell? ⟨B9, 4, none⟩ = some (.int .u64 xn) ∧ v.cell? ⟨B9, 5, none⟩ = some (.int .i64 xc)) ((first | exact ⟨c0, c1, c2, c3, c4, c5⟩ | exact SC.out _ h4' | exact SC.out _ h3' | exact SC.out _ (by (repeat' (first | (with_reducible exact Below.refl _ _) | (with_reducible exact h3') | (with_reducible refine below_drewN _ ?_) | (with_reducible refine Below.drew ?_))))))
          (first
            | (go_at_call 30; refine (RB.out _).mono ?_; rintro e w4 ⟨rfl, h4⟩; have h4' : Below v1.heap.size v1 w4 := bel_call h4 (by (repeat' (first | (with_reducible exact Below.refl _ _) | (with_reducible exact h3') | (with_reducible refine below_drewN _ ?_) | (with_reducible refine Below.drew ?_)))) (Nat.le_refl _))
            | (go_at_call 29; refine (RA.out _).mono ?_; rintro e w3 ⟨rfl, h3⟩; have h3' : Below v1.heap.size v1 w3 := bel_call h3 (by (repeat' (first | (with_reducible exact Below.refl _ _) | (with_reducible exact h3') | (with_reducible refine below_drewN _ ?_) | (with_reducible refine Below.drew ?_)))) (Nat.le_refl _))
            | fail)
        go_wp2
        go_roundw
        case rel =>
          refine ⟨k + 1, by omega, by go_num, ?_⟩
          have := HXB.out.trans (h4'.mono hs1)
          (repeat' (first | (with_reducible exact Below.refl _ _) | (with_reducible assumption) | (with_reducible refine below_drewN _ ?_) | (with_reducible refine Below.drew ?_) | (with_reducible refine Below.setCell ?_ (by first | omega | (simp; done) | (simp; omega)) _) | (with_reducible refine Below.alloc ?_ (by first | omega | (simp; done) | (simp; omega)) _)))
        case measure => simp [intOf] <;> omega
      · have ek : ¬ ((k : Int) < (l.length : Int)) := by omega
        have HS0 := Lib.hid (HSR.out.later hbw)
        have HB := Lib.hid hbw
        clear hbw
        go_wp2_with fail
        refine (PT.out _ _ HS0.out).mono ?_
        rintro e w1 ⟨rfl, h1⟩
        have HS1 := Lib.hid (HS0.out.later h1)
        have HB1 := Lib.hid (HB.out.trans (h1.mono hsize))
        have hz1 := HB1.out.size
        clear h1
        go_wp2_with fail
        refine (RP.out _ _ HS1.out).mono ?_
        rintro e w2 ⟨rfl, h2⟩
        have HB2 := Lib.hid (HB1.out.trans (h2.mono hz1))
        have hz2 := HB2.out.size
        clear h2
        go_wp2_with fail
        refine (RD.out _).mono ?_
        rintro e w3 ⟨v3, k3, rfl, hk3, ho3, h3⟩
        have HB3 := Lib.hid (HB2.out.trans (h3.mono hz2))
        have hz3 := HB3.out.size
        have HR3 := Lib.hid (SRc.of_own ho3)
        clear h3 ho3
        go_wp2_with fail
        refine (RR.out _).mono ?_
        rintro e w4 ⟨v4, k4, rfl, hk4, ho4, h4⟩
        have HB4 := Lib.hid (HB3.out.trans (h4.mono hz3))
        have hz4 := HB4.out.size
        have HR4 := Lib.hid (SRc.of_own ho4)
        have HR3b := Lib.hid (HR3.out.later h4)
        have ek4 : k4 = k3 := isrd_one hk4 hk3
        subst ek4
        have hlen : (rl s k4).length ≤ 100000 := by have := isrd_size hk3; rw [rl_len]; omega
        have SM := Lib.hid (same39 hlen HR3b.out HR4.out)
        clear h4 ho4 hk3 hk4 hlen
        go_wp2_with fail
        refine (SM.out).mono ?_
        rintro e w5 ⟨rfl, h5⟩
        have HB5 := Lib.hid (HB4.out.trans (h5.mono hz4))
        have hz5 := HB5.out.size
        clear h5
        go_wp2_with fail
        refine (lives39 _).mono ?_
        rintro e w6 ⟨rfl, h6⟩
        go_wp2
        go_ret
        exact ⟨rfl, HB5.out.trans (h6.mono hz5)⟩
theorem walk_tracePuts (a : Option Addr) (n c : Nat) (l : List Rec) {w : World} (hr : RowRc w a n l) (hcap : n ≤ c) (s : ByteArray) (hs : s.size ≤ maxLen) :
    Calls Try.prog 8 #[.slice a n c, .string s] w fun e w' => e = .returned (.bool true) ∧ Below w.heap.size w w' := by
  have hn := hr.1
  have hm := hr.2.1
  have hok := hr.2.2.1
  by_cases h1 : (n : Int) > 100
  · clear hr hn hok
    go_enter Try.func8, Try.ntmps8
    go_wp2_with fail
    refine (lives39 _).mono ?_
    rintro e w1 ⟨rfl, hb⟩
    go_wp2
    go_ret
    exact ⟨rfl, hb⟩
  · by_cases h2 : (s.size : Int) > 5000
    · clear hr hn hok
      go_enter Try.func8, Try.ntmps8
      go_wp2_with fail
      refine (lives39 _).mono ?_
      rintro e w1 ⟨rfl, hb⟩
      go_wp2
      go_ret
      exact ⟨rfl, hb⟩
    · subst hn
      by_cases hall : allR39 l
      · exact puts39 a c l hr h1 s h2 (tput l) 0 true (Or.inl ⟨rfl, rfl⟩)
          (Lib.hid fun W v h => tcPut l (by omega) hok h _ (fun _ => rfl) (fun h => absurd hall h)) (Lib.hid fun W v h => rput39 l (by omega) hok h _ (fun _ => rfl) (fun h => absurd hall h))
      · exact puts39 a c l hr h1 s h2 ⟨#[]⟩ 6 false (Or.inr ⟨rfl, rfl⟩)
          (Lib.hid fun W v h => tcPut l (by omega) hok h _ (fun h => absurd h hall) (fun _ => rfl)) (Lib.hid fun W v h => rput39 l (by omega) hok h _ (fun h => absurd h hall) (fun _ => rfl))
end Go.Proofs.Ytapjebhdgcpdjaa
