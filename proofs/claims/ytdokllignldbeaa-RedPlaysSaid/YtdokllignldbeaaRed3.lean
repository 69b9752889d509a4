/-
  What the document's answer for layer 18's step returns for any configuration and state. No condition but that the numbers are words.
-/
import Derived.Test.YtdokllignldbeaaRed2
namespace Go.Proofs.Ytdokllignldbeaa
set_option linter.unusedVariables false
set_option linter.unusedSimpArgs false
open Go.ChangeShapes Go.WideShapes Go.ChangeAt Go.RowKit
attribute [local go_sem] alloc_drewN setCell_drewN

/-- Four numbers of a configuration in a block. -/
def At4 (w : World) (b : Nat) (lo hi mo sw : Int) : Prop := b < w.heap.size ∧ w.cell? ⟨b, 0, none⟩ = some (.int .u64 lo) ∧ w.cell? ⟨b, 1, none⟩ = some (.int .u64 hi) ∧ w.cell? ⟨b, 2, none⟩ = some (.int .u64 mo) ∧ w.cell? ⟨b, 3, none⟩ = some (.int .i64 sw)
theorem At4.below {w w' : World} {B b : Nat} {lo hi mo sw : Int} (h : At4 w b lo hi mo sw) (k : Below B w w') (hb : b < B) : At4 w' b lo hi mo sw := by
  obtain ⟨h0, h1, h2, h3, h4⟩ := h
  exact ⟨Nat.lt_of_lt_of_le h0 k.size, (k.cell (p := ⟨b, 0, none⟩) hb).trans h1, (k.cell (p := ⟨b, 1, none⟩) hb).trans h2, (k.cell (p := ⟨b, 2, none⟩) hb).trans h3, (k.cell (p := ⟨b, 3, none⟩) hb).trans h4⟩
theorem At4.new (w : World) (lo hi mo sw : Int) (t : TypeId) : At4 (w.alloc (.cells #[.int .u64 lo, .int .u64 hi, .int .u64 mo, .int .i64 sw] t)) w.heap.size lo hi mo sw := by
  refine ⟨by simp, ?_, ?_, ?_, ?_⟩ <;> simp [go_sem]
theorem below_onto {w a b : World} {B : Nat} (h : Below B w a) (k : Below a.heap.size a b) (hB : B ≤ a.heap.size) : Below B w b := h.trans (k.mono hB)

set_option maxRecDepth 100000 in
set_option maxHeartbeats 2000000 in
theorem red_rstep (lo hi mo sw mean count x : Int) (l0 : 0 ≤ lo) (g0 : 0 ≤ hi) (m0 : 0 ≤ mo) (s0 : -9223372036854775808 ≤ sw) (s1 : sw ≤ 9223372036854775807) (n0 : 0 ≤ mean) (n1 : mean ≤ 18446744073709551615) (c0 : 0 ≤ count) (c1 : count ≤ 18446744073709551615) (x0 : 0 ≤ x) (x1 : x ≤ 18446744073709551615) (w : World) :
    Calls Try.prog 37 #[.agg #[.int .u64 lo, .int .u64 hi, .int .u64 mo, .int .i64 sw], .int .u64 mean, .int .u64 count, .int .u64 x] w fun e w' => e = .returned (.tuple #[.int .u64 (rst lo hi mo sw mean count x).1, .int .u64 (rst lo hi mo sw mean count x).2.1, .bool (rst lo hi mo sw mean count x).2.2]) ∧ Below w.heap.size w w' := by
  obtain ⟨W0, hW0⟩ : ∃ W0, w.alloc (.cells #[.int .u64 lo, .int .u64 hi, .int .u64 mo, .int .i64 sw] 52) = W0 := ⟨_, rfl⟩
  have A0 : At4 W0 w.heap.size lo hi mo sw := by rw [← hW0]; exact At4.new w lo hi mo sw _
  have B0 : Below w.heap.size w W0 := by rw [← hW0]; exact below_cells w _
  have HA0 := Lib.hid A0; have HB0 := Lib.hid B0
  have CK : Calls Try.prog 34 #[.agg #[.int .u64 lo, .int .u64 hi, .int .u64 mo, .int .i64 sw]] W0 fun e w' => e = .returned (.bool (rok lo hi mo sw)) ∧ Below W0.heap.size W0 w' := (red_may lo hi mo sw l0 g0 m0 W0).mono (by rintro e w' ⟨rfl, rfl⟩; exact ⟨rfl, below_cells _ _⟩)
  have CK := Lib.hid CK
  obtain ⟨z0, a0, a1, a2, a3⟩ := A0
  clear B0
  unfold rst
  by_cases hok : rok lo hi mo sw = true
  · have PT := Lib.hid (fun m h1 h2 W => red_rpart lo hi mo sw m hok l0 h1 h2 W)
    have PB := Lib.hid (fun m h1 h2 => (rp_bd hok l0 h1 h2 : _ ∧ _ ∧ 0 ≤ rp lo hi mo m ∧ rp lo hi mo m ≤ 65536))
    rw [if_pos hok]
    rw [hok] at CK
    obtain ⟨a, b, c, d, e, f⟩ := rok_iff.1 hok
    clear hok
    obtain ⟨q0, q1⟩ := shr_bd (sl sw) n0
    have FO := Lib.hid (fun W => follow_ref mean x sw n0 n1 x0 x1 s0 s1 W)
    obtain ⟨f0, f1⟩ := cap_wd (show 0 ≤ mean - mean / 2 ^ sl sw + x by omega)
    generalize cap (mean - mean / 2 ^ sl sw + x) = me at *
    have ME := Lib.hid (fun W => mean_ref me sw f0 f1 s0 s1 W)
    obtain ⟨r0, r1⟩ := shr_bd (sl sw) f0
    generalize me / 2 ^ sl sw = m at *
    clear q0 q1
    by_cases h1 : m < lo
    · rw [if_pos h1]
      dsimp only
      go_enter Try.func37, Try.ntmps37
      go_wp2_with fail
      refine (CK.out).mono ?_
      rintro e w1 ⟨rfl, b⟩
      have HA1 := Lib.hid (HA0.out.below b HA0.out.1)
      have HB1 := Lib.hid (below_onto HB0.out b HB0.out.size)
      obtain ⟨z1, d01, d11, d21, d31⟩ := HA1.out
      clear b
      go_wp2_with fail
      refine (FO.out _).mono ?_
      rintro e w2 ⟨rfl, b⟩
      have HA2 := Lib.hid (HA1.out.below b HA1.out.1)
      have HB2 := Lib.hid (below_onto HB1.out b HB1.out.size)
      obtain ⟨z2, d02, d12, d22, d32⟩ := HA2.out
      clear b
      go_wp2_with fail
      refine (ME.out _).mono ?_
      rintro e w' ⟨rfl, rfl⟩
      go_wp2
      go_ret3
      exact ⟨rfl, HB2.out⟩
    · by_cases h2 : hi ≤ m
      · rw [if_neg h1, if_pos h2]
        dsimp only
        go_enter Try.func37, Try.ntmps37
        go_wp2_with fail
        refine (CK.out).mono ?_
        rintro e w1 ⟨rfl, b⟩
        have HA1 := Lib.hid (HA0.out.below b HA0.out.1)
        have HB1 := Lib.hid (below_onto HB0.out b HB0.out.size)
        obtain ⟨z1, d01, d11, d21, d31⟩ := HA1.out
        clear b
        go_wp2_with fail
        refine (FO.out _).mono ?_
        rintro e w2 ⟨rfl, b⟩
        have HA2 := Lib.hid (HA1.out.below b HA1.out.1)
        have HB2 := Lib.hid (below_onto HB1.out b HB1.out.size)
        obtain ⟨z2, d02, d12, d22, d32⟩ := HA2.out
        clear b
        go_wp2_with fail
        refine (ME.out _).mono ?_
        rintro e w' ⟨rfl, rfl⟩
        go_wp2
        go_ret3
        exact ⟨rfl, HB2.out⟩
      · rw [if_neg h1, if_neg h2]
        have AD := Lib.hid (fun W => add_ref count 1 c0 c1 (by decide) (by decide) W)
        obtain ⟨k0, k1⟩ := cap_wd (show 0 ≤ count + 1 by omega)
        generalize cap (count + 1) = cn at *
        have PT := Lib.hid (fun W => (PT.out m (by omega) (by omega) W).mono (R' := fun e w' => e = .returned (.int .u64 (rp lo hi mo m)) ∧ Below W.heap.size W w') (by rintro e w' ⟨rfl, rfl⟩; exact ⟨rfl, below_cells _ _⟩))
        obtain ⟨-, -, p0, p1⟩ := PB.out m (by omega) (by omega)
        generalize rp lo hi mo m = pr at *
        have MU := Lib.hid (fun W => mul_ref cn pr k0 k1 p0 (by omega) W)
        generalize cap (cn * pr) = pp at *
        clear PB
        by_cases h3 : 65536 ≤ pp
        · rw [if_pos h3]
          dsimp only
          go_enter Try.func37, Try.ntmps37
          go_wp2_with fail
          refine (CK.out).mono ?_
          rintro e w1 ⟨rfl, b⟩
          have HA1 := Lib.hid (HA0.out.below b HA0.out.1)
          have HB1 := Lib.hid (below_onto HB0.out b HB0.out.size)
          obtain ⟨z1, d01, d11, d21, d31⟩ := HA1.out
          clear b
          go_wp2_with fail
          refine (FO.out _).mono ?_
          rintro e w2 ⟨rfl, b⟩
          have HA2 := Lib.hid (HA1.out.below b HA1.out.1)
          have HB2 := Lib.hid (below_onto HB1.out b HB1.out.size)
          obtain ⟨z2, d02, d12, d22, d32⟩ := HA2.out
          clear b
          go_wp2_with fail
          refine (ME.out _).mono ?_
          rintro e w' ⟨rfl, rfl⟩
          go_wp2_with fail
          refine (AD.out _).mono ?_
          rintro e w3 ⟨rfl, b⟩
          have HA3 := Lib.hid (HA2.out.below b HA2.out.1)
          have HB3 := Lib.hid (below_onto HB2.out b HB2.out.size)
          obtain ⟨z3, d03, d13, d23, d33⟩ := HA3.out
          clear b
          go_wp2_with fail
          refine (PT.out _).mono ?_
          rintro e w4 ⟨rfl, b⟩
          have HA4 := Lib.hid (HA3.out.below b HA3.out.1)
          have HB4 := Lib.hid (below_onto HB3.out b HB3.out.size)
          obtain ⟨z4, d04, d14, d24, d34⟩ := HA4.out
          clear b
          go_wp2_with fail
          refine (MU.out _).mono ?_
          rintro e w5 ⟨rfl, b⟩
          have HA5 := Lib.hid (HA4.out.below b HA4.out.1)
          have HB5 := Lib.hid (below_onto HB4.out b HB4.out.size)
          obtain ⟨z5, d05, d15, d25, d35⟩ := HA5.out
          clear b
          go_wp2
          go_ret3
          exact ⟨rfl, HB5.out⟩
        · rw [if_neg h3]
          dsimp only
          go_enter Try.func37, Try.ntmps37
          go_wp2_with fail
          refine (CK.out).mono ?_
          rintro e w1 ⟨rfl, b⟩
          have HA1 := Lib.hid (HA0.out.below b HA0.out.1)
          have HB1 := Lib.hid (below_onto HB0.out b HB0.out.size)
          obtain ⟨z1, d01, d11, d21, d31⟩ := HA1.out
          clear b
          go_wp2_with fail
          refine (FO.out _).mono ?_
          rintro e w2 ⟨rfl, b⟩
          have HA2 := Lib.hid (HA1.out.below b HA1.out.1)
          have HB2 := Lib.hid (below_onto HB1.out b HB1.out.size)
          obtain ⟨z2, d02, d12, d22, d32⟩ := HA2.out
          clear b
          go_wp2_with fail
          refine (ME.out _).mono ?_
          rintro e w' ⟨rfl, rfl⟩
          go_wp2_with fail
          refine (AD.out _).mono ?_
          rintro e w3 ⟨rfl, b⟩
          have HA3 := Lib.hid (HA2.out.below b HA2.out.1)
          have HB3 := Lib.hid (below_onto HB2.out b HB2.out.size)
          obtain ⟨z3, d03, d13, d23, d33⟩ := HA3.out
          clear b
          go_wp2_with fail
          refine (PT.out _).mono ?_
          rintro e w4 ⟨rfl, b⟩
          have HA4 := Lib.hid (HA3.out.below b HA3.out.1)
          have HB4 := Lib.hid (below_onto HB3.out b HB3.out.size)
          obtain ⟨z4, d04, d14, d24, d34⟩ := HA4.out
          clear b
          go_wp2_with fail
          refine (MU.out _).mono ?_
          rintro e w5 ⟨rfl, b⟩
          have HA5 := Lib.hid (HA4.out.below b HA4.out.1)
          have HB5 := Lib.hid (below_onto HB4.out b HB4.out.size)
          obtain ⟨z5, d05, d15, d25, d35⟩ := HA5.out
          clear b
          go_wp2
          go_ret3
          exact ⟨rfl, HB5.out⟩
  · rw [if_neg hok]
    rw [Bool.not_eq_true] at hok
    rw [hok] at CK
    clear hok
    dsimp only
    go_enter Try.func37, Try.ntmps37
    go_wp2_with fail
    refine (CK.out).mono ?_
    rintro e w1 ⟨rfl, b⟩
    have HA1 := Lib.hid (HA0.out.below b HA0.out.1)
    have HB1 := Lib.hid (below_onto HB0.out b HB0.out.size)
    obtain ⟨z1, d01, d11, d21, d31⟩ := HA1.out
    clear b
    go_wp2
    go_ret3
    exact ⟨rfl, HB1.out⟩
end Go.Proofs.Ytdokllignldbeaa
