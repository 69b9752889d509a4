/-
  The laws of layer 5, walked: each returns true for any strings and numbers. No condition.
-/
import Derived.Test.YtmdaoicnbenfnaaSumCat
namespace Go.Proofs.Ytmdaoicnbenfnaa
set_option linter.unusedVariables false
set_option linter.unusedSimpArgs false
open Go.ChangeShapes Go.WideShapes Go.ChangeAt Go.RowKit
attribute [-go_sem] run_index_string binOp_string_eql binOp_string_neq run_string_add_if run_slice_string_from_if run_slice_string_to_if
attribute [local go_sem] index_bt add_fits slice_from slice_to eql_str neq_str alloc_drewN setCell_drewN conv_one conv_four conv_one_drew conv_four_two

/-- A number as a byte. -/
def u8 (c : Int) : UInt8 := UInt8.ofNat c.toNat
theorem u8_val (x : Int) (h0 : 0 ≤ x) (h1 : x ≤ 255) : ((u8 x).toNat : Int) = x := byte_of x h0 h1
theorem with_at (s : ByteArray) (k : Nat) (i c : Int) (hi : i = k) (hk : k < s.size) (hs : s.size ≤ 140737488355328) (c0 : 0 ≤ c) (c1 : c ≤ 255) (w : World) :
    Calls Try.prog 32 #[.string s, .int .i64 i, .int .u8 c] w fun e w' => e = .returned (.string (wth s k (u8 c))) ∧ Below w.heap.size w w' := by
  subst hi
  exact with_any s k c hk hs c0 c1 w

/-- A string with the two bytes of the word j other ones. -/
def two (s : ByteArray) (j : Nat) (x y : Int) : ByteArray := wth (wth s (2 * j) (u8 x)) (2 * j + 1) (u8 y)
theorem two_size (s : ByteArray) (j : Nat) (x y : Int) (h : 2 * j + 1 < s.size) : (two s j x y).size = s.size := by
  have h1 := wth_size s (2 * j) (u8 x) (by omega)
  exact (wth_size _ _ _ (by omega)).trans h1
theorem two_bt (s : ByteArray) (j : Nat) (x y : Int) (h : 2 * j + 1 < s.size) (i : Nat) (h0 : i ≠ 2 * j) (h1 : i ≠ 2 * j + 1) : bt (two s j x y) i = bt s i := by
  have e1 := wth_size s (2 * j) (u8 x) (by omega)
  unfold two
  rw [wth_bt _ _ _ (by omega), if_neg h1, wth_bt _ _ _ (by omega), if_neg h0]
theorem two_wd (s : ByteArray) (j : Nat) (x y : Int) (h : 2 * j + 1 < s.size) (x0 : 0 ≤ x) (x1 : x ≤ 255) (y0 : 0 ≤ y) (y1 : y ≤ 255) : wd (two s j x y) j = x * 256 + y := by
  have e1 := wth_size s (2 * j) (u8 x) (by omega)
  unfold wd two
  rw [wth_bt _ _ _ (by omega), if_neg (by omega), wth_bt _ _ _ (by omega), if_pos rfl, wth_bt _ _ _ (by omega), if_pos rfl, u8_val x x0 x1, u8_val y y0 y1]

theorem place (a : Int) (n : Nat) (h : 0 < n) : ∃ j : Nat, j < n ∧ a % 18446744073709551616 % (n : Int) = (j : Int) := by
  have h1 := Int.emod_nonneg (a % 18446744073709551616) (show (n : Int) ≠ 0 by omega)
  have h2 := Int.emod_lt_of_pos (a % 18446744073709551616) (show (0 : Int) < n by omega)
  exact ⟨(a % 18446744073709551616 % (n : Int)).toNat, by omega, by omega⟩

set_option maxHeartbeats 1000000 in
theorem walk_sumNought (s : ByteArray) (hs : s.size ≤ maxLen) (a : Int) (a0 : -9223372036854775808 ≤ a) (a1 : a ≤ 9223372036854775807) (w : World) :
    Calls Try.prog 9 #[.string s, .int .i64 a] w fun e w' => e = .returned (.bool true) ∧ Below w.heap.size w w' := by
  unfold maxLen at hs
  by_cases h5 : 5000 < s.size
  · go_enter Try.func9, Try.ntmps9
    go_wp2_with fail
    refine (lives5 _).mono ?_
    rintro e w5 ⟨rfl, h5⟩
    go_wp2
    go_ret
    exact ⟨rfl, h5⟩
  · by_cases h2 : s.size < 2
    · go_enter Try.func9, Try.ntmps9
      go_wp2_with fail
      refine (lives5 _).mono ?_
      rintro e w5 ⟨rfl, h5⟩
      go_wp2
      go_ret
      exact ⟨rfl, h5⟩
    · obtain ⟨j, hj, ej⟩ := place a (s.size / 2) (by omega)
      have q0 : 0 ≤ (s.size : Int) / 2 := by omega
      have q1 : 0 < (s.size : Int) / 2 := by omega
      have ej' : (IntKind.u64.wrap a).tmod ((s.size : Int) / 2) = (j : Int) := by
        have : ((s.size / 2 : Nat) : Int) = (s.size : Int) / 2 := by omega
        rw [← this, IntKind.wrap_u64, Int.tmod_eq_emod_of_nonneg (by omega)]; exact ej
      clear ej
      have hj2 : 2 * j + 1 < s.size := by omega
      have z1 := two_size s j 0 0 hj2
      have zw := two_wd s j 0 0 hj2 (by omega) (by omega) (by omega) (by omega)
      obtain ⟨n0, n1⟩ := inet_bd (two s j 0 0)
      have z2 := two_size (two s j 0 0) j (inet (two s j 0 0) / 256) (inet (two s j 0 0) % 256) (by omega)
      have zb := two_bt (two s j 0 0) j (inet (two s j 0 0) / 256) (inet (two s j 0 0) % 256) (by omega)
      have zv := two_wd (two s j 0 0) j (inet (two s j 0 0) / 256) (inet (two s j 0 0) % 256) (by omega) (by omega) (by omega) (by omega) (by omega)
      have zz := own_nought (two s j 0 0) (two (two s j 0 0) j (inet (two s j 0 0) / 256) (inet (two s j 0 0) % 256)) j z2 (by omega) zb (by omega) (by omega)
      have W1 := Lib.hid (wth_size s (2 * j) (u8 0) (by omega))
      have W2 := Lib.hid (show wth (wth s (2 * j) (u8 0)) (2 * j + 1) (u8 0) = two s j 0 0 from rfl)
      have W4 := Lib.hid (show wth (wth (two s j 0 0) (2 * j) (u8 (inet (two s j 0 0) / 256))) (2 * j + 1) (u8 (inet (two s j 0 0) % 256)) = two (two s j 0 0) j (inet (two s j 0 0) / 256) (inet (two s j 0 0) % 256) from rfl)
      have W3 := Lib.hid (wth_size (two s j 0 0) (2 * j) (u8 (inet (two s j 0 0) / 256)) (by omega))
      have Z1 := Lib.hid z1; have Z2 := Lib.hid z2; have ZZ := Lib.hid zz
      clear z1 z2 zz zb zv zw
      generalize two (two s j 0 0) j (inet (two s j 0 0) / 256) (inet (two s j 0 0) % 256) = u at *
      generalize two s j 0 0 = t at *
      generalize gn : inet t = n at *
      have GN := Lib.hid gn; clear gn
      go_enter Try.func9, Try.ntmps9
      go_wp2_with fail
      refine (with_at s (2 * j) _ 0 (by omega) (by omega) (by omega) (by omega) (by omega) _).mono ?_
      rintro e w1 ⟨rfl, h1⟩
      go_wp2_with fail
      refine (with_at _ (2 * j + 1) _ 0 (by omega) (by rw [W1.out]; omega) (by rw [W1.out]; omega) (by omega) (by omega) _).mono ?_
      rintro e w2 ⟨rfl, h2⟩
      rw [W2.out]
      go_wp2_with fail
      refine (inet_any t (by rw [Z1.out]; omega) _).mono ?_
      rintro e w' ⟨rfl, rfl⟩
      rw [GN.out]
      go_wp2_with fail
      refine (with_at t (2 * j) _ _ (by omega) (by rw [Z1.out]; omega) (by rw [Z1.out]; omega) (by omega) (by omega) _).mono ?_
      rintro e w3 ⟨rfl, h3⟩
      go_wp2_with fail
      refine (with_at _ (2 * j + 1) _ _ (by omega) (by rw [W3.out, Z1.out]; omega) (by rw [W3.out, Z1.out]; omega) (by omega) (by omega) _).mono ?_
      rintro e w4 ⟨rfl, h4⟩
      rw [W4.out]
      go_wp2_with fail
      refine (inet_any u (by rw [Z2.out, Z1.out]; omega) _).mono ?_
      rintro e w' ⟨rfl, rfl⟩
      rw [ZZ.out]
      go_wp2_with fail
      refine (lives5 _).mono ?_
      rintro e w5 ⟨rfl, h5⟩
      go_wp2
      go_ret
      exact ⟨rfl, Below.go h1 (Below.go h2 (Below.go h3 (Below.go h4 h5)))⟩

attribute [local go_sem high] index_at
set_option maxHeartbeats 1000000 in
theorem walk_sumUpdates (s : ByteArray) (hs : s.size ≤ maxLen) (a : Int) (a0 : -9223372036854775808 ≤ a) (a1 : a ≤ 9223372036854775807) (b : Int) (b0 : 0 ≤ b) (b1 : b ≤ 65535) (w : World) :
    Calls Try.prog 8 #[.string s, .int .i64 a, .int .u16 b] w fun e w' => e = .returned (.bool true) ∧ Below w.heap.size w w' := by
  unfold maxLen at hs
  by_cases h5 : 5000 < s.size
  · go_enter Try.func8, Try.ntmps8
    go_wp2_with fail
    refine (lives5 _).mono ?_
    rintro e w5 ⟨rfl, h5⟩
    go_wp2
    go_ret
    exact ⟨rfl, h5⟩
  · by_cases h2 : s.size < 2
    · go_enter Try.func8, Try.ntmps8
      go_wp2_with fail
      refine (lives5 _).mono ?_
      rintro e w5 ⟨rfl, h5⟩
      go_wp2
      go_ret
      exact ⟨rfl, h5⟩
    · obtain ⟨j, hj, ej⟩ := place a (s.size / 2) (by omega)
      have q0 : 0 ≤ (s.size : Int) / 2 := by omega
      have q1 : 0 < (s.size : Int) / 2 := by omega
      have ej' : (IntKind.u64.wrap a).tmod ((s.size : Int) / 2) = (j : Int) := by
        have : ((s.size / 2 : Nat) : Int) = (s.size : Int) / 2 := by omega
        rw [← this, IntKind.wrap_u64, Int.tmod_eq_emod_of_nonneg (by omega)]; exact ej
      clear ej
      have hj2 : 2 * j + 1 < s.size := by omega
      have z1 := two_size s j (b / 256) (b % 256) hj2
      have zw := two_wd s j (b / 256) (b % 256) hj2 (by omega) (by omega) (by omega) (by omega)
      rw [show b / 256 * 256 + b % 256 = b by omega] at zw
      have zu := upd_agree s (two s j (b / 256) (b % 256)) j z1 (by omega) (two_bt s j (b / 256) (b % 256) hj2)
      rw [zw] at zu
      obtain ⟨n0, n1⟩ := inet_bd s
      have W1 := Lib.hid (wth_size s (2 * j) (u8 (b / 256)) (by omega))
      have W2 := Lib.hid (show wth (wth s (2 * j) (u8 (b / 256))) (2 * j + 1) (u8 (b % 256)) = two s j (b / 256) (b % 256) from rfl)
      obtain ⟨wb0, wb1⟩ := wd_bd s j
      have hw : bt s ((j : Int) * 2) * 256 + bt s ((j : Int) * 2 + 1) = wd s j := by
        have e1 : (j : Int) * 2 = ((2 * j : Nat) : Int) := by omega
        have e2 : (j : Int) * 2 + 1 = ((2 * j + 1 : Nat) : Int) := by omega
        rw [e1, ← e1, e2, e1]; rfl
      have Z1 := Lib.hid z1; have ZU := Lib.hid zu
      have i1 : AtS s ((j : Int) * 2) := ⟨by omega⟩
      have i2 : AtS s ((j : Int) * 2 + 1) := ⟨by omega⟩
      have i3 : IntKind.i64.wrap ((j : Int) * 2 + 1) = (j : Int) * 2 + 1 := by rw [IntKind.wrap_i64]; omega
      have i4 : wrap64 ((j : Int) * 2) = (j : Int) * 2 := by unfold wrap64; omega
      have c1 := bt_bd s ((j : Int) * 2)
      have c2 := bt_bd s ((j : Int) * 2 + 1)
      have i7 : IntKind.u16.wrap (bt s ((j : Int) * 2)) = bt s ((j : Int) * 2) := by rw [IntKind.wrap_u16]; omega
      have i8 : IntKind.u16.wrap (bt s ((j : Int) * 2 + 1)) = bt s ((j : Int) * 2 + 1) := by rw [IntKind.wrap_u16]; omega
      have i5 : IntKind.u16.wrap (bt s ((j : Int) * 2) * 256) = bt s ((j : Int) * 2) * 256 := by rw [IntKind.wrap_u16]; omega
      have i6 : IntKind.u16.wrap (bt s ((j : Int) * 2) * 256 + bt s ((j : Int) * 2 + 1)) = wd s j := by rw [IntKind.wrap_u16]; omega
      clear z1 zu zw hw c1 c2
      generalize two s j (b / 256) (b % 256) = t at *
      generalize wd s j = was at *
      have inb := inet_bd t
      go_enter Try.func8, Try.ntmps8
      go_wp2
      go_quiet (fail)
      go_wp2_with fail
      refine (with_at s (2 * j) _ _ (by omega) (by omega) (by omega) (by omega) (by omega) _).mono ?_
      rintro e w1 ⟨rfl, h1⟩
      go_wp2_with fail
      refine (with_at _ (2 * j + 1) _ _ (by omega) (by rw [W1.out]; omega) (by rw [W1.out]; omega) (by omega) (by omega) _).mono ?_
      rintro e w2 ⟨rfl, h2⟩
      rw [W2.out]
      go_wp2_with fail
      refine (inet_any s (by omega) _).mono ?_
      rintro e w' ⟨rfl, rfl⟩
      go_wp2_with fail
      refine (update_any _ _ _ n0 n1 wb0 wb1 b0 b1 _).mono ?_
      rintro e w' ⟨rfl, rfl⟩
      rw [ZU.out]
      by_cases hz : all t = 0
      · rw [if_pos hz]
        have hn := inet_nought t hz
        have hd : decide (all t = 0) = true := decide_eq_true hz
        have HN := Lib.hid hn; have HD := Lib.hid hd
        clear hz hn hd
        go_wp2_with fail
        refine (none_any t (by rw [Z1.out]; omega) _).mono ?_
        rintro e w' ⟨rfl, rfl⟩
        rw [HD.out]
        go_wp2_with fail
        refine (inet_any t (by rw [Z1.out]; omega) _).mono ?_
        rintro e w' ⟨rfl, rfl⟩
        rw [HN.out]
        go_wp2_with fail
        refine (lives5 _).mono ?_
        rintro e w5 ⟨rfl, h5⟩
        go_wp2
        go_ret
        exact ⟨rfl, Below.go (Below.go (below_drewN _ (Below.refl _ _)) h1) (Below.go h2 h5)⟩
      · rw [if_neg hz]
        have hd : decide (all t = 0) = false := decide_eq_false hz
        have HD := Lib.hid hd
        clear hz hd
        go_wp2_with fail
        refine (none_any t (by rw [Z1.out]; omega) _).mono ?_
        rintro e w' ⟨rfl, rfl⟩
        rw [HD.out]
        go_wp2_with fail
        refine (inet_any t (by rw [Z1.out]; omega) _).mono ?_
        rintro e w' ⟨rfl, rfl⟩
        go_wp2_with fail
        refine (lives5 _).mono ?_
        rintro e w5 ⟨rfl, h5⟩
        go_wp2
        go_ret
        exact ⟨rfl, Below.go (Below.go (below_drewN _ (Below.refl _ _)) h1) (Below.go h2 h5)⟩
end Go.Proofs.Ytmdaoicnbenfnaa
