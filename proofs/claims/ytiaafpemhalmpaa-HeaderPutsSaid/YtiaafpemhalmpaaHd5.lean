/-
  Layer 33: numbers out of bytes, and as two and as four bytes, as the document's answer has them. Conditions: a place that is there, a number that fits.
-/
import Derived.Test.YtiaafpemhalmpaaHd3
namespace Go.Proofs.Ytiaafpemhalmpaa
set_option linter.unusedVariables false
set_option linter.unusedSimpArgs false
open Go.ChangeShapes Go.WideShapes Go.ChangeAt Go.RowKit
attribute [-go_sem] run_index_string binOp_string_eql binOp_string_neq run_string_add_if run_slice_string_from_if run_slice_string_to_if
attribute [local go_sem] index_at add_fits slice_from slice_to eql_str neq_str alloc_drewN setCell_drewN

def nbr (S : ByteArray) (a : Nat) : Nat → Int
  | 0 => 0
  | k + 1 => nbr S a k * 256 + bt S ((a + k : Nat) : Int)
theorem nbr_bd (S : ByteArray) (a : Nat) : ∀ k, 0 ≤ nbr S a k ∧ nbr S a k < 256 ^ k
  | 0 => ⟨Int.le_refl _, by show (0 : Int) < 256 ^ 0; decide⟩
  | k + 1 => by
    have h := nbr_bd S a k
    have b := bt_bd S ((a + k : Nat) : Int)
    show 0 ≤ nbr S a k * 256 + bt S ((a + k : Nat) : Int) ∧ nbr S a k * 256 + bt S ((a + k : Nat) : Int) < 256 ^ (k + 1)
    rw [Int.pow_succ]
    generalize (256 : Int) ^ k = p at *
    omega
theorem nbr_small (S : ByteArray) (a k : Nat) (hk : k ≤ 3) : nbr S a k ≤ 16777215 := by
  have h := (nbr_bd S a k).2
  have e : (256 : Int) ^ k ≤ 16777216 := by
    rcases (by omega : k = 0 ∨ k = 1 ∨ k = 2 ∨ k = 3) with rfl | rfl | rfl | rfl <;> decide
  generalize (256 : Int) ^ k = p at *
  omega
set_option maxRecDepth 100000 in
theorem number_at (S : ByteArray) (a n : Nat) (h : a + n ≤ S.size) (hn : n ≤ 4) (hs : S.size ≤ 140737488355328) (w : World) :
    Calls Try.prog 55 #[.string S, .int .i64 a, .int .i64 n] w fun e w' => e = .returned (.int .u64 (nbr S a n)) ∧ w = w' := by
  have k1 : IntKind.i64.wrap ((a : Int) + (n : Int)) = (a : Int) + n := by rw [IntKind.wrap_i64]; omega
  go_enter Try.func55, Try.ntmps55
  go_wp2
  go_loop [7, 8] (fun v i => ∃ k : Nat, k ≤ n ∧ i = .int .i64 ((a + k : Nat) : Int) ∧ v = .int .u64 (nbr S a k)) (fun _ i => a + n - (intOf i).toNat)
  case atStart => exact ⟨0, Nat.zero_le _, rfl, rfl⟩
  case round =>
    obtain ⟨k, hk, rfl, rfl⟩ := hrel
    have hb := nbr_bd S a k
    by_cases hlt : k < n
    · have sm := nbr_small S a k (by omega)
      have b := bt_bd S ((a + k : Nat) : Int)
      have at1 : AtS S ((a + k : Nat) : Int) := ⟨by omega, by omega⟩
      have e1 : nbr S a (k + 1) = nbr S a k * 256 + bt S ((a + k : Nat) : Int) := rfl
      have E1 := Lib.hid e1
      have lt1 : (((a + k : Nat) : Int)) < (a : Int) + n := by omega
      generalize hx : nbr S a k = x at *
      generalize hy : bt S ((a + k : Nat) : Int) = y at *
      generalize hj : ((a + k : Nat) : Int) = j at *
      have HJ := Lib.hid hj
      have e2 : IntKind.u64.wrap (x * 256) = x * 256 := by rw [IntKind.wrap_u64]; omega
      have e3 : IntKind.u64.wrap y = y := by rw [IntKind.wrap_u64]; omega
      have e4 : IntKind.u64.wrap (x * 256 + y) = x * 256 + y := by rw [IntKind.wrap_u64]; omega
      have e5 : IntKind.i64.wrap (j + 1) = j + 1 := by rw [IntKind.wrap_i64]; omega
      clear hx hj e1 hb sm
      go_wp2
      go_round
      case rel => exact ⟨k + 1, by omega, by rw [← HJ.out]; go_num, by rw [E1.out]⟩
      case measure => rw [← HJ.out]; simp [intOf] <;> omega
    · have e : k = n := by omega
      subst e
      have lt1 : ¬ (((a + k : Nat) : Int)) < (a : Int) + k := by omega
      go_wp2
      go_ret
      exact ⟨rfl, rfl⟩
/-- A number's bytes: two, four. -/
theorem hib_two (n : Int) (n0 : 0 ≤ n) (n1 : n ≤ 65535) : hib n 2 = chrs [n / 256, n % 256] := by
  show ((⟨#[]⟩ : ByteArray) ++ chrs [n / 256 % 256]) ++ chrs [n % 256] = _
  rw [show (⟨#[]⟩ : ByteArray) = chrs [] from rfl, ← chrs_append, ← chrs_append, show n / 256 % 256 = n / 256 by omega]
  rfl
theorem hib_four (n : Int) (n0 : 0 ≤ n) (n1 : n ≤ 4294967295) : hib n 4 = chrs [n / 16777216, n / 65536 % 256, n / 256 % 256, n % 256] := by
  show ((((⟨#[]⟩ : ByteArray) ++ chrs [n / 256 / 256 / 256 % 256]) ++ chrs [n / 256 / 256 % 256]) ++ chrs [n / 256 % 256]) ++ chrs [n % 256] = _
  rw [show (⟨#[]⟩ : ByteArray) = chrs [] from rfl, ← chrs_append, ← chrs_append, ← chrs_append, ← chrs_append, show n / 256 / 256 / 256 % 256 = n / 16777216 by omega, show n / 256 / 256 % 256 = n / 65536 % 256 by omega]
  rfl
set_option maxRecDepth 100000 in
theorem two_any (n : Int) (n0 : 0 ≤ n) (n1 : n ≤ 65535) (w : World) :
    Calls Try.prog 50 #[.int .i64 n] w fun e w' => e = .returned (.string (chrs [n / 256, n % 256])) ∧ Below w.heap.size w w' := by
  have eer : er ⟨2, n, ⟨#[]⟩⟩ = 0 := by
    unfold er
    rw [if_neg (by show ¬ ((2 : Int) < 1 ∨ (6 : Int) < 2); omega), if_neg (by simp), if_neg (by show ¬ ((2 : Int) ≤ 4 ∧ 256 ^ wk 2 ≤ n); rw [show wk 2 = 2 from rfl]; omega), if_neg (by show ¬ 65535 < (⟨#[]⟩ : ByteArray).size; decide)]
  have epb : pb [⟨2, n, ⟨#[]⟩⟩] = chrs [n / 256, n % 256] := by
    show (⟨#[]⟩ : ByteArray) ++ enc ⟨2, n, ⟨#[]⟩⟩ = _
    rw [show enc ⟨2, n, ⟨#[]⟩⟩ = hib n 2 from rfl, hib_two n n0 n1, show (⟨#[]⟩ : ByteArray) = chrs [] from rfl, ← chrs_append]
    rfl
  have epr : perr [⟨2, n, ⟨#[]⟩⟩] = 0 := perr_all _ (fun i hi => by
    have : i = 0 := by simp at hi; omega
    subst this; exact eer)
  have e1 : IntKind.u64.wrap n = n := by rw [IntKind.wrap_u64]; omega
  have cells : ∀ i, i < [(⟨2, n, ⟨#[]⟩⟩ : Fd)].length → (w.alloc (.cells #[.int .i64 2, .int .u64 n, .string ⟨#[]⟩] 128)).cell? ⟨w.heap.size, 0 + i * 3, none⟩ = some (.int .i64 ([(⟨2, n, ⟨#[]⟩⟩ : Fd)].getD i Fd.nil).k) ∧ (w.alloc (.cells #[.int .i64 2, .int .u64 n, .string ⟨#[]⟩] 128)).cell? ⟨w.heap.size, 0 + i * 3 + 1, none⟩ = some (.int .u64 ([(⟨2, n, ⟨#[]⟩⟩ : Fd)].getD i Fd.nil).n) ∧ (w.alloc (.cells #[.int .i64 2, .int .u64 n, .string ⟨#[]⟩] 128)).cell? ⟨w.heap.size, 0 + i * 3 + 2, none⟩ = some (.string ([(⟨2, n, ⟨#[]⟩⟩ : Fd)].getD i Fd.nil).s) := fun i hi => by
    have : i = 0 := by simp at hi; omega
    subst this
    obtain ⟨a0, a1, a2, -⟩ := at3 (heap_alloc_new w (.cells #[.int .i64 2, .int .u64 n, .string ⟨#[]⟩] 128))
    exact ⟨a0, a1, a2⟩
  have RP := Lib.hid (refPut_at w.heap.size 0 1 [⟨2, n, ⟨#[]⟩⟩] (show (1 : Nat) ≤ 10000 by omega) (fun x hx => by
    have : x = ⟨2, n, ⟨#[]⟩⟩ := by simpa using hx
    subst this
    exact ⟨⟨by show (-9223372036854775808 : Int) ≤ 2; omega, by show (2 : Int) ≤ 9223372036854775807; omega⟩, ⟨n0, by show n ≤ _; omega⟩, by show (⟨#[]⟩ : ByteArray).size ≤ _; decide⟩) (w.alloc (.cells #[.int .i64 2, .int .u64 n, .string ⟨#[]⟩] 128)) (by simp) cells #[.string (chrs [n / 256, n % 256]), .int .i64 0] (fun _ => by rw [epb]) (fun h => absurd epr h))
  clear cells eer epb epr
  go_enter Try.func50, Try.ntmps50
  go_wp2_with fail
  refine RP.out.mono ?_
  rintro e w' ⟨rfl, hb⟩
  go_wp2
  go_ret
  exact ⟨rfl, ((Below.refl _ w).alloc (Nat.le_refl _) _).trans (hb.mono (by simp))⟩
set_option maxRecDepth 100000 in
theorem four_any (n : Int) (n0 : 0 ≤ n) (n1 : n ≤ 4294967295) (w : World) :
    Calls Try.prog 51 #[.int .u32 n] w fun e w' => e = .returned (.string (chrs [n / 16777216, n / 65536 % 256, n / 256 % 256, n % 256])) ∧ Below w.heap.size w w' := by
  have eer : er ⟨3, n, ⟨#[]⟩⟩ = 0 := by
    unfold er
    rw [if_neg (by show ¬ ((3 : Int) < 1 ∨ (6 : Int) < 3); omega), if_neg (by simp), if_neg (by show ¬ ((3 : Int) ≤ 4 ∧ 256 ^ wk 3 ≤ n); rw [show wk 3 = 4 from rfl]; omega), if_neg (by show ¬ 65535 < (⟨#[]⟩ : ByteArray).size; decide)]
  have epb : pb [⟨3, n, ⟨#[]⟩⟩] = chrs [n / 16777216, n / 65536 % 256, n / 256 % 256, n % 256] := by
    show (⟨#[]⟩ : ByteArray) ++ enc ⟨3, n, ⟨#[]⟩⟩ = _
    rw [show enc ⟨3, n, ⟨#[]⟩⟩ = hib n 4 from rfl, hib_four n n0 n1, show (⟨#[]⟩ : ByteArray) = chrs [] from rfl, ← chrs_append]
    rfl
  have epr : perr [⟨3, n, ⟨#[]⟩⟩] = 0 := perr_all _ (fun i hi => by
    have : i = 0 := by simp at hi; omega
    subst this; exact eer)
  have e1 : IntKind.u64.wrap n = n := by rw [IntKind.wrap_u64]; omega
  have cells : ∀ i, i < [(⟨3, n, ⟨#[]⟩⟩ : Fd)].length → (w.alloc (.cells #[.int .i64 3, .int .u64 n, .string ⟨#[]⟩] 128)).cell? ⟨w.heap.size, 0 + i * 3, none⟩ = some (.int .i64 ([(⟨3, n, ⟨#[]⟩⟩ : Fd)].getD i Fd.nil).k) ∧ (w.alloc (.cells #[.int .i64 3, .int .u64 n, .string ⟨#[]⟩] 128)).cell? ⟨w.heap.size, 0 + i * 3 + 1, none⟩ = some (.int .u64 ([(⟨3, n, ⟨#[]⟩⟩ : Fd)].getD i Fd.nil).n) ∧ (w.alloc (.cells #[.int .i64 3, .int .u64 n, .string ⟨#[]⟩] 128)).cell? ⟨w.heap.size, 0 + i * 3 + 2, none⟩ = some (.string ([(⟨3, n, ⟨#[]⟩⟩ : Fd)].getD i Fd.nil).s) := fun i hi => by
    have : i = 0 := by simp at hi; omega
    subst this
    obtain ⟨a0, a1, a2, -⟩ := at3 (heap_alloc_new w (.cells #[.int .i64 3, .int .u64 n, .string ⟨#[]⟩] 128))
    exact ⟨a0, a1, a2⟩
  have RP := Lib.hid (refPut_at w.heap.size 0 1 [⟨3, n, ⟨#[]⟩⟩] (show (1 : Nat) ≤ 10000 by omega) (fun x hx => by
    have : x = ⟨3, n, ⟨#[]⟩⟩ := by simpa using hx
    subst this
    exact ⟨⟨by show (-9223372036854775808 : Int) ≤ 3; omega, by show (3 : Int) ≤ 9223372036854775807; omega⟩, ⟨n0, by show n ≤ _; omega⟩, by show (⟨#[]⟩ : ByteArray).size ≤ _; decide⟩) (w.alloc (.cells #[.int .i64 3, .int .u64 n, .string ⟨#[]⟩] 128)) (by simp) cells #[.string (chrs [n / 16777216, n / 65536 % 256, n / 256 % 256, n % 256]), .int .i64 0] (fun _ => by rw [epb]) (fun h => absurd epr h))
  clear cells eer epb epr
  go_enter Try.func51, Try.ntmps51
  go_wp2_with fail
  refine RP.out.mono ?_
  rintro e w' ⟨rfl, hb⟩
  go_wp2
  go_ret
  exact ⟨rfl, ((Below.refl _ w).alloc (Nat.le_refl _) _).trans (hb.mono (by simp))⟩
end Go.Proofs.Ytiaafpemhalmpaa
