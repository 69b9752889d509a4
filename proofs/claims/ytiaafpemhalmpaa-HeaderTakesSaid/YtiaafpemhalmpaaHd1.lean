/-
  Layer 33: numbers as two bytes each, and the numbers of two and of four bytes, at any place that there is. No condition but that the place is there.
-/
import Derived.Test.YtiaafpemhalmpaaHdMath
import Derived.Test.YtiaafpemhalmpaaWireP3
import Derived.Test.YtiaafpemhalmpaaWalk5
import Derived.OwnWalk
import Derived.Deep.RegionWith
import Derived.Deep.RegionHeld3
import Derived.BigQuiet
namespace Go.Proofs.Ytiaafpemhalmpaa
set_option linter.unusedVariables false
set_option linter.unusedSimpArgs false
open Go.ChangeShapes Go.WideShapes Go.ChangeAt Go.RowKit
attribute [-go_sem] run_index_string binOp_string_eql binOp_string_neq run_string_add_if run_slice_string_from_if run_slice_string_to_if
attribute [local go_sem] index_at add_fits slice_from slice_to eql_str neq_str alloc_drewN setCell_drewN

theorem chrs_append (a b : List Int) : chrs (a ++ b) = chrs a ++ chrs b := by
  apply ByteArray.ext
  rw [ByteArray.data_append]
  simp [chrs]
/-- Numbers as two bytes each. -/
def tw (l : List Int) : List Int := l.flatMap fun n => [n / 256, n % 256]
theorem tw_snoc (l : List Int) (n : Int) : tw (l ++ [n]) = tw l ++ [n / 256, n % 256] := by
  unfold tw; rw [List.flatMap_append]; rfl
theorem tw_len : ∀ l : List Int, (tw l).length = 2 * l.length
  | [] => rfl
  | n :: l => by
    have := tw_len l
    show ([n / 256, n % 256] ++ tw l).length = _
    rw [List.length_append, this, List.length_cons]
    simp; omega
theorem strCells_two (t : ByteArray) (x y : Int) (x0 : 0 ≤ x) (x1 : x ≤ 255) (y0 : 0 ≤ y) (y1 : y ≤ 255) : Lib.strCells (t ++ chrs [x, y]) = Lib.strCells t ++ [.int .u8 x, .int .u8 y] := by
  have e : t ++ chrs [x, y] = (t ++ chrs [x]) ++ chrs [y] := by
    rw [ByteArray.append_assoc, ← chrs_append]; rfl
  rw [e, strCells_add _ _ y0 y1, strCells_add _ _ x0 x1, List.append_assoc]
  rfl
set_option maxRecDepth 100000 in
set_option maxHeartbeats 1000000 in
theorem halves_at (b off c : Nat) (l : List Int) (hl : ∀ x ∈ l, 0 ≤ x ∧ x ≤ 65535) (hn : l.length ≤ 1000) (w : World) (hb : b < w.heap.size) (hc : ∀ i, i < l.length → w.cell? ⟨b, off + i, none⟩ = some (.int .u16 (l.getD i 0))) :
    Calls Try.prog 67 #[.slice (some ⟨b, off, none⟩) l.length c] w fun e w' => e = .returned (.string (chrs (tw l))) ∧ Below w.heap.size w w' := by
  obtain ⟨i0, hi, hz0, hz1, hz2⟩ := info_parts infoU8
  have HC := Lib.hid hc; have HL := Lib.hid hl
  clear hc hl
  have k1 : IntKind.i64.wrap ((2 : Int) * (l.length : Int)) = (2 : Int) * (l.length : Int) := by rw [IntKind.wrap_i64]; omega
  go_enter Try.func67, Try.ntmps67
  go_wp2_with (at_make; go_loud (refine wpList_make_own _ rfl _ _ 116 rfl w.heap.size 5 i0 (.int .u8 0) 1 Try.underlying116 hi hz0 hz1 _ _ _ (2 * l.length) rfl rfl (by omega) (by rw [hz2]; omega) (by unfold maxLen; omega) (Nat.le_refl _) ?_); intro w2 ho2 hg2; have HO2 := Lib.hid ho2; have HG2 := Lib.hid hg2; clear ho2 hg2)
  have B2 := Lib.hid (show Below w.heap.size w w2 from (Below.refl _ w).grown HG2.out (Nat.le_refl _) (by simp))
  go_loopw [3, 12] (fun v y wr => ∃ k : Nat, k ≤ l.length ∧ y = .int .i64 k ∧ Hid (Own wr w.heap.size v (chrs (tw (l.take k)))) ∧ Hid (Below w.heap.size w wr)) (fun _ y _ => l.length - (intOf y).toNat)
  case atStart => exact ⟨0, Nat.zero_le _, rfl, Lib.hid HO2.out, B2⟩
  case round =>
    clear HO2 HG2 B2
    obtain ⟨k, hk, rfl, HO, HB⟩ := hrel
    by_cases hlt : k < l.length
    · have c0 := (HB.out.cell (p := ⟨b, off + k, none⟩) hb).trans (HC.out k hlt)
      obtain ⟨x0, x1⟩ := HL.out (l.getD k 0) (by rw [List.getD_eq_getElem?_getD, List.getElem?_eq_getElem hlt]; exact List.getElem_mem _)
      have T := Lib.hid (show tw (l.take (k + 1)) = tw (l.take k) ++ [l.getD k 0 / 256, l.getD k 0 % 256] from by
        rw [List.take_succ_eq_append_getElem hlt, tw_snoc, List.getD_eq_getElem?_getD, List.getElem?_eq_getElem hlt]; rfl)
      have TL := Lib.hid (tw_len (l.take k))
      have TK := Lib.hid (show (l.take k).length = k from by rw [List.length_take]; omega)
      obtain ⟨x, hx⟩ : ∃ x, l.getD k 0 = x := ⟨_, rfl⟩
      rw [hx] at c0 x0 x1 T
      clear hx
      have y0 : 0 ≤ x / 256 ∧ x / 256 ≤ 255 := by omega
      have y1 : 0 ≤ x % 256 ∧ x % 256 ≤ 255 := by omega
      have e1 : IntKind.u8.wrap (x / 256) = x / 256 := by rw [IntKind.wrap_u8]; omega
      have e2 : IntKind.u8.wrap x = x % 256 := by rw [IntKind.wrap_u8]
      obtain ⟨hi8, hhi⟩ : ∃ z, x / 256 = z := ⟨_, rfl⟩
      obtain ⟨lo8, hlo⟩ : ∃ z, x % 256 = z := ⟨_, rfl⟩
      rw [hhi] at e1 y0 T
      rw [hlo] at e2 y1 T
      obtain ⟨u, hu⟩ : ∃ u, tw (l.take k) = u := ⟨_, rfl⟩
      rw [hu] at HO T TL
      have US := Lib.hid (chrs_size u)
      have OW := HO.out
      unfold Own at OW
      have OWH := Lib.hid OW
      clear OW
      have Z1 := Lib.hid (show (chrs u).size + 2 ≤ maxLen from by rw [US.out, TL.out, TK.out]; unfold maxLen; omega)
      have f1 : x / 256 = hi8 := hhi
      have z3 : (chrs u).size ≤ 2000 := by rw [US.out, TL.out, TK.out]; omega
      clear hu hhi hlo
      go_wp2_with (at_builtin; go_loud (refine wpList_append_own_at _ rfl _ _ 116 rfl w.heap.size 5 i0 (.int .u8 0) 1 1 Try.underlying116 hi hz0 hz1 hz2 rfl (by decide) _ _ _ rfl (OWH.out.alloc _) ⟨wr.heap.size, 0, none⟩ 2 2 [.int .u8 hi8, .int .u8 lo8] rfl rfl (cells_new _ _ _) (fun x hx => by simp at hx; rcases hx with rfl | rfl <;> rfl) Z1.out (by omega) (by have := HB.out.size; simp; omega) ?_); intro v' w3 hown' hgrow3 hnil3 hat3; clear hnil3 hat3; have HO3 := Lib.hid hown'; have HG3 := Lib.hid hgrow3; clear hown' hgrow3)
      go_roundw
      case rel =>
        refine ⟨k + 1, by omega, by go_num, Lib.hid ?_, Lib.hid ?_⟩
        · rw [T.out, chrs_append]
          unfold Own
          rw [strCells_two _ _ _ y0.1 y0.2 y1.1 y1.2, ByteArray.size_append, chrs_size [hi8, lo8]]
          exact HO3.out
        · exact (HB.out.alloc HB.out.size _).grown HG3.out (by have := HB.out.size; simp; omega) (fun r hr => (World.ownsRow.lt OWH.out r hr).1)
      case measure => simp [intOf] <;> omega
    · have ek : k = l.length := by omega
      subst ek
      have et : l.take l.length = l := List.take_of_length_le (by simp)
      rw [et] at HO
      have cv := conv_own _ _ _ _ HO.out
      go_wp2
      go_ret
      exact ⟨rfl, HB.out⟩
theorem half_at (s : ByteArray) (k : Nat) (hk : k + 1 < s.size) (hs : s.size ≤ 140737488355328) (w : World) :
    Calls Try.prog 54 #[.string s, .int .i64 k] w fun e w' => e = .returned (.int .u16 (bt s (k : Nat) * 256 + bt s ((k + 1 : Nat) : Int))) ∧ ∃ n, w' = w.drewN n := by
  obtain ⟨b0, b0'⟩ := bt_bd s (k : Nat)
  obtain ⟨b1, b1'⟩ := bt_bd s ((k + 1 : Nat) : Int)
  have e := or_byte _ _ b0 b0' b1 b1'
  have a0 : AtS s (k : Int) := ⟨by omega, by omega⟩
  have a1 : AtS s ((k : Int) + 1) := ⟨by omega, by omega⟩
  have k1 : IntKind.i64.wrap ((k : Int) + 1) = (k : Int) + 1 := by rw [IntKind.wrap_i64]; omega
  have k2 : ((k + 1 : Nat) : Int) = (k : Int) + 1 := by omega
  rw [k2] at e b1 b1' ⊢
  have e1 : IntKind.u16.wrap (bt s (k : Nat)) = bt s (k : Nat) := by rw [IntKind.wrap_u16]; omega
  have e2 : IntKind.u16.wrap (bt s ((k : Int) + 1)) = bt s ((k : Int) + 1) := by rw [IntKind.wrap_u16]; omega
  have e3 : IntKind.u16.wrap (bt s (k : Nat) * 256) = bt s (k : Nat) * 256 := by rw [IntKind.wrap_u16]; omega
  go_enter Try.func54, Try.ntmps54
  go_wp2
  go_quiet (fail)
  go_wp2
  go_ret
  exact ⟨rfl, _, rfl⟩
theorem word_at (s : ByteArray) (k : Nat) (hk : k + 3 < s.size) (hs : s.size ≤ 140737488355328) (w : World) :
    Calls Try.prog 71 #[.string s, .int .i64 k] w fun e w' => e = .returned (.int .u32 ((bt s (k : Nat) * 256 + bt s ((k + 1 : Nat) : Int)) * 65536 + (bt s ((k + 2 : Nat) : Int) * 256 + bt s ((k + 3 : Nat) : Int)))) ∧ ∃ n, w' = w.drewN n := by
  have b0 := bt_bd s (k : Nat)
  have b1 := bt_bd s ((k + 1 : Nat) : Int)
  have b2 := bt_bd s ((k + 2 : Nat) : Int)
  have b3 := bt_bd s ((k + 3 : Nat) : Int)
  have H1 := Lib.hid (fun w => half_at s k (by omega) hs w)
  have H2 := Lib.hid (fun w => half_at s (k + 2) (by omega) hs w)
  obtain ⟨x, hx⟩ : ∃ x, bt s (k : Nat) * 256 + bt s ((k + 1 : Nat) : Int) = x := ⟨_, rfl⟩
  obtain ⟨y, hy⟩ : ∃ y, bt s ((k + 2 : Nat) : Int) * 256 + bt s ((k + 3 : Nat) : Int) = y := ⟨_, rfl⟩
  have x0 : 0 ≤ x ∧ x ≤ 65535 := by omega
  have y0 : 0 ≤ y ∧ y ≤ 65535 := by omega
  rw [hx, hy]
  rw [hx] at H1
  rw [show k + 2 + 1 = k + 3 from rfl, hy] at H2
  clear hx hy b0 b1 b2 b3
  have e := or_half _ _ x0.1 x0.2 y0.1 y0.2
  have k1 : IntKind.i64.wrap ((k : Int) + 2) = (k : Int) + 2 := by rw [IntKind.wrap_i64]; omega
  have k2 : ((k + 2 : Nat) : Int) = (k : Int) + 2 := by omega
  rw [k2] at H2
  have e1 : IntKind.u32.wrap x = x := by rw [IntKind.wrap_u32]; omega
  have e2 : IntKind.u32.wrap y = y := by rw [IntKind.wrap_u32]; omega
  have e3 : IntKind.u32.wrap (x * 65536) = x * 65536 := by rw [IntKind.wrap_u32]; omega
  go_enter Try.func71, Try.ntmps71
  go_wp2_with fail
  refine (H1.out _).mono ?_
  rintro e' w1 ⟨rfl, n1, rfl⟩
  go_wp2_with fail
  refine (H2.out _).mono ?_
  rintro e' w2 ⟨rfl, n2, rfl⟩
  go_wp2
  go_ret
  exact ⟨rfl, _, rfl⟩
end Go.Proofs.Ytiaafpemhalmpaa
