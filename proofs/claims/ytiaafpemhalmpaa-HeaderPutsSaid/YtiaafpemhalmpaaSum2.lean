/-
  What the calls of package sum and of the document's answer for layer 5 return, those that make memory among them, for any strings no longer than a string can be; what lay below the heap's end stands.
-/
import Derived.Test.YtiaafpemhalmpaaSum1
import Derived.Laws.IdiomStrings
import Derived.Outline
import Derived.Deep.RegionHeld3
namespace Go.Proofs.Ytiaafpemhalmpaa
set_option linter.unusedVariables false
set_option linter.unusedSimpArgs false
open Go.ChangeShapes Go.WideShapes Go.ChangeAt Go.RowKit
attribute [-go_sem] run_index_string binOp_string_eql binOp_string_neq run_string_add_if run_slice_string_from_if run_slice_string_to_if
attribute [local go_sem] index_bt add_fits slice_from slice_to eql_str neq_str alloc_drewN setCell_drewN

/-- A string of numbers as bytes. -/
def chrs (l : List Int) : ByteArray := ⟨(l.map fun n => UInt8.ofNat n.toNat).toArray⟩
theorem byte_of (x : Int) (h0 : 0 ≤ x) (h1 : x ≤ 255) : ((UInt8.ofNat x.toNat).toNat : Int) = x := by
  rw [UInt8.toNat_ofNat_of_lt' (by simp [UInt8.size]; omega)]; omega
theorem conv_cells {P : Program} (w : World) (src dst e : TypeId) (a : Addr) (cap : Nat) (l : List Int) (hs : P.underlying src = some (.slice e)) (he : P.underlying e = some (.int .u8)) (hd : P.underlying dst = some .string)
    (hl : ∀ x ∈ l, 0 ≤ x ∧ x ≤ 255) (hc : ∀ j (hj : j < l.length), w.cell? (a.add j) = some (.int .u8 (l[j]))) :
    (convert src dst (.slice (some a) l.length cap)).run P w = .ok (.string (chrs l)) w := by
  have := run_convert_bytes_back w src dst e a cap (l.map fun n => UInt8.ofNat n.toNat) hs he hd (fun j hj => by
    have hj' : j < l.length := by simpa using hj
    rw [hc j hj']
    have h := hl (l[j]) (List.getElem_mem _)
    simp only [List.getElem_map]
    rw [byte_of _ h.1 h.2])
  rw [List.length_map] at this
  exact this
theorem conv_one {P : Program} (w : World) (src dst e t : TypeId) (cap : Nat) (x : Int) (hs : P.underlying src = some (.slice e)) (he : P.underlying e = some (.int .u8)) (hd : P.underlying dst = some .string) (x0 : 0 ≤ x) (x1 : x ≤ 255) :
    (convert src dst (.slice (some ⟨w.heap.size, 0, none⟩) 1 cap)).run P (w.alloc (.cells #[.int .u8 x] t)) = .ok (.string (chrs [x])) (w.alloc (.cells #[.int .u8 x] t)) := by
  refine conv_cells (w.alloc (.cells #[.int .u8 x] t)) src dst e ⟨w.heap.size, 0, none⟩ cap [x] hs he hd (by simp; omega) ?_
  intro j hj
  have : j = 0 := by simp at hj; omega
  subst this
  exact World.cell?_alloc_mark w #[Value.int .u8 x] t (0, 0) 0
theorem conv_four {P : Program} (w : World) (src dst e t : TypeId) (cap : Nat) (x y z u : Int) (hs : P.underlying src = some (.slice e)) (he : P.underlying e = some (.int .u8)) (hd : P.underlying dst = some .string)
    (x0 : 0 ≤ x) (x1 : x ≤ 255) (y0 : 0 ≤ y) (y1 : y ≤ 255) (z0 : 0 ≤ z) (z1 : z ≤ 255) (u0 : 0 ≤ u) (u1 : u ≤ 255) :
    (convert src dst (.slice (some ⟨w.heap.size, 0, none⟩) 4 cap)).run P (w.alloc (.cells #[.int .u8 x, .int .u8 y, .int .u8 z, .int .u8 u] t)) = .ok (.string (chrs [x, y, z, u])) (w.alloc (.cells #[.int .u8 x, .int .u8 y, .int .u8 z, .int .u8 u] t)) := by
  refine conv_cells (w.alloc (.cells #[.int .u8 x, .int .u8 y, .int .u8 z, .int .u8 u] t)) src dst e ⟨w.heap.size, 0, none⟩ cap [x, y, z, u] hs he hd (by simp; omega) ?_
  intro j hj
  have hj : j < 4 := by simpa using hj
  have : (w.alloc (.cells #[.int .u8 x, .int .u8 y, .int .u8 z, .int .u8 u] t)).cell? ((⟨w.heap.size, 0, none⟩ : Addr).add j) = #[Value.int .u8 x, .int .u8 y, .int .u8 z, .int .u8 u][j]? := by
    have := World.cell?_alloc_mark w #[Value.int .u8 x, .int .u8 y, .int .u8 z, .int .u8 u] t (0, 0) j
    have e : ((⟨w.heap.size, 0, none⟩ : Addr).add j) = ⟨w.heap.size, j, none⟩ := by simp [Addr.add]; omega
    rw [e]; exact this
  rw [this]
  match j, hj with
  | 0, _ => rfl
  | 1, _ => rfl
  | 2, _ => rfl
  | 3, _ => rfl
theorem conv_one_drew {P : Program} (w : World) (src dst e t : TypeId) (cap : Nat) (x : Int) (hs : P.underlying src = some (.slice e)) (he : P.underlying e = some (.int .u8)) (hd : P.underlying dst = some .string) (x0 : 0 ≤ x) (x1 : x ≤ 255) :
    (convert src dst (.slice (some ⟨w.heap.size, 0, none⟩) 1 cap)).run P (w.alloc (.cells #[.int .u8 x] t)).drew = .ok (.string (chrs [x])) (w.alloc (.cells #[.int .u8 x] t)).drew := by
  refine conv_cells (w.alloc (.cells #[.int .u8 x] t)).drew src dst e ⟨w.heap.size, 0, none⟩ cap [x] hs he hd (by simp; omega) ?_
  intro j hj
  have : j = 0 := by simp at hj; omega
  subst this
  exact World.cell?_alloc_mark w #[Value.int .u8 x] t (0, 0) 0
attribute [local go_sem] conv_one conv_four conv_one_drew

theorem refring_any (a b : Int) (a0 : 0 ≤ a) (a1 : a ≤ 65535) (b0 : 0 ≤ b) (b1 : b ≤ 65535) (w : World) :
    Calls Try.prog 70 #[.int .i64 a, .int .i64 b] w fun e w' => e = .returned (.int .i64 (rg a b)) ∧ w = w' := by
  unfold rg
  by_cases h : a + b ≤ 65535
  · rw [if_pos h]
    go_enter Try.func70, Try.ntmps70
    go_wp2
    go_ret
    exact ⟨rfl, rfl⟩
  · rw [if_neg h]
    go_enter Try.func70, Try.ntmps70
    go_wp2
    go_ret
    exact ⟨rfl, rfl⟩
theorem with_any (s : ByteArray) (k : Nat) (c : Int) (hk : k < s.size) (hs : s.size ≤ 140737488355328) (c0 : 0 ≤ c) (c1 : c ≤ 255) (w : World) :
    Calls Try.prog 33 #[.string s, .int .i64 k, .int .u8 c] w fun e w' => e = .returned (.string (wth s k (UInt8.ofNat c.toNat))) ∧ Below w.heap.size w w' := by
  have e : s.extract 0 k ++ chrs [c] ++ s.extract (k + 1) s.size = wth s k (UInt8.ofNat c.toNat) := rfl
  have e1 : (s.extract 0 k).size = k := by rw [size_ext _ _ _ (by omega)]; rfl
  have e2 : (chrs [c]).size = 1 := rfl
  have e3 : (s.extract (k + 1) s.size).size = s.size - (k + 1) := size_ext _ _ _ (Nat.le_refl _)
  have l1 : Fits (s.extract 0 k) (chrs [c]) := ⟨by rw [e1, e2]; omega⟩
  have l2 : Fits (s.extract 0 k ++ chrs [c]) (s.extract (k + 1) s.size) := ⟨by rw [ByteArray.size_append, e1, e2, e3]; omega⟩
  have k1 : InS s ((k : Int) + 1) := ⟨by omega⟩
  have k2 : InS s (k : Int) := ⟨by omega⟩
  have k3 : ((k : Int) + 1).toNat = k + 1 := by omega
  have k4 : IntKind.i64.wrap ((k : Int) + 1) = (k : Int) + 1 := by rw [IntKind.wrap_i64]; omega
  rw [← e]
  clear e e1 e2 e3
  go_enter Try.func33, Try.ntmps33
  go_wp2
  go_region
  go_wp2
  go_ret
  exact ⟨rfl, ((Below.refl _ _).alloc (Nat.le_refl _) _).drew⟩
theorem refinet_any (s : ByteArray) (hs : s.size ≤ 140737488355328) (w : World) :
    Calls Try.prog 52 #[.string s] w fun e w' => e = .returned (.int .i64 (inet s)) ∧ w = w' := by
  have ei : inet s = 65535 - nm (all s) := rfl
  rw [ei]
  clear ei
  go_enter Try.func52, Try.ntmps52
  go_wp2
  go_loop [3, 4] (fun v i => ∃ k : Nat, k ≤ s.size ∧ i = .int .i64 (k : Int) ∧ v = .int .i64 (nm (tot s ((k + 1) / 2)))) (fun _ i => s.size - (intOf i).toNat)
  case atStart => exact ⟨0, by omega, rfl, rfl⟩
  case round =>
    obtain ⟨k, hk, rfl, rfl⟩ := hrel
    obtain ⟨n0, n1⟩ := nm_bd (tot s ((k + 1) / 2))
    by_cases hlt : k < s.size
    · by_cases ev : k % 2 = 0
      · obtain ⟨j, hj⟩ : ∃ j, k = 2 * j := ⟨k / 2, by omega⟩
        subst hj
        have ej : (2 * j + 1) / 2 = j := by omega
        rw [ej] at n0 n1 ⊢
        have g1 : (((2 * j : Nat) : Int) % 2 == 0) = true := by simp
        have hw := wd_bd s j
        have er := Lib.hid (rg_nm (tot s j) (wd s j) (tot_nonneg s j) hw.1 hw.2)
        have ew : bt s ((2 * j : Nat) : Int) * 256 + bt s (((2 * j : Nat) : Int) + 1) = wd s j := rfl
        have ew0 : bt s (((2 * j : Nat) : Int) + 1) = bt s ((2 * j + 1 : Nat) : Int) := rfl
        have b0 := bt_bd s ((2 * j : Nat) : Int)
        have b1 := bt_bd s (((2 * j : Nat) : Int) + 1)
        have EJ : Hid (nm (tot s ((2 * j + 1 + 1) / 2)) = nm (tot s (j + 1))) := Lib.hid (by rw [show (2 * j + 1 + 1) / 2 = j + 1 by omega])
        by_cases h1 : 2 * j + 1 < s.size
        · have EW := Lib.hid ew; clear ew ew0 ej ev
          generalize (2 * j : Nat) = q at *
          go_wp2_with fail
          refine (refring_any _ _ n0 n1 (by omega) (by omega) _).mono ?_
          rintro e w' ⟨rfl, rfl⟩
          rw [EW.out, er.out]
          go_wp2
          go_round
          case rel => exact ⟨q + 1, by omega, by go_num, by rw [EJ.out]; rfl⟩
          case measure => simp [intOf]; omega
        · have ez : bt s (((2 * j : Nat) : Int) + 1) = 0 := by rw [ew0]; exact bt_out s _ (by omega)
          rw [ez, Int.add_zero] at ew
          have EW := Lib.hid ew; clear ew ew0 ej ev ez b1
          generalize (2 * j : Nat) = q at *
          go_wp2_with fail
          refine (refring_any _ _ n0 n1 (by omega) (by omega) _).mono ?_
          rintro e w' ⟨rfl, rfl⟩
          rw [EW.out, er.out]
          go_wp2
          go_round
          case rel => exact ⟨q + 1, by omega, by go_num, by rw [EJ.out]; rfl⟩
          case measure => simp [intOf]; omega
      · have g1 : ((k : Int) % 2 == 0) = false := by simp; omega
        have ej : (k + 1 + 1) / 2 = (k + 1) / 2 := by omega
        have EJ := Lib.hid ej; clear ej ev
        go_wp2
        go_round
        case rel => exact ⟨k + 1, by omega, by go_num, by rw [EJ.out]⟩
        case measure => simp [intOf]; omega
    · have e : k = s.size := by omega
      have e : nm (tot s ((k + 1) / 2)) = nm (all s) := by unfold all; rw [← e]
      rw [e] at n0 n1 ⊢
      go_wp2
      go_ret
      exact ⟨rfl, rfl⟩
/-- The checksum of parts, one after the other. -/
def morL (ss : List ByteArray) : Int := ss.foldl mor 1
theorem morL_take (ss : List ByteArray) (k : Nat) (h : k < ss.length) : mor (morL (ss.take k)) (ss.getD k ByteArray.empty) = morL (ss.take (k + 1)) := by
  unfold morL
  rw [List.take_add_one, List.foldl_append, List.getD_eq_getElem?_getD, List.getElem?_eq_getElem h]
  rfl
theorem morL_bd (ss : List ByteArray) : 0 ≤ morL ss ∧ morL ss ≤ 4294967295 := by
  rcases List.eq_nil_or_concat ss with rfl | ⟨l, x, rfl⟩
  · exact ⟨by decide, by decide⟩
  · unfold morL
    rw [List.concat_eq_append, List.foldl_append]
    exact mor_bd _ _

end Go.Proofs.Ytiaafpemhalmpaa
