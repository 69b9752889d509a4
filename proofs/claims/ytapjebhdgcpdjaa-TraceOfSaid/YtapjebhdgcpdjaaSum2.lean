/-
  What the calls of package sum and of the document's answer for layer 5 return, those that make memory among them, for any strings no longer than a string can be; what lay below the heap's end stands.
-/
import Derived.Test.YtapjebhdgcpdjaaSum1
import Derived.Laws.IdiomStrings
import Derived.Outline
import Derived.Deep.RegionHeld3
namespace Go.Proofs.Ytapjebhdgcpdjaa
set_option linter.unusedVariables false
set_option linter.unusedSimpArgs false
open Go.ChangeShapes Go.WideShapes Go.ChangeAt Go.RowKit
attribute [-go_sem] run_index_string binOp_string_eql binOp_string_neq run_string_add_if run_slice_string_from_if run_slice_string_to_if
attribute [local go_sem] index_bt add_fits slice_from slice_to eql_str neq_str alloc_drewN setCell_drewN

/-- A string of numbers as bytes. -/
def chrs (l : List Int) : ByteArray := ⟨(l.map fun n => UInt8.ofNat n.toNat).toArray⟩
theorem byte_of (x : Int) (h0 : 0 ≤ x) (h1 : x ≤ 255) : ((UInt8.ofNat x.toNat).toNat : Int) = x := by
  rw [UInt8.toNat_ofNat_of_lt' (by simp [UInt8.size]; omega)]; omega
theorem conv_cells {P : Program} (w : World) (src dst e : TypeId) (a : Addr) (cap : Nat) (l : List Int) (hs : P.underlying src = some (.slice e)) (he : P.underlying e = some (.int .u8)) (hd : P.underlying dst = some .string)
    (hl : ∀ x ∈ l, 0 ≤ x ∧ x ≤ 255) (hc : ∀ j (hj : j < l.length), w.cell? (a.add j) = some (.int .u8 (l[j]))) :
    (convert src dst (.slice (some a) l.length cap)).run P w = .ok (.string (chrs l)) w := by
  have := run_convert_bytes_back w src dst e a cap (l.map fun n => UInt8.ofNat n.toNat) hs he hd (fun j hj => by
    have hj' : j < l.length := by simpa using hj
    rw [hc j hj']
    have h := hl (l[j]) (List.getElem_mem _)
    simp only [List.getElem_map]
    rw [byte_of _ h.1 h.2])
  rw [List.length_map] at this
  exact this
theorem conv_one {P : Program} (w : World) (src dst e t : TypeId) (cap : Nat) (x : Int) (hs : P.underlying src = some (.slice e)) (he : P.underlying e = some (.int .u8)) (hd : P.underlying dst = some .string) (x0 : 0 ≤ x) (x1 : x ≤ 255) :
    (convert src dst (.slice (some ⟨w.heap.size, 0, none⟩) 1 cap)).run P (w.alloc (.cells #[.int .u8 x] t)) = .ok (.string (chrs [x])) (w.alloc (.cells #[.int .u8 x] t)) := by
  refine conv_cells (w.alloc (.cells #[.int .u8 x] t)) src dst e ⟨w.heap.size, 0, none⟩ cap [x] hs he hd (by simp; omega) ?_
  intro j hj
  have : j = 0 := by simp at hj; omega
  subst this
  exact World.cell?_alloc_mark w #[Value.int .u8 x] t (0, 0) 0
theorem conv_four {P : Program} (w : World) (src dst e t : TypeId) (cap : Nat) (x y z u : Int) (hs : P.underlying src = some (.slice e)) (he : P.underlying e = some (.int .u8)) (hd : P.underlying dst = some .string)
    (x0 : 0 ≤ x) (x1 : x ≤ 255) (y0 : 0 ≤ y) (y1 : y ≤ 255) (z0 : 0 ≤ z) (z1 : z ≤ 255) (u0 : 0 ≤ u) (u1 : u ≤ 255) :
    (convert src dst (.slice (some ⟨w.heap.size, 0, none⟩) 4 cap)).run P (w.alloc (.cells #[.int .u8 x, .int .u8 y, .int .u8 z, .int .u8 u] t)) = .ok (.string (chrs [x, y, z, u])) (w.alloc (.cells #[.int .u8 x, .int .u8 y, .int .u8 z, .int .u8 u] t)) := by
  refine conv_cells (w.alloc (.cells #[.int .u8 x, .int .u8 y, .int .u8 z, .int .u8 u] t)) src dst e ⟨w.heap.size, 0, none⟩ cap [x, y, z, u] hs he hd (by simp; omega) ?_
  intro j hj
  have hj : j < 4 := by simpa using hj
  have : (w.alloc (.cells #[.int .u8 x, .int .u8 y, .int .u8 z, .int .u8 u] t)).cell? ((⟨w.heap.size, 0, none⟩ : Addr).add j) = #[Value.int .u8 x, .int .u8 y, .int .u8 z, .int .u8 u][j]? := by
    have := World.cell?_alloc_mark w #[Value.int .u8 x, .int .u8 y, .int .u8 z, .int .u8 u] t (0, 0) j
    have e : ((⟨w.heap.size, 0, none⟩ : Addr).add j) = ⟨w.heap.size, j, none⟩ := by simp [Addr.add]; omega
    rw [e]; exact this
  rw [this]
  match j, hj with
  | 0, _ => rfl
  | 1, _ => rfl
  | 2, _ => rfl
  | 3, _ => rfl
theorem conv_one_drew {P : Program} (w : World) (src dst e t : TypeId) (cap : Nat) (x : Int) (hs : P.underlying src = some (.slice e)) (he : P.underlying e = some (.int .u8)) (hd : P.underlying dst = some .string) (x0 : 0 ≤ x) (x1 : x ≤ 255) :
    (convert src dst (.slice (some ⟨w.heap.size, 0, none⟩) 1 cap)).run P (w.alloc (.cells #[.int .u8 x] t)).drew = .ok (.string (chrs [x])) (w.alloc (.cells #[.int .u8 x] t)).drew := by
  refine conv_cells (w.alloc (.cells #[.int .u8 x] t)).drew src dst e ⟨w.heap.size, 0, none⟩ cap [x] hs he hd (by simp; omega) ?_
  intro j hj
  have : j = 0 := by simp at hj; omega
  subst this
  exact World.cell?_alloc_mark w #[Value.int .u8 x] t (0, 0) 0
attribute [local go_sem] conv_one conv_four conv_one_drew

theorem with_any (s : ByteArray) (k : Nat) (c : Int) (hk : k < s.size) (hs : s.size ≤ 140737488355328) (c0 : 0 ≤ c) (c1 : c ≤ 255) (w : World) :
    Calls Try.prog 36 #[.string s, .int .i64 k, .int .u8 c] w fun e w' => e = .returned (.string (wth s k (UInt8.ofNat c.toNat))) ∧ Below w.heap.size w w' := by
  have e : s.extract 0 k ++ chrs [c] ++ s.extract (k + 1) s.size = wth s k (UInt8.ofNat c.toNat) := rfl
  have e1 : (s.extract 0 k).size = k := by rw [size_ext _ _ _ (by omega)]; rfl
  have e2 : (chrs [c]).size = 1 := rfl
  have e3 : (s.extract (k + 1) s.size).size = s.size - (k + 1) := size_ext _ _ _ (Nat.le_refl _)
  have l1 : Fits (s.extract 0 k) (chrs [c]) := ⟨by rw [e1, e2]; omega⟩
  have l2 : Fits (s.extract 0 k ++ chrs [c]) (s.extract (k + 1) s.size) := ⟨by rw [ByteArray.size_append, e1, e2, e3]; omega⟩
  have k1 : InS s ((k : Int) + 1) := ⟨by omega⟩
  have k2 : InS s (k : Int) := ⟨by omega⟩
  have k3 : ((k : Int) + 1).toNat = k + 1 := by omega
  have k4 : IntKind.i64.wrap ((k : Int) + 1) = (k : Int) + 1 := by rw [IntKind.wrap_i64]; omega
  rw [← e]
  clear e e1 e2 e3
  go_enter Try.func36, Try.ntmps36
  go_wp2
  go_region
  go_wp2
  go_ret
  exact ⟨rfl, ((Below.refl _ _).alloc (Nat.le_refl _) _).drew⟩
theorem refmore_any (n : Int) (s : ByteArray) (n0 : 0 ≤ n) (n1 : n ≤ 4294967295) (hs : s.size ≤ 140737488355328) (w : World) :
    Calls Try.prog 126 #[.int .u32 n, .string s] w fun e w' => e = .returned (.int .u32 (mor n s)) ∧ w = w' := by
  have L0 := lowN_bd s (n % 65536 % 65521) (by omega) (by omega)
  have H0 := highN_bd s (n % 65536 % 65521) (n / 65536 % 65521) (by omega) (by omega)
  obtain ⟨l, hl⟩ : ∃ l, n % 65536 % 65521 = l := ⟨_, rfl⟩
  obtain ⟨h, hh⟩ : ∃ h, n / 65536 % 65521 = h := ⟨_, rfl⟩
  have em : mor n s = highN s l h s.size * 65536 + lowN s l s.size := by unfold mor; rw [hl, hh]
  rw [hl] at L0 H0; rw [hh] at H0
  rw [em]
  have L := Lib.hid L0; have H := Lib.hid H0
  clear em L0 H0
  go_enter Try.func126, Try.ntmps126
  go_wp2
  go_loop [5, 6, 7] (fun a b i => ∃ k : Nat, k ≤ s.size ∧ i = .int .i64 k ∧ a = .int .i64 (lowN s l k) ∧ b = .int .i64 (highN s l h k)) (fun _ _ i => s.size - (intOf i).toNat)
  case atStart => exact ⟨0, by omega, rfl, by rw [hl]; rfl, by rw [hh]; rfl⟩
  case round =>
    obtain ⟨k, hk, rfl, rfl, rfl⟩ := hrel
    by_cases hlt : k < s.size
    · have l1 := L.out k
      have h1 := H.out k
      have b1 := bt_bd s k
      have e1 : (lowN s l k + bt s k) % 65521 = lowN s l (k + 1) := rfl
      have e2 : (highN s l h k + lowN s l (k + 1)) % 65521 = highN s l h (k + 1) := rfl
      have l2 := L.out (k + 1)
      have h2 := H.out (k + 1)
      obtain ⟨l10, l11⟩ := l1; obtain ⟨h10, h11⟩ := h1; obtain ⟨b10, b11⟩ := b1; obtain ⟨l20, l21⟩ := l2; obtain ⟨h20, h21⟩ := h2
      generalize G2a : lowN s l (k + 1) = L2 at e1 e2 l20 l21 h20 h21
      generalize G3a : highN s l h (k + 1) = H2 at e1 e2 l20 l21 h20 h21
      have G2 := Lib.hid G2a; have G3 := Lib.hid G3a; clear G2a G3a
      go_wp2
      go_round
      case rel => exact ⟨k + 1, by omega, by go_num, by first | rfl | rw [G2.out], by first | rw [e2, G3.out] | rw [G3.out]⟩
      case measure => simp [intOf]; omega
    · have e : k = s.size := by omega
      subst e
      have l1 := L.out s.size
      have h1 := H.out s.size
      go_wp2
      go_ret
      exact ⟨rfl, rfl⟩
theorem refof_any (s : ByteArray) (hs : s.size ≤ 140737488355328) (w : World) :
    Calls Try.prog 109 #[.string s] w fun e w' => e = .returned (.int .u32 (mor 1 s)) ∧ w = w' := by
  go_enter Try.func109, Try.ntmps109
  go_wp2_with fail
  refine (refmore_any 1 s (by omega) (by omega) hs _).mono ?_
  rintro e w' ⟨rfl, rfl⟩
  go_wp2
  go_ret
  exact ⟨rfl, rfl⟩
/-- The checksum of parts, one after the other. -/
def morL (ss : List ByteArray) : Int := ss.foldl mor 1
theorem morL_take (ss : List ByteArray) (k : Nat) (h : k < ss.length) : mor (morL (ss.take k)) (ss.getD k ByteArray.empty) = morL (ss.take (k + 1)) := by
  unfold morL
  rw [List.take_add_one, List.foldl_append, List.getD_eq_getElem?_getD, List.getElem?_eq_getElem h]
  rfl
theorem morL_bd (ss : List ByteArray) : 0 ≤ morL ss ∧ morL ss ≤ 4294967295 := by
  rcases List.eq_nil_or_concat ss with rfl | ⟨l, x, rfl⟩
  · exact ⟨by decide, by decide⟩
  · unfold morL
    rw [List.concat_eq_append, List.foldl_append]
    exact mor_bd _ _

theorem of_at (b off n c : Nat) (ss : List ByteArray) (hn : n = ss.length) (hw : ∀ x ∈ ss, x.size ≤ 140737488355328) (hm : n ≤ maxLen) (w : World)
    (hc : ∀ i, i < ss.length → w.cell? ⟨b, off + i, none⟩ = some (.string (ss.getD i ByteArray.empty))) :
    Calls Try.prog 107 #[.slice (some ⟨b, off, none⟩) n c] w fun e w' => e = .returned (.int .u32 (morL ss)) ∧ w = w' := by
  subst hn
  unfold maxLen at hm
  have HC := Lib.hid hc; clear hc
  have HW := Lib.hid hw; clear hw
  go_enter Try.func107, Try.ntmps107
  go_wp2
  go_loop [3, 8] (fun s i => ∃ k : Nat, k ≤ ss.length ∧ i = .int .i64 k ∧ s = .int .u32 (morL (ss.take k))) (fun _ i => ss.length - (intOf i).toNat)
  case atStart => exact ⟨0, Nat.zero_le _, rfl, rfl⟩
  case round =>
    obtain ⟨k, hk, rfl, rfl⟩ := hrel
    obtain ⟨t0, t1⟩ := morL_bd (ss.take k)
    by_cases hlt : k < ss.length
    · have hcell := HC.out k (by omega)
      have x0 := HW.out (ss.getD k ByteArray.empty) (by rw [List.getD_eq_getElem?_getD, List.getElem?_eq_getElem (by omega : k < ss.length)]; exact List.getElem_mem _)
      have HT := Lib.hid (morL_take ss k (by omega))
      generalize ss.getD k ByteArray.empty = x at *
      go_wp2_with fail
      refine (more_any _ _ t0 t1 x0 _).mono ?_
      rintro e w' ⟨rfl, rfl⟩
      rw [HT.out]
      go_wp2
      go_round
      case rel => exact ⟨k + 1, by omega, by go_num, rfl⟩
      case measure => simp [intOf]; omega
    · have e : ss.take k = ss := List.take_of_length_le (by omega)
      have E := Lib.hid e; clear e
      go_wp2
      go_ret
      exact ⟨by rw [E.out]; rfl, rfl⟩
theorem of_none (a : Option Addr) (c : Nat) (w : World) :
    Calls Try.prog 107 #[.slice a 0 c] w fun e w' => e = .returned (.int .u32 1) ∧ w = w' := by
  go_enter Try.func107, Try.ntmps107
  go_wp2
  refine wp_loop_rounds 1 ?_
  rw [rounds_succ]
  go_wp2
  go_ret
  exact ⟨rfl, rfl⟩
end Go.Proofs.Ytapjebhdgcpdjaa
