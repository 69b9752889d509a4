/-
  What the calls of package sum and of the document's answer for layer 5 return, those that make memory among them, for any strings no longer than a string can be; what lay below the heap's end stands.
-/
import Derived.Test.YtdlcipbehalfhaaSum1
import Derived.Laws.IdiomStrings
import Derived.Outline
import Derived.Deep.RegionHeld3
namespace Go.Proofs.Ytdlcipbehalfhaa
set_option linter.unusedVariables false
set_option linter.unusedSimpArgs false
open Go.ChangeShapes Go.WideShapes Go.ChangeAt Go.RowKit
attribute [-go_sem] run_index_string binOp_string_eql binOp_string_neq run_string_add_if run_slice_string_from_if run_slice_string_to_if
attribute [local go_sem] index_bt add_fits slice_from slice_to eql_str neq_str alloc_drewN setCell_drewN

/-- A string of numbers as bytes. -/
def chrs (l : List Int) : ByteArray := ⟨(l.map fun n => UInt8.ofNat n.toNat).toArray⟩
theorem byte_of (x : Int) (h0 : 0 ≤ x) (h1 : x ≤ 255) : ((UInt8.ofNat x.toNat).toNat : Int) = x := by
  rw [UInt8.toNat_ofNat_of_lt' (by simp [UInt8.size]; omega)]; omega
theorem conv_cells {P : Program} (w : World) (src dst e : TypeId) (a : Addr) (cap : Nat) (l : List Int) (hs : P.underlying src = some (.slice e)) (he : P.underlying e = some (.int .u8)) (hd : P.underlying dst = some .string)
    (hl : ∀ x ∈ l, 0 ≤ x ∧ x ≤ 255) (hc : ∀ j (hj : j < l.length), w.cell? (a.add j) = some (.int .u8 (l[j]))) :
    (convert src dst (.slice (some a) l.length cap)).run P w = .ok (.string (chrs l)) w := by
  have := run_convert_bytes_back w src dst e a cap (l.map fun n => UInt8.ofNat n.toNat) hs he hd (fun j hj => by
    have hj' : j < l.length := by simpa using hj
    rw [hc j hj']
    have h := hl (l[j]) (List.getElem_mem _)
    simp only [List.getElem_map]
    rw [byte_of _ h.1 h.2])
  rw [List.length_map] at this
  exact this
theorem conv_one {P : Program} (w : World) (src dst e t : TypeId) (cap : Nat) (x : Int) (hs : P.underlying src = some (.slice e)) (he : P.underlying e = some (.int .u8)) (hd : P.underlying dst = some .string) (x0 : 0 ≤ x) (x1 : x ≤ 255) :
    (convert src dst (.slice (some ⟨w.heap.size, 0, none⟩) 1 cap)).run P (w.alloc (.cells #[.int .u8 x] t)) = .ok (.string (chrs [x])) (w.alloc (.cells #[.int .u8 x] t)) := by
  refine conv_cells (w.alloc (.cells #[.int .u8 x] t)) src dst e ⟨w.heap.size, 0, none⟩ cap [x] hs he hd (by simp; omega) ?_
  intro j hj
  have : j = 0 := by simp at hj; omega
  subst this
  exact World.cell?_alloc_mark w #[Value.int .u8 x] t (0, 0) 0
theorem conv_four {P : Program} (w : World) (src dst e t : TypeId) (cap : Nat) (x y z u : Int) (hs : P.underlying src = some (.slice e)) (he : P.underlying e = some (.int .u8)) (hd : P.underlying dst = some .string)
    (x0 : 0 ≤ x) (x1 : x ≤ 255) (y0 : 0 ≤ y) (y1 : y ≤ 255) (z0 : 0 ≤ z) (z1 : z ≤ 255) (u0 : 0 ≤ u) (u1 : u ≤ 255) :
    (convert src dst (.slice (some ⟨w.heap.size, 0, none⟩) 4 cap)).run P (w.alloc (.cells #[.int .u8 x, .int .u8 y, .int .u8 z, .int .u8 u] t)) = .ok (.string (chrs [x, y, z, u])) (w.alloc (.cells #[.int .u8 x, .int .u8 y, .int .u8 z, .int .u8 u] t)) := by
  refine conv_cells (w.alloc (.cells #[.int .u8 x, .int .u8 y, .int .u8 z, .int .u8 u] t)) src dst e ⟨w.heap.size, 0, none⟩ cap [x, y, z, u] hs he hd (by simp; omega) ?_
  intro j hj
  have hj : j < 4 := by simpa using hj
  have : (w.alloc (.cells #[.int .u8 x, .int .u8 y, .int .u8 z, .int .u8 u] t)).cell? ((⟨w.heap.size, 0, none⟩ : Addr).add j) = #[Value.int .u8 x, .int .u8 y, .int .u8 z, .int .u8 u][j]? := by
    have := World.cell?_alloc_mark w #[Value.int .u8 x, .int .u8 y, .int .u8 z, .int .u8 u] t (0, 0) j
    have e : ((⟨w.heap.size, 0, none⟩ : Addr).add j) = ⟨w.heap.size, j, none⟩ := by simp [Addr.add]; omega
    rw [e]; exact this
  rw [this]
  match j, hj with
  | 0, _ => rfl
  | 1, _ => rfl
  | 2, _ => rfl
  | 3, _ => rfl
theorem conv_one_drew {P : Program} (w : World) (src dst e t : TypeId) (cap : Nat) (x : Int) (hs : P.underlying src = some (.slice e)) (he : P.underlying e = some (.int .u8)) (hd : P.underlying dst = some .string) (x0 : 0 ≤ x) (x1 : x ≤ 255) :
    (convert src dst (.slice (some ⟨w.heap.size, 0, none⟩) 1 cap)).run P (w.alloc (.cells #[.int .u8 x] t)).drew = .ok (.string (chrs [x])) (w.alloc (.cells #[.int .u8 x] t)).drew := by
  refine conv_cells (w.alloc (.cells #[.int .u8 x] t)).drew src dst e ⟨w.heap.size, 0, none⟩ cap [x] hs he hd (by simp; omega) ?_
  intro j hj
  have : j = 0 := by simp at hj; omega
  subst this
  exact World.cell?_alloc_mark w #[Value.int .u8 x] t (0, 0) 0
attribute [local go_sem] conv_one conv_four conv_one_drew

/-- The checksum of parts, one after the other. -/
def morL (ss : List ByteArray) : Int := ss.foldl mor 1
theorem morL_take (ss : List ByteArray) (k : Nat) (h : k < ss.length) : mor (morL (ss.take k)) (ss.getD k ByteArray.empty) = morL (ss.take (k + 1)) := by
  unfold morL
  rw [List.take_add_one, List.foldl_append, List.getD_eq_getElem?_getD, List.getElem?_eq_getElem h]
  rfl
theorem morL_bd (ss : List ByteArray) : 0 ≤ morL ss ∧ morL ss ≤ 4294967295 := by
  rcases List.eq_nil_or_concat ss with rfl | ⟨l, x, rfl⟩
  · exact ⟨by decide, by decide⟩
  · unfold morL
    rw [List.concat_eq_append, List.foldl_append]
    exact mor_bd _ _

end Go.Proofs.Ytdlcipbehalfhaa
