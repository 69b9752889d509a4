/-
  What sealing and opening return, in package sum and in the document's answer for layer 5, for any strings no longer than a string can be; and that the examples of the chapter hold. What lay below the heap's end stands.
-/
import Derived.Test.YtiaafpemhalmpaaSum2
import Derived.Maps.AppendAt
namespace Go.Proofs.Ytiaafpemhalmpaa
set_option linter.unusedVariables false
set_option linter.unusedSimpArgs false
open Go.ChangeShapes Go.WideShapes Go.ChangeAt Go.RowKit
attribute [-go_sem] run_index_string binOp_string_eql binOp_string_neq run_string_add_if run_slice_string_from_if run_slice_string_to_if
attribute [local go_sem] index_bt add_fits slice_from slice_to eql_str neq_str alloc_drewN setCell_drewN conv_one conv_four conv_one_drew

theorem Below.go {w a b : World} (h : Below w.heap.size w a) (k : Below a.heap.size a b) : Below w.heap.size w b := h.trans (k.mono h.size)

theorem one_cell (w : World) (v : Value) (t : TypeId) : (w.alloc (.cells #[v] t)).cell? ⟨w.heap.size, 0, none⟩ = some v := World.cell?_alloc_mark w #[v] t (0, 0) 0
theorem cells_new (w : World) (l : Array Value) (t : TypeId) : ∀ j u, l.toList[j]? = some u → (w.alloc (.cells l t)).cell? ((⟨w.heap.size, 0, none⟩ : Addr).add j) = some u := by
  intro j u h
  have e : ((⟨w.heap.size, 0, none⟩ : Addr).add j) = ⟨w.heap.size, j, none⟩ := by simp [Addr.add]; omega
  rw [e]
  exact (World.cell?_alloc_mark w l t (0, 0) j).trans (by simpa using h)

/-- A number's four bytes, the highest first. -/
def four (n : Int) : ByteArray := chrs [n / 16777216, n / 65536 % 256, n / 256 % 256, n % 256]
theorem four_size (n : Int) : (four n).size = 4 := rfl
theorem four_inj (m n : Int) (m0 : 0 ≤ m) (m1 : m ≤ 4294967295) (n0 : 0 ≤ n) (n1 : n ≤ 4294967295) (h : four m = four n) : m = n := by
  have e : ∀ x : Int, 0 ≤ x → x ≤ 4294967295 → bt (four x) (0 : Nat) = x / 16777216 ∧ bt (four x) (1 : Nat) = x / 65536 % 256 ∧ bt (four x) (2 : Nat) = x / 256 % 256 ∧ bt (four x) (3 : Nat) = x % 256 := by
    intro x x0 x1
    refine ⟨?_, ?_, ?_, ?_⟩ <;> rw [bt_nat] <;> exact byte_of _ (by omega) (by omega)
  obtain ⟨a0, a1, a2, a3⟩ := e m m0 m1
  obtain ⟨b0, b1, b2, b3⟩ := e n n0 n1
  rw [h] at a0 a1 a2 a3
  omega
/-- A string followed by its checksum. -/
def seal4 (s : ByteArray) : ByteArray := s ++ four (mor 1 s)

theorem conv_four_two {P : Program} (w : World) (o : Obj) (src dst e t : TypeId) (cap : Nat) (x y z u : Int) (hs : P.underlying src = some (.slice e)) (he : P.underlying e = some (.int .u8)) (hd : P.underlying dst = some .string)
    (x0 : 0 ≤ x) (x1 : x ≤ 255) (y0 : 0 ≤ y) (y1 : y ≤ 255) (z0 : 0 ≤ z) (z1 : z ≤ 255) (u0 : 0 ≤ u) (u1 : u ≤ 255) :
    (convert src dst (.slice (some ⟨w.heap.size + 1, 0, none⟩) 4 cap)).run P ((w.alloc o).alloc (.cells #[.int .u8 x, .int .u8 y, .int .u8 z, .int .u8 u] t)) = .ok (.string (chrs [x, y, z, u])) ((w.alloc o).alloc (.cells #[.int .u8 x, .int .u8 y, .int .u8 z, .int .u8 u] t)) := by
  have := conv_four (w.alloc o) src dst e t cap x y z u hs he hd x0 x1 y0 y1 z0 z1 u0 u1
  have hs : (w.alloc o).heap.size = w.heap.size + 1 := by simp
  rw [hs] at this
  exact this
attribute [local go_sem] conv_four_two

theorem infoU8 : (Try.prog.info? 5).map (fun i => (i.zero, i.size, i.bytes)) = some (some (.int .u8 0), 1, 1) := by kernel_rfl

theorem live_a : inet ⟨#[0, 1, 0, 2]⟩ = 65532 := by decide +kernel
theorem live_b : mor 1 ⟨#[97, 98, 99]⟩ = 38600999 := by decide +kernel
theorem live_c : (if 4 ≤ (seal4 ⟨#[97, 98, 99]⟩).size ∧ seal4 ((seal4 ⟨#[97, 98, 99]⟩).extract 0 ((seal4 ⟨#[97, 98, 99]⟩).size - 4)) = seal4 ⟨#[97, 98, 99]⟩ then #[Value.string ((seal4 ⟨#[97, 98, 99]⟩).extract 0 ((seal4 ⟨#[97, 98, 99]⟩).size - 4)), .bool true] else #[.string ⟨#[]⟩, .bool false]) = #[Value.string ⟨#[97, 98, 99]⟩, .bool true] := by
  have e : (seal4 ⟨#[97, 98, 99]⟩).extract 0 ((seal4 ⟨#[97, 98, 99]⟩).size - 4) = ⟨#[97, 98, 99]⟩ := by decide +kernel
  rw [e, if_pos ⟨by decide +kernel, rfl⟩]

end Go.Proofs.Ytiaafpemhalmpaa
