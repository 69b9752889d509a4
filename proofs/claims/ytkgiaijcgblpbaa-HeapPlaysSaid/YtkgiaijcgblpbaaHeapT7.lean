/-
  Package heappifo for elements of type string: a heap that was made behind a world, as a sorted list. No condition but that the heap is one that New made.
-/
import Derived.Test.YtkgiaijcgblpbaaHeapT6
namespace Go.Proofs.Ytkgiaijcgblpbaa
set_option linter.unusedVariables false
set_option linter.unusedSimpArgs false
open Go.ChangeShapes Go.WideShapes Go.ChangeAt Go.RowKit

structure HeapBT (W0 w : World) (B : Nat) (room pd : Int) (v : Value) (ms : List (Ent ByteArray)) : Prop where
  g : HeapGT w W0.heap.size B room pd v ms
  b : Below W0.heap.size W0 w
theorem HeapBT.mv {W0 w w' : World} {B : Nat} {room pd : Int} {v v' : Value} {ms : List (Ent ByteArray)} (h : HeapBT W0 w B room pd v ms) (m : Mv w w' B v v') : Below W0.heap.size W0 w' :=
  m.below h.b h.g.own.1 (fun j hj => (h.g.own.2.2 j hj).1) h.b.size
theorem HeapBT.below {W0 w w' : World} {B : Nat} {room pd : Int} {v : Value} {ms : List (Ent ByteArray)} (h : HeapBT W0 w B room pd v ms) (hb : Below w.heap.size w w') : HeapBT W0 w' B room pd v ms :=
  ⟨h.g.below hb, h.b.trans (hb.mono h.b.size)⟩
theorem newBT (room : Int) (r0 : 1 ≤ room) (r1 : room ≤ 4096) (w : World) :
    Calls Try.prog 67 #[.int .i64 room] w fun e w' => e = .returned (.tuple #[.pointer (some ⟨w.heap.size, 0, none⟩), .int .i64 0]) ∧ HeapBT w w' w.heap.size room 0 (.slice none 0 0) [] := by
  refine (hnew_okT room r0 r1 w).mono ?_
  rintro e w' ⟨rfl, h, b⟩
  exact ⟨rfl, HeapGT.start h, b⟩
theorem pushB_inT {W0 w : World} {B : Nat} {room pd : Int} {v : Value} {ms : List (Ent ByteArray)} (h : HeapBT W0 w B room pd v ms) (hl : (ms.length : Int) < room) (p1 : pd < 18446744073709551615) (rk : Int) (x : ByteArray) :
    Calls Try.prog 68 #[.pointer (some ⟨B, 0, none⟩), .int .u64 rk, Value.string x] w fun e w' => e = .returned (.bool true) ∧ ∃ v', HeapBT W0 w' B room (pd + 1) v' (insR ms ⟨rk, x, pd⟩) ∧ Mv w w' B v v' := by
  refine (pushHT h.g p1 rk x h.b.size).mono ?_
  rintro e w' ⟨d, rfl, hd, hc⟩
  rw [decide_eq_true hl] at hd
  subst hd
  rcases hc with ⟨hc, _⟩ | ⟨_, v', h1, m⟩
  · cases hc
  · exact ⟨rfl, v', ⟨h1, h.mv m⟩, m⟩
theorem pushB_outT {W0 w : World} {B : Nat} {room pd : Int} {v : Value} {ms : List (Ent ByteArray)} (h : HeapBT W0 w B room pd v ms) (hl : ¬ (ms.length : Int) < room) (p1 : pd < 18446744073709551615) (rk : Int) (x : ByteArray) :
    Calls Try.prog 68 #[.pointer (some ⟨B, 0, none⟩), .int .u64 rk, Value.string x] w fun e w' => e = .returned (.bool false) ∧ HeapBT W0 w' B room pd v ms ∧ Below w.heap.size w w' := by
  refine (pushHT h.g p1 rk x h.b.size).mono ?_
  rintro e w' ⟨d, rfl, hd, hc⟩
  rw [decide_eq_false hl] at hd
  subst hd
  rcases hc with ⟨_, n, rfl⟩ | ⟨hc, _⟩
  · exact ⟨rfl, ⟨h.g.drewN n, below_drewN n h.b⟩, below_drewN n (Below.refl _ _)⟩
  · cases hc
theorem popB_inT {W0 w : World} {B : Nat} {room pd : Int} {v : Value} {e0 : Ent ByteArray} {ms : List (Ent ByteArray)} (h : HeapBT W0 w B room pd v (e0 :: ms)) :
    Calls Try.prog 69 #[.pointer (some ⟨B, 0, none⟩)] w fun e w' => e = .returned (.tuple #[.int .u64 e0.rk, Value.string e0.x, .bool true]) ∧ ∃ v', HeapBT W0 w' B room pd v' ms ∧ Mv w w' B v v' := by
  refine (popH_inT h.g).mono ?_
  rintro e w' ⟨rfl, v', h1, m⟩
  exact ⟨rfl, v', ⟨h1, h.mv m⟩, m⟩
end Go.Proofs.Ytkgiaijcgblpbaa
