/-
  Package heappifo for elements of type int: a heap that was made behind a world, as a sorted list. No condition but that the heap is one that New made.
-/
import Derived.Test.YtkgiaijcgblpbaaHeapI6
namespace Go.Proofs.Ytkgiaijcgblpbaa
set_option linter.unusedVariables false
set_option linter.unusedSimpArgs false
open Go.ChangeShapes Go.WideShapes Go.ChangeAt Go.RowKit

structure HeapBI (W0 w : World) (B : Nat) (room pd : Int) (v : Value) (ms : List (Ent Int)) : Prop where
  g : HeapGI w W0.heap.size B room pd v ms
  b : Below W0.heap.size W0 w
theorem HeapBI.mv {W0 w w' : World} {B : Nat} {room pd : Int} {v v' : Value} {ms : List (Ent Int)} (h : HeapBI W0 w B room pd v ms) (m : Mv w w' B v v') : Below W0.heap.size W0 w' :=
  m.below h.b h.g.own.1 (fun j hj => (h.g.own.2.2 j hj).1) h.b.size
theorem HeapBI.below {W0 w w' : World} {B : Nat} {room pd : Int} {v : Value} {ms : List (Ent Int)} (h : HeapBI W0 w B room pd v ms) (hb : Below w.heap.size w w') : HeapBI W0 w' B room pd v ms :=
  ⟨h.g.below hb, h.b.trans (hb.mono h.b.size)⟩
theorem newBI (room : Int) (r0 : 1 ≤ room) (r1 : room ≤ 4096) (w : World) :
    Calls Try.prog 27 #[.int .i64 room] w fun e w' => e = .returned (.tuple #[.pointer (some ⟨w.heap.size, 0, none⟩), .int .i64 0]) ∧ HeapBI w w' w.heap.size room 0 (.slice none 0 0) [] := by
  refine (hnew_okI room r0 r1 w).mono ?_
  rintro e w' ⟨rfl, h, b⟩
  exact ⟨rfl, HeapGI.start h, b⟩
theorem pushB_inI {W0 w : World} {B : Nat} {room pd : Int} {v : Value} {ms : List (Ent Int)} (h : HeapBI W0 w B room pd v ms) (hl : (ms.length : Int) < room) (p1 : pd < 18446744073709551615) (rk : Int) (x : Int) :
    Calls Try.prog 30 #[.pointer (some ⟨B, 0, none⟩), .int .u64 rk, Value.int .i64 x] w fun e w' => e = .returned (.bool true) ∧ ∃ v', HeapBI W0 w' B room (pd + 1) v' (insR ms ⟨rk, x, pd⟩) ∧ Mv w w' B v v' := by
  refine (pushHI h.g p1 rk x h.b.size).mono ?_
  rintro e w' ⟨d, rfl, hd, hc⟩
  rw [decide_eq_true hl] at hd
  subst hd
  rcases hc with ⟨hc, _⟩ | ⟨_, v', h1, m⟩
  · cases hc
  · exact ⟨rfl, v', ⟨h1, h.mv m⟩, m⟩
theorem pushB_outI {W0 w : World} {B : Nat} {room pd : Int} {v : Value} {ms : List (Ent Int)} (h : HeapBI W0 w B room pd v ms) (hl : ¬ (ms.length : Int) < room) (p1 : pd < 18446744073709551615) (rk : Int) (x : Int) :
    Calls Try.prog 30 #[.pointer (some ⟨B, 0, none⟩), .int .u64 rk, Value.int .i64 x] w fun e w' => e = .returned (.bool false) ∧ HeapBI W0 w' B room pd v ms ∧ Below w.heap.size w w' := by
  refine (pushHI h.g p1 rk x h.b.size).mono ?_
  rintro e w' ⟨d, rfl, hd, hc⟩
  rw [decide_eq_false hl] at hd
  subst hd
  rcases hc with ⟨_, n, rfl⟩ | ⟨hc, _⟩
  · exact ⟨rfl, ⟨h.g.drewN n, below_drewN n h.b⟩, below_drewN n (Below.refl _ _)⟩
  · cases hc
theorem popB_inI {W0 w : World} {B : Nat} {room pd : Int} {v : Value} {e0 : Ent Int} {ms : List (Ent Int)} (h : HeapBI W0 w B room pd v (e0 :: ms)) :
    Calls Try.prog 32 #[.pointer (some ⟨B, 0, none⟩)] w fun e w' => e = .returned (.tuple #[.int .u64 e0.rk, Value.int .i64 e0.x, .bool true]) ∧ ∃ v', HeapBI W0 w' B room pd v' ms ∧ Mv w w' B v v' := by
  refine (popH_inI h.g).mono ?_
  rintro e w' ⟨rfl, v', h1, m⟩
  exact ⟨rfl, v', ⟨h1, h.mv m⟩, m⟩
end Go.Proofs.Ytkgiaijcgblpbaa
