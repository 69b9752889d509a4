/-
  Package twin for elements of type string: what is squeezed in; a queue that was made behind a world. No condition but that the queue is one that New made.
-/
import Derived.Test.YtiijlfpkninmgaaTwinT7
namespace Go.Proofs.Ytiijlfpkninmgaa
set_option linter.unusedVariables false
set_option linter.unusedSimpArgs false
open Go.ChangeShapes Go.WideShapes Go.ChangeAt Go.RowKit
attribute [local go_sem] alloc_drewN setCell_drewN

structure TwinBT (W0 w : World) (base B : Nat) (room pd : Int) (v : Value) (ms : List (Ent ByteArray)) : Prop where
  g : TwinGT w base B room pd v ms
  b : Below W0.heap.size W0 w
  s : W0.heap.size ≤ base
  z : base ≤ w.heap.size
theorem TwinBT.mv {W0 w w' : World} {base B : Nat} {room pd : Int} {v v' : Value} {ms : List (Ent ByteArray)} (h : TwinBT W0 w base B room pd v ms) (m : Mv w w' B v v') : Below W0.heap.size W0 w' :=
  m.below h.b (Nat.le_trans h.s h.g.own.1) (fun j hj => Nat.le_trans h.s (h.g.own.2.2 j hj).1) h.b.size
theorem TwinBT.below {W0 w w' : World} {base B : Nat} {room pd : Int} {v : Value} {ms : List (Ent ByteArray)} (h : TwinBT W0 w base B room pd v ms) (hb : Below w.heap.size w w') : TwinBT W0 w' base B room pd v ms :=
  ⟨h.g.below hb, h.b.trans (hb.mono h.b.size), h.s, Nat.le_trans h.z hb.size⟩
theorem TwinBT.next {W0 w w' : World} {base B : Nat} {room pd pd' : Int} {v v' : Value} {ms ms' : List (Ent ByteArray)} (h : TwinBT W0 w base B room pd v ms) (h1 : TwinGT w' base B room pd' v' ms') (m : Mv w w' B v v') : TwinBT W0 w' base B room pd' v' ms' :=
  ⟨h1, h.mv m, h.s, Nat.le_trans h.z m.size⟩
theorem newWT (room : Int) (r0 : 1 ≤ room) (r1 : room ≤ 4096) (W0 w : World) (hb : Below W0.heap.size W0 w) :
    Calls Try.prog 72 #[.int .i64 room] w fun e w' => e = .returned (.tuple #[.pointer (some ⟨w.heap.size, 0, none⟩), .int .i64 0]) ∧ TwinBT W0 w' w.heap.size w.heap.size room 0 (.slice none 0 0) [] ∧ Below w.heap.size w w' := by
  refine (tnew_GT room r0 r1 w).mono ?_
  rintro e w' ⟨rfl, h, b⟩
  exact ⟨rfl, ⟨h, hb.trans (b.mono hb.size), hb.size, b.size⟩, b⟩
theorem pushXT {W0 w : World} {base B : Nat} {room pd : Int} {v : Value} {ms : List (Ent ByteArray)} (h : TwinBT W0 w base B room pd v ms) (hl : (ms.length : Int) < room) (p1 : pd < 18446744073709551615) (rk : Int) (x : ByteArray) :
    Calls Try.prog 73 #[.pointer (some ⟨B, 0, none⟩), .int .u64 rk, Value.string x] w fun e w' => e = .returned (.bool true) ∧ ∃ v', TwinBT W0 w' base B room (pd + 1) v' (insR ms ⟨rk, x, pd⟩) ∧ Mv w w' B v v' := by
  refine (pushW_inT h.g hl p1 rk x h.z).mono ?_
  rintro e w' ⟨rfl, v', h1, m⟩
  exact ⟨rfl, v', h.next h1 m, m⟩
theorem pushX_outT {W0 w : World} {base B : Nat} {room pd : Int} {v : Value} {ms : List (Ent ByteArray)} (h : TwinBT W0 w base B room pd v ms) (hl : ¬ (ms.length : Int) < room) (rk : Int) (x : ByteArray) :
    Calls Try.prog 73 #[.pointer (some ⟨B, 0, none⟩), .int .u64 rk, Value.string x] w fun e w' => e = .returned (.bool false) ∧ TwinBT W0 w' base B room pd v ms ∧ Below w.heap.size w w' := by
  refine (pushW_outT h.g hl rk x).mono ?_
  rintro e w' ⟨rfl, n, rfl⟩
  exact ⟨rfl, h.below (below_drewN n (Below.refl _ _)), below_drewN n (Below.refl _ _)⟩
theorem maxXT {W0 w : World} {base B : Nat} {room pd : Int} {v : Value} {e0 : Ent ByteArray} {ms : List (Ent ByteArray)} (h : TwinBT W0 w base B room pd v (ms ++ [e0])) :
    Calls Try.prog 75 #[.pointer (some ⟨B, 0, none⟩)] w fun e w' => e = .returned (.tuple #[.int .u64 e0.rk, Value.string e0.x, .bool true]) ∧ TwinBT W0 w' base B room pd v (ms ++ [e0]) ∧ Below w.heap.size w w' := by
  refine (maxWT h.g).mono ?_
  rintro e w' ⟨rfl, hb⟩
  exact ⟨rfl, h.below hb, hb⟩
theorem popmaxXT {W0 w : World} {base B : Nat} {room pd : Int} {v : Value} {e0 : Ent ByteArray} {ms : List (Ent ByteArray)} (h : TwinBT W0 w base B room pd v (ms ++ [e0])) :
    Calls Try.prog 97 #[.pointer (some ⟨B, 0, none⟩)] w fun e w' => e = .returned (.tuple #[.int .u64 e0.rk, Value.string e0.x, .bool true]) ∧ ∃ v', TwinBT W0 w' base B room pd v' ms ∧ Mv w w' B v v' := by
  refine (popmaxWT h.g).mono ?_
  rintro e w' ⟨rfl, v', h1, m⟩
  exact ⟨rfl, v', h.next h1 m, m⟩
theorem squeeze_inT {W0 w : World} {base B : Nat} {room pd : Int} {v : Value} {ms : List (Ent ByteArray)} (h : TwinBT W0 w base B room pd v ms) (hl : (ms.length : Int) < room) (p1 : pd < 18446744073709551615) (rk : Int) (x : ByteArray) :
    Calls Try.prog 74 #[.pointer (some ⟨B, 0, none⟩), .int .u64 rk, Value.string x] w fun e w' => e = .returned (.tuple #[Value.string ⟨#[]⟩, .bool false]) ∧ ∃ v', TwinBT W0 w' base B room (pd + 1) v' (insR ms ⟨rk, x, pd⟩) ∧ Mv w w' B v v' := by
  have PS := Lib.hid (pushXT h hl p1 rk x)
  clear h hl p1
  go_enter Try.func74, Try.ntmps74
  go_wp2_with fail
  refine PS.out.mono ?_
  rintro e w2 ⟨rfl, v2, h2, m2⟩
  go_wp2
  go_ret2
  exact ⟨rfl, v2, h2, m2⟩
theorem squeeze_stayT {W0 w : World} {base B : Nat} {room pd : Int} {v : Value} {e0 : Ent ByteArray} {ms : List (Ent ByteArray)} (h : TwinBT W0 w base B room pd v (ms ++ [e0])) (hl : ¬ ((ms ++ [e0]).length : Int) < room) (rk : Int) (x : ByteArray) (hr : e0.rk ≤ rk) :
    Calls Try.prog 74 #[.pointer (some ⟨B, 0, none⟩), .int .u64 rk, Value.string x] w fun e w' => e = .returned (.tuple #[Value.string x, .bool true]) ∧ TwinBT W0 w' base B room pd v (ms ++ [e0]) ∧ Below w.heap.size w w' := by
  have PS := Lib.hid (pushX_outT h hl rk x)
  clear h hl
  go_enter Try.func74, Try.ntmps74
  go_wp2_with fail
  refine PS.out.mono ?_
  rintro e w2 ⟨rfl, h2, b2⟩
  have MX := Lib.hid (maxXT h2)
  clear h2
  go_wp2_with fail
  refine MX.out.mono ?_
  rintro e w3 ⟨rfl, h3, b3⟩
  go_wp2
  go_ret2
  exact ⟨rfl, h3, b2.trans (b3.mono b2.size)⟩
theorem squeeze_outT {W0 w : World} {base B : Nat} {room pd : Int} {v : Value} {e0 : Ent ByteArray} {ms : List (Ent ByteArray)} (h : TwinBT W0 w base B room pd v (ms ++ [e0])) (hl : ¬ ((ms ++ [e0]).length : Int) < room) (p1 : pd < 18446744073709551615) (rk : Int) (x : ByteArray) (hr : ¬ e0.rk ≤ rk) :
    Calls Try.prog 74 #[.pointer (some ⟨B, 0, none⟩), .int .u64 rk, Value.string x] w fun e w' => e = .returned (.tuple #[Value.string e0.x, .bool true]) ∧ ∃ v', TwinBT W0 w' base B room (pd + 1) v' (insR ms ⟨rk, x, pd⟩) ∧ Mv w w' B v v' := by
  have PS := Lib.hid (pushX_outT h hl rk x)
  have hroom := h.g.room.2.2
  rw [List.length_append, List.length_singleton] at hroom
  have hl2 : (ms.length : Int) < room := by omega
  clear h hl hroom
  go_enter Try.func74, Try.ntmps74
  go_wp2_with fail
  refine PS.out.mono ?_
  rintro e w2 ⟨rfl, h2, b2⟩
  have MX := Lib.hid (maxXT h2)
  have B2 := Lib.hid b2
  clear h2 b2
  go_wp2_with fail
  refine MX.out.mono ?_
  rintro e w3 ⟨rfl, h3, b3⟩
  have PM := Lib.hid (popmaxXT h3)
  have B3 := Lib.hid b3
  clear h3 b3
  go_wp2_with fail
  refine PM.out.mono ?_
  rintro e w4 ⟨rfl, v4, h4, m4⟩
  have PP := Lib.hid (pushXT h4 hl2 p1 rk x)
  have M4 := Lib.hid m4
  clear h4 m4
  go_wp2_with fail
  refine PP.out.mono ?_
  rintro e w5 ⟨rfl, v5, h5, m5⟩
  go_wp2
  go_ret2
  exact ⟨rfl, v5, h5, (((Mv.of_below B v B2.out).trans (Mv.of_below B v B3.out)).trans M4.out).trans m5⟩
end Go.Proofs.Ytiijlfpkninmgaa
