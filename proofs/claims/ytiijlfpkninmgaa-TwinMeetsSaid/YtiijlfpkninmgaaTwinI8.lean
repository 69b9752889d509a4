/-
  Package twin for elements of type int: what is squeezed in; a queue that was made behind a world. No condition but that the queue is one that New made.
-/
import Derived.Test.YtiijlfpkninmgaaTwinI7
namespace Go.Proofs.Ytiijlfpkninmgaa
set_option linter.unusedVariables false
set_option linter.unusedSimpArgs false
open Go.ChangeShapes Go.WideShapes Go.ChangeAt Go.RowKit
attribute [local go_sem] alloc_drewN setCell_drewN

structure TwinBI (W0 w : World) (base B : Nat) (room pd : Int) (v : Value) (ms : List (Ent Int)) : Prop where
  g : TwinGI w base B room pd v ms
  b : Below W0.heap.size W0 w
  s : W0.heap.size ≤ base
  z : base ≤ w.heap.size
theorem TwinBI.mv {W0 w w' : World} {base B : Nat} {room pd : Int} {v v' : Value} {ms : List (Ent Int)} (h : TwinBI W0 w base B room pd v ms) (m : Mv w w' B v v') : Below W0.heap.size W0 w' :=
  m.below h.b (Nat.le_trans h.s h.g.own.1) (fun j hj => Nat.le_trans h.s (h.g.own.2.2 j hj).1) h.b.size
theorem TwinBI.below {W0 w w' : World} {base B : Nat} {room pd : Int} {v : Value} {ms : List (Ent Int)} (h : TwinBI W0 w base B room pd v ms) (hb : Below w.heap.size w w') : TwinBI W0 w' base B room pd v ms :=
  ⟨h.g.below hb, h.b.trans (hb.mono h.b.size), h.s, Nat.le_trans h.z hb.size⟩
theorem TwinBI.next {W0 w w' : World} {base B : Nat} {room pd pd' : Int} {v v' : Value} {ms ms' : List (Ent Int)} (h : TwinBI W0 w base B room pd v ms) (h1 : TwinGI w' base B room pd' v' ms') (m : Mv w w' B v v') : TwinBI W0 w' base B room pd' v' ms' :=
  ⟨h1, h.mv m, h.s, Nat.le_trans h.z m.size⟩
theorem newWI (room : Int) (r0 : 1 ≤ room) (r1 : room ≤ 4096) (W0 w : World) (hb : Below W0.heap.size W0 w) :
    Calls Try.prog 39 #[.int .i64 room] w fun e w' => e = .returned (.tuple #[.pointer (some ⟨w.heap.size, 0, none⟩), .int .i64 0]) ∧ TwinBI W0 w' w.heap.size w.heap.size room 0 (.slice none 0 0) [] ∧ Below w.heap.size w w' := by
  refine (tnew_GI room r0 r1 w).mono ?_
  rintro e w' ⟨rfl, h, b⟩
  exact ⟨rfl, ⟨h, hb.trans (b.mono hb.size), hb.size, b.size⟩, b⟩
theorem pushXI {W0 w : World} {base B : Nat} {room pd : Int} {v : Value} {ms : List (Ent Int)} (h : TwinBI W0 w base B room pd v ms) (hl : (ms.length : Int) < room) (p1 : pd < 18446744073709551615) (rk : Int) (x : Int) :
    Calls Try.prog 46 #[.pointer (some ⟨B, 0, none⟩), .int .u64 rk, Value.int .i64 x] w fun e w' => e = .returned (.bool true) ∧ ∃ v', TwinBI W0 w' base B room (pd + 1) v' (insR ms ⟨rk, x, pd⟩) ∧ Mv w w' B v v' := by
  refine (pushW_inI h.g hl p1 rk x h.z).mono ?_
  rintro e w' ⟨rfl, v', h1, m⟩
  exact ⟨rfl, v', h.next h1 m, m⟩
theorem pushX_outI {W0 w : World} {base B : Nat} {room pd : Int} {v : Value} {ms : List (Ent Int)} (h : TwinBI W0 w base B room pd v ms) (hl : ¬ (ms.length : Int) < room) (rk : Int) (x : Int) :
    Calls Try.prog 46 #[.pointer (some ⟨B, 0, none⟩), .int .u64 rk, Value.int .i64 x] w fun e w' => e = .returned (.bool false) ∧ TwinBI W0 w' base B room pd v ms ∧ Below w.heap.size w w' := by
  refine (pushW_outI h.g hl rk x).mono ?_
  rintro e w' ⟨rfl, n, rfl⟩
  exact ⟨rfl, h.below (below_drewN n (Below.refl _ _)), below_drewN n (Below.refl _ _)⟩
theorem maxXI {W0 w : World} {base B : Nat} {room pd : Int} {v : Value} {e0 : Ent Int} {ms : List (Ent Int)} (h : TwinBI W0 w base B room pd v (ms ++ [e0])) :
    Calls Try.prog 43 #[.pointer (some ⟨B, 0, none⟩)] w fun e w' => e = .returned (.tuple #[.int .u64 e0.rk, Value.int .i64 e0.x, .bool true]) ∧ TwinBI W0 w' base B room pd v (ms ++ [e0]) ∧ Below w.heap.size w w' := by
  refine (maxWI h.g).mono ?_
  rintro e w' ⟨rfl, hb⟩
  exact ⟨rfl, h.below hb, hb⟩
theorem popmaxXI {W0 w : World} {base B : Nat} {room pd : Int} {v : Value} {e0 : Ent Int} {ms : List (Ent Int)} (h : TwinBI W0 w base B room pd v (ms ++ [e0])) :
    Calls Try.prog 48 #[.pointer (some ⟨B, 0, none⟩)] w fun e w' => e = .returned (.tuple #[.int .u64 e0.rk, Value.int .i64 e0.x, .bool true]) ∧ ∃ v', TwinBI W0 w' base B room pd v' ms ∧ Mv w w' B v v' := by
  refine (popmaxWI h.g).mono ?_
  rintro e w' ⟨rfl, v', h1, m⟩
  exact ⟨rfl, v', h.next h1 m, m⟩
theorem popminXI {W0 w : World} {base B : Nat} {room pd : Int} {v : Value} {e0 : Ent Int} {ms : List (Ent Int)} (h : TwinBI W0 w base B room pd v (e0 :: ms)) :
    Calls Try.prog 47 #[.pointer (some ⟨B, 0, none⟩)] w fun e w' => e = .returned (.tuple #[.int .u64 e0.rk, Value.int .i64 e0.x, .bool true]) ∧ ∃ v', TwinBI W0 w' base B room pd v' ms ∧ Mv w w' B v v' := by
  refine (popminWI h.g).mono ?_
  rintro e w' ⟨rfl, v', h1, m⟩
  exact ⟨rfl, v', h.next h1 m, m⟩
theorem squeeze_inI {W0 w : World} {base B : Nat} {room pd : Int} {v : Value} {ms : List (Ent Int)} (h : TwinBI W0 w base B room pd v ms) (hl : (ms.length : Int) < room) (p1 : pd < 18446744073709551615) (rk : Int) (x : Int) :
    Calls Try.prog 49 #[.pointer (some ⟨B, 0, none⟩), .int .u64 rk, Value.int .i64 x] w fun e w' => e = .returned (.tuple #[Value.int .i64 0, .bool false]) ∧ ∃ v', TwinBI W0 w' base B room (pd + 1) v' (insR ms ⟨rk, x, pd⟩) ∧ Mv w w' B v v' := by
  have PS := Lib.hid (pushXI h hl p1 rk x)
  clear h hl p1
  go_enter Try.func49, Try.ntmps49
  go_wp2_with fail
  refine PS.out.mono ?_
  rintro e w2 ⟨rfl, v2, h2, m2⟩
  go_wp2
  go_ret2
  exact ⟨rfl, v2, h2, m2⟩
theorem squeeze_stayI {W0 w : World} {base B : Nat} {room pd : Int} {v : Value} {e0 : Ent Int} {ms : List (Ent Int)} (h : TwinBI W0 w base B room pd v (ms ++ [e0])) (hl : ¬ ((ms ++ [e0]).length : Int) < room) (rk : Int) (x : Int) (hr : e0.rk ≤ rk) :
    Calls Try.prog 49 #[.pointer (some ⟨B, 0, none⟩), .int .u64 rk, Value.int .i64 x] w fun e w' => e = .returned (.tuple #[Value.int .i64 x, .bool true]) ∧ TwinBI W0 w' base B room pd v (ms ++ [e0]) ∧ Below w.heap.size w w' := by
  have PS := Lib.hid (pushX_outI h hl rk x)
  clear h hl
  go_enter Try.func49, Try.ntmps49
  go_wp2_with fail
  refine PS.out.mono ?_
  rintro e w2 ⟨rfl, h2, b2⟩
  have MX := Lib.hid (maxXI h2)
  clear h2
  go_wp2_with fail
  refine MX.out.mono ?_
  rintro e w3 ⟨rfl, h3, b3⟩
  go_wp2
  go_ret2
  exact ⟨rfl, h3, b2.trans (b3.mono b2.size)⟩
theorem squeeze_outI {W0 w : World} {base B : Nat} {room pd : Int} {v : Value} {e0 : Ent Int} {ms : List (Ent Int)} (h : TwinBI W0 w base B room pd v (ms ++ [e0])) (hl : ¬ ((ms ++ [e0]).length : Int) < room) (p1 : pd < 18446744073709551615) (rk : Int) (x : Int) (hr : ¬ e0.rk ≤ rk) :
    Calls Try.prog 49 #[.pointer (some ⟨B, 0, none⟩), .int .u64 rk, Value.int .i64 x] w fun e w' => e = .returned (.tuple #[Value.int .i64 e0.x, .bool true]) ∧ ∃ v', TwinBI W0 w' base B room (pd + 1) v' (insR ms ⟨rk, x, pd⟩) ∧ Mv w w' B v v' := by
  have PS := Lib.hid (pushX_outI h hl rk x)
  have hroom := h.g.room.2.2
  rw [List.length_append, List.length_singleton] at hroom
  have hl2 : (ms.length : Int) < room := by omega
  clear h hl hroom
  go_enter Try.func49, Try.ntmps49
  go_wp2_with fail
  refine PS.out.mono ?_
  rintro e w2 ⟨rfl, h2, b2⟩
  have MX := Lib.hid (maxXI h2)
  have B2 := Lib.hid b2
  clear h2 b2
  go_wp2_with fail
  refine MX.out.mono ?_
  rintro e w3 ⟨rfl, h3, b3⟩
  have PM := Lib.hid (popmaxXI h3)
  have B3 := Lib.hid b3
  clear h3 b3
  go_wp2_with fail
  refine PM.out.mono ?_
  rintro e w4 ⟨rfl, v4, h4, m4⟩
  have PP := Lib.hid (pushXI h4 hl2 p1 rk x)
  have M4 := Lib.hid m4
  clear h4 m4
  go_wp2_with fail
  refine PP.out.mono ?_
  rintro e w5 ⟨rfl, v5, h5, m5⟩
  go_wp2
  go_ret2
  exact ⟨rfl, v5, h5, (((Mv.of_below B v B2.out).trans (Mv.of_below B v B3.out)).trans M4.out).trans m5⟩
end Go.Proofs.Ytiijlfpkninmgaa
