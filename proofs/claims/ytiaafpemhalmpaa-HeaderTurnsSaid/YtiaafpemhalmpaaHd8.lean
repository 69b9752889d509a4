/-
  Layer 33: what is taken, marked and hopped of any bytes, by the program and by the document's answer: both tell the same. No condition but that a string is no longer than one can be.
-/
import Derived.Test.YtiaafpemhalmpaaHd7
namespace Go.Proofs.Ytiaafpemhalmpaa
set_option linter.unusedVariables false
set_option linter.unusedSimpArgs false
open Go.ChangeShapes Go.WideShapes Go.ChangeAt Go.RowKit
attribute [-go_sem] run_index_string binOp_string_eql binOp_string_neq run_string_add_if run_slice_string_from_if run_slice_string_to_if
attribute [local go_sem] index_at add_fits slice_from slice_to eql_str neq_str alloc_drewN setCell_drewN

def Hdr.agg (h : Hdr) : Value := .agg #[.int .u8 h.d, .int .u16 h.i, .int .u8 h.t, .int .u32 h.s, .int .u32 h.q, .int .u16 h.x, .int .u16 h.y]
def mkE (S : ByteArray) (p : Int) : Int := if 63 < p then 6 else tke S
def mkS (S : ByteArray) (p : Int) : ByteArray := if 63 < p ∨ tke S ≠ 0 then ⟨#[]⟩ else pf ⟨p, (rdh S).i, (rdh S).t, (rdh S).s, (rdh S).q, (rdh S).x, (rdh S).y⟩ (S.extract 28 S.size)
def hpE (S : ByteArray) : Int := if tke S ≠ 0 then tke S else if (rdh S).t ≤ 1 then 21 else 0
def hpS (S : ByteArray) : ByteArray := if tke S ≠ 0 ∨ (rdh S).t ≤ 1 then ⟨#[]⟩ else pf ⟨(rdh S).d, (rdh S).i, (rdh S).t - 1, (rdh S).s, (rdh S).q, (rdh S).x, (rdh S).y⟩ (S.extract 28 S.size)
theorem tk_short {S : ByteArray} (h : S.size < 28) : tke S = 2 := by unfold tke; rw [if_pos h]
theorem htake_all (S : ByteArray) (hs : S.size ≤ 140737488355328) (w : World) :
    Calls Try.prog 27 #[.string S] w fun e w' => e = .returned (.tuple #[(tkH S).vals, .string (tkB S), .int .i64 (tke S)]) ∧ Below w.heap.size w w' := by
  by_cases h : S.size < 28
  · have e := tk_short h
    have e1 : tkH S = Hdr.nil := by unfold tkH; rw [e]; rfl
    have e2 : tkB S = ⟨#[]⟩ := by unfold tkB; rw [e]; rfl
    rw [e, e1, e2]
    exact htake_short S h w
  · exact htake_any S (by omega) hs w
set_option maxRecDepth 100000 in
set_option maxHeartbeats 1000000 in
theorem hmark_any (S : ByteArray) (hs : S.size ≤ 140737488355328) (p : Int) (p0 : 0 ≤ p) (p1 : p ≤ 255) (w : World) :
    Calls Try.prog 29 #[.string S, .int .u8 p] w fun e w' => e = .returned (.tuple #[.string (mkS S p), .int .i64 (mkE S p)]) ∧ Below w.heap.size w w' := by
  by_cases h63 : 63 < p
  · have e1 : mkE S p = 6 := by unfold mkE; rw [if_pos h63]
    have e2 : mkS S p = ⟨#[]⟩ := by unfold mkS; rw [if_pos (Or.inl h63)]
    rw [e1, e2]
    clear e1 e2
    go_enter Try.func29, Try.ntmps29
    go_wp2
    go_ret2
    exact ⟨rfl, Below.refl _ _⟩
  · have TK := Lib.hid (fun W => htake_all S hs W)
    have e1 : mkE S p = tke S := by unfold mkE; rw [if_neg h63]
    rw [e1]
    clear e1
    by_cases h0 : tke S = 0
    · have e2 : mkS S p = pf ⟨p, (rdh S).i, (rdh S).t, (rdh S).s, (rdh S).q, (rdh S).x, (rdh S).y⟩ (S.extract 28 S.size) := by unfold mkS; rw [if_neg (fun h => h.elim h63 (fun h => h h0))]
      have e3 : tkH S = rdh S := by unfold tkH; rw [if_pos h0]
      have e4 : tkB S = S.extract 28 S.size := by unfold tkB; rw [if_pos h0]
      have hz := (put_take h0).2.1
      have ok := rdh_ok S
      rw [e2, h0]
      rw [e3, e4, h0] at TK
      clear e2 e3 e4 h0
      generalize rdh S = H at *
      generalize S.extract 28 S.size = B at *
      obtain ⟨d, i, t, s, q, x, y⟩ := H
      have ok2 : (⟨p, i, t, s, q, x, y⟩ : Hdr).ok := ⟨⟨p0, by show p ≤ 63; omega⟩, ok.i, ok.t, ok.s, ok.q, ok.x, ok.y⟩
      have PO := Lib.hid (fun W => hput_ok p i t s q x y ok2 B hz W)
      have TK2 : Hid (∀ W, Calls Try.prog 27 #[.string S] W fun e w' => e = .returned (.tuple #[.agg #[.int .u8 d, .int .u16 i, .int .u8 t, .int .u32 s, .int .u32 q, .int .u16 x, .int .u16 y], .string B, .int .i64 0]) ∧ Below W.heap.size W w') := Lib.hid TK.out
      clear ok ok2 hz TK
      go_enter Try.func29, Try.ntmps29
      go_wp2_with fail
      refine (TK2.out _).mono ?_
      rintro e wA ⟨rfl, h1⟩
      go_wp2_with fail
      refine (PO.out _).mono ?_
      rintro e wB ⟨rfl, h2⟩
      go_wp2
      go_ret2
      exact ⟨rfl, (h1.alloc h1.size _).trans (h2.mono (by have := h1.size; simp; omega))⟩
    · have e2 : mkS S p = ⟨#[]⟩ := by unfold mkS; rw [if_pos (Or.inr h0)]
      have hne : (tke S != 0) = true := by simp [h0]
      rw [e2]
      clear e2
      generalize tke S = k at *
      generalize tkB S = B at *
      generalize tkH S = H at *
      obtain ⟨d, i, t, s, q, x, y⟩ := H
      have TK2 : Hid (∀ W, Calls Try.prog 27 #[.string S] W fun e w' => e = .returned (.tuple #[.agg #[.int .u8 d, .int .u16 i, .int .u8 t, .int .u32 s, .int .u32 q, .int .u16 x, .int .u16 y], .string B, .int .i64 k]) ∧ Below W.heap.size W w') := Lib.hid TK.out
      clear TK
      go_enter Try.func29, Try.ntmps29
      go_wp2_with fail
      refine (TK2.out _).mono ?_
      rintro e wA ⟨rfl, h1⟩
      go_wp2
      go_ret2
      exact ⟨rfl, h1.alloc h1.size _⟩
set_option maxRecDepth 100000 in
set_option maxHeartbeats 1000000 in
theorem hhop_any (S : ByteArray) (hs : S.size ≤ 140737488355328) (w : World) :
    Calls Try.prog 31 #[.string S] w fun e w' => e = .returned (.tuple #[.string (hpS S), .int .i64 (hpE S)]) ∧ Below w.heap.size w w' := by
  have TK := Lib.hid (fun W => htake_all S hs W)
  by_cases h0 : tke S = 0
  · have e3 : tkH S = rdh S := by unfold tkH; rw [if_pos h0]
    have e4 : tkB S = S.extract 28 S.size := by unfold tkB; rw [if_pos h0]
    have hz := (put_take h0).2.1
    have ok := rdh_ok S
    have tt := ok.t
    have e1 : hpE S = if (rdh S).t ≤ 1 then 21 else 0 := by unfold hpE; rw [if_neg (fun h => h h0)]
    have e2 : hpS S = if (rdh S).t ≤ 1 then ⟨#[]⟩ else pf ⟨(rdh S).d, (rdh S).i, (rdh S).t - 1, (rdh S).s, (rdh S).q, (rdh S).x, (rdh S).y⟩ (S.extract 28 S.size) := by
      unfold hpS
      by_cases h : (rdh S).t ≤ 1
      · rw [if_pos h, if_pos (Or.inr h)]
      · rw [if_neg h, if_neg (fun g => g.elim (fun g => g h0) h)]
    rw [e3, e4, h0] at TK
    rw [e1, e2]
    clear e1 e2 e3 e4 h0
    generalize rdh S = H at *
    generalize S.extract 28 S.size = B at *
    obtain ⟨d, i, t, s, q, x, y⟩ := H
    have TK2 : Hid (∀ W, Calls Try.prog 27 #[.string S] W fun e w' => e = .returned (.tuple #[.agg #[.int .u8 d, .int .u16 i, .int .u8 t, .int .u32 s, .int .u32 q, .int .u16 x, .int .u16 y], .string B, .int .i64 0]) ∧ Below W.heap.size W w') := Lib.hid TK.out
    clear TK
    dsimp only at tt ⊢
    by_cases h1 : t ≤ 1
    · have g1 : t < 2 := by omega
      rw [if_pos h1, if_pos h1]
      clear ok hz
      go_enter Try.func31, Try.ntmps31
      go_wp2_with fail
      refine (TK2.out _).mono ?_
      rintro e wA ⟨rfl, h1⟩
      go_wp2
      go_ret2
      exact ⟨rfl, h1.alloc h1.size _⟩
    · have g1 : ¬ t < 2 := by omega
      rw [if_neg h1, if_neg h1]
      have ok2 : (⟨d, i, t - 1, s, q, x, y⟩ : Hdr).ok := ⟨ok.d, ok.i, ⟨by show 0 ≤ t - 1; omega, by show t - 1 ≤ 255; omega⟩, ok.s, ok.q, ok.x, ok.y⟩
      have PO := Lib.hid (fun W => hput_ok d i (t - 1) s q x y ok2 B hz W)
      have w1_ : IntKind.u8.wrap (t - 1) = t - 1 := by rw [IntKind.wrap_u8]; omega
      clear ok ok2 hz
      go_enter Try.func31, Try.ntmps31
      go_wp2_with fail
      refine (TK2.out _).mono ?_
      rintro e wA ⟨rfl, h1⟩
      go_wp2_with fail
      refine (PO.out _).mono ?_
      rintro e wB ⟨rfl, h2⟩
      go_wp2
      go_ret2
      exact ⟨rfl, (h1.alloc h1.size _).trans (h2.mono (by have := h1.size; simp; omega))⟩
  · have e1 : hpE S = tke S := by unfold hpE; rw [if_pos h0]
    have e2 : hpS S = ⟨#[]⟩ := by unfold hpS; rw [if_pos (Or.inl h0)]
    have hne : (tke S != 0) = true := by simp [h0]
    rw [e1, e2]
    clear e1 e2
    generalize tke S = k at *
    generalize tkB S = B at *
    generalize tkH S = H at *
    obtain ⟨d, i, t, s, q, x, y⟩ := H
    have TK2 : Hid (∀ W, Calls Try.prog 27 #[.string S] W fun e w' => e = .returned (.tuple #[.agg #[.int .u8 d, .int .u16 i, .int .u8 t, .int .u32 s, .int .u32 q, .int .u16 x, .int .u16 y], .string B, .int .i64 k]) ∧ Below W.heap.size W w') := Lib.hid TK.out
    clear TK
    go_enter Try.func31, Try.ntmps31
    go_wp2_with fail
    refine (TK2.out _).mono ?_
    rintro e wA ⟨rfl, h1⟩
    go_wp2
    go_ret2
    exact ⟨rfl, h1.alloc h1.size _⟩
theorem rtake_all (S : ByteArray) (hs : S.size ≤ 140737488355328) (w : World) :
    Calls Try.prog 28 #[.string S] w fun e w' => e = .returned (.tuple #[(tkH S).vals, .string (tkB S), .int .i64 (tke S)]) ∧ Below w.heap.size w w' := by
  by_cases h : S.size < 28
  · have e := tk_short h
    have e1 : tkH S = Hdr.nil := by unfold tkH; rw [e]; rfl
    have e2 : tkB S = ⟨#[]⟩ := by unfold tkB; rw [e]; rfl
    rw [e, e1, e2]
    exact rtake_short S h w
  · exact rtake_any S (by omega) hs w
set_option maxRecDepth 100000 in
set_option maxHeartbeats 1000000 in
theorem rmark_any (S : ByteArray) (hs : S.size ≤ 140737488355328) (p : Int) (p0 : 0 ≤ p) (p1 : p ≤ 255) (w : World) :
    Calls Try.prog 30 #[.string S, .int .u8 p] w fun e w' => e = .returned (.tuple #[.string (mkS S p), .int .i64 (mkE S p)]) ∧ Below w.heap.size w w' := by
  by_cases h63 : 63 < p
  · have e1 : mkE S p = 6 := by unfold mkE; rw [if_pos h63]
    have e2 : mkS S p = ⟨#[]⟩ := by unfold mkS; rw [if_pos (Or.inl h63)]
    rw [e1, e2]
    clear e1 e2
    go_enter Try.func30, Try.ntmps30
    go_wp2
    go_ret2
    exact ⟨rfl, Below.refl _ _⟩
  · have TK := Lib.hid (fun W => rtake_all S hs W)
    have e1 : mkE S p = tke S := by unfold mkE; rw [if_neg h63]
    rw [e1]
    clear e1
    by_cases h0 : tke S = 0
    · have e2 : mkS S p = pf ⟨p, (rdh S).i, (rdh S).t, (rdh S).s, (rdh S).q, (rdh S).x, (rdh S).y⟩ (S.extract 28 S.size) := by unfold mkS; rw [if_neg (fun h => h.elim h63 (fun h => h h0))]
      have e3 : tkH S = rdh S := by unfold tkH; rw [if_pos h0]
      have e4 : tkB S = S.extract 28 S.size := by unfold tkB; rw [if_pos h0]
      have hz := (put_take h0).2.1
      have ok := rdh_ok S
      rw [e2, h0]
      rw [e3, e4, h0] at TK
      clear e2 e3 e4 h0
      generalize rdh S = H at *
      generalize S.extract 28 S.size = B at *
      obtain ⟨d, i, t, s, q, x, y⟩ := H
      have ok2 : (⟨p, i, t, s, q, x, y⟩ : Hdr).ok := ⟨⟨p0, by show p ≤ 63; omega⟩, ok.i, ok.t, ok.s, ok.q, ok.x, ok.y⟩
      have PO := Lib.hid (fun W => rput_ok p i t s q x y ok2 B hz W)
      have TK2 : Hid (∀ W, Calls Try.prog 28 #[.string S] W fun e w' => e = .returned (.tuple #[.agg #[.int .u8 d, .int .u16 i, .int .u8 t, .int .u32 s, .int .u32 q, .int .u16 x, .int .u16 y], .string B, .int .i64 0]) ∧ Below W.heap.size W w') := Lib.hid TK.out
      clear ok ok2 hz TK
      go_enter Try.func30, Try.ntmps30
      go_wp2_with fail
      refine (TK2.out _).mono ?_
      rintro e wA ⟨rfl, h1⟩
      go_wp2_with fail
      refine (PO.out _).mono ?_
      rintro e wB ⟨rfl, h2⟩
      go_wp2
      go_ret2
      exact ⟨rfl, (h1.alloc h1.size _).trans (h2.mono (by have := h1.size; simp; omega))⟩
    · have e2 : mkS S p = ⟨#[]⟩ := by unfold mkS; rw [if_pos (Or.inr h0)]
      have hne : (tke S != 0) = true := by simp [h0]
      rw [e2]
      clear e2
      generalize tke S = k at *
      generalize tkB S = B at *
      generalize tkH S = H at *
      obtain ⟨d, i, t, s, q, x, y⟩ := H
      have TK2 : Hid (∀ W, Calls Try.prog 28 #[.string S] W fun e w' => e = .returned (.tuple #[.agg #[.int .u8 d, .int .u16 i, .int .u8 t, .int .u32 s, .int .u32 q, .int .u16 x, .int .u16 y], .string B, .int .i64 k]) ∧ Below W.heap.size W w') := Lib.hid TK.out
      clear TK
      go_enter Try.func30, Try.ntmps30
      go_wp2_with fail
      refine (TK2.out _).mono ?_
      rintro e wA ⟨rfl, h1⟩
      go_wp2
      go_ret2
      exact ⟨rfl, h1.alloc h1.size _⟩
set_option maxRecDepth 100000 in
set_option maxHeartbeats 1000000 in
theorem rhop_any (S : ByteArray) (hs : S.size ≤ 140737488355328) (w : World) :
    Calls Try.prog 32 #[.string S] w fun e w' => e = .returned (.tuple #[.string (hpS S), .int .i64 (hpE S)]) ∧ Below w.heap.size w w' := by
  have TK := Lib.hid (fun W => rtake_all S hs W)
  by_cases h0 : tke S = 0
  · have e3 : tkH S = rdh S := by unfold tkH; rw [if_pos h0]
    have e4 : tkB S = S.extract 28 S.size := by unfold tkB; rw [if_pos h0]
    have hz := (put_take h0).2.1
    have ok := rdh_ok S
    have tt := ok.t
    have e1 : hpE S = if (rdh S).t ≤ 1 then 21 else 0 := by unfold hpE; rw [if_neg (fun h => h h0)]
    have e2 : hpS S = if (rdh S).t ≤ 1 then ⟨#[]⟩ else pf ⟨(rdh S).d, (rdh S).i, (rdh S).t - 1, (rdh S).s, (rdh S).q, (rdh S).x, (rdh S).y⟩ (S.extract 28 S.size) := by
      unfold hpS
      by_cases h : (rdh S).t ≤ 1
      · rw [if_pos h, if_pos (Or.inr h)]
      · rw [if_neg h, if_neg (fun g => g.elim (fun g => g h0) h)]
    rw [e3, e4, h0] at TK
    rw [e1, e2]
    clear e1 e2 e3 e4 h0
    generalize rdh S = H at *
    generalize S.extract 28 S.size = B at *
    obtain ⟨d, i, t, s, q, x, y⟩ := H
    have TK2 : Hid (∀ W, Calls Try.prog 28 #[.string S] W fun e w' => e = .returned (.tuple #[.agg #[.int .u8 d, .int .u16 i, .int .u8 t, .int .u32 s, .int .u32 q, .int .u16 x, .int .u16 y], .string B, .int .i64 0]) ∧ Below W.heap.size W w') := Lib.hid TK.out
    clear TK
    dsimp only at tt ⊢
    by_cases h1 : t ≤ 1
    · have g1 : t < 2 := by omega
      rw [if_pos h1, if_pos h1]
      clear ok hz
      go_enter Try.func32, Try.ntmps32
      go_wp2_with fail
      refine (TK2.out _).mono ?_
      rintro e wA ⟨rfl, h1⟩
      go_wp2
      go_ret2
      exact ⟨rfl, h1.alloc h1.size _⟩
    · have g1 : ¬ t < 2 := by omega
      rw [if_neg h1, if_neg h1]
      have ok2 : (⟨d, i, t - 1, s, q, x, y⟩ : Hdr).ok := ⟨ok.d, ok.i, ⟨by show 0 ≤ t - 1; omega, by show t - 1 ≤ 255; omega⟩, ok.s, ok.q, ok.x, ok.y⟩
      have PO := Lib.hid (fun W => rput_ok d i (t - 1) s q x y ok2 B hz W)
      have w1_ : IntKind.u8.wrap (t - 1) = t - 1 := by rw [IntKind.wrap_u8]; omega
      clear ok ok2 hz
      go_enter Try.func32, Try.ntmps32
      go_wp2_with fail
      refine (TK2.out _).mono ?_
      rintro e wA ⟨rfl, h1⟩
      go_wp2_with fail
      refine (PO.out _).mono ?_
      rintro e wB ⟨rfl, h2⟩
      go_wp2
      go_ret2
      exact ⟨rfl, (h1.alloc h1.size _).trans (h2.mono (by have := h1.size; simp; omega))⟩
  · have e1 : hpE S = tke S := by unfold hpE; rw [if_pos h0]
    have e2 : hpS S = ⟨#[]⟩ := by unfold hpS; rw [if_pos (Or.inl h0)]
    have hne : (tke S != 0) = true := by simp [h0]
    rw [e1, e2]
    clear e1 e2
    generalize tke S = k at *
    generalize tkB S = B at *
    generalize tkH S = H at *
    obtain ⟨d, i, t, s, q, x, y⟩ := H
    have TK2 : Hid (∀ W, Calls Try.prog 28 #[.string S] W fun e w' => e = .returned (.tuple #[.agg #[.int .u8 d, .int .u16 i, .int .u8 t, .int .u32 s, .int .u32 q, .int .u16 x, .int .u16 y], .string B, .int .i64 k]) ∧ Below W.heap.size W w') := Lib.hid TK.out
    clear TK
    go_enter Try.func32, Try.ntmps32
    go_wp2_with fail
    refine (TK2.out _).mono ?_
    rintro e wA ⟨rfl, h1⟩
    go_wp2
    go_ret2
    exact ⟨rfl, h1.alloc h1.size _⟩
end Go.Proofs.Ytiaafpemhalmpaa
