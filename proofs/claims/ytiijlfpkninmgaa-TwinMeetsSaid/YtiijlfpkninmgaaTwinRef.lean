/-
  An act of layer 10: what it does with a queue, it does with the document's list; it returns true. No condition but that both stand alike.
-/
import Derived.Test.YtiijlfpkninmgaaTwinI8
import Derived.Test.YtiijlfpkninmgaaRef9
namespace Go.Proofs.Ytiijlfpkninmgaa
set_option linter.unusedVariables false
set_option linter.unusedSimpArgs false
open Go.ChangeShapes Go.WideShapes Go.ChangeAt Go.RowKit
attribute [local go_sem] alloc_drewN setCell_drewN

def kv (e : Ent Int) : Int × Int := (e.rk, e.x)
theorem insR_kv (e : Ent Int) : ∀ ms, (insR ms e).map kv = insP (ms.map kv) (kv e)
  | [] => rfl
  | m :: ms => by
    unfold insR
    rw [List.map_cons, insP]
    by_cases h : e.rk < m.rk
    · rw [if_pos h, if_pos (show (kv e).1 < (kv m).1 from h)]; rfl
    · rw [if_neg h, if_neg (show ¬ (kv e).1 < (kv m).1 from h), List.map_cons, insR_kv e ms]
theorem own_lower9 {w : World} {b b2 : Nat} {v : Value} {xs : List (Int × Int)} (h : Its w b v xs) (hb : b2 ≤ b) : Its w b2 v xs := by
  refine ⟨h.1, ?_⟩
  rcases h.2 with hh | ⟨g, cap, cur, e, hg, rest⟩
  · exact Or.inl hh
  · exact Or.inr ⟨g, cap, cur, e, Nat.le_trans hb hg, rest⟩
/-- The document's answer to what is squeezed in. -/
theorem sq_in (base : Nat) (v : Value) (xs : List (Int × Int)) (room e1 e2 : Int) (hl : (xs.length : Int) < room) (hn : xs.length ≤ 100000) (w : World) (h : Its w base v xs) :
    Calls Try.prog 78 #[v, .int .i64 room, .int .u64 e1, .int .i64 e2] w fun e w' => ∃ v', e = .returned (.tuple #[v', .int .i64 0, .bool false]) ∧ Its w' w.heap.size v' (insP xs (e1, e2)) ∧ Below w.heap.size w w' := by
  have PS := Lib.hid (push9 base v xs e1 e2 hn w h)
  obtain ⟨a, c, rfl, _, hc⟩ := h.form
  clear h hc
  go_enter Try.func78, Try.ntmps78
  go_wp2_with fail
  refine PS.out.mono ?_
  rintro e w2 ⟨v2, rfl, h2, b2⟩
  go_wp2
  go_ret3
  exact ⟨v2, rfl, h2, b2⟩
theorem sq_stay (base : Nat) (v : Value) (xs : List (Int × Int)) (l : Int × Int) (room e1 e2 : Int) (hl : ¬ ((xs ++ [l]).length : Int) < room) (hr : l.1 ≤ e1) (w : World) (h : Its w base v (xs ++ [l])) :
    Calls Try.prog 78 #[v, .int .i64 room, .int .u64 e1, .int .i64 e2] w fun e w' => e = .returned (.tuple #[v, .int .i64 e2, .bool true]) ∧ Below w.heap.size w w' := by
  have LS := Lib.hid (last9 base v xs l w h)
  obtain ⟨a, c, rfl, _, hc⟩ := h.form
  clear h hc
  generalize (xs ++ [l]).length = n at *
  go_enter Try.func78, Try.ntmps78
  go_wp2_with fail
  refine LS.out.mono ?_
  rintro e w2 ⟨rfl, b2⟩
  go_wp2
  go_ret3
  exact ⟨rfl, b2⟩
theorem sq_out (base : Nat) (v : Value) (xs : List (Int × Int)) (l : Int × Int) (room e1 e2 : Int) (hl : ¬ ((xs ++ [l]).length : Int) < room) (hr : ¬ l.1 ≤ e1) (hn : (xs ++ [l]).length ≤ 100000) (w : World) (h : Its w base v (xs ++ [l])) :
    Calls Try.prog 78 #[v, .int .i64 room, .int .u64 e1, .int .i64 e2] w fun e w' => ∃ v', e = .returned (.tuple #[v', .int .i64 l.2, .bool true]) ∧ Its w' w.heap.size v' (insP xs (e1, e2)) ∧ Below w.heap.size w w' := by
  have LS := Lib.hid (last9 base v xs l w h)
  have FR := Lib.hid (fun W (hW : Below w.heap.size w W) => front9 base v (xs ++ [l]) hn W (h.below hW))
  rw [show (xs ++ [l]).take ((xs ++ [l]).length - 1) = xs by rw [List.length_append, List.length_singleton, Nat.add_sub_cancel, List.take_left' rfl]] at FR
  have hn2 : xs.length ≤ 100000 := by rw [List.length_append] at hn; omega
  obtain ⟨a, c, rfl, _, hc⟩ := h.form
  clear h hc
  generalize (xs ++ [l]).length = n at *
  go_enter Try.func78, Try.ntmps78
  go_wp2_with fail
  refine LS.out.mono ?_
  rintro e w2 ⟨rfl, b2⟩
  have B2 := Lib.hid b2
  clear b2
  go_wp2_with fail
  refine (FR.out _ B2.out).mono ?_
  rintro e w3 ⟨v3, rfl, h3, b3⟩
  have PS := Lib.hid (push9 _ v3 xs e1 e2 hn2 w3 h3)
  have B3 := Lib.hid b3
  clear h3 b3
  go_wp2_with fail
  refine PS.out.mono ?_
  rintro e w4 ⟨v4, rfl, h4, b4⟩
  go_wp2
  go_ret3
  have hs2 := B2.out.size
  have hs3 := B3.out.size
  exact ⟨v4, rfl, own_lower9 h4 (Nat.le_trans hs2 hs3), (B2.out.trans (B3.out.mono hs2)).trans (b4.mono (Nat.le_trans hs2 hs3))⟩
/-- How queue, list and act stand. -/
structure StepA (W0 w : World) (Bl A base B : Nat) (room pd : Int) (v mv : Value) (ms : List (Ent Int)) (xs : List (Int × Int)) (κ r x : Int) : Prop where
  tw : TwinBI W0 w base B room pd v ms
  box : w.heap[Bl]? = some (.cells #[mv] 58 (0, 0))
  its : Its w W0.heap.size mv xs
  lowL : W0.heap.size ≤ Bl
  lowA : W0.heap.size ≤ A
  act : w.heap[A]? = some (.cells #[.int .u8 κ, .int .u64 r, .int .i64 x] 77 (0, 0))
theorem StepA.facts {W0 w : World} {Bl A base B : Nat} {room pd : Int} {v mv : Value} {ms : List (Ent Int)} {xs : List (Int × Int)} {κ r x : Int} (h : StepA W0 w Bl A base B room pd v mv ms xs κ r x) :
    (w.cell? ⟨Bl, 0, none⟩ = some mv ∧ w.frozen? ⟨Bl, 0, none⟩ = false) ∧ w.cell? ⟨A, 0, none⟩ = some (.int .u8 κ) ∧ w.cell? ⟨A, 1, none⟩ = some (.int .u64 r) ∧ w.cell? ⟨A, 2, none⟩ = some (.int .i64 x) :=
  ⟨⟨cell_of_row w Bl 0 _ _ (0, 0) h.box, frozen_of_row w Bl 0 _ _ h.box⟩, cell_of_row w A 0 _ _ (0, 0) h.act, cell_of_row w A 1 _ _ (0, 0) h.act, cell_of_row w A 2 _ _ (0, 0) h.act⟩
theorem StepA.on {W0 w w' : World} {Bl A base B : Nat} {room pd : Int} {v mv : Value} {ms : List (Ent Int)} {xs : List (Int × Int)} {κ r x : Int} (h : StepA W0 w Bl A base B room pd v mv ms xs κ r x) (hb : Below w.heap.size w w') : StepA W0 w' Bl A base B room pd v mv ms xs κ r x :=
  ⟨h.tw.below hb, (hb.block Bl (Array.getElem?_eq_some_iff.1 h.box).1).trans h.box, h.its.below hb, h.lowL, h.lowA, (hb.block A (Array.getElem?_eq_some_iff.1 h.act).1).trans h.act⟩
theorem heap_ne_type {w : World} {a b : Nat} {ca cb : Array Value} {ta tb : TypeId} {fa fb : Nat × Nat} (ha : w.heap[a]? = some (.cells ca ta fa)) (hb : w.heap[b]? = some (.cells cb tb fb)) (hne : ta ≠ tb) : a ≠ b := fun e => by
  subst e
  rw [ha] at hb
  injection hb with hb
  injection hb with _ h2 _
  exact hne h2
theorem StepA.apart {W0 w : World} {Bl A base B : Nat} {room pd : Int} {v mv : Value} {ms : List (Ent Int)} {xs : List (Int × Int)} {κ r x : Int} (h : StepA W0 w Bl A base B room pd v mv ms xs κ r x) :
    Bl ≠ B ∧ A ≠ B ∧ v.ownBlock ≠ some Bl ∧ v.ownBlock ≠ some A ∧ A ≠ Bl ∧ mv.ownBlock ≠ some Bl ∧ (mv.ownBlock ≠ some B ∧ (mv.ownBlock = none ∨ mv.ownBlock ≠ v.ownBlock)) := by
  obtain ⟨es, h1, h2⟩ := h.tw.g
  exact ⟨heap_ne_type h.box h1.blk (by decide), heap_ne_type h.act h1.blk (by decide), own_ne_blk h1.own h.box (by decide), own_ne_blk h1.own h.act (by decide), heap_ne_type h.act h.box (by decide), own_ne_blk h.its h.box (by decide), own_ne_blk h.its h1.blk (by decide), row_apart h.its h1.own (by decide)⟩
theorem StepA.mv {W0 w w' : World} {Bl A base B : Nat} {room pd pd' : Int} {v v' mv : Value} {ms ms' : List (Ent Int)} {xs : List (Int × Int)} {κ r x : Int} (h : StepA W0 w Bl A base B room pd v mv ms xs κ r x) (h1 : TwinBI W0 w' base B room pd' v' ms') (m : Mv w w' B v v') : StepA W0 w' Bl A base B room pd' v' mv ms' xs κ r x := by
  obtain ⟨a1, a2, a3, a4, a5, a6, a7, a8⟩ := h.apart
  exact ⟨h1, (m.block Bl (Array.getElem?_eq_some_iff.1 h.box).1 a1 (fun e => a3 e.symm)).trans h.box, (m.row h.its a7 a8).1, h.lowL, h.lowA, (m.block A (Array.getElem?_eq_some_iff.1 h.act).1 a2 (fun e => a4 e.symm)).trans h.act⟩
theorem StepA.put {W0 w : World} {Bl A base B : Nat} {room pd : Int} {v mv mv2 : Value} {ms : List (Ent Int)} {xs xs2 : List (Int × Int)} {κ r x : Int} (h : StepA W0 w Bl A base B room pd v mv ms xs κ r x) (hi : Its w W0.heap.size mv2 xs2) : StepA W0 (w.setCell ⟨Bl, 0, none⟩ mv2) Bl A base B room pd v mv2 ms xs2 κ r x := by
  obtain ⟨a1, a2, a3, a4, a5, a6, a7, a8⟩ := h.apart
  have hm2 : mv2.ownBlock ≠ some Bl := own_ne_blk hi h.box (by decide)
  obtain ⟨⟨es, k1, k2⟩, hb, hs, hz⟩ := h.tw
  refine ⟨⟨⟨es, ⟨(Below.heap_setCell w ⟨Bl, 0, none⟩ mv2 B (fun e => a1 e.symm)).trans k1.blk, k1.low, ownsRow_setCell_other (a := ⟨Bl, 0, none⟩) k1.own a3 mv2, k1.r0, k1.r1, k1.le⟩, k2⟩, ?_, hs, by simpa [World.setCell] using hz⟩, ?_, ownsRow_setCell_other (a := ⟨Bl, 0, none⟩) hi hm2 mv2, h.lowL, h.lowA, (Below.heap_setCell w ⟨Bl, 0, none⟩ mv2 A a5).trans h.act⟩
  · exact ⟨hb.os, hb.tape, hb.output, by simpa [World.setCell] using hb.size, fun j hj => (Below.heap_setCell w ⟨Bl, 0, none⟩ mv2 j (by have := h.lowL; show j ≠ Bl; omega)).trans (hb.block j hj)⟩
  · have e := heap_set h.box 0 mv2
    simpa using e
end Go.Proofs.Ytiijlfpkninmgaa
