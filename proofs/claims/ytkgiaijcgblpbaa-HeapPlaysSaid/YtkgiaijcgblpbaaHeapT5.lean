/-
  Package heappifo for elements of type string: an item is popped. No block turns but the heap's own. No condition but that the heap is one that New made.
-/
import Derived.Test.YtkgiaijcgblpbaaHeapT4
namespace Go.Proofs.Ytkgiaijcgblpbaa
set_option linter.unusedVariables false
set_option linter.unusedSimpArgs false
open Go.ChangeShapes Go.WideShapes Go.ChangeAt Go.RowKit
attribute [local go_sem] alloc_drewN setCell_drewN

theorem zero_entryHT (w : World) : (zeroValue 171).run Try.prog w = .ok (.agg #[.int .u64 0, Value.string ⟨#[]⟩, .int .u64 0]) w := by kernel_rfl
theorem zeroCells_one3T (a b c : Value) : (Builtin.zeroCells (Value.agg #[a, b, c]).cells 1).toList = [a, b, c] := by
  simp [Builtin.zeroCells, Value.cells, List.range, List.range.loop]
/-- The last item goes from the row. -/
theorem HeapAtT.popped {w : World} {base B : Nat} {room pd : Int} {g c n : Nat} {es : List (Ent ByteArray)} (hn : es.length = n + 1) (h : HeapAtT w base B room pd (.slice (some ⟨g, 0, none⟩) (n + 1) c) es) :
    HeapAtT (w.setCell ⟨B, 2, none⟩ (.slice (some ⟨g, 0, none⟩) n c)) base B room pd (.slice (some ⟨g, 0, none⟩) n c) (es.take n) ∧ Mv w (w.setCell ⟨B, 2, none⟩ (.slice (some ⟨g, 0, none⟩) n c)) B (.slice (some ⟨g, 0, none⟩) (n + 1) c) (.slice (some ⟨g, 0, none⟩) n c) := by
  have hl : (es.take n).length = n := by simp; omega
  have ho := h.own
  have hne : (Value.slice (some ⟨g, 0, none⟩) (n + 1) c).ownBlock ≠ some B := h.ne
  obtain ⟨m, b, rfl⟩ : ∃ m b, es = m ++ [b] := by
    rcases List.eq_nil_or_concat es with rfl | ⟨m, b, h⟩
    · simp at hn
    · exact ⟨m, b, by simpa using h⟩
  have hm : m.length = n := by simpa using hn
  subst hm
  rw [List.take_left' rfl]
  have e : hrowT (m ++ [b]) = hrowT m ++ hcellT b := by simp [hrowT]
  rw [e, List.length_append, List.length_singleton] at ho
  have ho2 : w.ownsRow base 171 3 (.slice (some ⟨g, 0, none⟩) m.length c) m.length (hrowT m) := ownsRow_pop (by rw [hrow_lenT]) ho
  have hle := h.le
  rw [List.length_append, List.length_singleton] at hle
  refine ⟨⟨?_, h.low, ownsRow_setCell_other (a := ⟨B, 2, none⟩) ho2 hne _, h.r0, h.r1, by omega⟩, ?_⟩
  · have e := heap_set h.blk 2 (.slice (some ⟨g, 0, none⟩) m.length c)
    simpa using e
  · exact ⟨rfl, rfl, rfl, by simp [World.setCell], fun j _ hj _ => Below.heap_setCell _ ⟨B, 2, none⟩ _ j hj, fun j hj => Or.inr hj⟩
theorem hpop_noT {w : World} {base B : Nat} {room pd : Int} {v : Value} (h : HeapAtT w base B room pd v []) :
    Calls Try.prog 69 #[.pointer (some ⟨B, 0, none⟩)] w fun e w' => e = .returned (.tuple #[.int .u64 0, Value.string ⟨#[]⟩, .bool false]) ∧ w' = w := by
  have PK := Lib.hid (hpeek_noT h)
  clear h
  go_enter Try.func69, Try.ntmps69
  go_wp2_with (go_at_call 101; refine PK.out.mono ?_; rintro e w' ⟨rfl, rfl⟩)
  go_ret3
  exact ⟨rfl, rfl⟩
theorem take_set_last {α : Type} (l : List α) (m : Nat) (x : α) : (l.set m x).take m = l.take m := by
  apply List.ext_getElem?
  intro j
  by_cases h : j < m
  · rw [List.getElem?_take_of_lt h, List.getElem?_take_of_lt h, List.getElem?_set_ne (by omega)]
  · rw [List.getElem?_eq_none (by simp; omega), List.getElem?_eq_none (by simp; omega)]
set_option maxRecDepth 100000 in
set_option maxHeartbeats 2000000 in
theorem hpop_inT {w : World} {base B : Nat} {room pd : Int} {v : Value} {es : List (Ent ByteArray)} (h : HeapAtT w base B room pd v es) (h0 : 0 < es.length) (hh : Hp (fn es) es.length) :
    Calls Try.prog 69 #[.pointer (some ⟨B, 0, none⟩)] w fun e w' => e = .returned (.tuple #[.int .u64 (es[0]).rk, Value.string (es[0]).x, .bool true]) ∧ ∃ v' es', HeapAtT w' base B room pd v' es' ∧ (es[0] :: es').Perm es ∧ Hp (fn es') es'.length ∧ Mv w w' B v v' := by
  have PK := Lib.hid (hpeek_inT h h0)
  obtain ⟨n, hn⟩ : ∃ n, es.length = n + 1 := ⟨es.length - 1, by omega⟩
  obtain ⟨c0, c1, c2⟩ := h.cell
  have hm1 := h.r1; have hle := h.le
  obtain ⟨g, c, hv, _, _⟩ := h.own.form (by omega)
  have hcap : es.length ≤ c := by
    rcases h.own.2 with ⟨hx, _⟩ | ⟨_, _, _, hx, _, _, h1, _⟩
    · rw [hv] at hx; cases hx
    · rw [hv] at hx; injection hx with _ _ h3; omega
  rw [hn] at hcap
  subst hv
  rw [hn] at c2 hle
  have h' : HeapAtT w base B room pd (.slice (some ⟨g, 0, none⟩) es.length c) es := h
  obtain ⟨a0, a1, a2⟩ := h'.entAt 0 h0
  obtain ⟨b0, b1, b2⟩ := h'.entAt n (by omega)
  simp only [Nat.zero_mul, Nat.zero_add] at a0 a1 a2
  have z0 := h.own.frozenAt 0
  have z1 := h.own.frozenAt 1
  have z2 := h.own.frozenAt 2
  have hB : B < w.heap.size := (Array.getElem?_eq_some_iff.1 h.blk).1
  have hB1 : ¬ g = B := fun e => h.ne (by rw [e]; rfl)
  have hB2 : ¬ B = g := fun e => hB1 e.symm
  have w1 : IntKind.i64.wrap (((n + 1 : Nat) : Int) - 1) = (n : Int) := by rw [IntKind.wrap_i64]; omega
  have w2 : (((n + 1 : Nat) : Int) - 1) = (n : Int) := by omega
  have n0 : (0 : Int) ≤ n := by omega
  have n1 : (n : Int) < ((n + 1 : Nat) : Int) := by omega
  have n2 : (n : Int) ≤ ((n + 1 : Nat) : Int) := by omega
  have n3 : (n : Int) ≤ c := by omega
  have n4 : n ≤ n + 1 := by omega
  have SE := h'.setEnt 0 h0 es[n]
  simp only [Nat.zero_mul, Nat.zero_add] at SE
  obtain ⟨W2, hW2⟩ : ∃ W2, W2 = ((w.setCell ⟨g, 0, none⟩ (.int .u64 (es[n]).rk)).setCell ⟨g, 1, none⟩ (Value.string (es[n]).x)).setCell ⟨g, 2, none⟩ (.int .u64 (es[n]).tn) := ⟨_, rfl⟩
  rw [← hW2] at SE
  obtain ⟨s1, s2⟩ := SE
  have H := Lib.hid h; have HH := Lib.hid hh
  clear h h' hh
  generalize hrk : (es[n]).rk = brk at *
  generalize htn : (es[n]).tn = btn at *
  generalize hxx : (es[n]).x = bx at *
  generalize hrk0 : (es[0]).rk = ark at *
  generalize htn0 : (es[0]).tn = atn at *
  generalize hxx0 : (es[0]).x = ax at *
  go_enter Try.func69, Try.ntmps69
  go_wp2_with (go_at_call 101; refine PK.out.mono ?_; rintro e w' ⟨rfl, nd, rfl⟩)
  go_region
  rw [← hW2]
  obtain ⟨WX, hWX⟩ : ∃ WX, WX = W2.drewN (nd + 1) := ⟨_, rfl⟩
  rw [← hWX]
  have x1 : HeapAtT WX base B room pd (.slice (some ⟨g, 0, none⟩) (n + 1) c) (es.set 0 es[n]) := by rw [hWX, ← hn]; exact s1.drewN _
  have x2 : Mv w WX B (.slice (some ⟨g, 0, none⟩) (n + 1) c) (.slice (some ⟨g, 0, none⟩) (n + 1) c) := by rw [hWX, ← hn]; exact s2.drewN _
  have hl0 : (es.set 0 es[n]).length = n + 1 := by rw [List.length_set]; exact hn
  have x1' : HeapAtT WX base B room pd (.slice (some ⟨g, 0, none⟩) (es.set 0 es[n]).length c) (es.set 0 es[n]) := by rw [hl0]; exact x1
  obtain ⟨d0, d1, d2⟩ := x1.cell
  obtain ⟨e0, e1, e2⟩ := x1'.entAt n (by rw [hl0]; omega)
  have X1 := Lib.hid x1; have X2 := Lib.hid x2
  have hcl := fun ty => run_clear_one (P := Try.prog) WX 165 171 ty (.agg #[.int .u64 0, Value.string ⟨#[]⟩, .int .u64 0]) [.int .u64 0, Value.string ⟨#[]⟩, .int .u64 0] Try.underlying165 zero_entryHT (zeroCells_one3T _ _ _) (fun x hx => by simp at hx; rcases hx with rfl | rfl | rfl <;> rfl) g (n * 3) (c - n)
    (fun j hj => by
      have hj' : j = 0 ∨ j = 1 ∨ j = 2 := by simp at hj; omega
      rcases hj' with rfl | rfl | rfl
      · rw [Nat.add_zero, e0]; rfl
      · rw [e1]; rfl
      · rw [e2]; rfl) (fun j _ => x1'.own.frozenAt _)
  obtain ⟨y1, y2⟩ := x1'.setEnt n (by rw [hl0]; omega) ⟨0, ByteArray.empty, 0⟩
  obtain ⟨W3, hW3⟩ : ∃ W3, W3 = ((WX.setCell ⟨g, n * 3, none⟩ (.int .u64 0)).setCell ⟨g, n * 3 + 1, none⟩ (Value.string ByteArray.empty)).setCell ⟨g, n * 3 + 2, none⟩ (.int .u64 0) := ⟨_, rfl⟩
  rw [← hW3] at y1 y2
  have hcl2 : ∀ ty, (Builtin.clear_ #[165] ty #[.slice (some ⟨g, n * 3, none⟩) 1 (c - n)]).run Try.prog WX = .ok (.tuple #[]) W3 := fun ty => (hcl ty).trans (by rw [hW3]; rfl)
  rw [hl0] at y1 y2
  obtain ⟨f0, f1, f2⟩ := y1.cell
  have fz2 := frozen_of_row W3 B 2 _ _ y1.blk
  have hl3 : ((es.set 0 es[n]).set n ⟨0, ByteArray.empty, 0⟩).length = n + 1 := by rw [List.length_set]; exact hl0
  obtain ⟨p1, p2⟩ := HeapAtT.popped hl3 y1
  have hfin : ((es.set 0 es[n]).set n (⟨0, ByteArray.empty, 0⟩ : Ent ByteArray)).take n = dropL es 0 := by
    rw [take_set_last]
    unfold dropL
    rw [show es.length - 1 = n by omega, fn_at es n (by omega)]
  rw [hfin] at p1
  have P1 := Lib.hid p1
  have P2 := Lib.hid ((x2.trans y2).trans p2)
  have hdl : (dropL es 0).length = n := by rw [dropL_length]; omega
  have SK := Lib.hid (hsinkT p1 0 (Nat.zero_le _) (by
    rw [hdl]
    refine Hp.popped (by rw [← hn]; exact HH.out) (fun k hk hk0 => (fn_drop es 0).1 k (by omega) hk0)))
  clear hcl hW3 y1 y2 x1 x1' x2 p1 p2 hWX hW2 s1 s2 c0 c1 c2 e0 e1 e2 z0 z1 z2
  go_wp2_with (go_at_call 102; refine SK.out.mono ?_; rintro e w5 ⟨rfl, es5, h5, h6, h7, h8⟩)
  go_ret3
  exact ⟨rfl, _, es5, h5, (List.Perm.cons _ h6).trans (dropL_perm es 0 h0), h7, by rw [hn]; exact P2.out.trans h8⟩
end Go.Proofs.Ytkgiaijcgblpbaa
