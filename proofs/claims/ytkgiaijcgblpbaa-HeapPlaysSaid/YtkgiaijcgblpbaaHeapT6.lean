/-
  Package heappifo for elements of type string: a heap as a sorted list: what is pushed, popped, looked at. No block turns but the heap's own. No condition but that the heap is one that New made.
-/
import Derived.Test.YtkgiaijcgblpbaaHeapT5
namespace Go.Proofs.Ytkgiaijcgblpbaa
set_option linter.unusedVariables false
set_option linter.unusedSimpArgs false
open Go.ChangeShapes Go.WideShapes Go.ChangeAt Go.RowKit
attribute [local go_sem] alloc_drewN setCell_drewN

/-- A heap that holds a sorted list's items. -/
def HeapGT (w : World) (base B : Nat) (room pd : Int) (v : Value) (ms : List (Ent ByteArray)) : Prop :=
  ∃ es, HeapAtT w base B room pd v es ∧ Hp (fn es) es.length ∧ es.Perm ms ∧ Srt ms ∧ (∀ m ∈ ms, m.tn < pd) ∧ 0 ≤ pd
theorem HeapGT.drewN {w : World} {base B : Nat} {room pd : Int} {v : Value} {ms : List (Ent ByteArray)} (h : HeapGT w base B room pd v ms) (n : Nat) : HeapGT (w.drewN n) base B room pd v ms := by
  obtain ⟨es, h1, h2⟩ := h
  exact ⟨es, h1.drewN n, h2⟩
theorem HeapGT.below {w w' : World} {base B : Nat} {room pd : Int} {v : Value} {ms : List (Ent ByteArray)} (h : HeapGT w base B room pd v ms) (hb : Below w.heap.size w w') : HeapGT w' base B room pd v ms := by
  obtain ⟨es, h1, h2⟩ := h
  exact ⟨es, h1.below hb, h2⟩
theorem HeapGT.own {w : World} {base B : Nat} {room pd : Int} {v : Value} {ms : List (Ent ByteArray)} (h : HeapGT w base B room pd v ms) : base ≤ B ∧ B < w.heap.size ∧ ∀ j, v.ownBlock = some j → base ≤ j ∧ j < w.heap.size := by
  obtain ⟨es, h1, h2⟩ := h
  exact ⟨h1.low, (Array.getElem?_eq_some_iff.1 h1.blk).1, fun j hj => h1.own.lt j hj⟩
theorem HeapGT.room {w : World} {base B : Nat} {room pd : Int} {v : Value} {ms : List (Ent ByteArray)} (h : HeapGT w base B room pd v ms) : 1 ≤ room ∧ room ≤ 4096 ∧ (ms.length : Int) ≤ room := by
  obtain ⟨es, h1, h2, h3, h4⟩ := h
  exact ⟨h1.r0, h1.r1, by rw [← h3.length_eq]; exact h1.le⟩
theorem HeapGT.srt {w : World} {base B : Nat} {room pd : Int} {v : Value} {ms : List (Ent ByteArray)} (h : HeapGT w base B room pd v ms) : Srt ms := by
  obtain ⟨es, h1, h2, h3, h4, h5⟩ := h
  exact h4
/-- Those who own blocks of another type stand apart. -/
theorem HeapGT.ints {w : World} {base B : Nat} {room pd : Int} {v : Value} {ms : List (Ent ByteArray)} (h : HeapGT w base B room pd v ms) {b : Nat} {e : TypeId} {size n : Nat} {u : Value} {xs : List Value} (hu : w.ownsRow b e size u n xs) (he : e ≠ 171) (he2 : e ≠ 167) : u.ownBlock ≠ some B ∧ (u.ownBlock = none ∨ u.ownBlock ≠ v.ownBlock) := by
  obtain ⟨es, h1, h2⟩ := h
  exact ⟨own_ne_blk hu h1.blk he2, row_apart hu h1.own he⟩
theorem HeapGT.start {w : World} {base B : Nat} {room : Int} (h : HeapAtT w base B room 0 (.slice none 0 0) []) : HeapGT w base B room 0 (.slice none 0 0) [] :=
  ⟨[], h, fun k hk => absurd hk (Nat.not_lt_zero _), List.Perm.refl _, List.Pairwise.nil, (fun m hm => by cases hm), Int.le_refl _⟩
theorem head_eqT {es ms : List (Ent ByteArray)} {e : Ent ByteArray} (hp : es.Perm (e :: ms)) (hs : Srt (e :: ms)) (hh : Hp (fn es) es.length) (h0 : 0 < es.length) : es[0] = e := by
  have hs' := List.pairwise_cons.1 hs
  have hm : es[0] ∈ e :: ms := hp.mem_iff.1 (List.getElem_mem h0)
  rcases List.mem_cons.1 hm with h | h
  · exact h
  · exfalso
    have h1 := hs'.1 _ h
    have h2 : e ∈ es := hp.mem_iff.2 (List.mem_cons_self ..)
    obtain ⟨k, hk, rfl⟩ := List.getElem_of_mem h2
    have h3 := hh.first k hk
    rw [fn_at es k hk, fn_at es 0 h0] at h3
    exact h3 h1
theorem pushHT {w : World} {base B : Nat} {room pd : Int} {v : Value} {ms : List (Ent ByteArray)} (h : HeapGT w base B room pd v ms) (p1 : pd < 18446744073709551615) (rk : Int) (x : ByteArray) (hbase : base ≤ w.heap.size) :
    Calls Try.prog 68 #[.pointer (some ⟨B, 0, none⟩), .int .u64 rk, Value.string x] w fun e w' => ∃ d : Bool, e = .returned (.bool d) ∧ d = decide ((ms.length : Int) < room) ∧
      ((d = false ∧ ∃ n, w' = w.drewN n) ∨ (d = true ∧ ∃ v', HeapGT w' base B room (pd + 1) v' (insR ms ⟨rk, x, pd⟩) ∧ Mv w w' B v v')) := by
  obtain ⟨es, h1, h2, h3, h4, h5, h6⟩ := h
  have hl := h3.length_eq
  by_cases hf : room ≤ (es.length : Int)
  · refine (hpush_fullT h1 hf rk x).mono ?_
    rintro e w' ⟨rfl, hw⟩
    exact ⟨false, rfl, by symm; rw [decide_eq_false_iff_not]; omega, Or.inl ⟨rfl, hw⟩⟩
  · refine (hpush_okT h1 (by omega) h2 h6 p1 rk x hbase).mono ?_
    rintro e w' ⟨rfl, v', es', k1, k2, k3, k4⟩
    refine ⟨true, rfl, by symm; rw [decide_eq_true_iff]; omega, Or.inr ⟨rfl, v', ⟨es', k1, k3, ?_, insR_srt _ _ h4 h5, ?_, by omega⟩, k4⟩⟩
    · refine k2.trans ((List.perm_append_comm (l₁ := es) (l₂ := [⟨rk, x, pd⟩])).trans ?_)
      exact (List.Perm.cons _ h3).trans (insR_perm _ _).symm
    · intro m hm
      rcases List.mem_cons.1 ((insR_perm _ _).mem_iff.1 hm) with rfl | hm
      · show pd < pd + 1; omega
      · have := h5 m hm; omega
theorem lenHT {w : World} {base B : Nat} {room pd : Int} {v : Value} {ms : List (Ent ByteArray)} (h : HeapGT w base B room pd v ms) :
    Calls Try.prog 70 #[.pointer (some ⟨B, 0, none⟩)] w fun e w' => e = .returned (.int .i64 ms.length) ∧ w' = w := by
  obtain ⟨es, h1, h2, h3, h4⟩ := h
  rw [← h3.length_eq]
  exact hlenT h1
theorem popH_noT {w : World} {base B : Nat} {room pd : Int} {v : Value} (h : HeapGT w base B room pd v []) :
    Calls Try.prog 69 #[.pointer (some ⟨B, 0, none⟩)] w fun e w' => e = .returned (.tuple #[.int .u64 0, Value.string ⟨#[]⟩, .bool false]) ∧ w' = w := by
  obtain ⟨es, h1, h2, h3, h4⟩ := h
  obtain rfl := List.perm_nil.1 h3
  exact hpop_noT h1
theorem popH_inT {w : World} {base B : Nat} {room pd : Int} {v : Value} {e0 : Ent ByteArray} {ms : List (Ent ByteArray)} (h : HeapGT w base B room pd v (e0 :: ms)) :
    Calls Try.prog 69 #[.pointer (some ⟨B, 0, none⟩)] w fun e w' => e = .returned (.tuple #[.int .u64 e0.rk, Value.string e0.x, .bool true]) ∧ ∃ v', HeapGT w' base B room pd v' ms ∧ Mv w w' B v v' := by
  obtain ⟨es, h1, h2, h3, h4, h5, h6⟩ := h
  have h0 : 0 < es.length := by rw [h3.length_eq]; simp
  have he := head_eqT h3 h4 h2 h0
  refine (hpop_inT h1 h0 h2).mono ?_
  rintro e w' ⟨rfl, v', es', k1, k2, k3, k4⟩
  rw [he] at k2 ⊢
  exact ⟨rfl, v', ⟨es', k1, k3, List.Perm.cons_inv (k2.trans h3), (List.pairwise_cons.1 h4).2, fun m hm => h5 m (List.mem_cons_of_mem _ hm), h6⟩, k4⟩
theorem peekH_noT {w : World} {base B : Nat} {room pd : Int} {v : Value} (h : HeapGT w base B room pd v []) :
    Calls Try.prog 101 #[.pointer (some ⟨B, 0, none⟩)] w fun e w' => e = .returned (.tuple #[.int .u64 0, Value.string ⟨#[]⟩, .bool false]) ∧ w' = w := by
  obtain ⟨es, h1, h2, h3, h4⟩ := h
  obtain rfl := List.perm_nil.1 h3
  exact hpeek_noT h1
theorem peekH_inT {w : World} {base B : Nat} {room pd : Int} {v : Value} {e0 : Ent ByteArray} {ms : List (Ent ByteArray)} (h : HeapGT w base B room pd v (e0 :: ms)) :
    Calls Try.prog 101 #[.pointer (some ⟨B, 0, none⟩)] w fun e w' => e = .returned (.tuple #[.int .u64 e0.rk, Value.string e0.x, .bool true]) ∧ ∃ n, w' = w.drewN n := by
  obtain ⟨es, h1, h2, h3, h4, h5, h6⟩ := h
  have h0 : 0 < es.length := by rw [h3.length_eq]; simp
  have he := head_eqT h3 h4 h2 h0
  refine (hpeek_inT h1 h0).mono ?_
  rintro e w' ⟨rfl, hw⟩
  rw [he]
  exact ⟨rfl, hw⟩
end Go.Proofs.Ytkgiaijcgblpbaa
