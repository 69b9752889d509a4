/-
  Package mail at elements of type int: a box in memory; what is asked of it; how it is made and shut. No block turns but the box's own. No condition but that New made the box.
-/
import Derived.Test.YtfjhcmihjffknaaBase
import Derived.Test.YtfjhcmihjffknaaPoolMath
import Derived.Test.YtfjhcmihjffknaaRows
import Derived.Deep.AppendLies
import Derived.Outline
import Derived.Conc.LoneCalls
import Derived.Conc.LoneSelectN
namespace Go.Proofs.Ytfjhcmihjffknaa
set_option linter.unusedVariables false
set_option linter.unusedSimpArgs false
open Go.ChangeShapes Go.WideShapes Go.ChangeAt Go.RowKit
attribute [local go_sem] alloc_drewN setCell_drewN

/-- A box in memory: its block, its channel, its room, whether it is shut, what it has, and where each element lies. -/
structure BoxAtI (w : World) (base B c room : Nat) (sh : Bool) (l : List Int) (ps : List Nat) : Prop where
  blk : w.heap[B]? = some (.cells #[.chan (some c), .bool sh] 96 (0, 0))
  ch : ∃ s r, w.heap[c]? = some (.chan room (ps.map (fun p => Value.pointer (some ⟨p, 0, none⟩))).toArray false s r false)
  lowB : base ≤ B
  lowc : base ≤ c
  r0 : 1 ≤ room
  r1 : room ≤ 4096
  lp : ps.length = l.length
  le : l.length ≤ room
  el : ∀ i p, ps[i]? = some p → base ≤ p ∧ w.heap[p]? = some (.cells #[Value.int .i64 (l.getD i 0)] 3 (0, 0))
/-- Its blocks. -/
def inBxI (B c : Nat) (ps : List Nat) (j : Nat) : Prop := j = B ∨ j = c ∨ j ∈ ps
section
variable {w w' : World} {base B c room : Nat} {sh : Bool} {l : List Int} {ps : List Nat}
theorem BoxAtI.keep (h : BoxAtI w base B c room sh l ps) (hk : ∀ j, inBxI B c ps j → w'.heap[j]? = w.heap[j]?) : BoxAtI w' base B c room sh l ps := by
  obtain ⟨s, r, hc⟩ := h.ch
  refine ⟨(hk B (Or.inl rfl)).trans h.blk, ⟨s, r, (hk c (Or.inr (Or.inl rfl))).trans hc⟩, h.lowB, h.lowc, h.r0, h.r1, h.lp, h.le, fun i p hp => ?_⟩
  have h1 := h.el i p hp
  exact ⟨h1.1, (hk p (Or.inr (Or.inr (List.mem_of_getElem? hp)))).trans h1.2⟩
theorem BoxAtI.inlt (h : BoxAtI w base B c room sh l ps) {j : Nat} (hj : inBxI B c ps j) : base ≤ j ∧ j < w.heap.size := by
  obtain ⟨s, r, hc⟩ := h.ch
  rcases hj with rfl | rfl | hj
  · exact ⟨h.lowB, (Array.getElem?_eq_some_iff.1 h.blk).1⟩
  · exact ⟨h.lowc, (Array.getElem?_eq_some_iff.1 hc).1⟩
  · obtain ⟨i, hi⟩ := List.getElem?_of_mem hj
    have h1 := h.el i j hi
    exact ⟨h1.1, (Array.getElem?_eq_some_iff.1 h1.2).1⟩
theorem BoxAtI.below (h : BoxAtI w base B c room sh l ps) (hb : Below w.heap.size w w') : BoxAtI w' base B c room sh l ps := h.keep (fun j hj => hb.block j (h.inlt hj).2)
theorem BoxAtI.cell (h : BoxAtI w base B c room sh l ps) : w.cell? ⟨B, 0, none⟩ = some (.chan (some c)) ∧ w.cell? ⟨B, 1, none⟩ = some (.bool sh) ∧ w.frozen? ⟨B, 1, none⟩ = false := by
  refine ⟨cell_of_row w B 0 _ _ (0, 0) h.blk, cell_of_row w B 1 _ _ (0, 0) h.blk, ?_⟩
  simp [World.frozen?, h.blk]
theorem sc_otherI (w : World) (c k cap : Nat) (bf : Array Value) (cl : Bool) (s r : Nat) (tm : Bool) (hk : k ≠ c) : (w.setChan c cap bf cl s r tm).heap[k]? = w.heap[k]? := by
  simp only [World.setChan]
  exact Array.getElem?_setIfInBounds_ne (Ne.symm hk)
theorem BoxAtI.sent (h : BoxAtI w base B c room sh l ps) (hl : l.length < room) (hb : base ≤ w.heap.size) (x : Int) (s r : Nat) :
    BoxAtI ((w.alloc (.cells #[Value.int .i64 x] 3)).setChan c room ((ps.map (fun p => Value.pointer (some ⟨p, 0, none⟩))).toArray.push (.pointer (some ⟨w.heap.size, 0, none⟩))) false s r false) base B c room sh (l ++ [x]) (ps ++ [w.heap.size]) ∧
    MvS w ((w.alloc (.cells #[Value.int .i64 x] 3)).setChan c room ((ps.map (fun p => Value.pointer (some ⟨p, 0, none⟩))).toArray.push (.pointer (some ⟨w.heap.size, 0, none⟩))) false s r false) (inBxI B c ps) (inBxI B c (ps ++ [w.heap.size])) := by
  have hBl := (h.inlt (Or.inl rfl)).2
  have hcl := (h.inlt (Or.inr (Or.inl rfl))).2
  have hne : B ≠ c := by
    rintro rfl
    obtain ⟨s, r, hc⟩ := h.ch
    rw [h.blk] at hc
    exact absurd hc (by simp)
  have hel : ∀ i p, ps[i]? = some p → p < w.heap.size ∧ p ≠ c := fun i p hp => by
    refine ⟨(h.inlt (Or.inr (Or.inr (List.mem_of_getElem? hp)))).2, ?_⟩
    rintro rfl
    obtain ⟨s, r, hc⟩ := h.ch
    rw [(h.el i p hp).2] at hc
    exact absurd hc (by simp)
  have hold : ∀ (bf : Array Value) k, k < w.heap.size → k ≠ c → ((w.alloc (.cells #[Value.int .i64 x] 3)).setChan c room bf false s r false).heap[k]? = w.heap[k]? := fun bf k hk hkc => by
    exact (sc_otherI _ c k _ _ _ _ _ _ hkc).trans (Below.heap_alloc w (.cells #[Value.int .i64 x] 3) k hk)
  have hlp := h.lp
  refine ⟨⟨(hold _ B hBl hne).trans h.blk, ⟨s, r, ?_⟩, h.lowB, h.lowc, h.r0, h.r1, ?_, ?_, fun i p hp => ?_⟩, ⟨rfl, rfl, rfl, ?_, fun k hk hn => hold _ k hk (fun e => hn (Or.inr (Or.inl e))), fun j hj => ?_⟩⟩
  · refine (Go.Conc.heap_setChan _ c _ _ _ _ _ _ (by simp; omega)).trans ?_
    simp
  · simp [h.lp]
  · simp; omega
  · by_cases hi : i < ps.length
    · rw [List.getElem?_append_left hi] at hp
      have h1 := h.el i p hp
      have h2 := hel i p hp
      refine ⟨h1.1, (hold _ p h2.1 h2.2).trans ?_⟩
      rw [h1.2]
      have e : (l ++ [x]).getD i 0 = l.getD i 0 := by
        rw [List.getD_eq_getElem?_getD, List.getD_eq_getElem?_getD, List.getElem?_append_left (by omega)]
      rw [e]
    · rw [List.getElem?_append_right (by omega)] at hp
      have hz : i - ps.length = 0 := by
        cases hq : i - ps.length with
        | zero => rfl
        | succ n => rw [hq] at hp; simp at hp
      rw [hz] at hp
      simp only [List.getElem?_cons_zero, Option.some.injEq] at hp
      subst hp
      refine ⟨hb, ?_⟩
      have e : (l ++ [x]).getD i 0 = x := by
        rw [List.getD_eq_getElem?_getD, List.getElem?_append_right (by omega), show i - l.length = 0 from by omega]
        rfl
      rw [e]
      have hc2 : c ≠ w.heap.size := by omega
      exact (sc_otherI _ c _ _ _ _ _ _ _ (Ne.symm hc2)).trans (heap_alloc_new w (.cells #[Value.int .i64 x] 3))
  · simp [World.setChan]
  · rcases hj with rfl | rfl | hj
    · exact Or.inr (Or.inl rfl)
    · exact Or.inr (Or.inr (Or.inl rfl))
    · rw [List.mem_append] at hj
      rcases hj with hj | hj
      · exact Or.inr (Or.inr (Or.inr hj))
      · rw [List.mem_singleton] at hj
        exact Or.inl (by omega)
theorem BoxAtI.took {x : Int} {p : Nat} (h : BoxAtI w base B c room sh (x :: l) (p :: ps)) (bf : Array Value) (hbf : bf = (ps.map (fun p => Value.pointer (some ⟨p, 0, none⟩))).toArray) (s r : Nat) :
    BoxAtI (w.setChan c room bf false s r false) base B c room sh l ps ∧ MvS w (w.setChan c room bf false s r false) (inBxI B c (p :: ps)) (inBxI B c ps) ∧ (w.setChan c room bf false s r false).heap[p]? = some (.cells #[Value.int .i64 x] 3 (0, 0)) := by
  have hBl := (h.inlt (Or.inl rfl)).2
  have hcl := (h.inlt (Or.inr (Or.inl rfl))).2
  have hne : B ≠ c := by
    rintro rfl
    obtain ⟨s, r, hc⟩ := h.ch
    rw [h.blk] at hc
    exact absurd hc (by simp)
  have hel : ∀ i q, (p :: ps)[i]? = some q → q ≠ c := fun i q hp e => by
    obtain ⟨s, r, hc⟩ := h.ch
    rw [← e, (h.el i q hp).2] at hc
    exact absurd hc (by simp)
  have hold : ∀ k, k ≠ c → (w.setChan c room bf false s r false).heap[k]? = w.heap[k]? := fun k hkc => sc_otherI _ c k _ _ _ _ _ _ hkc
  have hlp := h.lp
  have hle := h.le
  simp only [List.length_cons] at hlp hle
  refine ⟨⟨(hold B hne).trans h.blk, ⟨s, r, ?_⟩, h.lowB, h.lowc, h.r0, h.r1, by omega, by omega, fun i q hp => ?_⟩, ⟨rfl, rfl, rfl, by simp [World.setChan], fun k hk hn => hold k (fun e => hn (Or.inr (Or.inl e))), fun j hj => ?_⟩, (hold p (hel 0 p rfl)).trans (h.el 0 p rfl).2⟩
  · rw [hbf]
    exact Go.Conc.heap_setChan _ c _ _ _ _ _ _ hcl
  · have h1 := h.el (i + 1) q (by simpa using hp)
    refine ⟨h1.1, (hold q (hel (i + 1) q (by simpa using hp))).trans (h1.2.trans ?_)⟩
    rfl
  · rcases hj with rfl | rfl | hj
    · exact Or.inr (Or.inl rfl)
    · exact Or.inr (Or.inr (Or.inl rfl))
    · exact Or.inr (Or.inr (Or.inr (List.mem_cons_of_mem _ hj)))
theorem chan_isI (c : Nat) (W : World) : Sem.run Try.prog (binOp .neq 94 (.chan (some c)) (.chan none)) W = .ok (.bool true) W := by
  have e : ∀ d, Sem.run Try.prog (Op.equalIn (d + 1) 94 (.chan (some c)) (.chan none)) W = .ok false W := fun d => by simp [Op.equalIn, run_underlying Try.underlying94]
  simp only [binOp]
  simp [Op.equal, Op.maxDepth, e 9999]
set_option maxRecDepth 100000 in
theorem mmadeI (h : BoxAtI w base B c room sh l ps) : Calls Try.prog 50 #[.pointer (some ⟨B, 0, none⟩)] w fun e w' => e = .returned (.bool true) ∧ w = w' := by
  obtain ⟨c0, c1, f1⟩ := h.cell
  clear h
  have HN := chan_isI c
  go_enter Try.func50, Try.ntmps50
  go_wp2
  go_ret
  exact ⟨rfl, rfl⟩
set_option maxRecDepth 100000 in
theorem mmade_nilI (w : World) : Calls Try.prog 50 #[.pointer none] w fun e w' => e = .returned (.bool false) ∧ w = w' := by
  go_enter Try.func50, Try.ntmps50
  go_wp2
  go_ret
  exact ⟨rfl, rfl⟩
set_option maxRecDepth 100000 in
theorem mopenI (h : BoxAtI w base B c room sh l ps) : Calls Try.prog 23 #[.pointer (some ⟨B, 0, none⟩)] w fun e w' => e = .returned (.bool (!sh)) ∧ w = w' := by
  obtain ⟨c0, c1, f1⟩ := h.cell
  have M := Lib.hid (mmadeI h)
  clear h
  go_enter Try.func23, Try.ntmps23
  go_wp2_with fail
  refine M.out.mono ?_
  rintro e w1 ⟨rfl, rfl⟩
  go_wp2
  go_ret
  exact ⟨rfl, rfl⟩
set_option maxRecDepth 100000 in
theorem mopen_nilI (w : World) : Calls Try.prog 23 #[.pointer none] w fun e w' => e = .returned (.bool false) ∧ w = w' := by
  have M := Lib.hid (mmade_nilI w)
  go_enter Try.func23, Try.ntmps23
  go_wp2_with fail
  refine M.out.mono ?_
  rintro e w1 ⟨rfl, rfl⟩
  go_wp2
  go_ret
  exact ⟨rfl, rfl⟩
end
end Go.Proofs.Ytfjhcmihjffknaa
