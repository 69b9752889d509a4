/-
  Package pool: all handles of a queue that there is not: none. What lay below the heap's end stands. No condition but that the pool is one that New made.
-/
import Derived.Test.YtmkgadndfiiacaaPoolQ
namespace Go.Proofs.Ytmkgadndfiiacaa
set_option linter.unusedVariables false
set_option linter.unusedSimpArgs false
open Go.ChangeShapes Go.WideShapes Go.ChangeAt Go.RowKit Go.Shelf
attribute [local go_sem] Oper.semAt_some
theorem each_out_stopsI {w : World} {base B : Nat} {most : Int} {ve vf vq : Value} {es : List EntI} {fr : List Int} {qs : List (Int × Int × Int)} (h : PoolAtI w base B most ve vf vq es fr qs) (q : Int) (hq0 : q < 0 ∨ (qs.length : Int) ≤ q) (n Bp Bq : Nat) (n₀ : Nat) (hBp : Bp < w.heap.size) (hBq : Bq < w.heap.size) (hp : w.cell? ⟨Bp, 0, none⟩ = some (.pointer (some ⟨B, 0, none⟩))) (hq : w.cell? ⟨Bq, 0, none⟩ = some (.int .i64 q)) :
    SeqStopsK Fence.wide n Try.prog 150 #[.pointer (some ⟨Bp, 0, none⟩), .pointer (some ⟨Bq, 0, none⟩)] (fun x : Int => #[Value.int .i64 x]) (Below n₀) (fun ys => ys = []) (fun pre => False) 0 w := fun l J Jx W hW _ _ hY h0 => by
  have hin : ∀ i, inP B ve vf vq i → i < w.heap.size := fun i hh => by
    rcases hh with rfl | hh | hh | hh
    · exact (Array.getElem?_eq_some_iff.1 h.blk).1
    · exact (h.oe.lt i hh).2
    · exact (h.of.lt i hh).2
    · exact (h.oq.lt i hh).2
  have PW := h.bbut (.of_below (x := w.heap.size) hW) (fun i hh => ⟨hin i hh, by have := hin i hh; omega⟩)
  have cp := (hW.cell (p := ⟨Bp, 0, none⟩) hBp).trans hp
  have cq := (hW.cell (p := ⟨Bq, 0, none⟩) hBq).trans hq
  have HS := Lib.hid (fun n => (callsIn_wide (n := n)).2 (hasP_outI PW q hq0))
  have H0 := Lib.hid h0
  clear h0 hY hW hp hq PW hin h
  refine callsIn_of_wp Try.func150 rfl trivial ?_ rfl
  simp only [Try.ntmps150, List.size_toArray, List.length_cons, List.length_nil, Nat.reduceAdd, Nat.reduceSub, Array.replicate_succ, Array.replicate_zero, List.push_toArray, List.append_toArray, List.nil_append, List.cons_append]
  gi_wp2_with (refine ⟨trivial, (fun h => by cases h), ?_⟩; gi_at_call 119; refine (HS.out _).mono ?_; rintro e w3 ⟨rfl, rfl⟩)
  first | go_end0 | refine bodyPost_ret (results_none rfl _ _ _) rfl ?_
  exact ⟨⟨_, rfl⟩, Or.inl ⟨[], rfl, H0.out⟩⟩

set_option maxRecDepth 100000 in
set_option maxHeartbeats 2000000 in
theorem queueP_out {w : World} {base B : Nat} {most : Int} {ve vf vq : Value} {es : List EntI} {fr : List Int} {qs : List (Int × Int × Int)} (h : PoolAtI w base B most ve vf vq es fr qs) (q : Int) (hq0 : q < 0 ∨ (qs.length : Int) ≤ q) :
    Calls Try.prog 65 #[.pointer (some ⟨B, 0, none⟩), .int .i64 q] w fun e W' => e = .returned (.slice none 0 0) ∧ Below w.heap.size w W' := by
  refine (callsIn_wide (n := 3)).1 ?_
  refine callsIn_of_wp_marks Try.func65 rfl trivial ?_ rfl
  simp only [Try.ntmps65, List.size_toArray, List.length_cons, List.length_nil, Nat.reduceAdd, Nat.reduceSub, Array.replicate_succ, Array.replicate_zero, List.push_toArray, List.append_toArray, List.nil_append, List.cons_append]
  gi_wp2_with (refine ⟨trivial, ?_⟩; gi_at_call 120; refine (each_any q (some ⟨B, 0, none⟩) _ _).mono ?_; rintro e w' ⟨rfl, rfl⟩)
  have hs := cell_fresh w (.slice none 0 0) 102
  have hp := cell_fresh (w.alloc (.cells #[.slice none 0 0] 102)) (.pointer (some ⟨B, 0, none⟩)) 95
  have hq := cell_fresh ((w.alloc (.cells #[.slice none 0 0] 102)).alloc (.cells #[.pointer (some ⟨B, 0, none⟩)] 95)) (.int .i64 q) 3
  simp only [World.size_alloc] at hp hq
  have hB0 : Below w.heap.size w (((w.alloc (.cells #[.slice none 0 0] 102)).alloc (.cells #[.pointer (some ⟨B, 0, none⟩)] 95)).alloc (.cells #[.int .i64 q] 3)) := (((Below.refl _ w).alloc (Nat.le_refl _) _).alloc (by simp) _).alloc (by simp; omega) _
  have hin : ∀ i, inP B ve vf vq i → i < w.heap.size := fun i hh => by
    rcases hh with rfl | hh | hh | hh
    · exact (Array.getElem?_eq_some_iff.1 h.blk).1
    · exact (h.oe.lt i hh).2
    · exact (h.of.lt i hh).2
    · exact (h.oq.lt i hh).2
  have P0 := h.bbut (.of_below (x := w.heap.size) hB0) (fun i hh => ⟨hin i hh, by have := hin i hh; omega⟩)
  refine wpIn_rangeFunc_ownF rfl (by omega) (gf := 150) (lb := #[.pointer (some ⟨w.heap.size + 1, 0, none⟩), .pointer (some ⟨w.heap.size + 1 + 1, 0, none⟩)]) rfl trivial (enters_of Try.func150 (by kernel_rfl) rfl)
    (each_out_stopsI P0 q hq0 _ (w.heap.size + 1) (w.heap.size + 1 + 1) w.heap.size (by simp) (by simp) (cell_past _ hp.1) hq.1) belowK_t (belowK_b (by simp; omega)) (Below.refl _ _) (fun _ => rfl)
    (fun pre W => (W.cell? ⟨w.heap.size, 0, none⟩ = some (.slice none 0 0)) ∧ Below w.heap.size w W)
    (fun _ _ _ => False)
    (OwnFrom.and (Own.from (fun s A B row hs hg hr => cell_kept hs hg hr) _) (ownFrom_below (Nat.le_refl _) (by simp; omega)))
    (fun _ _ _ _ _ hs _ _ => hs)
    ⟨cell_past _ (cell_past _ hs.1), hB0⟩
    (fun x => { tmps := #[.pointer (some ⟨B, 0, none⟩), .int .i64 q, undef, undef, .slice none 0 0, .pointer (some ⟨w.heap.size, 0, none⟩), .int .i64 x, .pointer (some ⟨B, 0, none⟩), .int .i64 q, .func (.func 150) #[] #[.pointer (some ⟨w.heap.size + 1, 0, none⟩), .pointer (some ⟨w.heap.size + 1 + 1, 0, none⟩)], .int .i64 x, undef, undef, undef, undef, undef], defers := [] }) ?assign ?body ?done ?stop
  case assign =>
    intro l x W K hK
    gi_wp2
    exact hK
  case body =>
    rintro l pre x W _ hlt
    exact absurd hlt (Nat.not_lt_zero _)
  case done =>
    rintro D ys W hD rfl ⟨hc, hB⟩ hK
    gi_wp2
    refine ⟨by simp, .inl ⟨_, _, rfl, run_takeDeferred hK, ?_⟩⟩
    exact ⟨_, results_tmp rfl _ _ _, rfl, hB.trans (belowK_b (w := w) (Nat.le_refl _) W D _ _ (by simp at hD; omega) hK rfl rfl)⟩
  case stop =>
    rintro D c pre W _ h _ _
    exact h.elim
end Go.Proofs.Ytmkgadndfiiacaa
