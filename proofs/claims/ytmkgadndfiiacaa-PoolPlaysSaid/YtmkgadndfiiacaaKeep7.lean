/-
  A pool beside two rows of one's own, and what each thing that is done leaves of the three. Plain words on worlds and lists. No condition.
-/
import Derived.Test.YtmkgadndfiiacaaPoolG2
import Derived.Test.YtmkgadndfiiacaaInts
namespace Go.Proofs.Ytmkgadndfiiacaa
set_option linter.unusedVariables false
set_option linter.unusedSimpArgs false
open Go.ChangeShapes Go.WideShapes Go.ChangeAt Go.RowKit

/-- A row stands, where its block does. -/
theorem own_on {w w' : World} {base n size : Nat} {e : TypeId} {v : Value} {xs : List Value} (ho : w.ownsRow base e size v n xs) (hb : ∀ j, v.ownBlock = some j → w'.heap[j]? = w.heap[j]?) : w'.ownsRow base e size v n xs := by
  refine ⟨ho.1, ?_⟩
  rcases ho.2 with hh | ⟨g, cap, cur, rfl, hb', hg, rest⟩
  · exact Or.inl hh
  · exact Or.inr ⟨g, cap, cur, rfl, hb', (hb g rfl).trans hg, rest⟩
theorem PoolAtI.inlt {w : World} {base B : Nat} {most : Int} {ve vf vq : Value} {es : List EntI} {fr : List Int} {qs : List (Int × Int × Int)} (h : PoolAtI w base B most ve vf vq es fr qs) {j : Nat} (hj : inP B ve vf vq j) : base ≤ j ∧ j < w.heap.size := by
  rcases hj with rfl | hj | hj | hj
  · exact ⟨h.low, (Array.getElem?_eq_some_iff.1 h.blk).1⟩
  · exact World.ownsRow.lt h.oe j hj
  · exact World.ownsRow.lt h.of j hj
  · exact World.ownsRow.lt h.oq j hj
theorem PoolAtI.keep {w w' : World} {base B : Nat} {most : Int} {ve vf vq : Value} {es : List EntI} {fr : List Int} {qs : List (Int × Int × Int)} (h : PoolAtI w base B most ve vf vq es fr qs) (hk : ∀ j, inP B ve vf vq j → w'.heap[j]? = w.heap[j]?) : PoolAtI w' base B most ve vf vq es fr qs :=
  ⟨(hk B (Or.inl rfl)).trans h.blk, h.low, own_on h.oe (fun j hj => hk j (Or.inr (Or.inl hj))), own_on h.of (fun j hj => hk j (Or.inr (Or.inr (Or.inl hj)))), own_on h.oq (fun j hj => hk j (Or.inr (Or.inr (Or.inr hj)))), h.m0, h.m1, h.le, h.lf, h.fi⟩
theorem PoolG.keep {w w' : World} {base B : Nat} {most : Int} {ve vf vq : Value} {es : List EntI} {fr : List Int} {qs : List (Int × Int × Int)} {Ls : List (List Int)} (h : PoolG w base B most ve vf vq es fr qs Ls) (hk : ∀ j, inP B ve vf vq j → w'.heap[j]? = w.heap[j]?) : PoolG w' base B most ve vf vq es fr qs Ls := ⟨h.mem.keep hk, h.inv⟩
theorem PoolG.below {w w' : World} {base B : Nat} {most : Int} {ve vf vq : Value} {es : List EntI} {fr : List Int} {qs : List (Int × Int × Int)} {Ls : List (List Int)} (h : PoolG w base B most ve vf vq es fr qs Ls) (hb : Below w.heap.size w w') : PoolG w' base B most ve vf vq es fr qs Ls :=
  h.keep (fun j hj => hb.block j (h.mem.inlt hj).2)
/-- Pool, things and marks in memory. -/
structure Mem7 (W0 w : World) (B Hb Ib n : Nat) (ve vf vq : Value) (es : List EntI) (fr : List Int) (qs : List (Int × Int × Int)) (Ls : List (List Int)) (hs : List Int) (is : List Bool) : Prop where
  g : PoolG w W0.heap.size B n ve vf vq es fr qs Ls
  l3 : Ls.length = 3
  b : Below W0.heap.size W0 w
  hr : w.ownsRow W0.heap.size 3 1 (.slice (some ⟨Hb, 0, none⟩) n n) n (hs.map (Value.int .i64))
  ir : w.ownsRow W0.heap.size 4 1 (.slice (some ⟨Ib, 0, none⟩) n n) n (is.map Value.bool)
  hl : hs.length = n
  il : is.length = n
  nh : ¬ inP B ve vf vq Hb
  ni : ¬ inP B ve vf vq Ib
  ne : Hb ≠ Ib
theorem Mem7.lt {W0 w : World} {B Hb Ib n : Nat} {ve vf vq : Value} {es : List EntI} {fr : List Int} {qs : List (Int × Int × Int)} {Ls : List (List Int)} {hs : List Int} {is : List Bool} (h : Mem7 W0 w B Hb Ib n ve vf vq es fr qs Ls hs is) : Hb < w.heap.size ∧ Ib < w.heap.size ∧ W0.heap.size ≤ Hb ∧ W0.heap.size ≤ Ib :=
  ⟨(World.ownsRow.lt h.hr Hb rfl).2, (World.ownsRow.lt h.ir Ib rfl).2, (World.ownsRow.lt h.hr Hb rfl).1, (World.ownsRow.lt h.ir Ib rfl).1⟩
theorem Mem7.mv {W0 w w' : World} {B Hb Ib n : Nat} {ve vf vq ve' vf' vq' : Value} {es es' : List EntI} {fr fr' : List Int} {qs qs' : List (Int × Int × Int)} {Ls Ls' : List (List Int)} {hs : List Int} {is : List Bool} (h : Mem7 W0 w B Hb Ib n ve vf vq es fr qs Ls hs is)
    (m : MvS w w' (inP B ve vf vq) (inP B ve' vf' vq')) (g' : PoolG w' W0.heap.size B n ve' vf' vq' es' fr' qs' Ls') (l3 : Ls'.length = 3) : Mem7 W0 w' B Hb Ib n ve' vf' vq' es' fr' qs' Ls' hs is := by
  obtain ⟨k1, k2, k3, k4⟩ := h.lt
  refine ⟨g', l3, m.below h.b (fun j hj => (h.g.mem.inlt hj).1) h.b.size, own_on h.hr (fun j hj => ?_), own_on h.ir (fun j hj => ?_), h.hl, h.il, fun hx => ?_, fun hx => ?_, h.ne⟩
  · obtain rfl : Hb = j := by injection hj
    exact m.block Hb k1 h.nh
  · obtain rfl : Ib = j := by injection hj
    exact m.block Ib k2 h.ni
  · rcases m.own _ hx with h1 | h1
    · omega
    · exact h.nh h1
  · rcases m.own _ hx with h1 | h1
    · omega
    · exact h.ni h1
theorem Mem7.on {W0 w w' : World} {B Hb Ib n : Nat} {ve vf vq : Value} {es : List EntI} {fr : List Int} {qs : List (Int × Int × Int)} {Ls : List (List Int)} {hs : List Int} {is : List Bool} (h : Mem7 W0 w B Hb Ib n ve vf vq es fr qs Ls hs is) (hb : Below w.heap.size w w') : Mem7 W0 w' B Hb Ib n ve vf vq es fr qs Ls hs is :=
  h.mv (MvS.of_below _ hb) (h.g.below hb) h.l3
theorem Mem7.setH {W0 w : World} {B Hb Ib n : Nat} {ve vf vq : Value} {es : List EntI} {fr : List Int} {qs : List (Int × Int × Int)} {Ls : List (List Int)} {hs : List Int} {is : List Bool} (h : Mem7 W0 w B Hb Ib n ve vf vq es fr qs Ls hs is) (k : Nat) (x : Int) : Mem7 W0 (w.setCell ⟨Hb, k, none⟩ (.int .i64 x)) B Hb Ib n ve vf vq es fr qs Ls (hs.set k x) is := by
  obtain ⟨k1, k2, k3, k4⟩ := h.lt
  have hh : ∀ j, j ≠ Hb → (w.setCell ⟨Hb, k, none⟩ (.int .i64 x)).heap[j]? = w.heap[j]? := fun j hj => Below.heap_setCell w ⟨Hb, k, none⟩ _ j hj
  refine ⟨h.g.keep (fun j hj => hh j (fun e => h.nh (e ▸ hj))), h.l3, ⟨h.b.os, h.b.tape, h.b.output, by simpa [World.setCell] using h.b.size, fun j hj => (hh j (by omega)).trans (h.b.block j hj)⟩, ?_, own_on h.ir (fun j hj => hh j (fun e => ?_)), by rw [List.length_set]; exact h.hl, h.il, h.nh, h.ni, h.ne⟩
  · rw [List.map_set]
    exact (h.hr.stored k (.int .i64 x)).1
  · have hj : Ib = j := by injection hj
    exact h.ne (by rw [hj, e])
theorem Mem7.setI {W0 w : World} {B Hb Ib n : Nat} {ve vf vq : Value} {es : List EntI} {fr : List Int} {qs : List (Int × Int × Int)} {Ls : List (List Int)} {hs : List Int} {is : List Bool} (h : Mem7 W0 w B Hb Ib n ve vf vq es fr qs Ls hs is) (k : Nat) (x : Bool) : Mem7 W0 (w.setCell ⟨Ib, k, none⟩ (.bool x)) B Hb Ib n ve vf vq es fr qs Ls hs (is.set k x) := by
  obtain ⟨k1, k2, k3, k4⟩ := h.lt
  have hh : ∀ j, j ≠ Ib → (w.setCell ⟨Ib, k, none⟩ (.bool x)).heap[j]? = w.heap[j]? := fun j hj => Below.heap_setCell w ⟨Ib, k, none⟩ _ j hj
  refine ⟨h.g.keep (fun j hj => hh j (fun e => h.ni (e ▸ hj))), h.l3, ⟨h.b.os, h.b.tape, h.b.output, by simpa [World.setCell] using h.b.size, fun j hj => (hh j (by omega)).trans (h.b.block j hj)⟩, own_on h.hr (fun j hj => hh j (fun e => ?_)), ?_, h.hl, by rw [List.length_set]; exact h.il, h.nh, h.ni, h.ne⟩
  · have hj : Hb = j := by injection hj
    exact h.ne (by rw [hj, e])
  · rw [List.map_set]
    exact (h.ir.stored k (.bool x)).1
/-- What things and marks say. -/
structure Tel7 (n : Nat) (es : List EntI) (hs : List Int) (is : List Bool) : Prop where
  hl : hs.length = n
  il : is.length = n
  tk : ∀ k : Nat, k < n → is.getD k false = tkOfI es (k : Int)
  xx : ∀ k : Nat, k < n → tkOfI es (k : Int) = true → hs.getD k 0 = xOf es (k : Int)
theorem getD_setB (l : List Bool) (k j : Nat) (b : Bool) (hk : k < l.length) : (l.set k b).getD j false = if j = k then b else l.getD j false := by
  by_cases h : j = k
  · subst h; rw [if_pos rfl, List.getD_eq_getElem?_getD, List.getElem?_set_self hk]; rfl
  · rw [if_neg h, List.getD_eq_getElem?_getD, List.getElem?_set_ne (Ne.symm h), ← List.getD_eq_getElem?_getD]
theorem getD_setN (l : List Int) (k j : Nat) (b : Int) (hk : k < l.length) : (l.set k b).getD j 0 = if j = k then b else l.getD j 0 := by
  by_cases h : j = k
  · subst h; rw [if_pos rfl, List.getD_eq_getElem?_getD, List.getElem?_set_self hk]; rfl
  · rw [if_neg h, List.getD_eq_getElem?_getD, List.getElem?_set_ne (Ne.symm h), ← List.getD_eq_getElem?_getD]
theorem Tel7.took {n : Nat} {es es' : List EntI} {hs : List Int} {is : List Bool} {fr fr' : List Int} {x : Int} {k : Nat} {qs : List (Int × Int × Int)} {Ls : List (List Int)} (T : Tel7 n es hs is) (h : PInv es fr qs Ls) (t : Took es fr x k es' fr') (hk : k < n) :
    is.getD k false = false ∧ Tel7 n es' (hs.set k x) (is.set k true) := by
  obtain ⟨h1, h2, h3⟩ := t.tells h
  refine ⟨by rw [T.tk k hk]; exact h1, by rw [List.length_set]; exact T.hl, by rw [List.length_set]; exact T.il, fun j hj => ?_, fun j hj ht => ?_⟩
  · rw [getD_setB _ _ _ _ (by rw [T.il]; exact hk), h2]
    by_cases hjk : j = k
    · subst hjk; rw [if_pos rfl, if_pos rfl]
    · rw [if_neg hjk, if_neg (by omega)]; exact T.tk j hj
  · rw [getD_setN _ _ _ _ (by rw [T.hl]; exact hk), h3]
    rw [h2] at ht
    by_cases hjk : j = k
    · subst hjk; rw [if_pos rfl, if_pos rfl]
    · rw [if_neg (show ¬ ((j : Int) = k) by omega)] at ht
      rw [if_neg hjk, if_neg (by omega)]; exact T.xx j hj ht
theorem Tel7.gave {n : Nat} {es : List EntI} {hs : List Int} {is : List Bool} (T : Tel7 n es hs is) (k : Nat) (hk : k < n) (hke : k < es.length) (ht : (es[k]).tk = true) :
    is.getD k false = true ∧ hs.getD k 0 = (es[k]).x ∧ Tel7 n (es.set k ⟨0, false, false, 0⟩) hs (is.set k false) := by
  have h1 : tkOfI es (k : Int) = true := by rw [tkOf_inI es k hke]; exact ht
  refine ⟨by rw [T.tk k hk]; exact h1, by rw [T.xx k hk h1, xOf_in es k hke], T.hl, by rw [List.length_set]; exact T.il, fun j hj => ?_, fun j hj ht => ?_⟩
  · rw [getD_setB _ _ _ _ (by rw [T.il]; exact hk), tkOf_set es k _ hke]
    by_cases hjk : j = k
    · subst hjk; rw [if_pos rfl, if_pos rfl]
    · rw [if_neg hjk, if_neg (by omega)]; exact T.tk j hj
  · rw [tkOf_set es k _ hke] at ht
    rw [xOf_set es k _ hke]
    by_cases hjk : j = k
    · subst hjk; rw [if_pos rfl] at ht; cases ht
    · rw [if_neg (show ¬ ((j : Int) = k) by omega)] at ht ⊢
      exact T.xx j hj ht
theorem Tel7.same {n : Nat} {es es' : List EntI} {hs : List Int} {is : List Bool} (T : Tel7 n es hs is) (hl : es'.length = es.length) (he : ∀ i (hi : i < es.length) (hi' : i < es'.length), (es'[i]).x = (es[i]).x ∧ (es'[i]).tk = (es[i]).tk) : Tel7 n es' hs is := by
  have h1 : ∀ j : Nat, tkOfI es' (j : Int) = tkOfI es (j : Int) := fun j => by
    by_cases hj : j < es.length
    · rw [tkOf_inI es j hj, tkOf_inI es' j (by omega)]; exact (he j hj (by omega)).2
    · rw [tkOf_outI es _ (Or.inr (by omega)), tkOf_outI es' _ (Or.inr (by omega))]
  refine ⟨T.hl, T.il, fun j hj => by rw [h1]; exact T.tk j hj, fun j hj ht => ?_⟩
  rw [h1] at ht
  rw [T.xx j hj ht]
  obtain ⟨i, hi, hi2, _⟩ := tkOf_trueI ht
  have : i = j := by omega
  subst this
  rw [xOf_in es i hi2, xOf_in es' i (by omega)]
  exact ((he i hi2 (by omega)).1).symm
theorem Tel7.popped {n : Nat} {es : List EntI} {hs : List Int} {is : List Bool} (T : Tel7 n es hs is) (k : Nat) (hk : k < es.length) : Tel7 n (es.set k ⟨(es[k]).x, (es[k]).tk, false, (es[k]).nx⟩) hs is := by
  refine T.same (by rw [List.length_set]) (fun i hi hi' => ?_)
  by_cases hik : k = i
  · subst hik; rw [List.getElem_set_self]; exact ⟨rfl, rfl⟩
  · rw [List.getElem_set_ne hik]; exact ⟨rfl, rfl⟩
theorem three {α : Type} (Ls : List (List α)) (h : Ls.length = 3) : ∃ a b c, Ls = [a, b, c] := by
  match Ls, h with
  | [a, b, c], _ => exact ⟨a, b, c, rfl⟩
/-- What has been marked of a list of unlike numbers: those that came. -/
structure Seen7 (n : Nat) (l : List Int) (k : Nat) (sn : List Bool) : Prop where
  len : sn.length = n
  yes : ∀ j : Nat, j < n → (sn.getD j false = true ↔ (j : Int) ∈ l.take k)
theorem Seen7.start (n : Nat) (l : List Int) : Seen7 n l 0 (List.replicate n false) :=
  ⟨List.length_replicate .., fun j hj => by rw [List.getD_eq_getElem?_getD, List.getElem?_replicate, if_pos hj]; simp⟩
theorem Seen7.next {n : Nat} {l : List Int} {k : Nat} {sn : List Bool} (h : Seen7 n l k sn) (hd : l.Nodup) (hk : k < l.length) (j : Nat) (hj : j < n) (he : l[k] = (j : Int)) : sn.getD j false = false ∧ Seen7 n l (k + 1) (sn.set j true) := by
  constructor
  · cases hx : sn.getD j false with
    | false => rfl
    | true =>
      have hm := (h.yes j hj).1 hx
      obtain ⟨i, hi, hie⟩ := List.getElem_of_mem hm
      rw [List.length_take] at hi
      rw [List.getElem_take] at hie
      have := (List.getElem_inj hd).1 (hie.trans he.symm)
      omega
  · refine ⟨by rw [List.length_set]; exact h.len, fun i hi => ?_⟩
    rw [getD_setB _ _ _ _ (by rw [h.len]; exact hj), List.take_succ_eq_append_getElem hk, List.mem_append, List.mem_singleton, he]
    by_cases hij : i = j
    · subst hij; rw [if_pos rfl]; simp
    · rw [if_neg hij, h.yes i hi]
      exact ⟨Or.inl, fun hh => hh.resolve_right (by omega)⟩
end Go.Proofs.Ytmkgadndfiiacaa
