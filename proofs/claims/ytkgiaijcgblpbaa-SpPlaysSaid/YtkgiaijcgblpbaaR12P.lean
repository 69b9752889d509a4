/-
  The answer of layer 12: an item is pushed. No block turns but those of the answer. No condition but that the answer's New made it.
-/
import Derived.Test.YtkgiaijcgblpbaaR12
import Derived.Deep.RegionLaw
import Derived.Maps.AppendAt
namespace Go.Proofs.Ytkgiaijcgblpbaa
set_option linter.unusedVariables false
set_option linter.unusedSimpArgs false
open Go.ChangeShapes Go.WideShapes Go.ChangeAt Go.RowKit
attribute [local go_sem] alloc_drewN setCell_drewN

theorem its_src {w : World} {base : Nat} {v : Value} {xs : List (Int × Int)} (h : Its w base v xs) : (v = .slice none 0 0 ∧ xs = []) ∨ ∃ g c, v = .slice (some ⟨g, 0, none⟩) xs.length c ∧ ∀ j u, (xs.flatMap itc)[j]? = some u → w.cell? ((⟨g, 0, none⟩ : Addr).add j) = some u := by
  have h' := h
  unfold Its at h'
  rcases h'.2 with ⟨rfl, h0⟩ | ⟨g, cap, cur, rfl, _⟩
  · exact Or.inl ⟨rfl, List.eq_nil_of_length_eq_zero h0⟩
  · exact Or.inr ⟨g, cap, rfl, fun j u hj => World.ownsRow.cells h' (g := g) rfl j u hj⟩
theorem its_lower {w : World} {b b2 : Nat} {v : Value} {xs : List (Int × Int)} (h : Its w b v xs) (hb : b2 ≤ b) : Its w b2 v xs := by
  refine ⟨h.1, ?_⟩
  rcases h.2 with hh | ⟨g, cap, cur, e, hg, rest⟩
  · exact Or.inl hh
  · exact Or.inr ⟨g, cap, cur, e, Nat.le_trans hb hg, rest⟩
theorem own_lower12 {w : World} {b b2 n size : Nat} {e : TypeId} {v : Value} {xs : List Value} (h : w.ownsRow b e size v n xs) (hb : b2 ≤ b) : w.ownsRow b2 e size v n xs := by
  refine ⟨h.1, ?_⟩
  rcases h.2 with hh | ⟨g, cap, cur, e, hg, rest⟩
  · exact Or.inl hh
  · exact Or.inr ⟨g, cap, cur, e, Nat.le_trans hb hg, rest⟩
theorem sl12_set : ∀ (ls : List (List (Int × Int))) (i : Nat) (h : i < ls.length) (x : List (Int × Int)), sl12 (ls.set i x) + (ls.getD i []).length = sl12 ls + x.length
  | [], i, h, x => absurd h (Nat.not_lt_zero _)
  | a :: ls, 0, h, x => by unfold sl12; simp; omega
  | a :: ls, i + 1, h, x => by
    have := sl12_set ls i (by simpa using h) x
    unfold sl12 at *
    simp at *
    omega
theorem getD_setL (ls : List (List (Int × Int))) (j : Nat) (x : List (Int × Int)) (hj : j < ls.length) (i : Nat) : (ls.set j x).getD i [] = if i = j then x else ls.getD i [] := by
  rw [List.getD_eq_getElem?_getD, List.getElem?_set]
  by_cases h : i = j
  · subst h; simp [hj]
  · rw [if_neg (fun e => h e.symm), if_neg h, List.getD_eq_getElem?_getD]
/-- The list at a place is another one, and its bounds may be; what the memory is then. -/
theorem R12.put {w w4 : World} {base M g c : Nat} {room : Int} {ub nv : Value} {bs bs' : List Int} {vs : List Value} {ls : List (List (Int × Int))} (h : R12 w base M room ub (.slice (some ⟨g, 0, none⟩) ls.length c) bs vs ls) (hbase : base ≤ w.heap.size) (at_ : Nat) (hat : at_ < ls.length) (v4 : Value) (xs : List (Int × Int))
    (hM : w4.heap[M]? = some (.cells #[.int .i64 room, nv, .slice (some ⟨g, 0, none⟩) ls.length c] 150 (0, 0)))
    (hn4 : w4.ownsRow base 48 1 nv bs'.length (bs'.map (Value.int .u64))) (hnb : ∀ j, nv.ownBlock = some j → w.heap.size ≤ j ∨ ub.ownBlock = some j) (hlb : bs'.length = bs.length)
    (hk : ∀ j, j < w.heap.size → j ≠ M → w4.heap[j]? = w.heap[j]?) (hsz : w.heap.size ≤ w4.heap.size) (ho : w4.os = w.os) (ht : w4.tape = w.tape) (hp : w4.output = w.output)
    (h4 : Its w4 w.heap.size v4 xs) (hsm : sl12 (ls.set at_ xs) ≤ 4096) :
    R12 (w4.setCell ⟨g, at_, none⟩ v4) base M room nv (.slice (some ⟨g, 0, none⟩) ls.length c) bs' (vs.set at_ v4) (ls.set at_ xs) ∧ MvS w (w4.setCell ⟨g, at_, none⟩ v4) (inR12 M ub (.slice (some ⟨g, 0, none⟩) ls.length c) vs) (inR12 M nv (.slice (some ⟨g, 0, none⟩) ls.length c) (vs.set at_ v4)) := by
  have hset : ∀ j, j ≠ g → (w4.setCell ⟨g, at_, none⟩ v4).heap[j]? = w4.heap[j]? := fun j hj => Below.heap_setCell w4 ⟨g, at_, none⟩ v4 j hj
  have hgM : g ≠ M := fun e => own_ne_blk h.ol h.blk (by decide) (by rw [← e]; rfl)
  have hglt : g < w.heap.size := (World.ownsRow.lt h.ol g rfl).2
  have hlv := h.lv
  have hol := h.ol
  rw [hlv] at hol
  have hrow := row_put (own_onSI hol (w' := w4) (fun j hj => by
    injection hj with hj
    subst hj
    exact hk _ hglt hgM)) at_ v4
  have hng : nv.ownBlock ≠ some g := fun e => by
    rcases hnb g e with h1 | h1
    · omega
    · rcases row_apart h.ob h.ol (by decide) with h3 | h3
      · rw [h3] at h1; cases h1
      · exact h3 (by rw [h1]; rfl)
  refine ⟨⟨(hset M (fun e => hgM e.symm)).trans hM, h.low, ownsRow_setCell_other (a := ⟨g, at_, none⟩) hn4 hng v4, by rw [List.length_set, hlv]; exact hrow, fun i hi => ?_, by rw [List.length_set, List.length_set]; exact hlv, by rw [List.length_set, hlb]; exact h.lb, by rw [List.length_set]; exact h.n0, by rw [List.length_set]; exact h.n1, hsm⟩, ⟨ho, ht, hp, by simpa [World.setCell] using hsz, fun j hj hn => ?_, fun j hj => ?_⟩⟩
  · have hi' : i < vs.length := by simpa using hi
    rw [getD_setL ls at_ xs hat i]
    by_cases hia : i = at_
    · subst hia
      rw [if_pos rfl, List.getElem_set_self]
      exact (own_onSI h4 (w' := w4.setCell ⟨g, i, none⟩ v4) (fun j hj => hset j (fun e => by have := (World.ownsRow.lt h4 j hj).1; omega)) : Its _ w.heap.size v4 xs) |> (its_lower · hbase)
    · rw [if_neg hia, List.getElem_set_ne (fun e => hia e.symm)]
      refine own_onSI (h.each i hi') (fun j hj => ?_)
      have h1 := (World.ownsRow.lt (h.each i hi') j hj).2
      have h2 : j ≠ M := fun e => own_ne_blk (h.each i hi') h.blk (by decide) (by rw [hj, e])
      have h3 : j ≠ g := fun e => by
        rcases row_apart (h.each i hi') h.ol (by decide) with h3 | h3
        · rw [h3] at hj; cases hj
        · exact h3 (by rw [hj, e]; rfl)
      exact (hset j h3).trans (hk j h1 h2)
  · exact (hset j (fun e => hn (Or.inr (Or.inr (Or.inl (by rw [e]; rfl)))))).trans (hk j hj (fun e => hn (Or.inl e)))
  · rcases hj with rfl | hj | hj | ⟨i, hi, hj⟩
    · exact Or.inr (Or.inl rfl)
    · rcases hnb j hj with h1 | h1
      · exact Or.inl h1
      · exact Or.inr (Or.inr (Or.inl h1))
    · exact Or.inr (Or.inr (Or.inr (Or.inl hj)))
    · have hi' : i < vs.length := by simpa using hi
      by_cases hia : i = at_
      · subst hia
        rw [List.getElem_set_self] at hj
        exact Or.inl (World.ownsRow.lt h4 j hj).1
      · rw [List.getElem_set_ne (fun e => hia e.symm)] at hj
        exact Or.inr (Or.inr (Or.inr (Or.inr ⟨i, hi', hj⟩)))
theorem push12_full {w : World} {base M : Nat} {room : Int} {ub ul : Value} {bs : List Int} {vs : List Value} {ls : List (List (Int × Int))} (h : R12 w base M room ub ul bs vs ls) (hf : room ≤ (sl12 ls : Int)) (rank x : Int) :
    Calls Try.prog 44 #[.pointer (some ⟨M, 0, none⟩), .int .u64 rank, .int .i64 x] w fun e w' => e = .returned (.tuple #[.int .i64 0, .bool false]) ∧ ∃ n, w' = w.drewN n := by
  have LN := Lib.hid (fun n => len12 (h.below (below_drewN n (Below.refl _ _))))
  obtain ⟨c0, c1, c2⟩ := h.cell
  clear h
  go_enter Try.func44, Try.ntmps44
  go_wp2
  go_quiet ((go_at_call 84; exact Calls.quiet_of_same (LN.out _)))
  go_wp2
  go_ret2
  exact ⟨rfl, _, rfl⟩
/-- How far the bounds have been gone through. -/
def Up12 (bs : List Int) (rank : Int) (i at_ : Nat) (found : Bool) : Prop := (found = false ∧ at_ = 0 ∧ ∀ t, t < i → rank < bs.getD t 0) ∨ (found = true ∧ at_ < i ∧ bs.getD at_ 0 ≤ rank ∧ ∀ t, at_ < t → t < i → rank < bs.getD t 0)
theorem Up12.hit {bs : List Int} {rank : Int} {i at_ : Nat} {found : Bool} (h : Up12 bs rank i at_ found) (hr : bs.getD i 0 ≤ rank) : Up12 bs rank (i + 1) i true :=
  Or.inr ⟨rfl, by omega, hr, fun t h1 h2 => by omega⟩
theorem Up12.miss {bs : List Int} {rank : Int} {i at_ : Nat} {found : Bool} (h : Up12 bs rank i at_ found) (hr : ¬ bs.getD i 0 ≤ rank) : Up12 bs rank (i + 1) at_ found := by
  rcases h with ⟨h1, h2, h3⟩ | ⟨h1, h2, h3, h4⟩
  · refine Or.inl ⟨h1, h2, fun t ht => ?_⟩
    by_cases e : t = i
    · subst e; omega
    · exact h3 t (by omega)
  · refine Or.inr ⟨h1, by omega, h3, fun t h5 h6 => ?_⟩
    by_cases e : t = i
    · subst e; omega
    · exact h4 t h5 (by omega)
theorem Up12.done {bs : List Int} {rank : Int} {at_ : Nat} {found : Bool} (h : Up12 bs rank bs.length at_ found) (hn : 0 < bs.length) : at_ < bs.length ∧ ∃ bs', PushedI bs rank at_ bs' ∧ bs'.length = bs.length ∧ (found = false → ∀ i, i < bs.length → bs'.getD i 0 = bs.getD i 0 - (bs.getD 0 0 - rank)) ∧ (found = true → ∀ i, i < bs.length → bs'.getD i 0 = if i = at_ then rank else bs.getD i 0) ∧ (found = false → rank < bs.getD 0 0) := by
  rcases h with ⟨rfl, rfl, h3⟩ | ⟨rfl, h2, h3, h4⟩
  · refine ⟨hn, _, Or.inr ⟨⟨Int.le_refl _, by omega, fun t _ ht => h3 t ht, fun hh => by omega⟩, rfl, rfl⟩, by rw [List.length_map], fun _ i hi => ?_, fun e => (by cases e), fun _ => h3 0 hn⟩
    rw [List.getD_eq_getElem?_getD, List.getElem?_map, List.getElem?_eq_getElem hi, List.getD_eq_getElem?_getD (l := bs) (i := i), List.getElem?_eq_getElem hi]; rfl
  · refine ⟨h2, _, Or.inl ⟨⟨by omega, by omega, fun t h5 h6 => h4 t (by omega) h6, fun _ => by rw [Int.toNat_natCast]; exact h3⟩, rfl⟩, by rw [List.length_set], fun e => (by cases e), fun _ i hi => getD_set bs at_ i rank 0 h2, fun e => (by cases e)⟩
theorem take_one12 (bs : List Int) (i : Nat) (h : i < bs.length) (x : Int) (hx : bs.getD i 0 = x) : (bs.take i).map (Value.int .u64) ++ [.int .u64 x] = (bs.take (i + 1)).map (Value.int .u64) := by
  rw [List.take_succ_eq_append_getElem h, List.map_append, ← hx, List.getD_eq_getElem?_getD, List.getElem?_eq_getElem h]; rfl
/-- Between the bounds' turn and the list's. -/
structure Mid12 (w w3 : World) (M : Nat) (room : Int) (nv ul : Value) (bs' : List Int) : Prop where
  hM : w3.heap[M]? = some (.cells #[.int .i64 room, nv, ul] 150 (0, 0))
  hn : w3.ownsRow w.heap.size 48 1 nv bs'.length (bs'.map (Value.int .u64))
  hk : ∀ j, j < w.heap.size → j ≠ M → w3.heap[j]? = w.heap[j]?
  sz : w.heap.size ≤ w3.heap.size
  os : w3.os = w.os
  tape : w3.tape = w.tape
  out : w3.output = w.output
theorem Mid12.start {w wr : World} {base M : Nat} {room : Int} {ub nv ul : Value} {bs bs' : List Int} {vs : List Value} {ls : List (List (Int × Int))} (h : R12 w base M room ub ul bs vs ls) (hb : Below w.heap.size w wr) (ho : wr.ownsRow w.heap.size 48 1 nv bs'.length (bs'.map (Value.int .u64))) :
    Mid12 w (wr.setCell ⟨M, 1, none⟩ nv) M room nv ul bs' := by
  have hMlt : M < w.heap.size := (Array.getElem?_eq_some_iff.1 h.blk).1
  refine ⟨?_, ownsRow_setCell_other (a := ⟨M, 1, none⟩) ho (fun e => by have := (World.ownsRow.lt ho M e).1; omega) nv, fun j hj hj2 => (Below.heap_setCell wr ⟨M, 1, none⟩ nv j hj2).trans (hb.block j hj), by simpa [World.setCell] using hb.size, hb.os, hb.tape, hb.output⟩
  have e := heap_set ((hb.block M hMlt).trans h.blk) 1 nv
  simpa using e
theorem Mid12.grown {w w3 w4 : World} {M : Nat} {room : Int} {nv ul : Value} {bs' : List Int} {row : Option Nat} (h : Mid12 w w3 M room nv ul bs') (hMlt : M < w.heap.size) (hg : w3.grownBy w4 row) (hr : ∀ j, row = some j → w.heap.size ≤ j) (hne : ∀ j, nv.ownBlock = some j → row ≠ some j) : Mid12 w w4 M room nv ul bs' :=
  ⟨(hg.block M (by have := h.sz; omega) (fun e => by have := hr M e.symm; omega)).trans h.hM, own_onSI h.hn (fun j hj => hg.block j (World.ownsRow.lt h.hn j hj).2 (fun e => hne j hj e.symm)),
    fun j hj hj2 => (hg.block j (by have := h.sz; omega) (fun e => by have := hr j e.symm; omega)).trans (h.hk j hj hj2), Nat.le_trans h.sz hg.size, hg.os.trans h.os, hg.tape.trans h.tape, hg.output.trans h.out⟩
theorem Mid12.below {w w3 w4 : World} {M : Nat} {room : Int} {nv ul : Value} {bs' : List Int} (h : Mid12 w w3 M room nv ul bs') (hMlt : M < w.heap.size) (hb : Below w3.heap.size w3 w4) : Mid12 w w4 M room nv ul bs' :=
  ⟨(hb.block M (by have := h.sz; omega)).trans h.hM, own_onSI h.hn (fun j hj => hb.block j (World.ownsRow.lt h.hn j hj).2),
    fun j hj hj2 => (hb.block j (by have := h.sz; omega)).trans (h.hk j hj hj2), Nat.le_trans h.sz hb.size, hb.os.trans h.os, hb.tape.trans h.tape, hb.output.trans h.out⟩
set_option maxRecDepth 100000 in
set_option maxHeartbeats 4000000 in
theorem push12 {w : World} {base M : Nat} {room : Int} {ub ul : Value} {bs : List Int} {vs : List Value} {ls : List (List (Int × Int))} (h : R12 w base M room ub ul bs vs ls) (hl : (sl12 ls : Int) < room) (r1 : room ≤ 4096) (rank x : Int) (k0 : 0 ≤ rank) (k1 : rank ≤ 18446744073709551615)
    (mono : ∀ i j, i ≤ j → j < bs.length → bs.getD i 0 ≤ bs.getD j 0) (bnd : ∀ i, i < bs.length → 0 ≤ bs.getD i 0 ∧ bs.getD i 0 ≤ 18446744073709551615) (hbase : base ≤ w.heap.size) :
    Calls Try.prog 44 #[.pointer (some ⟨M, 0, none⟩), .int .u64 rank, .int .i64 x] w fun e w' => ∃ (j : Nat) (bs' : List Int) (ub' : Value) (vs' : List Value), e = .returned (.tuple #[.int .i64 j, .bool true]) ∧ j < ls.length ∧ PushedI bs rank j bs' ∧ R12 w' base M room ub' ul bs' vs' (ls.set j (ls.getD j [] ++ [(rank, x)])) ∧ MvS w w' (inR12 M ub ul vs) (inR12 M ub' ul vs') := by
  obtain ⟨b0i, hbi, hbz0, hbz1, hbz2⟩ := info_parts sinfoBI
  obtain ⟨i0, hi, hz0, hz1, hz2⟩ := info_parts infoItem
  have LN := Lib.hid (fun n => len12 (h.below (below_drewN n (Below.refl _ _))))
  obtain ⟨c0, c1, c2⟩ := h.cell
  obtain ⟨gb, cb, hvb, hcb⟩ := h.formB
  obtain ⟨gl, cl, hvl, hcl⟩ := h.formL
  have HCB := Lib.hid hcb; have HCL := Lib.hid hcl
  have MO := Lib.hid mono; have BD := Lib.hid bnd
  have hlb := h.lb; have hn0 := h.n0; have hn1 := h.n1
  have hMlt : M < w.heap.size := (Array.getElem?_eq_some_iff.1 h.blk).1
  have hGlt : gb < w.heap.size := (World.ownsRow.lt h.ob gb (by rw [hvb]; rfl)).2
  have hLlt : gl < w.heap.size := (World.ownsRow.lt h.ol gl (by rw [hvl]; rfl)).2
  have hgM : gl ≠ M := fun e => own_ne_blk h.ol h.blk (by decide) (by rw [hvl, ← e]; rfl)
  subst hvb hvl
  have H0 := Lib.hid h
  have hl' : ¬ room ≤ (sl12 ls : Int) := by omega
  have HLB := Lib.hid hlb; have HMG := Lib.hid hgM
  have hb32 : bs.length ≤ 32 := by omega
  have hb1 : 0 < bs.length := by omega
  clear h hcb hcl mono bnd hlb hgM
  go_enter Try.func44, Try.ntmps44
  go_wp2
  go_quiet ((go_at_call 84; exact Calls.quiet_of_same (LN.out _)))
  go_wp2
  generalize hw1 : w.drewN _ = w1
  have B1 : Hid (Below w.heap.size w w1) := Lib.hid (by rw [← hw1]; exact below_drewN _ (Below.refl _ _))
  clear hw1 LN hl' c0
  go_loopw [8, 9, 10] (fun y z x wr => ∃ (i at_ : Nat) (found : Bool), x = .int .i64 i ∧ y = .int .i64 at_ ∧ z = .bool found ∧ i ≤ bs.length ∧ Up12 bs rank i at_ found ∧ w1 = wr) (fun _ _ x _ => bs.length - (intOf x).toNat)
  case atStart => exact ⟨0, 0, false, rfl, rfl, rfl, Nat.zero_le _, Or.inl ⟨rfl, rfl, fun t ht => absurd ht (Nat.not_lt_zero _)⟩, rfl⟩
  case round =>
    obtain ⟨i, at_, found, rfl, rfl, rfl, hi1, hU, rfl⟩ := hrel
    have d1 := (B1.out.cell (p := ⟨M, 1, none⟩) hMlt).trans c1
    by_cases hlt : i < bs.length
    · have cq := (B1.out.cell (p := ⟨gb, i, none⟩) hGlt).trans (HCB.out i hlt)
      have i0' : (0 : Int) ≤ i := by omega
      have i1' : (i : Int) < bs.length := by omega
      have U := Lib.hid hU
      clear hU
      by_cases hr : bs.getD i 0 ≤ rank
      · have F := Lib.hid (U.out.hit hr)
        generalize bs.getD i 0 = bi at *
        go_wp2
        go_roundw
        case rel => exact ⟨i + 1, i, true, by go_num, rfl, rfl, by omega, F.out, by first | trivial | rfl⟩
        case measure => simp [intOf] <;> omega
      · have F := Lib.hid (U.out.miss hr)
        generalize bs.getD i 0 = bi at *
        go_wp2
        go_roundw
        case rel => exact ⟨i + 1, at_, found, by go_num, rfl, rfl, by omega, F.out, by first | trivial | rfl⟩
        case measure => simp [intOf] <;> omega
    · obtain rfl : i = bs.length := by omega
      obtain ⟨hat, bs', hP, hbl, hF, hT, hR⟩ := hU.done hb1
      have HP := Lib.hid hP; have HBL := Lib.hid hbl; have HF := Lib.hid hF; have HT := Lib.hid hT; have HR := Lib.hid hR
      clear hU hP hbl hF hT hR
      go_wp2
      go_loopw [11, 12] (fun x y wr => ∃ (i : Nat) (vo : Value), vo = x ∧ y = .int .i64 i ∧ i ≤ bs.length ∧ wr.ownsRow w.heap.size 48 1 vo i ((bs'.take i).map (Value.int .u64)) ∧ Below w.heap.size w wr) (fun _ y _ => bs.length - (intOf y).toNat)
      case atStart => exact ⟨0, _, rfl, rfl, Nat.zero_le _, by rw [List.take_zero]; exact World.ownsRow_nil _ _ _ _, B1.out⟩
      case round =>
        clear B1
        obtain ⟨i, vo, rfl, rfl, hi2, ho, hb⟩ := hrel
        have hs := hb.size
        have d1 := (hb.cell (p := ⟨M, 1, none⟩) hMlt).trans c1
        by_cases hlt : i < bs.length
        · have cq := (hb.cell (p := ⟨gb, i, none⟩) hGlt).trans (HCB.out i hlt)
          have cq0 := (hb.cell (p := ⟨gb, 0, none⟩) hGlt).trans (HCB.out 0 hb1)
          have i0' : (0 : Int) ≤ i := by omega
          have i1' : (i : Int) < bs.length := by omega
          have z1' : (0 : Int) < bs.length := by omega
          have HB := Lib.hid hb; have HO := Lib.hid ho
          have TK := Lib.hid (take_one12 bs' i (by rw [HBL.out]; exact hlt))
          clear hb
          cases found with
          | false =>
            have e1 := HF.out rfl i hlt
            have e2 := HR.out rfl
            have e3 := BD.out i hlt
            have e4 := BD.out 0 hb1
            have e5 := MO.out 0 i (Nat.zero_le _) hlt
            have TX := Lib.hid (TK.out _ e1)
            clear e1
            have a1 : IntKind.u64.wrap (bs.getD 0 0 - rank) = bs.getD 0 0 - rank := by rw [IntKind.wrap_u64]; omega
            have a2 : IntKind.u64.wrap (bs.getD i 0 - (bs.getD 0 0 - rank)) = bs.getD i 0 - (bs.getD 0 0 - rank) := by rw [IntKind.wrap_u64]; omega
            generalize bs.getD i 0 = bi at *
            generalize bs.getD 0 0 = bz at *
            clear e2 e3 e4 e5
            go_wp2_with (at_builtin; refine wpList_append_own _ rfl _ _ 82 rfl w.heap.size 48 b0i (.int .u64 0) 1 8 Try.underlying82 hbi hbz0 hbz1 hbz2 rfl (by decide) vo _ _ rfl (World.ownsRow.alloc HO.out _) ⟨wr.heap.size, 0, none⟩ 1 1 [.int .u64 (bi - (bz - rank))] rfl rfl (cells_oneSI _ _ _) (fun x hx => by simp at hx; subst hx; rfl) (by unfold maxLen; omega) (by omega) (by simp; omega) ?_; intro v3 w3 ho3 hg3 hn3; clear hn3)
            go_roundw
            case rel => exact ⟨i + 1, v3, rfl, by go_num, by omega, by rw [← TX.out]; exact ho3, (HB.out.alloc hs _).grown hg3 (by simp; omega) (fun g hg => (World.ownsRow.lt HO.out g hg).1)⟩
            case measure => simp [intOf] <;> omega
          | true =>
            have e1 := HT.out rfl i hlt
            by_cases hia : i = at_
            · subst hia
              rw [if_pos rfl] at e1
              have TX := Lib.hid (TK.out _ e1)
              clear e1
              generalize bs.getD i 0 = bi at *
              go_wp2_with (at_builtin; refine wpList_append_own _ rfl _ _ 82 rfl w.heap.size 48 b0i (.int .u64 0) 1 8 Try.underlying82 hbi hbz0 hbz1 hbz2 rfl (by decide) vo _ _ rfl (World.ownsRow.alloc HO.out _) ⟨wr.heap.size, 0, none⟩ 1 1 [.int .u64 rank] rfl rfl (cells_oneSI _ _ _) (fun x hx => by simp at hx; subst hx; rfl) (by unfold maxLen; omega) (by omega) (by simp; omega) ?_; intro v3 w3 ho3 hg3 hn3; clear hn3)
              go_roundw
              case rel => exact ⟨i + 1, v3, rfl, by go_num, by omega, by rw [← TX.out]; exact ho3, (HB.out.alloc hs _).grown hg3 (by simp; omega) (fun g hg => (World.ownsRow.lt HO.out g hg).1)⟩
              case measure => simp [intOf] <;> omega
            · rw [if_neg hia] at e1
              have TX := Lib.hid (TK.out _ e1)
              have hia2 : ¬ (i : Int) = (at_ : Int) := by omega
              clear e1
              generalize bs.getD i 0 = bi at *
              go_wp2_with (at_builtin; refine wpList_append_own _ rfl _ _ 82 rfl w.heap.size 48 b0i (.int .u64 0) 1 8 Try.underlying82 hbi hbz0 hbz1 hbz2 rfl (by decide) vo _ _ rfl (World.ownsRow.alloc HO.out _) ⟨wr.heap.size, 0, none⟩ 1 1 [.int .u64 bi] rfl rfl (cells_oneSI _ _ _) (fun x hx => by simp at hx; subst hx; rfl) (by unfold maxLen; omega) (by omega) (by simp; omega) ?_; intro v3 w3 ho3 hg3 hn3; clear hn3)
              go_roundw
              case rel => exact ⟨i + 1, v3, rfl, by go_num, by omega, by rw [← TX.out]; exact ho3, (HB.out.alloc hs _).grown hg3 (by simp; omega) (fun g hg => (World.ownsRow.lt HO.out g hg).1)⟩
              case measure => simp [intOf] <;> omega
        · obtain rfl : i = bs.length := by omega
          obtain ⟨av, cv, hvo⟩ := row_slice ho
          subst hvo
          rw [List.take_of_length_le (by rw [HBL.out]; exact Nat.le_refl _)] at ho
          have ho : wr.ownsRow w.heap.size 48 1 (.slice av bs.length cv) bs'.length (bs'.map (Value.int .u64)) := by rw [HBL.out]; exact ho
          have hat2 : at_ < ls.length := by rw [← HLB.out]; exact hat
          obtain ⟨a, n, hn, c, cq, hI⟩ := HCL.out at_ hat2
          have LE := Lib.hid (sl12_one ls at_ hat2)
          have FIN : Hid (∀ w4 v4, Mid12 w w4 M room (.slice av bs.length cv) (.slice (some ⟨gl, 0, none⟩) ls.length cl) bs' → Its w4 w.heap.size v4 (ls.getD at_ [] ++ [(rank, x)]) →
              R12 (w4.setCell ⟨gl, at_, none⟩ v4) base M room (.slice av bs.length cv) (.slice (some ⟨gl, 0, none⟩) ls.length cl) bs' (vs.set at_ v4) (ls.set at_ (ls.getD at_ [] ++ [(rank, x)])) ∧ MvS w (w4.setCell ⟨gl, at_, none⟩ v4) (inR12 M (.slice (some ⟨gb, 0, none⟩) bs.length cb) (.slice (some ⟨gl, 0, none⟩) ls.length cl) vs) (inR12 M (.slice av bs.length cv) (.slice (some ⟨gl, 0, none⟩) ls.length cl) (vs.set at_ v4))) := Lib.hid (fun w4 v4 m i4 =>
            R12.put H0.out hbase at_ hat2 v4 _ m.hM (own_lower12 m.hn hbase) (fun j hj => Or.inl (World.ownsRow.lt m.hn j hj).1) HBL.out m.hk m.sz m.os m.tape m.out i4 (by
              have := sl12_set ls at_ hat2 (ls.getD at_ [] ++ [(rank, x)])
              rw [List.length_append, List.length_singleton] at this
              omega))
          have CQ := Lib.hid cq
          have MD := Lib.hid (Mid12.start H0.out hb ho)
          have d2 := cell_of_row _ M 2 _ _ (0, 0) MD.out.hM
          have f1 := frozen_of_row wr M 1 _ _ ((hb.block M hMlt).trans H0.out.blk)
          have e2 := (hb.cell (p := ⟨M, 2, none⟩) hMlt).trans c2
          have e3 := (hb.cell (p := ⟨gl, at_, none⟩) hLlt).trans cq
          have I2 : Hid (Its (wr.setCell ⟨M, 1, none⟩ (.slice av bs.length cv)) base (.slice a n c) (ls.getD at_ [])) := Lib.hid (own_onSI hI (fun j hj => MD.out.hk j (World.ownsRow.lt hI j hj).2 (fun e => own_ne_blk hI H0.out.blk (by decide) (by rw [hj, e]))))
          have hgM1 : ¬ gl = M := HMG.out
          have hgM2 : ¬ M = gl := fun e => HMG.out e.symm
          have j0 : (0 : Int) ≤ at_ := by omega
          have j1 : (at_ : Int) < ls.length := by omega
          clear hI ho hb cq hn1 hn0 hb32 hb1 MO BD HCB hlt
          have JP := Lib.hid (show at_ < ls.length ∧ PushedI bs rank at_ bs' from ⟨hat2, HP.out⟩)
          clear HCL HF HT HR c1 c2 hat hat2 HP hl r1
          generalize hxs : ls.getD at_ [] = xs at *
          have HXS := Lib.hid hxs
          clear hxs
          have hxl : xs.length ≤ 4096 := by have := LE.out; have := H0.out.sm; omega
          clear hn
          rcases its_src I2.out with ⟨hv, hx⟩ | ⟨g, c', hv, hcell⟩
          · injection hv with hv1 hv2 hv3
            subst hv1 hv2 hv3
            have I3 : Hid (Its (wr.setCell ⟨M, 1, none⟩ (.slice av bs.length cv)) w.heap.size (.slice none 0 0) xs) := Lib.hid (by rw [hx]; exact Its.nil _ _)
            clear hx
            go_wp2_with (at_builtin; refine wpList_append_own_none rfl _ _ 58 rfl w.heap.size 95 i0 2 Try.underlying58 hi (.slice none 0 0) 0 [] rfl (World.ownsRow_nil _ _ _ _) rfl ?_)
            have M3 := MD
            have LW : Hid (∀ j, (Value.slice none 0 0).ownBlock = some j → w.heap.size ≤ j) := Lib.hid (fun j hj => by cases hj)
            have NE : Hid (∀ j, (Value.slice av bs.length cv).ownBlock = some j → (Value.slice none 0 0).ownBlock ≠ some j) := Lib.hid (fun j _ e => by cases e)
            clear MD I2 d2 e2 e3 f1
            generalize (wr.setCell ⟨M, 1, none⟩ (.slice av bs.length cv)) = w3 at *
            have OLG : Hid (∀ W : World, (∀ j, j < w.heap.size → j ≠ M → W.heap[j]? = w.heap[j]?) → W.frozen? ⟨gl, at_, none⟩ = false) := Lib.hid (fun W hk => World.ownsRow.frozenAt (g := gl) (own_onSI (show w.ownsRow base 58 1 (.slice (some ⟨gl, 0, none⟩) ls.length cl) ls.length vs by have o := H0.out.ol; rw [H0.out.lv] at o; exact o) (fun j hj => by
              injection hj with hj
              subst hj
              exact hk _ hLlt HMG.out)) at_)
            have KB := Lib.hid (fun (W w4 : World) (hg' : W.grownBy w4 (Value.ownBlock (.slice none 0 0))) (eh : W.heap = (w3.alloc (.cells #[.int .u64 rank, .int .i64 x] 95)).heap) (eo : W.os = w3.os) (et : W.tape = w3.tape) (ep : W.output = w3.output) =>
              have hg : (w3.alloc (.cells #[.int .u64 rank, .int .i64 x] 95)).grownBy w4 (Value.ownBlock (.slice none 0 0)) := ⟨hg'.os.trans eo, hg'.tape.trans et, hg'.output.trans ep, by rw [← eh]; exact hg'.size, by rw [← eh]; exact hg'.block⟩
              have m4 := (M3.out.below hMlt ((Below.refl _ w3).alloc (Nat.le_refl _) (.cells #[.int .u64 rank, .int .i64 x] 95))).grown hMlt hg LW.out NE.out
              (⟨cell_of_row w4 M 2 _ _ (0, 0) m4.hM, (World.cell?_of_block (m4.hk gl hLlt HMG.out)).trans CQ.out, OLG.out w4 m4.hk, Lib.hid m4⟩ : w4.cell? ⟨M, 2, none⟩ = some (.slice (some ⟨gl, 0, none⟩) ls.length cl) ∧ w4.cell? ⟨gl, at_, none⟩ = some (.slice none 0 0) ∧ w4.frozen? ⟨gl, at_, none⟩ = false ∧ Hid (Mid12 w w4 M room (.slice av bs.length cv) (.slice (some ⟨gl, 0, none⟩) ls.length cl) bs')))
            have OE := Lib.hid (fun (W : World) (eh : W.heap = (w3.alloc (.cells #[.int .u64 rank, .int .i64 x] 95)).heap) => show W.ownsRow w.heap.size 95 2 (.slice none 0 0) xs.length (xs.flatMap itc) by
              have ho := World.ownsRow.alloc I3.out (.cells #[.int .u64 rank, .int .i64 x] 95)
              unfold World.ownsRow at ho ⊢
              rw [eh]; exact ho)
            have NW := Lib.hid (fun (W : World) (eh : W.heap = (w3.alloc (.cells #[.int .u64 rank, .int .i64 x] 95)).heap) => World.news_of_block (w := W) (B := w3.heap.size) (by rw [eh]; exact heap_alloc_new w3 _))
            have OC := Lib.hid (show ∀ y ∈ ([.int .u64 rank, .int .i64 x] : List Value), y.oneCell' = true from fun y hy => by simp at hy; rcases hy with rfl | rfl <;> rfl)
            have k2 := cell_of_row w3 M 2 _ _ (0, 0) M3.out.hM
            have hM3 : M < w3.heap.size := by have := M3.out.sz; omega
            have hL3 : gl < w3.heap.size := by have := M3.out.sz; omega
            have KC := Lib.hid (fun (o : Obj) => show (w3.alloc o).cell? ⟨M, 2, none⟩ = some (.slice (some ⟨gl, 0, none⟩) ls.length cl) from (World.cell?_alloc_lt w3 o _ (World.block_lt_of_cell? w3 _ k2)).trans k2)
            have m63 : xs.length + 1 ≤ maxLen := by unfold maxLen; omega
            have mby : (xs.length + 1) * 16 ≤ 140737488355328 := by omega
            have mba : w.heap.size ≤ w3.heap.size := M3.out.sz
            go_region_law
              ((refine step_append_lies _ (by rfl) _ _ 58 (by rfl) w.heap.size 95 i0 (.agg #[.int .u64 0, .int .i64 0]) 2 16 Try.underlying58 hi hz0 hz1 hz2 (by rfl) (by decide) (.slice none 0 0) xs.length (xs.flatMap itc) (by rfl) (OE.out _ rfl) ⟨w3.heap.size, 0, none⟩ 1 1 [.int .u64 rank, .int .i64 x] (by rfl) (by rfl) (NW.out _ rfl) OC.out (by decide) m63 mby (by simp; omega) _ rfl ?_; intro g4 cap w4 hown4 hgrow4 hat4 hlt4; obtain ⟨d5, q5, f5, HM4⟩ := KB.out _ w4 hgrow4 rfl rfl rfl rfl))
            all_goals
              have F4 := Lib.hid (FIN.out w4 (.slice (some ⟨g4, 0, none⟩) (xs.length + 1) cap) HM4.out (Its.of_append (x := (rank, x)) hown4))
              clear hown4 hgrow4 hat4 hlt4 HM4 KB OE NW OC KC FIN
              go_wp2
              go_ret2
              refine ⟨at_, bs', _, _, rfl, JP.out.1, JP.out.2, ?_, F4.out.2⟩
              rw [HXS.out]
              exact F4.out.1

          · injection hv with hv1 hv2 hv3
            subst hv1 hv2 hv3
            have HC2 := Lib.hid hcell
            clear hcell
            go_wp2_with (at_builtin; refine wpList_append_own_at _ rfl _ _ 58 rfl w.heap.size 95 i0 (.agg #[.int .u64 0, .int .i64 0]) 2 16 Try.underlying58 hi hz0 hz1 hz2 rfl (by decide) (.slice none 0 0) 0 [] rfl (World.ownsRow_nil _ _ _ _) ⟨g, 0, none⟩ xs.length c (xs.flatMap itc) rfl (its_len xs) HC2.out (fun u hu => by obtain ⟨y, _, hy⟩ := List.mem_flatMap.1 hu; simp [itc] at hy; rcases hy with rfl | rfl <;> rfl) (by unfold maxLen; omega) (by omega) MD.out.sz ?_; intro v3 w3 ho3 hg3 hn3 hat3; have M3 := Lib.hid (MD.out.grown hMlt hg3 (fun j (hj : (none : Option Nat) = some j) => nomatch hj) (fun j _ (e : (none : Option Nat) = some j) => nomatch e)); clear hn3 hat3 hg3; rw [Nat.zero_add, List.nil_append] at ho3; obtain ⟨a3, c3, hv3⟩ := row_slice ho3; subst hv3; have HO3 := Lib.hid ho3; clear ho3)
            have I3 : Hid (Its w3 w.heap.size (.slice a3 xs.length c3) xs) := HO3
            have LW : Hid (∀ j, (Value.slice a3 xs.length c3).ownBlock = some j → w.heap.size ≤ j) := Lib.hid (fun j hj => (World.ownsRow.lt I3.out j hj).1)
            have NE : Hid (∀ j, (Value.slice av bs.length cv).ownBlock = some j → (Value.slice a3 xs.length c3).ownBlock ≠ some j) := Lib.hid (fun j hj e => by
              rcases row_apart M3.out.hn I3.out (by decide) with h3 | h3
              · rw [h3] at hj; cases hj
              · exact h3 (by rw [hj, e]))
            clear MD I2 d2 e2 e3 f1
            have OLG : Hid (∀ W : World, (∀ j, j < w.heap.size → j ≠ M → W.heap[j]? = w.heap[j]?) → W.frozen? ⟨gl, at_, none⟩ = false) := Lib.hid (fun W hk => World.ownsRow.frozenAt (g := gl) (own_onSI (show w.ownsRow base 58 1 (.slice (some ⟨gl, 0, none⟩) ls.length cl) ls.length vs by have o := H0.out.ol; rw [H0.out.lv] at o; exact o) (fun j hj => by
              injection hj with hj
              subst hj
              exact hk _ hLlt HMG.out)) at_)
            have KB := Lib.hid (fun (W w4 : World) (hg' : W.grownBy w4 (Value.ownBlock (.slice a3 xs.length c3))) (eh : W.heap = (w3.alloc (.cells #[.int .u64 rank, .int .i64 x] 95)).heap) (eo : W.os = w3.os) (et : W.tape = w3.tape) (ep : W.output = w3.output) =>
              have hg : (w3.alloc (.cells #[.int .u64 rank, .int .i64 x] 95)).grownBy w4 (Value.ownBlock (.slice a3 xs.length c3)) := ⟨hg'.os.trans eo, hg'.tape.trans et, hg'.output.trans ep, by rw [← eh]; exact hg'.size, by rw [← eh]; exact hg'.block⟩
              have m4 := (M3.out.below hMlt ((Below.refl _ w3).alloc (Nat.le_refl _) (.cells #[.int .u64 rank, .int .i64 x] 95))).grown hMlt hg LW.out NE.out
              (⟨cell_of_row w4 M 2 _ _ (0, 0) m4.hM, (World.cell?_of_block (m4.hk gl hLlt HMG.out)).trans CQ.out, OLG.out w4 m4.hk, Lib.hid m4⟩ : w4.cell? ⟨M, 2, none⟩ = some (.slice (some ⟨gl, 0, none⟩) ls.length cl) ∧ w4.cell? ⟨gl, at_, none⟩ = some (.slice (some ⟨g, 0, none⟩) xs.length c) ∧ w4.frozen? ⟨gl, at_, none⟩ = false ∧ Hid (Mid12 w w4 M room (.slice av bs.length cv) (.slice (some ⟨gl, 0, none⟩) ls.length cl) bs')))
            have OE := Lib.hid (fun (W : World) (eh : W.heap = (w3.alloc (.cells #[.int .u64 rank, .int .i64 x] 95)).heap) => show W.ownsRow w.heap.size 95 2 (.slice a3 xs.length c3) xs.length (xs.flatMap itc) by
              have ho := World.ownsRow.alloc I3.out (.cells #[.int .u64 rank, .int .i64 x] 95)
              unfold World.ownsRow at ho ⊢
              rw [eh]; exact ho)
            have NW := Lib.hid (fun (W : World) (eh : W.heap = (w3.alloc (.cells #[.int .u64 rank, .int .i64 x] 95)).heap) => World.news_of_block (w := W) (B := w3.heap.size) (by rw [eh]; exact heap_alloc_new w3 _))
            have OC := Lib.hid (show ∀ y ∈ ([.int .u64 rank, .int .i64 x] : List Value), y.oneCell' = true from fun y hy => by simp at hy; rcases hy with rfl | rfl <;> rfl)
            have k2 := cell_of_row w3 M 2 _ _ (0, 0) M3.out.hM
            have hM3 : M < w3.heap.size := by have := M3.out.sz; omega
            have hL3 : gl < w3.heap.size := by have := M3.out.sz; omega
            have KC := Lib.hid (fun (o : Obj) => show (w3.alloc o).cell? ⟨M, 2, none⟩ = some (.slice (some ⟨gl, 0, none⟩) ls.length cl) from (World.cell?_alloc_lt w3 o _ (World.block_lt_of_cell? w3 _ k2)).trans k2)
            have m63 : xs.length + 1 ≤ maxLen := by unfold maxLen; omega
            have mby : (xs.length + 1) * 16 ≤ 140737488355328 := by omega
            have mba : w.heap.size ≤ w3.heap.size := M3.out.sz
            go_region_law
              ((refine step_append_lies _ (by rfl) _ _ 58 (by rfl) w.heap.size 95 i0 (.agg #[.int .u64 0, .int .i64 0]) 2 16 Try.underlying58 hi hz0 hz1 hz2 (by rfl) (by decide) (.slice a3 xs.length c3) xs.length (xs.flatMap itc) (by rfl) (OE.out _ rfl) ⟨w3.heap.size, 0, none⟩ 1 1 [.int .u64 rank, .int .i64 x] (by rfl) (by rfl) (NW.out _ rfl) OC.out (by decide) m63 mby (by simp; omega) _ rfl ?_; intro g4 cap w4 hown4 hgrow4 hat4 hlt4; obtain ⟨d5, q5, f5, HM4⟩ := KB.out _ w4 hgrow4 rfl rfl rfl rfl))
            all_goals
              have F4 := Lib.hid (FIN.out w4 (.slice (some ⟨g4, 0, none⟩) (xs.length + 1) cap) HM4.out (Its.of_append (x := (rank, x)) hown4))
              clear hown4 hgrow4 hat4 hlt4 HM4 KB OE NW OC KC FIN
              go_wp2
              go_ret2
              refine ⟨at_, bs', _, _, rfl, JP.out.1, JP.out.2, ?_, F4.out.2⟩
              rw [HXS.out]
              exact F4.out.1

end Go.Proofs.Ytkgiaijcgblpbaa
