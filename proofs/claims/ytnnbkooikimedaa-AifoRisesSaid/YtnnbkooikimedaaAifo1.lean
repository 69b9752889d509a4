/-
  Package aifo: ranks in order in memory: one is taken out, one is put in. No block turns but those two. No condition but that they stand in order.
-/
import Derived.Test.YtnnbkooikimedaaAifoSearch
import Derived.Test.YtnnbkooikimedaaRingU6
import Derived.Test.YtnnbkooikimedaaPoolMath
import Derived.Laws.CopyOwn
import Derived.StillTailTactics
import Derived.BigRegion
import Derived.Maps.AppendAt
namespace Go.Proofs.Ytnnbkooikimedaa
set_option linter.unusedVariables false
set_option linter.unusedSimpArgs false
open Go.ChangeShapes Go.WideShapes Go.ChangeAt Go.RowKit
attribute [local go_sem] alloc_drewN setCell_drewN

theorem wpList_copy_grown {P : Program} {w : World} {ops : Array Oper} {rest : List Oper} {o : Oper} {a : Act} {Q : Exit → Act → World → Prop} (hgd : o.guard = none) (d s : Operand) (dT sT : TypeId)
    (ho : o.op = .call { callee := .builtin .copy, args := #[d, s], argTypes := #[dT, sT] }) (elem : TypeId) (hu : P.underlying dT = some (.slice elem)) (hsz : (P.info? elem).map (·.size) = some 1)
    (dp sp : Option Addr) (dLen dCap sLen sCap : Nat) (hd : a.eval d = .slice dp dLen dCap) (hs : a.eval s = .slice sp sLen sCap)
    (g off : Nat) (cur : List Value) (t : TypeId) (hg : w.heap[g]? = some (.cells cur.toArray t (0, 0))) (cs : List Value) (hn : cs.length = Nat.min sLen dLen)
    (hpos : 0 < cs.length → dp = some ⟨g, off, none⟩ ∧ ∃ ad, sp = some ad ∧ ∀ j v, cs[j]? = some v → w.cell? (ad.add j) = some v)
    (hfit : off + cs.length ≤ cur.length) (h1 : ∀ v ∈ cs, v.oneCell' = true)
    (h : ∀ w', Hid (w'.heap[g]? = some (.cells (splice cur off cs).toArray t (0, 0))) → Hid (w.grownBy w' (some g)) → wpList P ops Q rest (a.put o.dst (goInt cs.length)) w') :
    wpList P ops Q (o :: rest) a w := by
  by_cases h0 : cs.length = 0
  · obtain rfl : cs = [] := List.eq_nil_of_length_eq_zero h0
    refine wpList_copy_nothing hgd d s dT sT ho elem hu hsz dp sp dLen dCap sLen sCap hd hs (by simpa using hn.symm) ?_
    exact h w (show _ = _ by simpa [splice] using hg) (show World.grownBy _ _ _ from ⟨rfl, rfl, rfl, Nat.le_refl _, fun _ _ _ => rfl⟩)
  · obtain ⟨rfl, ad, rfl, hsrc⟩ := hpos (by omega)
    refine wpList_copy_own hgd d s dT sT ho elem hu hsz g off dLen dCap ad sLen sCap hd hs cur.toArray t hg cs hn hsrc (by simpa using hfit) h1 ?_
    exact h _ (show _ = _ by simpa [splice] using setRow_heap w g _ _ t _ hg) (show World.grownBy _ _ _ from ⟨rfl, rfl, rfl, by simp [World.setRow], fun k _ hk => setRow_other w g k _ (fun e => hk (by rw [e]))⟩)
/-- Ranks in order, and what holds them. -/
structure SrAt (w : World) (base R : Nat) (pc : Value) (vs : Value) (S : List Int) : Prop where
  blk : w.heap[R]? = some (.cells #[pc, vs] 135 (0, 0))
  low : base ≤ R
  own : U64s w base vs S
  srt : S.Pairwise (· ≤ ·)
  lim : S.length ≤ 1024
def inSr (R : Nat) (vs : Value) (j : Nat) : Prop := j = R ∨ vs.ownBlock = some j
theorem SrAt.cell {w : World} {base R : Nat} {pc vs : Value} {S : List Int} (h : SrAt w base R pc vs S) : w.cell? ⟨R, 0, none⟩ = some pc ∧ w.cell? ⟨R, 1, none⟩ = some vs ∧ w.frozen? ⟨R, 1, none⟩ = false :=
  ⟨cell_of_row w R 0 _ _ (0, 0) h.blk, cell_of_row w R 1 _ _ (0, 0) h.blk, frozen_of_row w R 1 _ _ h.blk⟩
theorem SrAt.heap {w w' : World} {base R : Nat} {pc vs : Value} {S : List Int} (h : SrAt w base R pc vs S) (e : w'.heap = w.heap) : SrAt w' base R pc vs S := ⟨by rw [e]; exact h.blk, h.low, h.own.heap e, h.srt, h.lim⟩
theorem SrAt.ne {w : World} {base R : Nat} {pc vs : Value} {S : List Int} (h : SrAt w base R pc vs S) : vs.ownBlock ≠ some R := own_ne_blk h.own h.blk (by decide)
theorem below_any {w : World} {base R : Nat} {pc vs : Value} {S : List Int} (h : SrAt w base R pc vs S) (x : Int) :
    Calls Try.prog 71 #[.pointer (some ⟨R, 0, none⟩), .int .u64 x] w fun e w' => e = .returned (.int .i64 (lessC S x : Nat)) ∧ ∃ q, w' = w.drewN q := by
  obtain ⟨c0, c1, -⟩ := h.cell
  have BS := Lib.hid (bsearch base vs S x w h.own h.srt (by have := h.lim; omega))
  obtain ⟨a, c, rfl, -, -⟩ := h.own.form
  clear h
  go_enter Try.func71, Try.ntmps71
  go_wp2_with fail
  refine BS.out.mono ?_
  rintro e w' ⟨d, rfl, q, rfl⟩
  go_wp2
  go_ret
  exact ⟨rfl, _, rfl⟩
theorem rlen_any {w : World} {base R : Nat} {pc vs : Value} {S : List Int} (h : SrAt w base R pc vs S) :
    Calls Try.prog 72 #[.pointer (some ⟨R, 0, none⟩)] w fun e w' => e = .returned (.int .i64 (S.length : Nat)) ∧ w' = w := by
  obtain ⟨c0, c1, -⟩ := h.cell
  obtain ⟨a, c, rfl, -, -⟩ := h.own.form
  clear h
  go_enter Try.func72, Try.ntmps72
  go_wp2
  go_ret
  exact ⟨rfl, rfl⟩
theorem U64s.block {w : World} {base g n c : Nat} {xs : List Int} (h : U64s w base (.slice (some ⟨g, 0, none⟩) n c) xs) : ∃ cur : List Value, w.heap[g]? = some (.cells cur.toArray 22 (0, 0)) ∧ cur.length = c ∧ c ≤ maxLen ∧ n = xs.length ∧ xs.length ≤ c ∧ cur.take xs.length = xs.map (Value.int .u64) ∧ base ≤ g := by
  unfold U64s at h
  rcases h.2 with ⟨h1, _⟩ | ⟨g', cap, cur, h1, hb, hg, hn, hc, hs, ht⟩
  · simp at h1
  · simp only [Value.slice.injEq, Option.some.injEq, Addr.mk.injEq, and_true, true_and] at h1
    obtain ⟨rfl, rfl, rfl⟩ := h1
    exact ⟨cur.toList, by simpa using hg, by simpa using hs, hc, rfl, hn, by simpa using ht, hb⟩
theorem U64s.ofBlock {w : World} {base g c : Nat} {xs : List Int} {cur : List Value} (hg : w.heap[g]? = some (.cells cur.toArray 22 (0, 0))) (hl : cur.length = c) (hm : c ≤ maxLen) (hn : xs.length ≤ c) (ht : cur.take xs.length = xs.map (Value.int .u64)) (hb : base ≤ g) : U64s w base (.slice (some ⟨g, 0, none⟩) xs.length c) xs := by
  unfold U64s
  exact ⟨by simp, Or.inr ⟨g, c, cur.toArray, rfl, hb, hg, hn, hm, by simpa using hl, by simpa using ht⟩⟩
set_option maxRecDepth 100000 in
set_option maxHeartbeats 2000000 in
theorem cut_any {w : World} {base R : Nat} {pc vs : Value} {S : List Int} (h : SrAt w base R pc vs S) (x : Int) (hx : x ∈ S) :
    Calls Try.prog 133 #[.pointer (some ⟨R, 0, none⟩), .int .u64 x] w fun e w' => e = .returned (.tuple #[]) ∧ ∃ vs', SrAt w' base R pc vs' (cutS S x) ∧ vs'.ownBlock = vs.ownBlock ∧ MvS w w' (inSr R vs) (inSr R vs) := by
  obtain ⟨hl, he⟩ := lessC_mem h.srt hx
  have BL := Lib.hid (below_any h x)
  have hlim := h.lim
  obtain ⟨c0, c1, f1⟩ := h.cell
  have HH := Lib.hid h
  obtain ⟨a, c, rfl, hnc, hc⟩ := h.own.form
  obtain ⟨g, rfl, hg0, hg, -, -⟩ := hc 0 (by omega)
  obtain ⟨cur, hcur, hcl, hcm, -, -, hct, -⟩ := h.own.block
  have hgR : g ≠ R := fun e => h.ne (by rw [e]; rfl)
  obtain ⟨n, hn⟩ : ∃ n, S.length = n := ⟨_, rfl⟩
  have HN := Lib.hid hn
  rw [hn] at hl hlim hnc hct c1 HH ⊢
  generalize hi : lessC S x = i at *
  have HI := Lib.hid hi
  have HZ := Lib.hid (show (Try.prog.info? 22).map (·.size) = some 1 by kernel_rfl)
  have i0 : (0 : Int) ≤ i := by omega
  have i1 : (i : Int) ≤ n := by omega
  have i2 : (i : Int) + 1 ≤ n := by omega
  have i3 : (0 : Int) ≤ (i : Int) + 1 := by omega
  have iw : IntKind.i64.wrap ((i : Int) + 1) = (i : Int) + 1 := by rw [IntKind.wrap_i64]; omega
  obtain ⟨m, hm⟩ : ∃ m, n - 1 = m := ⟨_, rfl⟩
  have HMN := Lib.hid hm
  have nw : IntKind.i64.wrap ((n : Int) - 1) = (m : Int) := by rw [IntKind.wrap_i64]; omega
  have m0 : (0 : Int) ≤ m := by omega
  have m1 : (m : Int) ≤ c := by omega
  clear hm
  have e1 : ¬ c = i := by omega
  have e2 : ¬ c = 0 := by omega
  clear h hx he hc hn hi
  go_enter Try.func133, Try.ntmps133
  go_wp2_with fail
  refine BL.out.mono ?_
  rintro e w' ⟨rfl, q, rfl⟩
  have c1 : (w.drewN q).cell? ⟨R, 1, none⟩ = some (.slice (some ⟨g, 0, none⟩) n c) := c1
  have f1 : (w.drewN q).frozen? ⟨R, 1, none⟩ = false := f1
  have HG := Lib.hid (show (w.drewN q).heap[g]? = some (.cells cur.toArray 22 (0, 0)) from hcur)
  have HB := Lib.hid (show (w.drewN q).heap[R]? = some (.cells #[pc, .slice (some ⟨g, 0, none⟩) n c] 135 (0, 0)) from HH.out.blk)
  have HM := Lib.hid (show MvS w (w.drewN q) (inSr R (.slice (some ⟨g, 0, none⟩) n c)) (inSr R (.slice (some ⟨g, 0, none⟩) n c)) from ⟨rfl, rfl, rfl, Nat.le_refl _, fun _ _ _ => rfl, fun _ h => Or.inr h⟩)
  have HNL := Lib.hid (show ((cur.take n).drop (i + 1)).length = Nat.min (n - (i + 1)) (n - i) by
    rw [List.length_drop, List.length_take]
    have : Nat.min (n - (i + 1)) (n - i) = n - (i + 1) := Nat.min_eq_left (by omega)
    rw [this]; omega)
  have HPOS := Lib.hid (show ∀ w2 : World, w2.heap[g]? = some (.cells cur.toArray 22 (0, 0)) → 0 < ((cur.take n).drop (i + 1)).length → (some (⟨g, i, none⟩ : Addr) = some ⟨g, i, none⟩) ∧ ∃ ad, (if c = i + 1 then some (⟨g, 0, none⟩ : Addr) else some ⟨g, i + 1, none⟩) = some ad ∧ ∀ j v, ((cur.take n).drop (i + 1))[j]? = some v → w2.cell? (ad.add j) = some v from fun w2 hw2 hp => by
    rw [List.length_drop, List.length_take] at hp
    refine ⟨rfl, ⟨g, i + 1, none⟩, by rw [if_neg (by omega)], fun j v hv => ?_⟩
    rw [Go.WideShapes.add_plain, cell_of_row w2 g (i + 1 + j) _ _ (0, 0) hw2]
    rw [List.getElem?_drop, List.getElem?_take] at hv
    split at hv
    · simpa using hv
    · cases hv)
  have HFIT := Lib.hid (show i + ((cur.take n).drop (i + 1)).length ≤ cur.length by rw [List.length_drop, List.length_take]; omega)
  have H1 := Lib.hid (show ∀ v ∈ (cur.take n).drop (i + 1), v.oneCell' = true from fun v hv => by
    have h2 := List.mem_of_mem_drop hv
    rw [hct] at h2
    obtain ⟨y, _, rfl⟩ := List.mem_map.1 h2
    rfl)
  obtain ⟨cs, hcs⟩ : ∃ cs, (cur.take n).drop (i + 1) = cs := ⟨_, rfl⟩
  have HCS := Lib.hid hcs
  rw [hcs] at HNL HPOS HFIT H1
  clear hcs hcur
  generalize w.drewN q = W at *
  have HGD := Lib.hid (show W.drew.heap[g]? = some (.cells cur.toArray 22 (0, 0)) from HG.out)
  have HK := Lib.hid (show ∀ w3, Hid (W.drew.grownBy w3 (some g)) → w3.heap[R]? = W.heap[R]? from fun w3 h => h.out.block R (Array.getElem?_eq_some_iff.1 HB.out).1 (fun e => hgR (by injection e with e; exact e.symm)))
  go_wp2
  refine wp_region_still_tail 13 (by kernel_rfl) (by kernel_rfl) ?_
  simp only [List.take_succ_cons, List.take_zero, List.drop_succ_cons, List.drop_zero]
  repeat still_step
  refine wpStill_nil ?_
  change wpList _ _ _ _ _ W.drew
  refine wpList_copy_grown rfl (.tmp 13) (.tmp 20) 25 25 rfl 22 Try.underlying25 HZ.out (some ⟨g, i, none⟩) (if c = i + 1 then some ⟨g, 0, none⟩ else some ⟨g, i + 1, none⟩) (n - i) (c - i) (n - (i + 1)) (c - (i + 1)) (by rfl) (by rfl) g i cur 22 (HGD.out) cs HNL.out (fun hp => ⟨rfl, (HPOS.out _ HGD.out hp).2⟩) HFIT.out H1.out ?_
  intro w3 HG3 HGR3
  have c13 : w3.cell? ⟨R, 1, none⟩ = some (.slice (some ⟨g, 0, none⟩) n c) := (World.cell?_of_block (HK.out w3 HGR3)).trans c1
  have f13 : w3.frozen? ⟨R, 1, none⟩ = false := (World.frozen?_of_block (HK.out w3 HGR3)).trans f1
  refine wpList_nil ?_
  generalize (if c = i + 1 then (some ⟨g, 0, none⟩ : Option Addr) else some ⟨g, i + 1, none⟩) = sp
  have HGR : W.grownBy w3 (some g) := ⟨HGR3.out.os, HGR3.out.tape, HGR3.out.output, HGR3.out.size, HGR3.out.block⟩
  have HB3 := Lib.hid ((HK.out w3 HGR3).trans HB.out)
  clear HGR3 HK HGD HPOS HNL HFIT H1 HG c1 f1 c0 HZ
  have HGR := Lib.hid HGR
  have hcur2 : (splice cur i cs).length = c := by rw [length_splice cur i cs (by rw [← HCS.out, List.length_drop, List.length_take]; omega)]; exact hcl
  have hmn := HMN.out
  have hcut : (cutS S x).length = m := by rw [cutS_length (by rw [HN.out, HI.out]; exact hl), HN.out, hmn]
  have htk : (splice cur i cs).take (cutS S x).length = (cutS S x).map (Value.int .u64) := by
    rw [hcut]
    unfold cutS splice
    rw [HI.out, List.map_append, List.map_take, List.map_drop, ← hct, ← HCS.out, List.take_take, Nat.min_eq_left (by omega)]
    have hlt : (cur.take i).length = i := by rw [List.length_take]; omega
    have hld : ((cur.take n).drop (i + 1)).length = n - (i + 1) := by rw [List.length_drop, List.length_take]; omega
    rw [List.take_append, hlt, List.take_of_length_le (by omega : (cur.take i).length ≤ m)]
    congr 1
    rw [List.take_append, hld, List.take_of_length_le (by omega), show m - i - (n - (i + 1)) = 0 by omega, List.take_zero, List.append_nil]
  have FIN := Lib.hid (show ∃ vs', SrAt (w3.setCell ⟨R, 1, none⟩ (.slice (some ⟨g, 0, none⟩) m c)).drew base R pc vs' (cutS S x) ∧ vs'.ownBlock = (Value.slice (some ⟨g, 0, none⟩) n c).ownBlock ∧ MvS w (w3.setCell ⟨R, 1, none⟩ (.slice (some ⟨g, 0, none⟩) m c)).drew (inSr R (.slice (some ⟨g, 0, none⟩) n c)) (inSr R (.slice (some ⟨g, 0, none⟩) n c)) by
    refine ⟨.slice (some ⟨g, 0, none⟩) m c, ⟨?_, HH.out.low, ?_, cutS_srt HH.out.srt x, by omega⟩, rfl, ?_⟩
    · have e := heap_set HB3.out 1 (.slice (some ⟨g, 0, none⟩) m c)
      show (w3.setCell ⟨R, 1, none⟩ (.slice (some ⟨g, 0, none⟩) m c)).heap[R]? = _
      simpa using e
    · have h5 : U64s w3 base (.slice (some ⟨g, 0, none⟩) (cutS S x).length c) (cutS S x) := U64s.ofBlock HG3.out hcur2 hcm (by omega) htk hg0
      rw [hcut] at h5
      exact U64s.heap (w := w3.setCell ⟨R, 1, none⟩ (.slice (some ⟨g, 0, none⟩) m c)) (ownsRow_setCell_other (a := ⟨R, 1, none⟩) h5 (fun e => hgR (by injection e)) _) rfl
    · have hm := HM.out
      have hr := HGR.out
      refine ⟨hr.os.trans hm.os, hr.tape.trans hm.tape, hr.output.trans hm.output, ?_, fun j hj hS => ?_, fun j hj => Or.inr hj⟩
      · show w.heap.size ≤ (w3.setCell _ _).heap.size
        have := hr.size; have := hm.size
        simp [World.setCell]; omega
      · refine (Below.heap_setCell w3 ⟨R, 1, none⟩ _ j (fun e => hS (Or.inl e))).trans ((hr.block j (Nat.lt_of_lt_of_le hj hm.size) (fun e => hS (Or.inr e.symm))).trans (hm.block j hj hS)))
  clear hcur2 hcut htk hmn
  go_wp2
  go_region
  all_goals
    go_wp2
    first | go_end0 | refine bodyPost_ret (results_none rfl _ _ _) rfl ?_
    exact ⟨rfl, FIN.out⟩
end Go.Proofs.Ytnnbkooikimedaa
