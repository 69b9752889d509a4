/-
  The law of sorting of layer 9, walked: true for any ranks. No condition.
-/
import Derived.Test.YtiijlfpkninmgaaHeapNil
import Derived.Test.YtiijlfpkninmgaaHeapI7
import Derived.Maps.Range
import Derived.Test.YtiijlfpkninmgaaOpen2
namespace Go.Proofs.Ytiijlfpkninmgaa
set_option linter.unusedVariables false
set_option linter.unusedSimpArgs false
open Go.ChangeShapes Go.WideShapes Go.ChangeAt Go.RowKit
attribute [local go_sem] alloc_drewN setCell_drewN

theorem infoBool : (Try.prog.info? 4).map (fun i => (i.zero, i.size, i.bytes)) = some (some (.bool false), 1, 1) := by kernel_rfl
/-- The first k ranks, in order. -/
def srtTo (zs : List Int) : Nat → List (Ent Int)
  | 0 => []
  | k + 1 => insR (srtTo zs k) ⟨zs.getD k 0, k, k⟩
theorem srtTo_length (zs : List Int) : ∀ k, (srtTo zs k).length = k
  | 0 => rfl
  | k + 1 => by rw [srtTo, insR_length, srtTo_length]
theorem srtTo_mem (zs : List Int) : ∀ k (e : Ent Int), e ∈ srtTo zs k → ∃ j : Nat, j < k ∧ e = ⟨zs.getD j 0, j, j⟩
  | 0, e, h => by cases h
  | k + 1, e, h => by
    rw [srtTo] at h
    rcases List.mem_cons.1 ((insR_perm _ _).mem_iff.1 h) with rfl | h
    · exact ⟨k, by omega, rfl⟩
    · obtain ⟨j, hj, he⟩ := srtTo_mem zs k e h
      exact ⟨j, by omega, he⟩
theorem srtTo_srt (zs : List Int) : ∀ k, Srt (srtTo zs k)
  | 0 => List.Pairwise.nil
  | k + 1 => insR_srt _ _ (srtTo_srt zs k) (fun m hm => by
    obtain ⟨j, hj, rfl⟩ := srtTo_mem zs k m hm
    show (j : Int) < k
    omega)
/-- What is popped behind what. -/
structure Popped (zs : List Int) (gone : List Bool) (k : Nat) (last at' : Int) : Prop where
  len : gone.length = zs.length
  yes : ∀ j, j < zs.length → (gone.getD j false = true ↔ ∃ q, q < k ∧ ((srtTo zs zs.length)[q]?).map Ent.tn = some (j : Int))
  start : k = 0 → last = 0 ∧ at' = -1
  prev : 0 < k → ∃ e, (srtTo zs zs.length)[k - 1]? = some e ∧ e.rk = last ∧ e.x = at'
theorem Popped.begin (zs : List Int) (gone : List Bool) (hl : gone.length = zs.length) (hg : ∀ j, gone.getD j false = false) : Popped zs gone 0 0 (-1) :=
  ⟨hl, fun j _ => ⟨fun h => (by rw [hg j] at h; cases h), fun ⟨q, hq, _⟩ => absurd hq (Nat.not_lt_zero _)⟩, fun _ => ⟨rfl, rfl⟩, fun h => absurd h (Nat.lt_irrefl _)⟩
theorem drop_split {α : Type} (l : List α) (k : Nat) (h : k < l.length) : l.drop k = l[k] :: l.drop (k + 1) := List.drop_eq_getElem_cons h
/-- The next one: where it came from, that it is not gone, that it is not behind. -/
theorem Popped.next {zs : List Int} {gone : List Bool} {k : Nat} {last at' : Int} (h : Popped zs gone k last at') (hk : k < zs.length) (h0 : ∀ j, j < zs.length → 0 ≤ zs.getD j 0) :
    ∃ (j : Nat), j < zs.length ∧ (srtTo zs zs.length)[k]? = some ⟨zs.getD j 0, j, j⟩ ∧ gone.getD j false = false ∧ ¬ zs.getD j 0 < last ∧ (0 < k → zs.getD j 0 = last → ¬ (j : Int) < at') ∧
      Popped zs (gone.set j true) (k + 1) (zs.getD j 0) j := by
  have hkl : k < (srtTo zs zs.length).length := by rw [srtTo_length]; exact hk
  have hs := srtTo_srt zs zs.length
  obtain ⟨j, hj, he⟩ := srtTo_mem zs zs.length _ (List.getElem_mem hkl)
  have hge : (srtTo zs zs.length)[k]? = some ⟨zs.getD j 0, j, j⟩ := by rw [List.getElem?_eq_getElem hkl, he]
  have hgj : gone.getD j false = false := by
    cases hx : gone.getD j false with
    | false => rfl
    | true =>
      obtain ⟨q, hq, hm⟩ := (h.yes j hj).1 hx
      have hql : q < (srtTo zs zs.length).length := by omega
      rw [List.getElem?_eq_getElem hql] at hm
      have hlt := List.pairwise_iff_getElem.1 hs q k hql hkl hq
      rw [he] at hlt
      obtain ⟨j2, hj2, he2⟩ := srtTo_mem zs zs.length _ (List.getElem_mem hql)
      rw [he2] at hlt hm
      simp at hm
      have : j2 = j := by omega
      subst this
      exact absurd hlt (Ent.lt_irrefl _)
  refine ⟨j, hj, hge, hgj, ?_, ?_, ?_⟩
  · rcases Nat.eq_zero_or_pos k with hk0 | hk0
    · have := (h.start hk0).1
      have := h0 j hj
      omega
    · obtain ⟨e, he1, he2, he3⟩ := h.prev hk0
      have hql : k - 1 < (srtTo zs zs.length).length := by omega
      rw [List.getElem?_eq_getElem hql] at he1
      have hlt := List.pairwise_iff_getElem.1 hs (k - 1) k hql hkl (by omega)
      rw [he, Option.some.inj he1] at hlt
      unfold Ent.lt at hlt
      dsimp only at hlt he2 he3
      omega
  · intro hk0 heq
    obtain ⟨e, he1, he2, he3⟩ := h.prev hk0
    have hql : k - 1 < (srtTo zs zs.length).length := by omega
    have hlt := List.pairwise_iff_getElem.1 hs (k - 1) k hql hkl (by omega)
    obtain ⟨j2, hj2, he4⟩ := srtTo_mem zs zs.length _ (List.getElem_mem hql)
    rw [List.getElem?_eq_getElem hql] at he1
    have he5 := Option.some.inj he1
    rw [he4] at he5
    rw [he, he4] at hlt
    subst he5
    unfold Ent.lt at hlt
    dsimp only at hlt he2 he3
    omega
  · refine ⟨by rw [List.length_set]; exact h.len, fun i hi => ?_, fun hh => by omega, fun _ => ⟨_, by rw [Nat.add_sub_cancel]; exact hge, rfl, rfl⟩⟩
    by_cases hij : j = i
    · subst hij
      rw [List.getD_eq_getElem?_getD, List.getElem?_set_self (by rw [h.len]; exact hj)]
      simp only [Option.getD_some, true_iff]
      exact ⟨k, by omega, by rw [hge]; rfl⟩
    · rw [List.getD_eq_getElem?_getD, List.getElem?_set_ne hij, ← List.getD_eq_getElem?_getD, h.yes i hi]
      constructor
      · rintro ⟨q, hq, hm⟩
        exact ⟨q, by omega, hm⟩
      · rintro ⟨q, hq, hm⟩
        by_cases hqk : q = k
        · subst hqk
          rw [hge] at hm
          simp at hm
          omega
        · exact ⟨q, by omega, hm⟩
theorem HeapBI.other {W0 w : World} {B : Nat} {room pd : Int} {v : Value} {ms : List (Ent Int)} (h : HeapBI W0 w B room pd v ms) (g i : Nat) (u : Value) (hg : W0.heap.size ≤ g) (h1 : g ≠ B) (h2 : v.ownBlock ≠ some g) : HeapBI W0 (w.setCell ⟨g, i, none⟩ u) B room pd v ms := by
  obtain ⟨⟨es, k1, k2⟩, hb⟩ := h
  refine ⟨⟨es, ⟨(Below.heap_setCell w ⟨g, i, none⟩ u B (fun e => h1 e.symm)).trans k1.blk, k1.low, ownsRow_setCell_other (a := ⟨g, i, none⟩) k1.own h2 u, k1.r0, k1.r1, k1.le⟩, k2⟩, ?_⟩
  exact ⟨hb.os, hb.tape, hb.output, by simpa [World.setCell] using hb.size, fun j hj => (Below.heap_setCell w ⟨g, i, none⟩ u j (by show j ≠ g; omega)).trans (hb.block j hj)⟩
/-- How heap and marks stand behind so many pops. -/
structure Half (W0 w : World) (zs : List Int) (room : Int) (g : Nat) (v : Value) (gone : List Bool) (k : Nat) (last at' : Int) : Prop where
  hp : HeapBI W0 w W0.heap.size room zs.length v ((srtTo zs zs.length).drop k)
  row : w.ownsRow W0.heap.size 4 1 (.slice (some ⟨g, 0, none⟩) zs.length zs.length) zs.length (gone.map Value.bool)
  pp : Popped zs gone k last at'
theorem Half.apart {W0 w : World} {zs : List Int} {room : Int} {g : Nat} {v : Value} {gone : List Bool} {k : Nat} {last at' : Int} (h : Half W0 w zs room g v gone k last at') : W0.heap.size ≠ g ∧ v.ownBlock ≠ some g ∧ W0.heap.size ≤ g := by
  obtain ⟨h1, h2⟩ := h.hp.g.ints h.row (by decide) (by decide)
  refine ⟨fun e => h1 (by rw [e]; rfl), fun e => ?_, (h.row.lt g rfl).1⟩
  rcases h2 with h2 | h2
  · cases h2
  · exact h2 (by rw [e]; rfl)
set_option maxRecDepth 100000 in
set_option maxHeartbeats 4000000 in
theorem sorts9_pos (zs : List Int) (hn : zs.length ≤ 400) (hn0 : 1 ≤ zs.length) (h0 : ∀ j, j < zs.length → 0 ≤ zs.getD j 0) (b off : Nat) (c : Nat) (w : World) (hb : b < w.heap.size)
    (hc : ∀ i, i < zs.length → w.cell? ⟨b, off + i, none⟩ = some (.int .u64 (zs.getD i 0))) :
    Calls Try.prog 6 #[.slice (some ⟨b, off, none⟩) zs.length c] w fun e w' => e = .returned (.bool true) ∧ Below w.heap.size w w' := by
  obtain ⟨i0, hi, hz0, hz1, hz2⟩ := info_parts infoBool
  have HC := Lib.hid hc; have H0 := Lib.hid h0
  obtain ⟨n, hN⟩ : ∃ n, n = zs.length := ⟨_, rfl⟩
  have HN := Lib.hid hN
  rw [← hN] at hn hn0 ⊢
  clear hN
  have hn1 : ¬ (400 : Int) < n := by omega
  have hn2 : (1 : Int) ≤ n := by omega
  have LV := Lib.hid (fun w => lives9 w)
  have NW := Lib.hid (newBI n (by omega) (by omega) w)
  clear hc h0
  go_enter Try.func6, Try.ntmps6
  go_wp2_with fail
  refine NW.out.mono ?_
  rintro e w1 ⟨rfl, h1⟩
  have H1 := Lib.hid h1
  clear h1
  go_wp2
  go_loopw [29] (fun x wr => ∃ (k : Nat) (v : Value), x = .int .i64 k ∧ k ≤ n ∧ HeapBI w wr w.heap.size n k v (srtTo zs k)) (fun x _ => n - (intOf x).toNat)
  case atStart => exact ⟨0, _, rfl, Nat.zero_le _, H1.out⟩
  case round =>
    clear H1
    obtain ⟨k, v, rfl, hk, hB⟩ := hrel
    by_cases hkn : k < n
    · have e1 : (k : Int) < n := by omega
      have e0 : (0 : Int) ≤ k := by omega
      have hcell := (hB.b.cell (p := ⟨b, off + k, none⟩) hb).trans (HC.out k (by rw [← HN.out]; exact hkn))
      have PS := Lib.hid (pushB_inI hB (by rw [srtTo_length]; omega) (by omega) (zs.getD k 0) k)
      clear hB
      generalize hz : zs.getD k 0 = z at *
      go_wp2_with fail
      refine PS.out.mono ?_
      rintro e w2 ⟨rfl, v2, h2, -⟩
      have HF := Lib.hid h2
      clear h2
      go_wp2
      go_roundw
      case rel => exact ⟨k + 1, v2, by first | rfl | (congr 1; omega), by omega, by rw [srtTo, hz]; exact HF.out⟩
      case measure => simp [intOf]; omega
    · obtain rfl : k = n := by omega
      have HB := Lib.hid hB
      clear hB hk hkn
      go_wp2_with (at_make; refine wpList_make_full _ rfl _ _ 47 rfl w.heap.size 4 i0 (.bool false) 1 Try.underlying47 hi hz0 hz1 _ _ _ _ k rfl rfl rfl rfl (by rw [hz2]; omega) (by unfold maxLen; omega) HB.out.b.size ?_; intro w3 ho3 hg3; have HO3 := Lib.hid ho3; have HG3 := Lib.hid hg3; clear ho3 hg3)
      have HH : Hid (Half w w3 zs k wr.heap.size v (List.replicate k false) 0 0 (-1)) := by
        have hlen := HN.out
        have hB := HB.out
        have hb3 : Below wr.heap.size wr w3 := (Below.refl _ _).grown HG3.out (Nat.le_refl _) (by simp)
        refine Lib.hid ⟨?_, ?_, ?_⟩
        · rw [← hlen, List.drop_zero]; exact hB.below hb3
        · rw [← hlen]
          have e3 : (madeCells (Value.bool false).cells (k * 1)).toList = (List.replicate k false).map Value.bool := by
            simp [madeCells, Value.cells, List.map_const', List.eq_replicate_iff]
            intro a _; rw [Nat.mod_one]; rfl
          have := HO3.out
          rw [e3] at this
          exact this
        · exact Popped.begin zs _ (by rw [List.length_replicate]; exact hlen) (fun j => by
            rw [List.getD_eq_getElem?_getD, List.getElem?_replicate]
            split <;> rfl)
      clear HO3 HG3 HB
      generalize wr.heap.size = g at *
      go_loopw [8, 9, 45] (fun x y z wq => ∃ (q : Nat) (last at' : Int) (gone : List Bool) (u : Value), x = .int .u64 last ∧ y = .int .i64 at' ∧ z = .int .i64 q ∧ q ≤ k ∧ Half w wq zs k g u gone q last at') (fun _ _ z _ => k - (intOf z).toNat)
      case atStart => exact ⟨0, 0, -1, _, v, rfl, rfl, rfl, Nat.zero_le _, HH.out⟩
      case round =>
        clear HH
        obtain ⟨q, last, at', gone, u, rfl, rfl, rfl, hq, hB⟩ := hrel
        have hlen := HN.out
        by_cases hqk : q < k
        · obtain ⟨j, hj, hge, hgj, hlt, htie, hpp⟩ := hB.pp.next (by omega) H0.out
          have hql : q < (srtTo zs zs.length).length := by rw [srtTo_length]; omega
          have hdr := drop_split (srtTo zs zs.length) q hql
          rw [List.getElem?_eq_getElem hql] at hge
          rw [Option.some.inj hge] at hdr
          have hhp := hB.hp
          rw [hdr] at hhp
          have PO := Lib.hid (popB_inI hhp)
          obtain ⟨a1, a2, a3⟩ := hB.apart
          have hcell := fun (W : World) (hW : Below w.heap.size w W) => (hW.cell (p := ⟨b, off + j, none⟩) hb).trans (HC.out j hj)
          have HCELL := Lib.hid hcell
          have hgl := hB.pp.len
          have ROW := Lib.hid (fun (W : World) (u' : Value) (m : Mv wr W w.heap.size u u') => (show W.ownsRow w.heap.size 4 1 (.slice (some ⟨g, 0, none⟩) zs.length zs.length) zs.length (gone.map Value.bool) ∧ ((Value.slice (some ⟨g, 0, none⟩) zs.length zs.length).ownBlock = none ∨ (Value.slice (some ⟨g, 0, none⟩) zs.length zs.length).ownBlock ≠ u'.ownBlock) from m.row hB.row (fun e => a1 (Option.some.inj e).symm) (Or.inr (fun e => a2 e.symm))))
          have HPP := Lib.hid hpp
          have hj' : j < k := by omega
          have j0 : (0 : Int) ≤ j := by omega
          have j1 : (j : Int) < k := by omega
          have j2 : ¬ (j : Int) < 0 := by omega
          have j3 : ¬ (k : Int) ≤ j := by omega
          have q1 : (q : Int) < k := by omega
          have A := Lib.hid a1; have A2 := Lib.hid a3
          have hcase : (q = 0) ∨ (0 < q ∧ zs.getD j 0 ≠ last) ∨ (0 < q ∧ zs.getD j 0 = last ∧ ¬ (j : Int) < at') := by
            rcases Nat.eq_zero_or_pos q with h | h
            · exact Or.inl h
            · by_cases h2 : zs.getD j 0 = last
              · exact Or.inr (Or.inr ⟨h, h2, htie h h2⟩)
              · exact Or.inr (Or.inl ⟨h, h2⟩)
          clear hB hhp htie hpp a1 a2 a3 hcell hge hdr
          have HLEN := Lib.hid hlen; have HGL := Lib.hid hgl; have HQL := Lib.hid hql; have HJ := Lib.hid hj
          clear hlen hgl hql hj
          generalize hz : zs.getD j 0 = z at *
          go_wp2_with fail
          refine PO.out.mono ?_
          rintro e w5 ⟨rfl, u5, h5, m5⟩
          have hlen := HLEN.out; have hgl := HGL.out; have hql := HQL.out; have hj := HJ.out
          have hc5 := HCELL.out w5 h5.b
          obtain ⟨r1, r2⟩ := ROW.out w5 u5 m5
          have hg5 := (r1.cellAt j (by omega))
          rw [List.getElem?_map, List.getElem?_eq_getElem (by omega)] at hg5
          have hgf : gone[j]'(by omega) = false := by
            rw [List.getD_eq_getElem?_getD, List.getElem?_eq_getElem (by omega)] at hgj
            exact hgj
          rw [hgf] at hg5
          have hf5 := r1.frozenAt j
          have FIN : Hid (Half w (w5.setCell ⟨g, j, none⟩ (.bool true)) zs k g u5 (gone.set j true) (q + 1) z j) := by
            refine Lib.hid ⟨HeapBI.other h5 g j (.bool true) A2.out (fun e => A.out e.symm) ?_, ?_, by rw [← hz]; rw [hz]; exact HPP.out⟩
            · rcases r2 with r2 | r2
              · cases r2
              · exact fun e => r2 e.symm
            · have := (r1.stored j (.bool true)).1
              rw [List.map_set]
              exact this
          clear hgf hgj h5 m5 r1 r2 ROW HPP HCELL PO hlen hgl hql hj
          rcases hcase with hq0 | ⟨hq0, hz2⟩ | ⟨hq0, hz2, hz3⟩
          · have s1 : ¬ (0 : Int) < q := by omega
            go_wp2
            go_roundw
            case rel => exact ⟨q + 1, z, j, _, u5, rfl, rfl, by first | rfl | (congr 1; omega), by omega, FIN.out⟩
            case measure => simp [intOf]; omega
          · have s1 : (0 : Int) < q := by omega
            go_wp2
            go_roundw
            case rel => exact ⟨q + 1, z, j, _, u5, rfl, rfl, by first | rfl | (congr 1; omega), by omega, FIN.out⟩
            case measure => simp [intOf]; omega
          · have s1 : (0 : Int) < q := by omega
            subst hz2
            go_wp2
            go_roundw
            case rel => exact ⟨q + 1, z, j, _, u5, rfl, rfl, by first | rfl | (congr 1; omega), by omega, FIN.out⟩
            case measure => simp [intOf]; omega
        · obtain rfl : q = k := by omega
          have hhp := hB.hp
          rw [List.drop_of_length_le (by rw [srtTo_length]; omega)] at hhp
          have LN := Lib.hid (lenHI hhp.g)
          have HBB := Lib.hid hhp.b
          clear hB hhp hq hqk hlen
          go_wp2_with fail
          refine LN.out.mono ?_
          rintro e w6 ⟨rfl, rfl⟩
          go_wp2_with fail
          refine (LV.out _).mono ?_
          rintro e w9 ⟨rfl, b9⟩
          go_wp2
          go_ret
          exact ⟨rfl, HBB.out.trans (b9.mono HBB.out.size)⟩
set_option maxRecDepth 100000 in
set_option maxHeartbeats 2000000 in
theorem sorts9_nil (a : Option Addr) (c : Nat) (w : World) :
    Calls Try.prog 6 #[.slice a 0 c] w fun e w' => e = .returned (.bool true) ∧ Below w.heap.size w w' := by
  obtain ⟨i0, hi, hz0, hz1, hz2⟩ := info_parts infoBool
  have LV := Lib.hid (fun w => lives9 w)
  have NW := Lib.hid (newBI 1 (by omega) (by omega) w)
  go_enter Try.func6, Try.ntmps6
  go_wp2_with fail
  refine NW.out.mono ?_
  rintro e w1 ⟨rfl, h1⟩
  have H1 := Lib.hid h1
  clear h1
  go_wp2
  refine wp_loop_rounds 1 ?_
  rw [rounds_succ]
  go_wp2_with (at_make; refine wpList_make_full _ rfl _ _ 47 rfl w.heap.size 4 i0 (.bool false) 1 Try.underlying47 hi hz0 hz1 _ _ _ _ 0 rfl rfl rfl rfl (by simp) (by simp) H1.out.b.size ?_; intro w3 ho3 hg3; have HG3 := Lib.hid hg3; clear ho3 hg3)
  refine wp_loop_rounds 1 ?_
  rw [rounds_succ]
  have hb3 : Below w1.heap.size w1 w3 := (Below.refl _ _).grown HG3.out (Nat.le_refl _) (by simp)
  have H3 := Lib.hid (H1.out.below hb3)
  have LN := Lib.hid (lenHI H3.out.g)
  clear hb3 HG3
  go_wp2_with fail
  refine LN.out.mono ?_
  rintro e w6 ⟨rfl, rfl⟩
  go_wp2_with fail
  refine (LV.out _).mono ?_
  rintro e w9 ⟨rfl, b9⟩
  go_wp2
  go_ret
  exact ⟨rfl, H3.out.b.trans (b9.mono H3.out.b.size)⟩
theorem walk_heapSorts (a : Option Addr) (n c : Nat) (zs : List Int) {w : World} (hr : Row1 .u64 w a n zs) (hcap : n ≤ c) :
    Calls Try.prog 6 #[.slice a n c] w fun e w' => e = .returned (.bool true) ∧ Below w.heap.size w w' := by
  obtain ⟨hz, hm, hw, hc⟩ := hr
  by_cases h : n ≤ 400
  · rcases Nat.eq_zero_or_pos n with h0 | h0
    · subst h0
      exact sorts9_nil a c w
    · subst hz
      obtain ⟨b, off, rfl, hb, hcell⟩ := hc h0
      refine sorts9_pos zs h h0 (fun j hj => ?_) b off c w hb (fun i hi => hcell i hi)
      exact (bounds_u64 (hw _ (by rw [List.getD_eq_getElem?_getD, List.getElem?_eq_getElem hj]; exact List.getElem_mem _))).1
  · unfold maxLen at hm
    have h1 : 400 < n := by omega
    have LV := Lib.hid (lives9 w)
    clear hc hw hz h
    go_enter Try.func6, Try.ntmps6
    go_wp2_with fail
    refine LV.out.mono ?_
    rintro e w9 ⟨rfl, b9⟩
    go_wp2
    go_ret
    exact ⟨rfl, b9⟩
end Go.Proofs.Ytiijlfpkninmgaa
