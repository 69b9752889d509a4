/-
  The law of the best of layer 10, walked: true for any room and any ranks. No condition.
-/
import Derived.Test.YtiijlfpkninmgaaTwinRef
import Derived.Test.YtiijlfpkninmgaaSort9
import Derived.Test.YtiijlfpkninmgaaLives10
import Derived.Test.YtiijlfpkninmgaaOpen2
import Derived.Maps.Range
namespace Go.Proofs.Ytiijlfpkninmgaa
set_option linter.unusedVariables false
set_option linter.unusedSimpArgs false
open Go.ChangeShapes Go.WideShapes Go.ChangeAt Go.RowKit
attribute [local go_sem] alloc_drewN setCell_drewN

/-- The ranks with their places. -/
def itemsTo (zs : List Int) (k : Nat) : List (Int × Int) := (List.range k).map fun j => (zs.getD j 0, (j : Int))
theorem itemsTo_length (zs : List Int) (k : Nat) : (itemsTo zs k).length = k := by simp [itemsTo]
theorem itemsTo_succ (zs : List Int) (k : Nat) : itemsTo zs (k + 1) = itemsTo zs k ++ [(zs.getD k 0, (k : Int))] := by simp [itemsTo, List.range_succ]
theorem itemsTo_getD (zs : List Int) (n k : Nat) (h : k < n) : (itemsTo zs n).getD k (0, 0) = (zs.getD k 0, (k : Int)) := by
  unfold itemsTo
  rw [List.getD_eq_getElem?_getD, List.getElem?_map, List.getElem?_range h]; rfl
/-- The first so many, sorted. -/
def bestTo (zs : List Int) : Nat → List (Int × Int)
  | 0 => []
  | k + 1 => insP (bestTo zs k) (zs.getD k 0, (k : Int))
theorem bestTo_length (zs : List Int) : ∀ k, (bestTo zs k).length = k
  | 0 => rfl
  | k + 1 => by rw [bestTo, insP_length, bestTo_length]
theorem bestTo_srt (zs : List Int) : ∀ k, SrtP (bestTo zs k)
  | 0 => List.Pairwise.nil
  | k + 1 => insP_srt _ _ (bestTo_srt zs k)
theorem bestTo_eq (zs : List Int) (n : Nat) : ∀ k, k ≤ n → srtP (itemsTo zs n) k = bestTo zs k
  | 0, _ => rfl
  | k + 1, h => by rw [srtP, bestTo, bestTo_eq zs n k (by omega), itemsTo_getD zs n k (by omega)]
/-- How queue and items stand behind so many squeezes. -/
structure Best (W0 w : World) (zs : List Int) (n : Nat) (v vo : Value) (ms : List (Ent Int)) (pd : Int) (k j : Nat) : Prop where
  tw : TwinBI W0 w W0.heap.size W0.heap.size n pd v ms
  its : Its w W0.heap.size vo (itemsTo zs j)
  same : ms.map kv = (bestTo zs k).take n
  pd : pd ≤ k
theorem TwinBI.grown {W0 w w3 : World} {base B : Nat} {room pd : Int} {v : Value} {ms : List (Ent Int)} (h : TwinBI W0 w base B room pd v ms) (o : Obj) (u : Value) (xs : List (Int × Int)) (hu : Its w W0.heap.size u xs) (hg : (w.alloc o).grownBy w3 u.ownBlock) : TwinBI W0 w3 base B room pd v ms := by
  obtain ⟨a1, a2⟩ := h.g.ints hu (by decide) (by decide)
  obtain ⟨⟨es, k1, k2⟩, hb, hs, hz⟩ := h
  have hB : B < w.heap.size := (Array.getElem?_eq_some_iff.1 k1.blk).1
  have hsz : w.heap.size ≤ w3.heap.size := Nat.le_trans (by simp) hg.size
  refine ⟨⟨es, ⟨(hg.block B (by simp; omega) (fun e => a1 e.symm)).trans ((heap_alloc_old w o hB).trans k1.blk), k1.low, World.ownsRow.kept (k1.own.alloc o) hg ?_, k1.r0, k1.r1, k1.le⟩, k2⟩, ?_, hs, Nat.le_trans hz hsz⟩
  · rcases a2 with a2 | a2
    · cases hv : v.ownBlock with
      | none => exact Or.inl rfl
      | some j => exact Or.inr (by rw [a2]; simp)
    · exact Or.inr (fun e => a2 e.symm)
  · exact (hb.alloc hb.size o).grown hg (by simp; have := hb.size; omega) (fun g hgg => (World.ownsRow.lt hu g hgg).1)
theorem map_snoc {ms : List (Ent Int)} {I : List (Int × Int)} {z : Int × Int} (h : ms.map kv = I ++ [z]) : ∃ l e0, ms = l ++ [e0] ∧ l.map kv = I ∧ kv e0 = z := by
  rcases List.eq_nil_or_concat ms with hm | ⟨l, e0, hm⟩
  · subst hm
    simp at h
  · have hm' : ms = l ++ [e0] := by simpa using hm
    subst hm'
    rw [List.map_append] at h
    have := List.append_inj' h rfl
    exact ⟨l, e0, rfl, this.1, by simpa using this.2⟩
theorem sq_best {W0 w : World} {zs : List Int} {n : Nat} {v vo : Value} {ms : List (Ent Int)} {pd : Int} {k : Nat} (h : Best W0 w zs n v vo ms pd k (k + 1)) (n1 : 1 ≤ n) (hk : k < 1000000) :
    Calls Try.prog 49 #[.pointer (some ⟨W0.heap.size, 0, none⟩), .int .u64 (zs.getD k 0), .int .i64 k] w fun e w' => ∃ (d : Bool) (y : Int), e = .returned (.tuple #[.int .i64 y, .bool d]) ∧ d = decide (n ≤ k) ∧ ∃ v' ms' pd', Best W0 w' zs n v' vo ms' pd' (k + 1) (k + 1) := by
  have hpd := h.pd
  have hml : ms.length = min n k := by
    have := congrArg List.length h.same
    rw [List.length_map, List.length_take, bestTo_length] at this
    exact this
  obtain ⟨a1, a2⟩ := h.tw.g.ints h.its (by decide) (by decide)
  have hst : bestTo zs (k + 1) = insP (bestTo zs k) (zs.getD k 0, (k : Int)) := rfl
  have hlen := bestTo_length zs k
  by_cases hnk : n ≤ k
  · obtain ⟨I, z, R, hL, hT, hI⟩ := best_split (bestTo zs k) n n1 (by omega)
    have hsame := h.same
    rw [hT] at hsame
    obtain ⟨l, e0, rfl, hl, hz⟩ := map_snoc hsame
    have hful : ¬ ((l ++ [e0]).length : Int) < n := by omega
    have hz1 : e0.rk = z.1 := by rw [← hz]; rfl
    by_cases hr : e0.rk ≤ zs.getD k 0
    · refine (squeeze_stayI h.tw hful (zs.getD k 0) k hr).mono ?_
      rintro e w' ⟨rfl, h2, b2⟩
      refine ⟨true, _, rfl, by rw [decide_eq_true hnk], v, l ++ [e0], pd, ⟨h2, h.its.below b2, ?_, by omega⟩⟩
      rw [hsame, hst, hL, ← hI]
      exact (best_stay I R z _ (by rw [← hL]; exact bestTo_srt zs k) (by rw [← hz1]; exact hr)).symm
    · refine (squeeze_outI h.tw hful (by omega) (zs.getD k 0) k hr).mono ?_
      rintro e w' ⟨rfl, v2, h2, m2⟩
      refine ⟨true, _, rfl, by rw [decide_eq_true hnk], v2, _, _, ⟨h2, (m2.row h.its a1 a2).1, ?_, by omega⟩⟩
      rw [insR_kv, hl, hst, hL, ← hI]
      exact (best_out I R z _ (by rw [← hz1]; exact hr)).symm
  · refine (squeeze_inI h.tw (by omega) (by omega) (zs.getD k 0) k).mono ?_
    rintro e w' ⟨rfl, v2, h2, m2⟩
    refine ⟨false, _, rfl, by rw [decide_eq_false hnk], v2, _, _, ⟨h2, (m2.row h.its a1 a2).1, ?_, by omega⟩⟩
    rw [insR_kv, h.same, hst, best_in _ _ _ (by omega)]; rfl
/-- How queue and the sorted items stand behind so many pops. -/
structure Outs (W0 w : World) (L : List (Int × Int)) (n b1 : Nat) (v vo : Value) (ms : List (Ent Int)) (pd : Int) (i : Nat) : Prop where
  tw : TwinBI W0 w W0.heap.size W0.heap.size n pd v ms
  its : Its w b1 vo L
  same : ms.map kv = (L.take n).drop i
theorem pop_best {W0 w : World} {L : List (Int × Int)} {n b1 : Nat} {v vo : Value} {ms : List (Ent Int)} {pd : Int} {i : Nat} (h : Outs W0 w L n b1 v vo ms pd i) (h1 : i < n) (h2 : i < L.length) :
    Calls Try.prog 47 #[.pointer (some ⟨W0.heap.size, 0, none⟩)] w fun e w' => e = .returned (.tuple #[.int .u64 (L.getD i (0, 0)).1, .int .i64 (L.getD i (0, 0)).2, .bool true]) ∧ ∃ v' ms', Outs W0 w' L n b1 v' vo ms' pd (i + 1) := by
  obtain ⟨a1, a2⟩ := h.tw.g.ints h.its (by decide) (by decide)
  have hsame := h.same
  have hlt : i < (L.take n).length := by rw [List.length_take]; omega
  rw [List.drop_eq_getElem_cons hlt] at hsame
  have hg : (L.take n)[i] = L.getD i (0, 0) := by
    rw [List.getElem_take, List.getD_eq_getElem?_getD, List.getElem?_eq_getElem h2]; rfl
  rw [hg] at hsame
  cases ms with
  | nil => simp at hsame
  | cons e0 ms =>
    rw [List.map_cons] at hsame
    obtain ⟨q1, q2⟩ := List.cons.inj hsame
    refine (popminXI h.tw).mono ?_
    rintro e w' ⟨rfl, v', t, m⟩
    refine ⟨?_, v', ms, t, (m.row h.its a1 a2).1, q2⟩
    rw [← q1]; rfl
theorem its_form_at {w : World} {base : Nat} {v : Value} {xs : List (Int × Int)} {n : Nat} (h : Its w base v xs) (hn : xs.length = n) : ∃ a c, v = .slice a n c ∧ ∀ W, Its W base v xs → ∀ i, i < n → ∃ g, a = some ⟨g, 0, Option.none⟩ ∧ g < W.heap.size ∧ W.cell? ⟨g, i * 2, Option.none⟩ = some (.int .u64 (xs.getD i (0, 0)).1) ∧ W.cell? ⟨g, i * 2 + 1, Option.none⟩ = some (.int .i64 (xs.getD i (0, 0)).2) := by
  subst hn
  obtain ⟨a, c, rfl, _, _⟩ := h.form
  refine ⟨a, c, rfl, fun W hW i hi => ?_⟩
  obtain ⟨a', c', hv, _, hc⟩ := hW.form
  obtain ⟨rfl, _, _⟩ := Value.slice.inj hv
  obtain ⟨g, k1, k2, k3, k4⟩ := hc i hi
  have hg : xs.getD i (0, 0) = xs[i] := by rw [List.getD_eq_getElem?_getD, List.getElem?_eq_getElem hi]; rfl
  exact ⟨g, k1, k2, by rw [hg]; exact k3, by rw [hg]; exact k4⟩
set_option maxRecDepth 100000 in
set_option maxHeartbeats 4000000 in
theorem best10_at (room : Int) (q0 : 0 ≤ room) (q1 : room ≤ 255) (a : Option Addr) (c : Nat) (zs : List Int) (hn : zs.length ≤ 300) (w : World)
    (hc : ∀ i, i < zs.length → ∃ b off, a = some ⟨b, off, none⟩ ∧ b < w.heap.size ∧ w.cell? ⟨b, off + i, none⟩ = some (.int .u64 (zs.getD i 0))) :
    Calls Try.prog 10 #[.int .u8 room, .slice a zs.length c] w fun e w' => e = .returned (.bool true) ∧ Below w.heap.size w w' := by
  obtain ⟨i0, hi, hz0, hz1, hz2⟩ := info_parts infoItem
  have HC := Lib.hid hc
  obtain ⟨n, hN⟩ : ∃ n : Nat, (n : Int) = room % 50 + 1 := ⟨(room % 50 + 1).toNat, by omega⟩
  have n1 : 1 ≤ n := by omega
  have n50 : n ≤ 50 := by omega
  have hN' : room % 50 + 1 = (n : Int) := hN.symm
  obtain ⟨len, hL⟩ : ∃ len, len = zs.length := ⟨_, rfl⟩
  have HLN := Lib.hid hL
  rw [← hL] at hn ⊢
  clear hc hL hN
  have h300 : ¬ (300 : Int) < len := by omega
  have NW := Lib.hid (newWI (n : Int) (by omega) (by omega) w w (Below.refl _ _))
  have LV := Lib.hid (fun w => lives10 w)
  go_enter Try.func10, Try.ntmps10
  go_wp2_with fail
  refine NW.out.mono ?_
  rintro e w1 ⟨rfl, h1, -⟩
  have H1 := Lib.hid (show Best w w1 zs n (.slice none 0 0) (.slice none 0 0) [] 0 0 0 from ⟨h1, Its.nil _ _, by simp [bestTo], Int.le_refl _⟩)
  clear h1
  go_wp2
  go_loopw [8, 9, 35] (fun x y z wr => ∃ (vo v : Value) (ms : List (Ent Int)) (pd : Int) (k : Nat), vo = x ∧ y = .int .i64 (k - n : Nat) ∧ z = .int .i64 k ∧ k ≤ len ∧ Best w wr zs n v vo ms pd k k) (fun _ _ z _ => len - (intOf z).toNat)
  case atStart => exact ⟨_, _, [], 0, 0, rfl, by simp, rfl, Nat.zero_le _, H1.out⟩
  case round =>
    clear H1
    obtain ⟨vo, v, ms, pd, k, rfl, rfl, rfl, hk, hB⟩ := hrel
    by_cases hlt : k < len
    · obtain ⟨b, off, rfl, hb, hcell⟩ := HC.out k (by rw [← HLN.out]; exact hlt)
      have hcell := (hB.tw.b.cell (p := ⟨b, off + k, none⟩) hb).trans hcell
      have g1 : (k : Int) < len := by omega
      have g0 : (0 : Int) ≤ k := by omega
      have ho := hB.its
      have hs := hB.tw.b.size
      have hlen := itemsTo_length zs k
      have HB := Lib.hid hB
      have ST := Lib.hid (itemsTo_succ zs k).symm
      have SQ := Lib.hid (fun W (vo' : Value) (h : Best w W zs n v vo' ms pd k (k + 1)) => sq_best h n1 (by omega))
      clear hB
      generalize hzz : zs.getD k 0 = z at *
      have HZ := Lib.hid hzz
      clear hzz
      have HO := Lib.hid ho
      unfold Its at ho
      by_cases hnk : n ≤ k
      · have hdd := decide_eq_true hnk
        have HDD := Lib.hid hdd
        clear hdd
        have e5 : (((k - n : Nat) : Int)) + 1 = ((k + 1 - n : Nat) : Int) := by omega
        go_wp2_with (first
            | (at_builtin; refine wpList_append_own _ rfl _ _ 58 rfl w.heap.size 83 i0 (.agg #[.int .u64 0, .int .i64 0]) 2 16 Try.underlying58 hi hz0 hz1 hz2 rfl (by decide) vo _ _ rfl (ho.alloc _) ⟨wr.heap.size, 0, none⟩ 1 1 [.int .u64 z, .int .i64 k] rfl rfl (cells_two9 _ _ _ _) (fun x hx => by simp at hx; rcases hx with rfl | rfl <;> rfl) (by unfold maxLen; omega) (by omega) (by simp; omega) ?_; intro v3 w3 ho3 hg3 hn3; clear hn3; have H3 := Lib.hid (show Best w w3 zs n v v3 ms pd k (k + 1) from ⟨HB.out.tw.grown _ vo _ HO.out hg3, by rw [← ST.out]; exact Its.of_append (x := (z, (k : Int))) ho3, HB.out.same, HB.out.pd⟩); clear ho3 hg3)
            | (go_at_call 49; refine (SQ.out _ _ H3.out).mono ?_; rintro e w5 ⟨d, y, rfl, hd, v5, ms5, pd5, h5⟩; rw [HDD.out] at hd; subst hd; have H5 := Lib.hid h5; clear h5)
            | fail)
        all_goals
          go_roundw
          case rel => exact ⟨v3, v5, ms5, pd5, k + 1, rfl, by first | rfl | (congr 1; omega), by first | rfl | (congr 1; omega), by omega, H5.out⟩
          case measure => simp [intOf]; omega
      · have hdd := decide_eq_false hnk
        have HDD := Lib.hid hdd
        clear hdd
        have e5 : k + 1 - n = k - n := by omega
        have E5 := Lib.hid e5
        clear e5
        go_wp2_with (first
            | (at_builtin; refine wpList_append_own _ rfl _ _ 58 rfl w.heap.size 83 i0 (.agg #[.int .u64 0, .int .i64 0]) 2 16 Try.underlying58 hi hz0 hz1 hz2 rfl (by decide) vo _ _ rfl (ho.alloc _) ⟨wr.heap.size, 0, none⟩ 1 1 [.int .u64 z, .int .i64 k] rfl rfl (cells_two9 _ _ _ _) (fun x hx => by simp at hx; rcases hx with rfl | rfl <;> rfl) (by unfold maxLen; omega) (by omega) (by simp; omega) ?_; intro v3 w3 ho3 hg3 hn3; clear hn3; have H3 := Lib.hid (show Best w w3 zs n v v3 ms pd k (k + 1) from ⟨HB.out.tw.grown _ vo _ HO.out hg3, by rw [← ST.out]; exact Its.of_append (x := (z, (k : Int))) ho3, HB.out.same, HB.out.pd⟩); clear ho3 hg3)
            | (go_at_call 49; refine (SQ.out _ _ H3.out).mono ?_; rintro e w5 ⟨d, y, rfl, hd, v5, ms5, pd5, h5⟩; rw [HDD.out] at hd; subst hd; have H5 := Lib.hid h5; clear h5)
            | fail)
        all_goals
          go_roundw
          case rel => exact ⟨v3, v5, ms5, pd5, k + 1, rfl, by rw [E5.out], by first | rfl | (congr 1; omega), by omega, H5.out⟩
          case measure => simp [intOf]; omega
    · obtain rfl : k = len := by omega
      have SRT := Lib.hid (fun W (h : Its W w.heap.size vo (itemsTo zs k)) => sort9 w.heap.size vo (itemsTo zs k) (by rw [itemsTo_length]; omega) W h)
      have EQ := Lib.hid (show srtP (itemsTo zs k) (itemsTo zs k).length = bestTo zs k by rw [itemsTo_length]; exact bestTo_eq zs k k (Nat.le_refl _))
      have BL := Lib.hid (bestTo_length zs k)
      have HB := Lib.hid hB
      clear hB hk hlt
      obtain ⟨L, hLL⟩ : ∃ L, L = bestTo zs k := ⟨_, rfl⟩
      have HLL := Lib.hid hLL
      clear hLL
      obtain ⟨m, hm⟩ : ∃ m, m = min n k := ⟨_, rfl⟩
      have f1 : max ((k : Int) - n) 0 = ((k - n : Nat) : Int) := by omega
      have f2 : min (n : Int) k = m := by omega
      have HM := Lib.hid hm
      have BL2 := Lib.hid (show L.length = k by rw [HLL.out]; exact BL.out)
      clear hm
      go_wp2_with (first
          | (go_at_call 50; refine (SRT.out _ HB.out.its).mono ?_; rintro e w2 ⟨v2, rfl, hs2, hb2⟩; rw [EQ.out, ← HLL.out] at hs2; have O2 := Lib.hid (show Outs w w2 L n wr.heap.size v v2 ms pd 0 from ⟨HB.out.tw.below hb2, hs2, by rw [HLL.out]; exact HB.out.same⟩); obtain ⟨a2, c2, rfl, hf⟩ := its_form_at hs2 (n := k) (by rw [HLL.out]; exact BL.out); have HF := Lib.hid hf; clear hs2 hb2 hf)
          | fail)
      go_loopw [70] (fun x wr2 => ∃ (v5 : Value) (ms5 : List (Ent Int)) (i : Nat), x = .int .i64 i ∧ i ≤ m ∧ Outs w wr2 L n wr.heap.size v5 (.slice a2 k c2) ms5 pd i) (fun x _ => m - (intOf x).toNat)
      case atStart => exact ⟨_, _, 0, by simp, Nat.zero_le _, O2.out⟩
      case round =>
        obtain ⟨v5, ms5, i, rfl, hi5, hO⟩ := hrel
        by_cases hlt : i < m
        · have g1 : (i : Int) < m := by omega
          have g0 : (0 : Int) ≤ i := by omega
          have g2 : (i : Int) < k := by have := HM.out; omega
          have PM := Lib.hid (pop_best hO (by have := HM.out; omega) (by have := HM.out; have := BL2.out; omega))
          generalize hr : (L.getD i (0, 0)) = z at PM
          have HZ := Lib.hid hr
          clear hr hO
          go_wp2_with (first
            | (go_at_call 47; refine PM.out.mono ?_; rintro e w5 ⟨rfl, v6, ms6, h6⟩; obtain ⟨g, rfl, hg, hc1, hc2⟩ := HF.out _ h6.its i (by have := HM.out; omega); rw [HZ.out] at hc1 hc2; have H6 := Lib.hid h6; clear h6)
            | fail)
          all_goals
            go_roundw
            case rel => exact ⟨v6, ms6, i + 1, by first | rfl | (congr 1; omega), by omega, H6.out⟩
            case measure => simp [intOf]; omega
        · obtain rfl : i = m := by omega
          have hnil : ms5 = [] := by
            have hs := hO.same
            rw [List.drop_of_length_le (by rw [List.length_take]; have := HM.out; have := BL2.out; omega)] at hs
            simpa using hs
          subst hnil
          have LN := Lib.hid (lenWI hO.tw.g)
          have HO := Lib.hid hO
          clear hO
          go_wp2_with (first
            | (go_at_call 45; refine LN.out.mono ?_; rintro e w5 ⟨rfl, hw⟩; have hw := hw.symm; subst hw)
            | (go_at_call 40; refine (LV.out _).mono ?_; rintro e w6 ⟨rfl, hb6⟩; have B6 := Lib.hid hb6; clear hb6)
            | fail)
          all_goals
            go_ret
            exact ⟨rfl, HO.out.tw.b.trans (B6.out.mono HO.out.tw.b.size)⟩
theorem walk_twinBest (room : Int) (q0 : 0 ≤ room) (q1 : room ≤ 255) (a : Option Addr) (n c : Nat) (zs : List Int) {w : World} (hr : Row1 .u64 w a n zs) (hcap : n ≤ c) :
    Calls Try.prog 10 #[.int .u8 room, .slice a n c] w fun e w' => e = .returned (.bool true) ∧ Below w.heap.size w w' := by
  obtain ⟨hz, hm, hw, hc⟩ := hr
  by_cases h : n ≤ 300
  · subst hz
    refine best10_at room q0 q1 a c zs h w (fun i hi => ?_)
    obtain ⟨b, off, rfl, hb, hcell⟩ := hc (by omega)
    exact ⟨b, off, rfl, hb, hcell i hi⟩
  · unfold maxLen at hm
    have h1 : 300 < n := by omega
    have LV := Lib.hid (lives10 w)
    clear hc hw hz h
    go_enter Try.func10, Try.ntmps10
    go_wp2_with fail
    refine LV.out.mono ?_
    rintro e w9 ⟨rfl, b9⟩
    go_wp2
    go_ret
    exact ⟨rfl, b9⟩
end Go.Proofs.Ytiijlfpkninmgaa
