/-
  Package drr: New of any quanta, walked. No condition.
-/
import Derived.Test.YtiogfgkfipekbaaDr7
namespace Go.Proofs.Ytiogfgkfipekbaa
set_option linter.unusedVariables false
set_option linter.unusedSimpArgs false
open Go.ChangeShapes Go.WideShapes Go.ChangeAt Go.RowKit
attribute [local go_sem] alloc_drewN setCell_drewN

theorem dnew_count (a : Option Addr) (n c : Nat) (hn : n < 1 ∨ 64 < n) (hm : n ≤ maxLen) (w : World) : Calls Try.prog 34 #[.slice a n c] w fun e w' => e = .returned (.tuple #[.pointer none, .int .i64 29]) ∧ Below w.heap.size w w' := by
  unfold maxLen at hm
  rcases hn with hn | hn
  · have h1 : (n : Int) < 1 := by omega
    go_enter Try.func34, Try.ntmps34
    go_wp2
    go_ret2
    exact ⟨rfl, Below.refl _ _⟩
  · have h1 : ¬ (n : Int) < 1 := by omega
    have h2 : (64 : Int) < n := by omega
    go_enter Try.func34, Try.ntmps34
    go_wp2
    go_ret2
    exact ⟨rfl, Below.refl _ _⟩
def QuOk (n : Nat) (zs : List Int) : Prop := ∀ j, j < n → 64 ≤ zs.getD j 0 ∧ zs.getD j 0 ≤ 4294967296
set_option maxRecDepth 100000 in
set_option maxHeartbeats 4000000 in
theorem dnew {w : World} (a : Option Addr) (n c : Nat) (zs : List Int) (h0 : 1 ≤ n) (h1 : n ≤ 64) (hr : Row1 .u64 w a n zs) : Calls Try.prog 34 #[.slice a n c] w fun e w' => Below w.heap.size w w' ∧ ((¬ QuOk n zs ∧ e = .returned (.tuple #[.pointer none, .int .i64 6])) ∨ (QuOk n zs ∧ ∃ T In, e = .returned (.tuple #[.pointer (some ⟨T, 0, none⟩), .int .i64 0]) ∧ DrG w' w.heap.size T (Ts.new n zs) In)) := by
  obtain ⟨s0, sif, sz0, sz1, sz2⟩ := info_parts sinfo
  have HR := Lib.hid hr
  have RN := Lib.hid (new_okI (n : Int) (by omega) (by omega) w)
  have g1 : ¬ (n : Int) < 1 := by omega
  have g2 : ¬ (64 : Int) < n := by omega
  clear hr
  go_enter Try.func34, Try.ntmps34
  go_wp2_with fail
  refine RN.out.mono ?_
  rintro e w1 ⟨rfl, r1, b1⟩
  have R1 := Lib.hid r1; have B1 := Lib.hid b1
  clear r1 b1 RN
  go_wp2_with (at_make; refine wpList_make_full _ rfl _ _ 148 rfl w1.heap.size 157 s0 (.agg #[.int .u64 0, .int .u64 0, .pointer none]) 3 Try.underlying148 sif sz0 sz1 _ _ _ _ n rfl rfl rfl rfl (by rw [sz2]; omega) (by unfold maxLen; omega) (Nat.le_refl _) ?_; intro w2 ho2 hg2; have HO2 := Lib.hid ho2; have HG2 := Lib.hid hg2; clear ho2 hg2)
  have B2 := Lib.hid ((B1.out).trans (((Below.refl _ w1).grown HG2.out (Nat.le_refl _) (by simp)).mono B1.out.size))
  have N0 := Lib.hid (show DrN (w2.alloc (.cells #[.slice (some ⟨w1.heap.size, 0, none⟩) n n, .pointer (some ⟨w.heap.size, 0, none⟩), .bool false] 150)) w.heap.size w2.heap.size w1.heap.size n w.heap.size [] from by
    have hb := (Below.refl _ w2).alloc (Nat.le_refl _) (.cells #[.slice (some ⟨w1.heap.size, 0, none⟩) n n, .pointer (some ⟨w.heap.size, 0, none⟩), .bool false] 150)
    have hb2 := (Below.refl _ w1).grown HG2.out (Nat.le_refl _) (by simp)
    have o2 := HO2.out
    rw [smade] at o2
    refine ⟨heap_alloc_new w2 _, B2.out.size, ?_, (R1.out.below (hb2)).below hb, fun x hx => (by cases hx), List.Pairwise.nil, Nat.zero_le _⟩
    have o3 := own_onD o2 (w' := w2.alloc (.cells #[.slice (some ⟨w1.heap.size, 0, none⟩) n n, .pointer (some ⟨w.heap.size, 0, none⟩), .bool false] 150)) (fun j hj => hb.block j (World.ownsRow.lt o2 j hj).2)
    refine ⟨o3.1, ?_⟩
    rcases o3.2 with hx | ⟨g, cap, cur, e1, h1, rest⟩
    · exact Or.inl hx
    · exact Or.inr ⟨g, cap, cur, e1, Nat.le_trans B1.out.size h1, rest⟩)
  have B3 := Lib.hid (B2.out.alloc B2.out.size (.cells #[.slice (some ⟨w1.heap.size, 0, none⟩) n n, .pointer (some ⟨w.heap.size, 0, none⟩), .bool false] 150))
  have GB := Lib.hid B1.out.size
  go_wp2
  generalize w2.alloc (.cells #[.slice (some ⟨w1.heap.size, 0, none⟩) n n, .pointer (some ⟨w.heap.size, 0, none⟩), .bool false] 150) = w3 at *
  generalize w2.heap.size = T at *
  generalize w1.heap.size = g at *
  clear HO2 HG2 B2 R1 B1
  go_loopw [36] (fun z wr => ∃ (i : Nat) (xs : List (Int × Nat)), z = .int .i64 i ∧ i ≤ n ∧ xs.length = i ∧ Hid (DrN wr w.heap.size T g n w.heap.size xs) ∧ Hid (xs.map (·.1) = zs.take i) ∧ Hid (∀ j, j < i → 64 ≤ zs.getD j 0 ∧ zs.getD j 0 ≤ 4294967296) ∧ Hid (Below w.heap.size w wr)) (fun z _ => n - (intOf z).toNat)
  case atStart => exact ⟨0, [], rfl, Nat.zero_le _, rfl, N0, Lib.hid rfl, Lib.hid (fun j hj => absurd hj (Nat.not_lt_zero _)), B3⟩
  case round =>
    obtain ⟨i, xs, rfl, hi, hxl, HN, HX, HQ, HB⟩ := hrel
    have HXL := Lib.hid hxl
    clear hxl N0 B3
    by_cases hlt : i < n
    · obtain ⟨zl, zm, zw, zc⟩ := HR.out
      obtain ⟨b, off, rfl, hb0, hcs⟩ := zc (by omega)
      have zc0 := (HB.out.cell (p := ⟨b, off + i, none⟩) hb0).trans (hcs i hlt)
      have z0 : (0 : Int) ≤ i := by omega
      have z1 : (i : Int) < n := by omega
      obtain ⟨q, hq⟩ : ∃ q, zs.getD i 0 = q := ⟨_, rfl⟩
      have HQI := Lib.hid hq
      have HTK := Lib.hid (show zs.take (i + 1) = zs.take i ++ [q] by
        rw [List.take_succ_eq_append_getElem (by omega), ← hq, List.getD_eq_getElem?_getD, List.getElem?_eq_getElem (by omega)]
        rfl)
      rw [hq] at zc0
      clear zl zm zw zc hcs hq
      by_cases hb1 : q < 64
      · have NB := Lib.hid (show ¬ QuOk n zs from fun h => by have := (h i hlt).1; rw [HQI.out] at this; omega)
        go_wp2
        go_ret2
        exact ⟨HB.out, Or.inl ⟨NB.out, rfl⟩⟩
      · by_cases hb2 : 4294967296 < q
        · have NB := Lib.hid (show ¬ QuOk n zs from fun h => by have := (h i hlt).2; rw [HQI.out] at this; omega)
          go_wp2
          go_ret2
          exact ⟨HB.out, Or.inl ⟨NB.out, rfl⟩⟩
        · have QN := Lib.hid (qnew_okI 1024 (by decide) (by decide) wr)
          have HQ2 := Lib.hid (show ∀ j, j < i + 1 → 64 ≤ zs.getD j 0 ∧ zs.getD j 0 ≤ 4294967296 from fun j hj => by
            by_cases e : j = i
            · rw [e, HQI.out]; omega
            · exact HQ.out j (by omega))
          go_wp2_with fail
          refine QN.out.mono ?_
          rintro e w4 ⟨rfl, r4, b4⟩
          have N4 := Lib.hid (HN.out.below b4)
          have NX := Lib.hid (HN.out.next (by rw [HXL.out]; exact hlt) q b4 HB.out.size r4)
          have hcell : ∀ q9, q9 < 3 → ∃ u, w4.cell? ⟨g, i * 3 + q9, none⟩ = some u ∧ w4.frozen? ⟨g, i * 3 + q9, none⟩ = false := fun q9 hq9 => by
            have o := N4.out.oc
            have hl := o.1
            refine ⟨_, (o.cellAt (i * 3 + q9) (by omega)).trans (List.getElem?_eq_getElem (by omega)), o.frozenAt _⟩
          obtain ⟨v0, d0, x0⟩ := hcell 0 (by omega)
          obtain ⟨v1, d1, x1⟩ := hcell 1 (by omega)
          obtain ⟨v2, d2, x2⟩ := hcell 2 (by omega)
          rw [Nat.add_zero] at d0 x0
          have t0 : w4.cell? ⟨T, 0, none⟩ = some (.slice (some ⟨g, 0, none⟩) n n) := cell_of_row w4 T 0 _ _ (0, 0) N4.out.blk
          rw [HXL.out] at NX
          clear r4 b4 QN hcell N4
          go_wp2
          go_roundw
          case rel =>
            exact ⟨i + 1, xs ++ [(q, wr.heap.size)], by go_num, by omega, by rw [List.length_append, HXL.out]; rfl, Lib.hid NX.out.1, Lib.hid (by rw [List.map_append, HX.out, HTK.out]; rfl), HQ2, Lib.hid (HB.out.trans (NX.out.2 GB.out))⟩
          case measure => simp [intOf] <;> omega
    · obtain rfl : i = n := by omega
      have DN := Lib.hid (HN.out.done HXL.out h0 h1 HX.out HR.out.1 HQ.out)
      have QO := Lib.hid (show QuOk i zs from HQ.out)
      go_wp2
      go_ret2
      obtain ⟨In, hIn⟩ := DN.out
      exact ⟨HB.out, Or.inr ⟨QO.out, _, In, rfl, hIn⟩⟩
end Go.Proofs.Ytiogfgkfipekbaa
