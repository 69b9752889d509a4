/-
  The law of keeping of layer 7, walked: true for any number and any acts. No condition.
-/
import Derived.Test.YtkgiaijcgblpbaaKeep7
import Derived.Test.YtkgiaijcgblpbaaCopyK
import Derived.Test.YtkgiaijcgblpbaaLives7
import Derived.Test.YtkgiaijcgblpbaaOpen3
import Derived.Deep.CutBlock
import Derived.Deep.DeepCutAuto
import Derived.Maps.AppendAt
import Derived.Maps.Range
namespace Go.Proofs.Ytkgiaijcgblpbaa
set_option linter.unusedVariables false
set_option linter.unusedSimpArgs false
open Go.ChangeShapes Go.WideShapes Go.ChangeAt Go.RowKit
attribute [local go_sem] alloc_drewN setCell_drewN

theorem Took.lt {es es' : List EntI} {fr fr' : List Int} {x : Int} {k : Nat} {qs : List (Int × Int × Int)} {Ls : List (List Int)} (h : PInv es fr qs Ls) (t : Took es fr x k es' fr') : k < es'.length := by
  rcases t with ⟨_, rfl, rfl, _⟩ | ⟨hf, rfl⟩
  · simp
  · have hm : (k : Int) ∈ fr := by rw [hf]; simp
    have := (h.fb _ hm).2
    rw [List.length_set]; omega
theorem flat3 (a b c : List Int) : [a, b, c].flatten = a ++ b ++ c := by simp
theorem Ints.lower {w : World} {b b2 : Nat} {v : Value} {xs : List Int} (h : Ints w b v xs) (hb : b2 ≤ b) : Ints w b2 v xs := by
  refine ⟨h.1, ?_⟩
  rcases h.2 with hh | ⟨g, cap, cur, e, hg, rest⟩
  · exact Or.inl hh
  · exact Or.inr ⟨g, cap, cur, e, Nat.le_trans hb hg, rest⟩
/-- A slice of numbers: its address, or nothing at all. -/
theorem Ints.src {w : World} {base : Nat} {v : Value} {xs : List Int} (h : Ints w base v xs) : (v = .slice none 0 0 ∧ xs = []) ∨ ∃ g c, v = .slice (some ⟨g, 0, none⟩) xs.length c ∧ ∀ j u, (xs.map (Value.int .i64))[j]? = some u → w.cell? ((⟨g, 0, none⟩ : Addr).add j) = some u := by
  have h' := h
  unfold Ints at h'
  rcases h'.2 with ⟨rfl, h0⟩ | ⟨g, cap, cur, rfl, hb, hg, h1, _⟩
  · exact Or.inl ⟨rfl, List.eq_nil_of_length_eq_zero h0⟩
  · exact Or.inr ⟨g, cap, rfl, fun j u hj => h'.cells (g := g) rfl j u hj⟩
theorem infoB7 : (Try.prog.info? 4).map (fun i => (i.zero, i.size, i.bytes)) = some (some (.bool false), 1, 1) := by kernel_rfl
set_option maxRecDepth 100000 in
set_option maxHeartbeats 4000000 in
theorem keeps7_at (most : Int) (m0 : 0 ≤ most) (m1 : most ≤ 255) (b off c : Nat) (zs : List Act7) (hn : zs.length ≤ 200) (hok : ∀ x ∈ zs, x.ok) (w : World) (hb : b < w.heap.size)
    (hc : ∀ i, i < zs.length → w.cell? ⟨b, off + i * 3, none⟩ = some (.int .u8 (zs.getD i Act7.nil).k) ∧ w.cell? ⟨b, off + i * 3 + 1, none⟩ = some (.int .i64 (zs.getD i Act7.nil).q) ∧ w.cell? ⟨b, off + i * 3 + 2, none⟩ = some (.int .i64 (zs.getD i Act7.nil).n)) :
    Calls Try.prog 4 #[.int .u8 most, .slice (some ⟨b, off, none⟩) zs.length c] w fun e w' => e = .returned (.bool true) ∧ Below w.heap.size w w' := by
  obtain ⟨i0, hi0, hz0, hz1, hz2⟩ := info_parts infoNI
  obtain ⟨j0, hj0, hy0, hy1, hy2⟩ := info_parts infoB7
  have HC := Lib.hid hc; have HOK := Lib.hid hok
  obtain ⟨n, hN⟩ : ∃ n, n = zs.length := ⟨_, rfl⟩
  have HN := Lib.hid hN
  rw [← hN] at hn ⊢
  clear hc hok hN
  have n200 : ¬ (200 : Int) < n := by omega
  obtain ⟨m, hm⟩ : ∃ m : Nat, (m : Int) = most % 40 + 1 := ⟨(most % 40 + 1).toNat, by omega⟩
  have hm1 : 1 ≤ m := by omega
  have hm2 : m ≤ 40 := by omega
  have LV := Lib.hid (fun w => lives7 w)
  have NW := Lib.hid (show Calls Try.prog 13 #[.int .i64 (m : Int), .int .i64 3] w _ from new_okPI m 3 (by omega) (by omega) (by omega) w)
  have HM := Lib.hid hm
  have w1 : IntKind.i64.wrap (most % 40 + 1) = (m : Int) := by rw [IntKind.wrap_i64]; omega
  have w2 : most % 40 + 1 = (m : Int) := hm.symm
  clear hm
  go_enter Try.func4, Try.ntmps4
  go_wp2_with fail
  refine NW.out.mono ?_
  rintro e w1 ⟨B, rfl, h1, b1⟩
  have G1 := Lib.hid (PoolG.start h1)
  have B1 := Lib.hid b1
  clear h1 b1
  go_wp2_with (first
    | (at_make; refine wpList_make_full _ rfl _ _ 47 rfl w.heap.size 4 j0 (.bool false) 1 Try.underlying47 hj0 hy0 hy1 _ _ _ _ m rfl rfl rfl rfl (by rw [hy2]; omega) (by unfold maxLen; omega) (Nat.le_trans B1.out.size HG2.out.size) ?_; intro W3 ho3 hg3; have HO3 := Lib.hid ho3; have HG3 := Lib.hid hg3; clear ho3 hg3)
    | (at_make; refine wpList_make_full _ rfl _ _ 32 rfl w.heap.size 3 i0 (.int .i64 0) 1 Try.underlying32 hi0 hz0 hz1 _ _ _ _ m rfl rfl rfl rfl (by rw [hz2]; omega) (by unfold maxLen; omega) B1.out.size ?_; intro W2 ho2 hg2; have HO2 := Lib.hid ho2; have HG2 := Lib.hid hg2; clear ho2 hg2))
  have M0 : Hid (Mem7 w W3 B w1.heap.size W2.heap.size m (.slice none 0 0) (.slice none 0 0) (.slice (some ⟨w.heap.size, 0, none⟩) 3 3) [] [] (List.replicate 3 (0, 0, 0)) (List.replicate 3 []) (List.replicate m 0) (List.replicate m false)) := by
    have hb2 : Below w1.heap.size w1 W2 := (Below.refl _ _).grown HG2.out (Nat.le_refl _) (by simp)
    have hb3 : Below W2.heap.size W2 W3 := (Below.refl _ _).grown HG3.out (Nat.le_refl _) (by simp)
    have g2 := G1.out.below hb2
    have g3 := g2.below hb3
    have e2 : (madeCells (Value.int .i64 0).cells (m * 1)).toList = (List.replicate m 0).map (Value.int .i64) := by
      simp [madeCells, Value.cells, List.map_const', List.eq_replicate_iff]
      intro a _; rw [Nat.mod_one]; rfl
    have e3 : (madeCells (Value.bool false).cells (m * 1)).toList = (List.replicate m false).map Value.bool := by
      simp [madeCells, Value.cells, List.map_const', List.eq_replicate_iff]
      intro a _; rw [Nat.mod_one]; rfl
    have o2 := HO2.out
    have o3 := HO3.out
    rw [e2] at o2
    rw [e3] at o3
    have s1 : w1.heap.size < W2.heap.size := (World.ownsRow.lt o2 _ rfl).2
    refine Lib.hid ⟨g3, rfl, (B1.out.trans (hb2.mono B1.out.size)).trans (hb3.mono (Nat.le_trans B1.out.size hb2.size)), own_on o2 (fun j hj => hb3.block j ?_), o3, List.length_replicate .., List.length_replicate .., fun hx => ?_, fun hx => ?_, by omega⟩
    · obtain rfl : w1.heap.size = j := by injection hj
      exact s1
    · have := (G1.out.mem.inlt hx).2; omega
    · have := (g2.mem.inlt hx).2; omega
  have T0 : Hid (Tel7 m [] (List.replicate m 0) (List.replicate m false)) := Lib.hid ⟨List.length_replicate .., List.length_replicate .., fun k hk => by
    rw [List.getD_eq_getElem?_getD, List.getElem?_replicate, if_pos hk, tkOf_outI _ _ (Or.inr (by simp))]; rfl, fun k hk ht => by rw [tkOf_outI _ _ (Or.inr (by simp))] at ht; cases ht⟩
  clear HO2 HO3 HG2 HG3 G1 B1 NW
  generalize w1.heap.size = Hb at *
  generalize W2.heap.size = Ib at *
  go_loopw [45] (fun x wr => ∃ (i : Nat) (ve vf vq : Value) (es : List EntI) (fr : List Int) (qs : List (Int × Int × Int)) (Ls : List (List Int)) (hs : List Int) (is : List Bool), x = .int .i64 i ∧ i ≤ n ∧ Mem7 w wr B Hb Ib m ve vf vq es fr qs Ls hs is ∧ Tel7 m es hs is) (fun x _ => n - (intOf x).toNat)
  case atStart => exact ⟨0, _, _, _, _, _, _, _, _, _, rfl, Nat.zero_le _, M0.out, T0.out⟩
  case round =>
    clear M0 T0
    obtain ⟨i, ve, vf, vq, es, fr, qs, Ls, hs, is, rfl, hi, hM, hT⟩ := hrel
    by_cases hin : i < n
    · have g1 : (i : Int) < n := by omega
      have g0 : (0 : Int) ≤ i := by omega
      obtain ⟨z0, z1, z2⟩ := HC.out i (by rw [← HN.out]; exact hin)
      have z0 := (hM.b.cell (p := ⟨b, off + i * 3, none⟩) hb).trans z0
      have z1 := (hM.b.cell (p := ⟨b, off + i * 3 + 1, none⟩) hb).trans z1
      have z2 := (hM.b.cell (p := ⟨b, off + i * 3 + 2, none⟩) hb).trans z2
      have hz := HOK.out (zs.getD i Act7.nil) (by rw [List.getD_eq_getElem?_getD, List.getElem?_eq_getElem (by rw [← HN.out]; exact hin)]; exact List.getElem_mem _)
      obtain ⟨⟨k0, k1⟩, ⟨q0, q1⟩, ⟨n0, n1⟩⟩ := hz
      generalize (zs.getD i Act7.nil).k = κ at *
      generalize (zs.getD i Act7.nil).q = Q at *
      generalize (zs.getD i Act7.nil).n = N at *
      have HI := Lib.hid hin
      have HMM := Lib.hid hM; have HTT := Lib.hid hT
      clear hM hT hi
      go_upto_block 2 with (fail)
      obtain ⟨k, hk, hkm⟩ : ∃ k : Nat, wrap64 ((IntKind.u64.wrap N).tmod (m : Int)) = (k : Int) ∧ k < m := by
        have e1 : 0 ≤ IntKind.u64.wrap N := by rw [IntKind.wrap_u64]; omega
        rw [Int.tmod_eq_emod_of_nonneg e1]
        have e2 := Int.emod_nonneg (IntKind.u64.wrap N) (b := (m : Int)) (by omega)
        have e3 := Int.emod_lt_of_pos (IntKind.u64.wrap N) (b := (m : Int)) (by omega)
        refine ⟨(IntKind.u64.wrap N % (m : Int)).toNat, ?_, by omega⟩
        unfold wrap64
        omega
      rw [hk]
      clear hk
      have q00 : 0 ≤ κ % 8 := by omega
      have q07 : κ % 8 ≤ 7 := by omega
      generalize κ % 8 = q at *
      have hbl : Below wr.heap.size wr (wr.alloc (.cells #[.int .u8 κ, .int .i64 Q, .int .i64 N] 36)) := (Below.refl _ _).alloc (Nat.le_refl _) _
      have M2 := Lib.hid (HMM.out.on hbl)
      have cA1 : (wr.alloc (.cells #[.int .u8 κ, .int .i64 Q, .int .i64 N] 36)).cell? ⟨wr.heap.size, 1, none⟩ = some (.int .i64 Q) := by simp [go_sem]
      clear HMM z0 z1 z2 hbl
      generalize wr.alloc (.cells #[.int .u8 κ, .int .i64 Q, .int .i64 N] 36) = wa at *
      generalize wr.heap.size = A at *
      go_cut [12] (fun y wx => ∃ (ve vf vq : Value) (es : List EntI) (fr : List Int) (qs : List (Int × Int × Int)) (Ls : List (List Int)) (hs : List Int) (is : List Bool), Mem7 w wx B Hb Ib m ve vf vq es fr qs Ls hs is ∧ Tel7 m es hs is)
      case first =>
        have hbs : w.heap.size ≤ wa.heap.size := M2.out.b.size
        have TK := Lib.hid (takeG M2.out.g (i : Int) hbs)
        have GV := Lib.hid (giveG M2.out.g (k : Int) hbs)
        have AP := Lib.hid (fun x => appendG M2.out.g x (k : Int))
        have PP := Lib.hid (fun x => popG M2.out.g x)
        have k00 : (0 : Int) ≤ k := by omega
        have k01 : (k : Int) < m := by omega
        have hq : q = 0 ∨ q = 1 ∨ q = 2 ∨ q = 3 ∨ q = 4 ∨ q = 5 ∨ q = 6 ∨ q = 7 := by omega
        clear q00 q07
        rcases hq with rfl | rfl | rfl | rfl | rfl | rfl | rfl | rfl
        iterate 3
          · as_aux_lemma =>
              go_wp2_with fail
              refine TK.out.mono ?_
              rintro e w4 ⟨a, d, rfl, ⟨rfl, rfl, -, nd, rfl⟩ | ⟨rfl, hlt, k', rfl, ve', vf', es', fr', tk, g', mv⟩⟩
              · have M4 := Lib.hid (M2.out.on (below_drewN nd (Below.refl _ _)))
                go_wp2
                go_meet
                case rel => exact ⟨_, _, _, _, _, _, _, _, _, M4.out, HTT.out⟩
              · have hk' : k' < m := by
                  have h1 := tk.lt M2.out.g.inv
                  have h2 := g'.mem.le
                  omega
                obtain ⟨hf, t4⟩ := HTT.out.took M2.out.g.inv tk hk'
                have M4 := Lib.hid (M2.out.mv mv g' M2.out.l3)
                have T4 := Lib.hid t4
                have F4 := Lib.hid ((M4.out.setH k' i).setI k' true)
                have ci := M4.out.ir.cellAt k' (by omega)
                rw [List.getElem?_map, List.getElem?_eq_getElem (by rw [M4.out.il]; exact hk')] at ci
                have hf' : is[k']'(by rw [M4.out.il]; exact hk') = false := by
                  rw [List.getD_eq_getElem?_getD, List.getElem?_eq_getElem (by rw [M4.out.il]; exact hk')] at hf
                  exact hf
                rw [hf'] at ci
                have fi := M4.out.ir.frozenAt k'
                have ch := M4.out.hr.cellAt k' (by omega)
                rw [List.getElem?_map, List.getElem?_eq_getElem (by rw [M4.out.hl]; exact hk')] at ch
                have fh := M4.out.hr.frozenAt k'
                have nHI : ¬ Hb = Ib := M4.out.ne
                have p0 : (0 : Int) ≤ k' := by omega
                have p1 : (k' : Int) < m := by omega
                have p2 : ¬ (k' : Int) < 0 := by omega
                have p3 : ¬ (m : Int) ≤ k' := by omega
                clear tk g' mv hf hf' t4
                simp only [Option.map_some] at ci ch
                generalize hs[k']'(by rw [M4.out.hl]; exact hk') = old at *
                go_wp2
                go_meet
                case rel => exact ⟨_, _, _, _, _, _, _, _, _, F4.out, T4.out⟩
        iterate 2
          · as_aux_lemma =>
              go_wp2_with fail
              refine GV.out.mono ?_
              rintro e w4 ⟨a, c, rfl, ⟨rfl, rfl, -, hw⟩ | ⟨rfl, rfl, -, -, hw⟩ | ⟨rfl, -, k', hkk, hke, htk, rfl, vf', g', mv⟩⟩
              · have hw := hw.symm
                subst hw
                go_wp2
                go_meet
                case rel => exact ⟨_, _, _, _, _, _, _, _, _, M2.out, HTT.out⟩
              · have hw := hw.symm
                subst hw
                go_wp2
                go_meet
                case rel => exact ⟨_, _, _, _, _, _, _, _, _, M2.out, HTT.out⟩
              · obtain rfl : k = k' := by omega
                obtain ⟨h1, h2, t4⟩ := HTT.out.gave k hkm hke htk
                have M4 := Lib.hid (M2.out.mv mv g' M2.out.l3)
                have T4 := Lib.hid t4
                have F4 := Lib.hid (M4.out.setI k false)
                have ci := M4.out.ir.cellAt k (by omega)
                rw [List.getElem?_map, List.getElem?_eq_getElem (by rw [M4.out.il]; exact hkm)] at ci
                have h1' : is[k]'(by rw [M4.out.il]; exact hkm) = true := by
                  rw [List.getD_eq_getElem?_getD, List.getElem?_eq_getElem (by rw [M4.out.il]; exact hkm)] at h1
                  exact h1
                rw [h1'] at ci
                have fi := M4.out.ir.frozenAt k
                have ch := M4.out.hr.cellAt k (by omega)
                rw [List.getElem?_map, List.getElem?_eq_getElem (by rw [M4.out.hl]; exact hkm)] at ch
                have h2' : hs[k]'(by rw [M4.out.hl]; exact hkm) = (es[k]).x := by
                  rw [List.getD_eq_getElem?_getD, List.getElem?_eq_getElem (by rw [M4.out.hl]; exact hkm)] at h2
                  exact h2
                rw [h2'] at ch
                clear g' mv h1 h1' h2 h2' t4 hkk
                simp only [Option.map_some] at ci ch
                generalize (es[k]).x = ex at *
                go_wp2
                go_meet
                case rel => exact ⟨_, _, _, _, _, _, _, _, _, F4.out, T4.out⟩
        iterate 2
          · as_aux_lemma =>
              go_wp2_with fail
              refine (AP.out _).mono ?_
              rintro e w4 ⟨c, rfl, ⟨rfl, -, hw⟩ | ⟨j, -, hj, hj', ⟨rfl, -, hw⟩ | ⟨rfl, -, -, hw⟩ | ⟨rfl, -, -, es', qs', g', hql, hel, hee, mv⟩⟩⟩
              iterate 3
                · have hw := hw.symm
                  subst hw
                  go_wp2
                  go_meet
                  case rel => exact ⟨_, _, _, _, _, _, _, _, _, M2.out, HTT.out⟩
              · have M4 := Lib.hid (M2.out.mv mv g' (by rw [List.length_set]; exact M2.out.l3))
                have T4 := Lib.hid (HTT.out.same hel hee)
                clear g' mv hee
                go_wp2
                go_meet
                case rel => exact ⟨_, _, _, _, _, _, _, _, _, M4.out, T4.out⟩
        · as_aux_lemma =>
            go_wp2_with fail
            refine (PP.out _).mono ?_
            rintro e w4 ⟨a, d, rfl, ⟨rfl, rfl, -, nd, rfl⟩ | ⟨rfl, j, -, hj, hj', k', rest, rfl, -, hke, g', mv⟩⟩
            · have M4 := Lib.hid (M2.out.on (below_drewN nd (Below.refl _ _)))
              go_wp2
              go_meet
              case rel => exact ⟨_, _, _, _, _, _, _, _, _, M4.out, HTT.out⟩
            · have M4 := Lib.hid (M2.out.mv mv g' (by rw [List.length_set]; exact M2.out.l3))
              have T4 := Lib.hid (HTT.out.popped k' hke)
              clear g' mv
              go_wp2
              go_meet
              case rel => exact ⟨_, _, _, _, _, _, _, _, _, M4.out, T4.out⟩
      case rest =>
        obtain ⟨ve, vf, vq, es, fr, qs, Ls, hs, is, M, T⟩ := hcut
        generalize wc = wy at *
        obtain ⟨L0, L1, L2, rfl⟩ := three Ls M.l3
        have hfl : ([L0, L1, L2].flatten).length ≤ 40 := by
          have h1 := nodup_bound es.length _ M.g.inv.qn (fun x hx => by
            obtain ⟨j, rfl, hj, _⟩ := M.g.inv.qt x hx
            omega)
          have h2 := M.g.mem.le
          omega
        have hlen : L0.length + L1.length + L2.length ≤ 40 := by simpa [Nat.add_assoc] using hfl
        have Q0 := Lib.hid (show Calls Try.prog 22 #[.pointer (some ⟨B, 0, none⟩), .int .i64 0] wy (fun e w' => ∃ v, e = .returned v ∧ Ints w' wy.heap.size v L0 ∧ Below wy.heap.size wy w') from queueG M.g 0)
        have Q1 := Lib.hid (fun W (hW : Below wy.heap.size wy W) => show Calls Try.prog 22 #[.pointer (some ⟨B, 0, none⟩), .int .i64 1] W (fun e w' => ∃ v, e = .returned v ∧ Ints w' W.heap.size v L1 ∧ Below W.heap.size W w') from queueG (M.g.below hW) 1)
        have Q2 := Lib.hid (fun W (hW : Below wy.heap.size wy W) => show Calls Try.prog 22 #[.pointer (some ⟨B, 0, none⟩), .int .i64 2] W (fun e w' => ∃ v, e = .returned v ∧ Ints w' W.heap.size v L2 ∧ Below W.heap.size W w') from queueG (M.g.below hW) 2)
        have MM := Lib.hid M; have TT := Lib.hid T
        clear M T hfl
        go_upto_region 33 with (fail)
        go_cut [17] (fun y wx => ∃ va, va = y ∧ Ints wx wy.heap.size va (L0 ++ L1 ++ L2) ∧ Below wy.heap.size wy wx)
        case first =>
          go_wp2_with fail
          refine Q0.out.mono ?_
          rintro e w5 ⟨v0, rfl, i0', b5⟩
          have B5 := Lib.hid b5
          have I0 := Lib.hid i0'
          clear b5 i0'
          go_wp2_with fail
          refine (Q1.out _ B5.out).mono ?_
          rintro e w6 ⟨v1, rfl, i1', b6⟩
          have B6 := Lib.hid (B5.out.trans (b6.mono B5.out.size))
          have J0 := Lib.hid (I0.out.below b6)
          have hsrc := i1'.src
          clear b6 i1'
          have HO0 : Hid (w6.ownsRow wy.heap.size 3 1 v0 L0.length (L0.map (Value.int .i64))) := Lib.hid J0.out
          have fin2 : Hid (∀ w7 v3, Ints w7 wy.heap.size v3 (L0 ++ L1) → Below wy.heap.size wy w7 → ∀ e w8, (∃ v, e = Ending.returned v ∧ Ints w8 w7.heap.size v L2 ∧ Below w7.heap.size w7 w8) → ∃ v, e = Ending.returned v ∧ Hid (Ints w8 w7.heap.size v L2) ∧ Hid (w8.ownsRow wy.heap.size 3 1 v3 (L0.length + L1.length) ((L0 ++ L1).map (Value.int .i64))) ∧ Hid (Below wy.heap.size wy w8)) := Lib.hid (fun w7 v3 h1 h2 e w8 ⟨v, he, h3, h4⟩ => ⟨v, he, Lib.hid h3, Lib.hid (by have := h1.below h4; unfold Ints at this; rw [List.length_append] at this; exact this), Lib.hid (h2.trans (h4.mono h2.size))⟩)
          have fin3 : Hid (∀ w8 v4, w8.ownsRow wy.heap.size 3 1 v4 (L0.length + L1.length + L2.length) ((L0 ++ L1).map (Value.int .i64) ++ L2.map (Value.int .i64)) → Ints w8 wy.heap.size v4 (L0 ++ L1 ++ L2)) := Lib.hid (fun w8 v4 h => by unfold Ints; rw [List.length_append, List.length_append, List.map_append]; exact h)
          have fin1 : Hid (∀ w8 v4, w8.ownsRow wy.heap.size 3 1 v4 (L0.length + L1.length) (L0.map (Value.int .i64) ++ L1.map (Value.int .i64)) → Ints w8 wy.heap.size v4 (L0 ++ L1)) := Lib.hid (fun w8 v4 h => by unfold Ints; rw [List.length_append, List.map_append]; exact h)
          rcases hsrc with ⟨rfl, h1e⟩ | ⟨g1, c1, rfl, hc1⟩
          · have D7 : Hid (Ints w6 wy.heap.size v0 (L0 ++ L1)) := Lib.hid (by rw [h1e, List.append_nil]; exact J0.out)
            go_wp2_with (at_builtin; refine wpList_append_own_none rfl _ _ 32 rfl wy.heap.size 3 i0 1 Try.underlying32 hi0 v0 _ _ rfl HO0.out rfl ?_)
            refine (Q2.out _ B6.out).mono (fun e w8 h8 => ?_)
            obtain ⟨v2, rfl, I2, HO3, B8⟩ := fin2.out w6 v0 D7.out B6.out e w8 h8
            clear h8
            rcases I2.out.src with ⟨rfl, h2e⟩ | ⟨g2, c2, rfl, hc2⟩
            · have D9 : Hid (Ints w8 wy.heap.size v0 (L0 ++ L1 ++ L2)) := Lib.hid (by rw [h2e, List.append_nil]; unfold Ints; rw [List.length_append]; exact HO3.out)
              go_wp2_with (at_builtin; refine wpList_append_own_none rfl _ _ 32 rfl wy.heap.size 3 i0 1 Try.underlying32 hi0 v0 _ _ rfl HO3.out rfl ?_)
              go_meet
              case rel => exact ⟨_, rfl, D9.out, B8.out⟩
            · have HC2 := Lib.hid hc2
              clear hc2
              go_wp2_with (at_builtin; refine wpList_append_own_at _ rfl _ _ 32 rfl wy.heap.size 3 i0 (.int .i64 0) 1 8 Try.underlying32 hi0 hz0 hz1 hz2 rfl (by decide) v0 _ _ rfl HO3.out ⟨g2, 0, none⟩ L2.length c2 _ rfl (by simp) HC2.out (fun u hu => by obtain ⟨y, _, rfl⟩ := List.mem_map.1 hu; rfl) (by unfold maxLen; omega) (by omega) B8.out.size ?_; intro v4 w9 ho9 hg9 hn9 hat9; clear hn9 hat9)
              have D9 := Lib.hid (fin3.out _ _ ho9)
              have B9 := Lib.hid (B8.out.grown hg9 B8.out.size (fun j hj => (World.ownsRow.lt HO3.out j hj).1))
              clear ho9 hg9
              go_meet
              case rel => exact ⟨_, rfl, D9.out, B9.out⟩
          · have HC1 := Lib.hid hc1
            clear hc1
            go_wp2_with (at_builtin; refine wpList_append_own_at _ rfl _ _ 32 rfl wy.heap.size 3 i0 (.int .i64 0) 1 8 Try.underlying32 hi0 hz0 hz1 hz2 rfl (by decide) v0 _ _ rfl HO0.out ⟨g1, 0, none⟩ L1.length c1 _ rfl (by simp) HC1.out (fun u hu => by obtain ⟨y, _, rfl⟩ := List.mem_map.1 hu; rfl) (by unfold maxLen; omega) (by omega) B6.out.size ?_; intro v3 w7 ho7 hg7 hn7 hat7; clear hn7 hat7; have D7 := Lib.hid (fin1.out _ _ ho7); have B7 := Lib.hid (B6.out.grown hg7 B6.out.size (fun j hj => (World.ownsRow.lt HO0.out j hj).1)); clear ho7 hg7)
            refine (Q2.out _ B7.out).mono (fun e w8 h8 => ?_)
            obtain ⟨v2, rfl, I2, HO3, B8⟩ := fin2.out w7 v3 D7.out B7.out e w8 h8
            clear h8
            rcases I2.out.src with ⟨rfl, h2e⟩ | ⟨g2, c2, rfl, hc2⟩
            · have D9 : Hid (Ints w8 wy.heap.size v3 (L0 ++ L1 ++ L2)) := Lib.hid (by rw [h2e, List.append_nil]; unfold Ints; rw [List.length_append]; exact HO3.out)
              go_wp2_with (at_builtin; refine wpList_append_own_none rfl _ _ 32 rfl wy.heap.size 3 i0 1 Try.underlying32 hi0 v3 _ _ rfl HO3.out rfl ?_)
              go_meet
              case rel => exact ⟨_, rfl, D9.out, B8.out⟩
            · have HC2 := Lib.hid hc2
              clear hc2
              go_wp2_with (at_builtin; refine wpList_append_own_at _ rfl _ _ 32 rfl wy.heap.size 3 i0 (.int .i64 0) 1 8 Try.underlying32 hi0 hz0 hz1 hz2 rfl (by decide) v3 _ _ rfl HO3.out ⟨g2, 0, none⟩ L2.length c2 _ rfl (by simp) HC2.out (fun u hu => by obtain ⟨y, _, rfl⟩ := List.mem_map.1 hu; rfl) (by unfold maxLen; omega) (by omega) B8.out.size ?_; intro v4 w9 ho9 hg9 hn9 hat9; clear hn9 hat9)
              have D9 := Lib.hid (fin3.out _ _ ho9)
              have B9 := Lib.hid (B8.out.grown hg9 B8.out.size (fun j hj => (World.ownsRow.lt HO3.out j hj).1))
              clear ho9 hg9
              go_meet
              case rel => exact ⟨_, rfl, D9.out, B9.out⟩
        case rest =>
          obtain ⟨va, rfl, IA, BA⟩ := hcut
          have MC := Lib.hid (MM.out.on BA)
          obtain ⟨aa, ca, hva, -, hcell⟩ := IA.form
          have hall : (L0 ++ L1 ++ L2).length ≤ 40 := by rw [List.length_append, List.length_append]; omega
          have FND : Hid ((L0 ++ L1 ++ L2).Nodup) := Lib.hid (by rw [← flat3]; exact MM.out.g.inv.qn)
          have FME : Hid (∀ x ∈ L0 ++ L1 ++ L2, ∃ j : Nat, x = j ∧ j < m ∧ tkOfI es (j : Int) = true) := Lib.hid (fun x hx => by
            rw [← flat3] at hx
            obtain ⟨j, rfl, hj, ht⟩ := MM.out.g.inv.qt x hx
            have h2 := MM.out.g.mem.le
            exact ⟨j, rfl, by omega, by rw [tkOf_inI es j hj]; exact ht⟩)
          have HCL := Lib.hid hcell
          subst hva
          clear IA hcell
          generalize L0 ++ L1 ++ L2 = all at *
          obtain ⟨la, hla⟩ : ∃ la, la = all.length := ⟨_, rfl⟩
          have HLA := Lib.hid hla
          rw [← hla] at hall ⊢
          clear hla BA Q0 Q1 Q2 MM
          go_wp2_with (at_make; refine wpList_make_full _ rfl _ _ 47 rfl wc.heap.size 4 j0 (.bool false) 1 Try.underlying47 hj0 hy0 hy1 _ _ _ _ m rfl rfl rfl rfl (by rw [hy2]; omega) (by unfold maxLen; omega) (Nat.le_refl _) ?_; intro W3 ho3 hg3; have HO3 := Lib.hid ho3; have HG3 := Lib.hid hg3; clear ho3 hg3)
          have R3 : Hid (W3.ownsRow wc.heap.size 4 1 (.slice (some ⟨wc.heap.size, 0, none⟩) m m) m ((List.replicate m false).map Value.bool)) := by
            have e3 : (madeCells (Value.bool false).cells (m * 1)).toList = (List.replicate m false).map Value.bool := by
              simp [madeCells, Value.cells, List.map_const', List.eq_replicate_iff]
              intro a _; rw [Nat.mod_one]; rfl
            have o3 := HO3.out
            rw [e3] at o3
            exact Lib.hid o3
          have B3 : Hid (Below wc.heap.size wc W3) := Lib.hid ((Below.refl _ _).grown HG3.out (Nat.le_refl _) (by simp))
          clear HO3 HG3
          go_loopw [148] (fun x wq => ∃ (t : Nat) (sn : List Bool), x = .int .i64 t ∧ t ≤ la ∧ wq.ownsRow wc.heap.size 4 1 (.slice (some ⟨wc.heap.size, 0, none⟩) m m) m (sn.map Value.bool) ∧ Seen7 m all t sn ∧ Below wc.heap.size wc wq) (fun x _ => la - (intOf x).toNat)
          case atStart => exact ⟨0, _, rfl, Nat.zero_le _, R3.out, Seen7.start m all, B3.out⟩
          case round =>
            clear R3 B3
            obtain ⟨t, sn, rfl, ht, hrow, hsn, hb⟩ := hrel
            by_cases htl : t < la
            · have htl' : t < all.length := by rw [← HLA.out]; exact htl
              obtain ⟨g, rfl, hg, ct⟩ := HCL.out t htl'
              have ct := (hb.cell (p := ⟨g, t, none⟩) hg).trans ct
              obtain ⟨j, hj, hjm, hjt⟩ := FME.out all[t] (List.getElem_mem _)
              rw [List.getD_eq_getElem?_getD, List.getElem?_eq_getElem htl', Option.getD_some, hj] at ct
              obtain ⟨hs1, hs2⟩ := hsn.next FND.out htl' j hjm hj
              have cs := hrow.cellAt j (by omega)
              rw [List.getElem?_map, List.getElem?_eq_getElem (by rw [hsn.len]; exact hjm)] at cs
              have hs1' : sn[j]'(by rw [hsn.len]; exact hjm) = false := by
                rw [List.getD_eq_getElem?_getD, List.getElem?_eq_getElem (by rw [hsn.len]; exact hjm)] at hs1
                exact hs1
              rw [hs1'] at cs
              have fs := hrow.frozenAt j
              have MQ := MC.out.on hb
              have ci := MQ.ir.cellAt j (by omega)
              rw [List.getElem?_map, List.getElem?_eq_getElem (by rw [MQ.il]; exact hjm)] at ci
              have hi1 : is[j]'(by rw [MQ.il]; exact hjm) = true := by
                have h := TT.out.tk j hjm
                rw [List.getD_eq_getElem?_getD, List.getElem?_eq_getElem (by rw [MQ.il]; exact hjm), hjt] at h
                exact h
              rw [hi1] at ci
              have ST := Lib.hid (hrow.stored j (.bool true)).1
              have SN := Lib.hid hs2
              have BQ := Lib.hid hb
              have t0 : (0 : Int) ≤ t := by omega
              have t1 : (t : Int) < la := by omega
              have p0 : (0 : Int) ≤ j := by omega
              have p1 : (j : Int) < m := by omega
              have p2 : ¬ (j : Int) < 0 := by omega
              have p3 : ¬ (m : Int) ≤ j := by omega
              clear hrow hsn hb hs1 hs1' hs2 MQ hi1
              simp only [Option.map_some] at ci cs
              go_wp2
              go_roundw
              case rel => exact ⟨t + 1, sn.set j true, by first | rfl | (congr 1; omega), by omega, by rw [List.map_set]; exact ST.out, SN.out, below_set BQ.out (Nat.le_refl _)⟩
              case measure => simp [intOf]; omega
            · have BQ := Lib.hid hb
              clear hrow hsn hb
              go_wp2
              go_loopw [177] (fun x wz => ∃ (p : Nat), x = .int .i64 p ∧ p ≤ m ∧ Below wc.heap.size wc wz) (fun x _ => m - (intOf x).toNat)
              case atStart => exact ⟨0, rfl, Nat.zero_le _, BQ.out⟩
              case round =>
                clear BQ
                obtain ⟨p, rfl, hp, hb⟩ := hrel
                have MQ := MC.out.on hb
                have BZ := Lib.hid hb
                clear hb
                by_cases hpm : p < m
                · have GT := Lib.hid (getG MQ.g (p : Int))
                  have ci := MQ.ir.cellAt p (by omega)
                  rw [List.getElem?_map, List.getElem?_eq_getElem (by rw [MQ.il]; exact hpm)] at ci
                  have hi1 : is[p]'(by rw [MQ.il]; exact hpm) = tkOfI es (p : Int) := by
                    have h := TT.out.tk p hpm
                    rw [List.getD_eq_getElem?_getD, List.getElem?_eq_getElem (by rw [MQ.il]; exact hpm)] at h
                    exact h
                  rw [hi1] at ci
                  have ch := MQ.hr.cellAt p (by omega)
                  rw [List.getElem?_map, List.getElem?_eq_getElem (by rw [MQ.hl]; exact hpm)] at ch
                  have hx1 : tkOfI es (p : Int) = true → hs[p]'(by rw [MQ.hl]; exact hpm) = xOf es (p : Int) := fun ht => by
                    have h := TT.out.xx p hpm ht
                    rw [List.getD_eq_getElem?_getD, List.getElem?_eq_getElem (by rw [MQ.hl]; exact hpm)] at h
                    exact h
                  have HX1 := Lib.hid hx1
                  simp only [Option.map_some] at ci ch
                  have p0 : (0 : Int) ≤ p := by omega
                  have p1 : (p : Int) < m := by omega
                  clear hi1 hx1
                  generalize hs[p]'(by rw [MQ.hl]; exact hpm) = hv at *
                  clear MQ
                  go_wp2_with fail
                  refine GT.out.mono ?_
                  rintro e w' ⟨a, d, rfl, hw, hd, hcs⟩
                  have hw := hw.symm
                  subst hw
                  rw [← hd] at ci
                  rcases hcs with ⟨rfl, rfl⟩ | ⟨rfl, kk, hkk, hke, hax⟩
                  · clear HX1 hd
                    go_wp2
                    go_roundw
                    case rel => exact ⟨p + 1, by first | rfl | (congr 1; omega), by omega, BZ.out⟩
                    case measure => simp [intOf]; omega
                  · have hv' : hv = a := by
                      rw [HX1.out hd.symm, hax, hkk, xOf_in es kk hke]
                    subst hv'
                    clear HX1 hax hd hkk
                    go_wp2
                    go_roundw
                    case rel => exact ⟨p + 1, by first | rfl | (congr 1; omega), by omega, BZ.out⟩
                    case measure => simp [intOf]; omega
                · obtain rfl : p = m := by omega
                  have MF := Lib.hid MQ
                  clear MQ
                  go_wp2
                  go_roundw
                  case rel => exact ⟨i + 1, _, _, _, _, _, _, _, _, _, by first | rfl | (congr 1; omega), by have := HI.out; omega, MF.out, TT.out⟩
                  case measure => have := HI.out; simp [intOf]; omega
    · obtain rfl : i = n := by omega
      have HB := Lib.hid hM.b
      clear hM hT hi hin
      go_wp2_with fail
      refine (LV.out _).mono ?_
      rintro e w9 ⟨rfl, b9⟩
      go_wp2
      go_ret
      exact ⟨rfl, HB.out.trans (b9.mono HB.out.size)⟩
set_option maxRecDepth 100000 in
set_option maxHeartbeats 1000000 in
theorem walk_poolKeeps (most : Int) (m0 : 0 ≤ most) (m1 : most ≤ 255) (a : Option Addr) (n c : Nat) (zs : List Act7) {w : World} (hr : RowA7 w a n zs) (hcap : n ≤ c) :
    Calls Try.prog 4 #[.int .u8 most, .slice a n c] w fun e w' => e = .returned (.bool true) ∧ Below w.heap.size w w' := by
  obtain ⟨hz, hm, hw, hc⟩ := hr
  unfold maxLen at hm
  have LV := Lib.hid (fun w => lives7 w)
  by_cases hn : n ≤ 200
  · rcases Nat.eq_zero_or_pos n with h0 | h0
    · subst h0
      obtain ⟨i0, hi0, hz0, hz1, hz2⟩ := info_parts infoNI
      obtain ⟨j0, hj0, hy0, hy1, hy2⟩ := info_parts infoB7
      obtain ⟨m, hm⟩ : ∃ m : Nat, (m : Int) = most % 40 + 1 := ⟨(most % 40 + 1).toNat, by omega⟩
      have NW := Lib.hid (show Calls Try.prog 13 #[.int .i64 (m : Int), .int .i64 3] w _ from new_okPI m 3 (by omega) (by omega) (by omega) w)
      have hm2 : m ≤ 40 := by omega
      have w1 : IntKind.i64.wrap (most % 40 + 1) = (m : Int) := by rw [IntKind.wrap_i64]; omega
      have w2 : most % 40 + 1 = (m : Int) := hm.symm
      clear hm hc hw hz
      go_enter Try.func4, Try.ntmps4
      go_wp2_with fail
      refine NW.out.mono ?_
      rintro e w1 ⟨B, rfl, h1, b1⟩
      have B1 := Lib.hid b1
      clear h1 b1
      go_wp2_with (first
        | (at_make; refine wpList_make_full _ rfl _ _ 47 rfl w.heap.size 4 j0 (.bool false) 1 Try.underlying47 hj0 hy0 hy1 _ _ _ _ m rfl rfl rfl rfl (by rw [hy2]; omega) (by unfold maxLen; omega) (Nat.le_trans B1.out.size HG2.out.size) ?_; intro W3 ho3 hg3; have HG3 := Lib.hid hg3; clear ho3 hg3)
        | (at_make; refine wpList_make_full _ rfl _ _ 32 rfl w.heap.size 3 i0 (.int .i64 0) 1 Try.underlying32 hi0 hz0 hz1 _ _ _ _ m rfl rfl rfl rfl (by rw [hz2]; omega) (by unfold maxLen; omega) B1.out.size ?_; intro W2 ho2 hg2; have HG2 := Lib.hid hg2; clear ho2 hg2))
      have hb2 : Below w1.heap.size w1 W2 := (Below.refl _ _).grown HG2.out (Nat.le_refl _) (by simp)
      have hb3 : Below W2.heap.size W2 W3 := (Below.refl _ _).grown HG3.out (Nat.le_refl _) (by simp)
      have BB := Lib.hid ((B1.out.trans (hb2.mono B1.out.size)).trans (hb3.mono (Nat.le_trans B1.out.size hb2.size)))
      clear hb2 hb3 HG2 HG3 B1
      refine wp_loop_rounds 1 ?_
      rw [rounds_succ]
      go_wp2_with fail
      refine (LV.out _).mono ?_
      rintro e w9 ⟨rfl, b9⟩
      go_wp2
      go_ret
      exact ⟨rfl, BB.out.trans (b9.mono BB.out.size)⟩
    · obtain ⟨b, off, rfl, hb, hcell⟩ := hc h0
      subst hz
      exact keeps7_at most m0 m1 b off c zs hn hw w hb hcell
  · have hn' : 200 < n := by omega
    clear hc hw hz hn
    go_enter Try.func4, Try.ntmps4
    go_wp2_with fail
    refine (LV.out _).mono ?_
    rintro e w9 ⟨rfl, b9⟩
    go_wp2
    go_ret
    exact ⟨rfl, b9⟩
end Go.Proofs.Ytkgiaijcgblpbaa
