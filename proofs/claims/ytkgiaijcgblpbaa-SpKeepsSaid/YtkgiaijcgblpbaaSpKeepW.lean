/-
  The law of keeping of layer 12, walked: true for any number of queues and any ranks. No condition.
-/
import Derived.Test.YtkgiaijcgblpbaaSpKMath
import Derived.Test.YtkgiaijcgblpbaaSpBoundW
import Derived.Maps.AppendAt
import Derived.Maps.Range
namespace Go.Proofs.Ytkgiaijcgblpbaa
set_option linter.unusedVariables false
set_option linter.unusedSimpArgs false
open Go.ChangeShapes Go.WideShapes Go.ChangeAt Go.RowKit
attribute [local go_sem] alloc_drewN setCell_drewN

theorem infoBK : (Try.prog.info? 4).map (fun i => (i.zero, i.size, i.bytes)) = some (some (.bool false), 1, 1) := by kernel_rfl
def natI (l : List Nat) : List Int := l.map (fun t : Nat => (t : Int))
theorem natI_len (l : List Nat) : (natI l).length = l.length := by unfold natI; rw [List.length_map]
theorem natI_getD (l : List Nat) (t : Nat) (h : t < l.length) : (natI l).getD t 0 = (l.getD t 0 : Nat) := by
  unfold natI
  rw [List.getD_eq_getElem?_getD, List.getElem?_map, List.getElem?_eq_getElem h, List.getD_eq_getElem?_getD, List.getElem?_eq_getElem h]; rfl
theorem natI_app (l : List Nat) (j : Nat) : natI (l ++ [j]) = natI l ++ [(j : Int)] := by unfold natI; rw [List.map_append]; rfl
/-- Queues, and where each one went. -/
structure KM (W0 w : World) (B : Nat) (vb vq : Value) (bs : List Int) (rs : List RgI) (av : Value) (ats : List Nat) : Prop where
  sp : SpAtI w W0.heap.size B 4096 vb vq bs rs
  att : Ints w W0.heap.size av (natI ats)
  na : ∀ j, av.ownBlock = some j → ¬ inSpI B vb vq rs j
  b : Below W0.heap.size W0 w
theorem KM.mv {W0 w w' : World} {B : Nat} {vb vq av : Value} {bs bs' : List Int} {rs rs' : List RgI} {ats : List Nat} (h : KM W0 w B vb vq bs rs av ats) (m : MvS w w' (inSpI B vb vq rs) (inSpI B vb vq rs')) (s : SpAtI w' W0.heap.size B 4096 vb vq bs' rs') : KM W0 w' B vb vq bs' rs' av ats := by
  refine ⟨s, own_onSI h.att (fun j hj => m.block j (World.ownsRow.lt h.att j hj).2 (h.na j hj)), fun j hj hx => ?_, m.below h.b (fun j hj => (h.sp.inlt hj).1) h.b.size⟩
  have hlt := (World.ownsRow.lt h.att j hj).2
  rcases m.own j hx with h1 | h1
  · omega
  · exact h.na j hj h1
theorem KM.on {W0 w w' : World} {B : Nat} {vb vq av : Value} {bs : List Int} {rs : List RgI} {ats : List Nat} (h : KM W0 w B vb vq bs rs av ats) (hb : Below w.heap.size w w') : KM W0 w' B vb vq bs rs av ats :=
  h.mv (MvS.of_below _ hb) (h.sp.below hb)
theorem KM.app {W0 w w' : World} {B : Nat} {vb vq av v' : Value} {bs : List Int} {rs : List RgI} {ats : List Nat} {j : Nat} (h : KM W0 w B vb vq bs rs av ats) (o : Obj) (ho : w'.ownsRow W0.heap.size 3 1 v' (ats.length + 1) ((natI ats).map (Value.int .i64) ++ [.int .i64 j])) (hg : (w.alloc o).grownBy w' av.ownBlock) (hat : v'.ownBlock = av.ownBlock ∨ v'.ownBlock = some (w.alloc o).heap.size) :
    KM W0 w' B vb vq bs rs v' (ats ++ [j]) := by
  have hba : Below w.heap.size w (w.alloc o) := (Below.refl _ w).alloc (Nat.le_refl _) _
  have h2 := h.on hba
  refine ⟨h2.sp.keep (fun q hq => hg.block q (h2.sp.inlt hq).2 (fun e => h.na q e.symm hq)), ?_, fun q hq hx => ?_, h2.b.grown hg h2.b.size (fun q hq => (World.ownsRow.lt h.att q hq).1)⟩
  · unfold Ints
    rw [natI_app, List.length_append, natI_len, List.map_append]
    exact ho
  · rcases hat with e | e
    · exact h.na q (by rw [← e]; exact hq) hx
    · rw [e] at hq
      injection hq with hq
      have := (h2.sp.inlt hx).2
      omega
set_option maxRecDepth 100000 in
set_option maxHeartbeats 8000000 in
theorem keeps12_at (n : Int) (m0 : 0 ≤ n) (m1 : n ≤ 255) (a : Option Addr) (c : Nat) (zs : List Int) (hn : zs.length ≤ 300) (hz : ∀ i, i < zs.length → 0 ≤ zs.getD i 0 ∧ zs.getD i 0 ≤ 18446744073709551615) (w : World)
    (hc : ∀ i, i < zs.length → ∃ b off, a = some ⟨b, off, none⟩ ∧ b < w.heap.size ∧ w.cell? ⟨b, off + i, none⟩ = some (.int .u64 (zs.getD i 0))) :
    Calls Try.prog 9 #[.int .u8 n, .slice a zs.length c] w fun e w' => e = .returned (.bool true) ∧ Below w.heap.size w w' := by
  obtain ⟨i0, hi0, hz0, hz1, hz2⟩ := info_parts infoInt
  obtain ⟨j0, hj0, hy0, hy1, hy2⟩ := info_parts infoBK
  have HC := Lib.hid hc; have HZ := Lib.hid hz
  obtain ⟨l, hl⟩ : ∃ l, l = zs.length := ⟨_, rfl⟩
  have HL := Lib.hid hl
  rw [← hl] at hn ⊢
  clear hc hz hl
  have n300 : ¬ (300 : Int) < l := by omega
  obtain ⟨m, hm⟩ : ∃ m : Nat, (m : Int) = n % 32 + 1 := ⟨(n % 32 + 1).toNat, by omega⟩
  have hm1 : 1 ≤ m := by omega
  have hm2 : m ≤ 32 := by omega
  have LV := Lib.hid (fun w => lives12 w)
  have NW := Lib.hid (snewI 4096 m (by omega) (by omega) hm1 hm2 w)
  have w2 : n % 32 + 1 = (m : Int) := hm.symm
  clear hm
  go_enter Try.func9, Try.ntmps9
  go_wp2_with fail
  refine NW.out.mono ?_
  rintro e w1 ⟨B, rfl, b1, vb, vq, rs, h1, hrl, hk⟩
  have K1 : Hid (KM w w1 B vb vq (List.replicate m 0) rs (.slice none 0 0) []) := Lib.hid ⟨h1, Ints.nil _ _, (fun j hj => by cases hj), b1⟩
  have T1 := Lib.hid (tot_start rs hk)
  have C1 := Lib.hid (allK_start zs rs m hrl hk)
  clear h1 b1 hk hrl NW
  go_wp2
  go_loopw [8, 36] (fun y x wr => ∃ (i : Nat) (av : Value) (mo : Int) (bs : List Int) (rs : List RgI) (ats : List Nat), av = y ∧ x = .int .i64 i ∧ i ≤ l ∧ 0 ≤ mo ∧ mo ≤ 18446744073709551615 ∧ BInv bs mo ∧ KM w wr B vb vq bs rs av ats ∧ totI rs = i ∧ ats.length = i ∧ csI rs = allK zs ats m) (fun _ x _ => l - (intOf x).toNat)
  case atStart => exact ⟨0, _, 0, _, rs, [], rfl, rfl, Nat.zero_le _, by omega, by omega, BInv.start m, K1.out, T1.out, rfl, C1.out⟩
  case round =>
    clear K1 T1 C1
    obtain ⟨i, av, mo, bs, rs, ats, rfl, rfl, hi, o0, o1, hB, hK, hT, hA, hCs⟩ := hrel
    by_cases hin : i < l
    · obtain ⟨b, off, rfl, hbl, z0⟩ := HC.out i (by rw [← HL.out]; exact hin)
      have z0 := (hK.b.cell (p := ⟨b, off + i, none⟩) hbl).trans z0
      obtain ⟨r0, r1⟩ := HZ.out i (by rw [← HL.out]; exact hin)
      have HZR : Hid (zs.getD i 0 = zs.getD i 0) := Lib.hid rfl
      have hlen0 : 0 < bs.length := by have := hK.sp.n0; have := hK.sp.lb; omega
      have hrm : rs.length = m := by
        have h1 := congrArg List.length hCs
        unfold allK at h1
        rw [cs_lenI, List.length_map, List.length_range] at h1
        exact h1
      have PS := Lib.hid (spushI hK.sp (by omega) (zs.getD i 0) r0 r1 hB.mono (fun k hk => by have := hB.bnd k hk; omega) (i : Int) hK.b.size)
      have FIN : Hid (∀ (j : Nat) (rs' : List RgI), j < rs.length → csI rs' = (csI rs).set j ((csI rs).getD j [] ++ [(zs.getD i 0, (i : Int))]) → csI rs' = allK zs (ats ++ [j]) m) := Lib.hid (fun j rs' hj he => by
        rw [he, hCs, ← hA]
        exact allK_push zs ats m j (by omega))
      have HB := Lib.hid hB; have HK := Lib.hid hK; have HT := Lib.hid hT; have HI := Lib.hid hin; have HLN := Lib.hid hlen0; have HAL := Lib.hid hA; have HRM := Lib.hid hrm
      have g1 : (i : Int) < l := by omega
      have g0 : (0 : Int) ≤ i := by omega
      have hA300 : ats.length ≤ 300 := by omega
      clear hB hK hT hlen0 hCs hA hrm
      generalize zs.getD i 0 = r at *
      go_wp2_with fail
      refine PS.out.mono ?_
      rintro e w4 ⟨j, bs', rs', rfl, hj, hrl, hp, h4, hc4, ht4, m4⟩
      obtain ⟨hl4, hi4⟩ := HB.out.push HLN.out r0 hp
      obtain ⟨mx, hmx⟩ : ∃ mx, max mo r = mx := ⟨_, rfl⟩
      rw [hmx] at hi4
      have I4 := Lib.hid hi4
      have HMX := Lib.hid (show 0 ≤ mx ∧ mx ≤ 18446744073709551615 by omega)
      have K4 := Lib.hid (HK.out.mv m4 h4)
      have C4 := Lib.hid (FIN.out j rs' hj hc4)
      have T4 : Hid (totI rs' = i + 1) := Lib.hid (by rw [ht4, HT.out])
      have OA : Hid (w4.ownsRow w.heap.size 3 1 av ats.length ((natI ats).map (Value.int .i64))) := Lib.hid (by have := K4.out.att; unfold Ints at this; rw [natI_len] at this; exact this)
      have j1 : (j : Int) < m := by have := HRM.out; omega
      have j2 : ¬ (m : Int) ≤ j := by omega
      have j3 : ¬ (j : Int) < 0 := by omega
      have hbs4 := Lib.hid K4.out.b.size
      clear h4 hi4 ht4 hc4 hp m4 hl4 hj hrl PS hmx HB HT FIN
      go_wp2_with (at_builtin; refine wpList_append_own_at _ rfl _ _ 32 rfl w.heap.size 3 i0 (.int .i64 0) 1 8 Try.underlying32 hi0 hz0 hz1 hz2 rfl (by decide) av _ _ rfl (World.ownsRow.alloc OA.out _) ⟨w4.heap.size, 0, none⟩ 1 1 [.int .i64 j] rfl rfl (cells_one6 _ _ _) (fun x hx => by simp at hx; subst hx; rfl) (by unfold maxLen; omega) (by omega) (by have := hbs4.out; simp; omega) ?_; intro v5 w5 ho5 hg5 hn5 hat5; clear hn5; have K5 := Lib.hid (K4.out.app _ ho5 hg5 hat5); clear ho5 hg5 hat5)
      go_roundw
      case rel => exact ⟨i + 1, v5, mx, bs', rs', ats ++ [j], rfl, by first | rfl | (congr 1; omega), by have := HI.out; omega, HMX.out.1, HMX.out.2, I4.out, K5.out, T4.out, by rw [List.length_append, HAL.out]; rfl, C4.out⟩
      case measure => have := HI.out; simp [intOf]; omega
    · obtain rfl : i = l := by omega
      have HK := Lib.hid hK
      obtain ⟨E, hE⟩ : ∃ E, E = (allK zs ats m).flatten := ⟨_, rfl⟩
      have EA : Hid (E.Pairwise (Ahead ats)) := Lib.hid (by rw [hE]; exact allK_ahead zs ats m)
      have EM : Hid (∀ y ∈ E, ∃ t : Nat, t < i ∧ y = (zs.getD t 0, (t : Int))) := Lib.hid (fun y hy => by rw [hE] at hy; rw [← hA]; exact allK_mem hy)
      have EL : Hid (E.length = i) := Lib.hid (by rw [hE, ← hCs, ← tot_flat]; exact hT)
      have EF : Hid ((csI rs).flatten = E) := Lib.hid (by rw [hE, hCs])
      have HT := Lib.hid hT; have HA := Lib.hid hA
      obtain ⟨aa, ca, hav, -, hcell⟩ := hK.att.form
      rw [natI_len, hA] at hav
      subst hav
      clear hB hK hT hCs hE hin hi hcell hA
      have hbs := Lib.hid HK.out.b.size
      go_wp2_with (at_make; refine wpList_make_full _ rfl _ _ 47 rfl w.heap.size 4 j0 (.bool false) 1 Try.underlying47 hj0 hy0 hy1 _ _ _ _ i rfl rfl rfl rfl (by rw [hy2]; omega) (by unfold maxLen; omega) hbs.out ?_; intro w3 ho3 hg3; have HO3 := Lib.hid ho3; have HG3 := Lib.hid hg3; clear ho3 hg3)
      have hb3 : Hid (Below wr.heap.size wr w3) := Lib.hid ((Below.refl _ _).grown HG3.out (Nat.le_refl _) (by simp))
      have R3 : Hid (w3.ownsRow w.heap.size 4 1 (.slice (some ⟨wr.heap.size, 0, none⟩) i i) i ((List.replicate i false).map Value.bool)) := by
        have e3 : (madeCells (Value.bool false).cells (i * 1)).toList = (List.replicate i false).map Value.bool := by
          simp [madeCells, Value.cells, List.map_const', List.eq_replicate_iff]
          intro a _; rw [Nat.mod_one]; rfl
        have o3 := HO3.out
        rw [e3] at o3
        exact Lib.hid o3
      have K3 := Lib.hid (HK.out.on hb3.out)
      have NG : Hid (¬ inSpI B vb vq rs wr.heap.size) := Lib.hid (fun hx => by have := (HK.out.sp.inlt hx).2; omega)
      clear HO3 HG3 hb3 HK hbs
      generalize wr.heap.size = G at *
      go_loopw [14, 15, 69] (fun z y x wq => ∃ (p : Nat) (queue last : Int) (gone : List Bool) (rs : List RgI), z = .int .i64 queue ∧ y = .int .i64 last ∧ x = .int .i64 p ∧ p ≤ i ∧ KM w wq B vb vq bs rs (.slice aa i ca) ats ∧ wq.ownsRow w.heap.size 4 1 (.slice (some ⟨G, 0, none⟩) i i) i (gone.map Value.bool) ∧ ¬ inSpI B vb vq rs G ∧ (csI rs).flatten = E.drop p ∧ totI rs + p = i ∧ PopK E ats i p gone queue last) (fun _ _ x _ => i - (intOf x).toNat)
      case atStart => exact ⟨0, 0, -1, _, rs, rfl, rfl, rfl, Nat.zero_le _, K3.out, R3.out, NG.out, EF.out, by have := HT.out; omega, PopK.begin E ats i⟩
      case round =>
        clear K3 R3 NG EF HT
        obtain ⟨p, queue, last, gone, rs, rfl, rfl, rfl, hp, hK, hR, hNG, hF, hT, hP⟩ := hrel
        by_cases hpl : p < i
        · have hpE : p < E.length := by rw [EL.out]; exact hpl
          obtain ⟨t, ht, hy⟩ := EM.out E[p] (List.getElem_mem hpE)
          obtain ⟨hg1, hg2, hg3, hPn⟩ := hP.next EA.out t ht (zs.getD t 0) (by rw [List.getElem?_eq_getElem hpE, hy])
          have PP := Lib.hid (spopI hK.sp)
          have HK := Lib.hid hK; have HR := Lib.hid hR; have HNG := Lib.hid hNG; have HPN := Lib.hid hPn; have HTT := Lib.hid hT; have HPI := Lib.hid hpl
          have HGL : Hid (gone.length = i) := Lib.hid hP.len
          have HF : Hid ((csI rs).flatten = (zs.getD t 0, (t : Int)) :: E.drop (p + 1)) := Lib.hid (by rw [hF, List.drop_eq_getElem_cons hpE, hy])
          obtain ⟨b, off, rfl, hbl, z0⟩ := HC.out t (by rw [← HL.out]; exact ht)
          have HCR := Lib.hid (fun (W : World) (hW : Below w.heap.size w W) => (hW.cell (p := ⟨b, off + t, none⟩) hbl).trans z0)
          have hatl : t < ats.length := by rw [HA.out]; exact ht
          have hga : ∃ ga, aa = some ⟨ga, 0, none⟩ := by
            obtain ⟨aa', ca', hv', _, hcl⟩ := hK.att.form
            injection hv' with e1 e2 e3
            obtain ⟨g, hg, _⟩ := hcl t (by rw [natI_len]; exact hatl)
            exact ⟨g, by rw [e1]; exact hg⟩
          obtain ⟨ga, rfl⟩ := hga
          have p1 : (p : Int) < i := by omega
          have t0 : (0 : Int) ≤ t := by omega
          have t1 : (t : Int) < i := by omega
          have t2 : ¬ (t : Int) < 0 := by omega
          have t3 : ¬ (i : Int) ≤ t := by omega
          have HG1 := Lib.hid hg1
          have hcase : ((ats.getD t 0 : Nat) : Int) ≠ queue ∨ (((ats.getD t 0 : Nat) : Int) = queue ∧ ¬ (t : Int) < last) := by
            by_cases h : ((ats.getD t 0 : Nat) : Int) = queue
            · exact Or.inr ⟨h, hg3 h⟩
            · exact Or.inl h
          have HAT := Lib.hid hatl
          clear hK hR hNG hF hT hP hPn hy hg1 hg3 z0 hatl hpE
          go_wp2_with fail
          refine PP.out.mono ?_
          rintro e w5 (⟨hz, -, -⟩ | ⟨y, rs5, rfl, hpd, hl5, h5, ht5, m5⟩)
          · have h0 := flat_none (csI rs) (fun q hq => hz q (by rw [cs_lenI] at hq; exact hq))
            rw [HF.out] at h0
            cases h0
          · have hfl := hpd.flat
            rw [HF.out] at hfl
            injection hfl with hy hfl
            subst hy
            have K5 := Lib.hid (HK.out.mv m5 h5)
            have hGl := (World.ownsRow.lt HR.out G rfl).2
            have R5 : Hid (w5.ownsRow w.heap.size 4 1 (.slice (some ⟨G, 0, none⟩) i i) i (gone.map Value.bool)) := Lib.hid (own_onSI HR.out (fun j hj => by
              obtain rfl : G = j := by injection hj
              exact m5.block G hGl HNG.out))
            have NG5 : Hid (¬ inSpI B vb vq rs5 G) := Lib.hid (fun hx => by
              rcases m5.own G hx with h1 | h1
              · omega
              · exact HNG.out h1)
            have HF5 : Hid ((csI rs5).flatten = E.drop (p + 1)) := Lib.hid hfl.symm
            have T5 : Hid (totI rs5 + (p + 1) = i) := Lib.hid (by have := HTT.out; omega)
            have cg := R5.out.cellAt t (by omega)
            rw [List.getElem?_map, List.getElem?_eq_getElem (by rw [HGL.out]; exact ht)] at cg
            have hg1' : gone[t]'(by rw [HGL.out]; exact ht) = false := by
              have h := HG1.out
              rw [List.getD_eq_getElem?_getD, List.getElem?_eq_getElem (by rw [HGL.out]; exact ht)] at h
              exact h
            rw [hg1'] at cg
            simp only [Option.map_some] at cg
            have fg := R5.out.frozenAt t
            have cr := HCR.out w5 K5.out.b
            have OA : w5.ownsRow w.heap.size 3 1 (.slice (some ⟨ga, 0, none⟩) i ca) i ((natI ats).map (Value.int .i64)) := by
              have h := K5.out.att
              unfold Ints at h
              rw [natI_len, HA.out] at h
              exact h
            have ct := OA.cellAt t (by omega)
            rw [List.getElem?_map, List.getElem?_eq_getElem (by rw [natI_len]; exact HAT.out)] at ct
            have hct : (natI ats)[t]'(by rw [natI_len]; exact HAT.out) = ((ats.getD t 0 : Nat) : Int) := by
              have h := natI_getD ats t HAT.out
              rw [List.getD_eq_getElem?_getD, List.getElem?_eq_getElem (by rw [natI_len]; exact HAT.out)] at h
              exact h
            rw [hct] at ct
            simp only [Option.map_some] at ct
            have hGa : G ≠ ga := fun e => by
              rcases row_apart R5.out OA (by decide) with h1 | h1
              · cases h1
              · exact h1 (by rw [e]; rfl)
            have FIN : Hid (KM w (w5.setCell ⟨G, t, none⟩ (.bool true)) B vb vq bs rs5 (.slice (some ⟨ga, 0, none⟩) i ca) ats) := by
              have hs : ∀ j, j ≠ G → (w5.setCell ⟨G, t, none⟩ (.bool true)).heap[j]? = w5.heap[j]? := fun j hj => Below.heap_setCell w5 ⟨G, t, none⟩ _ j hj
              refine Lib.hid ⟨K5.out.sp.keep (fun j hj => hs j (fun e => NG5.out (e ▸ hj))), own_onSI K5.out.att (fun j hj => hs j (fun e => ?_)), K5.out.na, below_set K5.out.b (World.ownsRow.lt R5.out G rfl).1⟩
              have : ga = j := by injection hj
              omega
            have RW : Hid ((w5.setCell ⟨G, t, none⟩ (.bool true)).ownsRow w.heap.size 4 1 (.slice (some ⟨G, 0, none⟩) i i) i ((gone.set t true).map Value.bool)) := Lib.hid (by rw [List.map_set]; exact (R5.out.stored t (.bool true)).1)
            clear hpd hl5 h5 ht5 m5 hfl hg1' OA hct hGl K5 R5 HK HR PP
            generalize zs.getD t 0 = r at *
            have HQ : Hid (∃ k : Int, ((ats.getD t 0 : Nat) : Int) = k) := Lib.hid ⟨_, rfl⟩
            obtain ⟨k, hk⟩ := HQ.out
            rw [hk] at hg2 hcase ct
            have HKK := Lib.hid hk
            have hPN2 := HPN.out
            rw [hk] at hPN2
            have HPN2 := Lib.hid hPN2
            clear hk HPN hPN2 HQ
            dsimp only
            rcases hcase with hne | ⟨rfl, hlt⟩
            · go_wp2
              go_roundw
              case rel => exact ⟨p + 1, k, t, _, rs5, rfl, rfl, by first | rfl | (congr 1; omega), by have := HPI.out; omega, FIN.out, RW.out, NG5.out, HF5.out, T5.out, HPN2.out⟩
              case measure => have := HPI.out; simp [intOf]; omega
            · go_wp2
              go_roundw
              case rel => exact ⟨p + 1, k, t, _, rs5, rfl, rfl, by first | rfl | (congr 1; omega), by have := HPI.out; omega, FIN.out, RW.out, NG5.out, HF5.out, T5.out, HPN2.out⟩
              case measure => have := HPI.out; simp [intOf]; omega
        · have LN := Lib.hid (slenI hK.sp)
          have htz : totI rs = 0 := by omega
          rw [htz] at LN
          have B5 := Lib.hid hK.b
          clear hK hR hNG hF hT hP htz
          go_wp2_with fail
          refine LN.out.mono ?_
          rintro e w' ⟨rfl, rfl⟩
          go_wp2_with fail
          refine (LV.out _).mono ?_
          rintro e w9 ⟨rfl, b9⟩
          go_wp2
          go_ret
          exact ⟨rfl, B5.out.trans (b9.mono B5.out.size)⟩
theorem walk_spKeeps (n : Int) (m0 : 0 ≤ n) (m1 : n ≤ 255) (a : Option Addr) (l c : Nat) (zs : List Int) {w : World} (hr : Row1 .u64 w a l zs) (hcap : l ≤ c) :
    Calls Try.prog 9 #[.int .u8 n, .slice a l c] w fun e w' => e = .returned (.bool true) ∧ Below w.heap.size w w' := by
  obtain ⟨hz, hm, hw, hc⟩ := hr
  by_cases h : l ≤ 300
  · subst hz
    refine keeps12_at n m0 m1 a c zs h (fun i hi => ?_) w (fun i hi => ?_)
    · exact bounds_u64 (hw _ (by rw [List.getD_eq_getElem?_getD, List.getElem?_eq_getElem hi]; exact List.getElem_mem _))
    · obtain ⟨b, off, e, hb, hcell⟩ := hc (by omega)
      exact ⟨b, off, e, hb, hcell i hi⟩
  · unfold maxLen at hm
    have h1 : 300 < l := by omega
    have LV := Lib.hid (lives12 w)
    clear hc hw hz h
    go_enter Try.func9, Try.ntmps9
    go_wp2_with fail
    refine LV.out.mono ?_
    rintro e w9 ⟨rfl, b9⟩
    go_wp2
    go_ret
    exact ⟨rfl, b9⟩
end Go.Proofs.Ytkgiaijcgblpbaa
