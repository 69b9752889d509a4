/-
  The law of plays of layer 12, walked: true for any room, any number of queues and any acts. No condition.
-/
import Derived.Test.YtkgiaijcgblpbaaSpStands
import Derived.Test.YtkgiaijcgblpbaaR12O
import Derived.Test.YtkgiaijcgblpbaaR12N
import Derived.Test.YtkgiaijcgblpbaaLives12
import Derived.Test.YtkgiaijcgblpbaaOpen10
import Derived.Deep.CutBlock
import Derived.Deep.DeepCutAuto
namespace Go.Proofs.Ytkgiaijcgblpbaa
set_option linter.unusedVariables false
set_option linter.unusedSimpArgs false
open Go.ChangeShapes Go.WideShapes Go.ChangeAt Go.RowKit
attribute [local go_sem] alloc_drewN setCell_drewN

theorem last_uniqI {bs : List Int} {r j1 j2 : Int} (h1 : LastIsI bs r j1) (h2 : LastIsI bs r j2) : j1 = j2 := by
  have a1 := h1.lo; have a2 := h2.lo; have b1 := h1.hi; have b2 := h2.hi
  rcases Int.lt_trichotomy j1 j2 with h | h | h
  · have e1 := h1.up j2.toNat (by omega) (by omega)
    have e2 := h2.dn (by omega)
    omega
  · exact h
  · have e1 := h2.up j1.toNat (by omega) (by omega)
    have e2 := h1.dn (by omega)
    omega
theorem pushed_uniqI {bs b1 b2 : List Int} {r : Int} {j1 j2 : Nat} (h1 : PushedI bs r j1 b1) (h2 : PushedI bs r j2 b2) : j1 = j2 ∧ b1 = b2 := by
  rcases h1 with ⟨l1, rfl⟩ | ⟨l1, rfl, rfl⟩ <;> rcases h2 with ⟨l2, rfl⟩ | ⟨l2, rfl, rfl⟩
  · have := last_uniqI l1 l2
    obtain rfl : j1 = j2 := by omega
    exact ⟨rfl, rfl⟩
  · have := last_uniqI l1 l2
    omega
  · have := last_uniqI l1 l2
    omega
  · exact ⟨rfl, rfl⟩
theorem first_uniq12 {ls : List (List (Int × Int))} {i j : Nat} {y z : Int × Int} {t s : List (Int × Int)} (hi : ls.getD i [] = y :: t) (hj : ls.getD j [] = z :: s) (ei : ∀ k, k < i → ls.getD k [] = []) (ej : ∀ k, k < j → ls.getD k [] = []) : i = j ∧ y = z ∧ t = s := by
  rcases Nat.lt_trichotomy i j with h | h | h
  · rw [ej i h] at hi; cases hi
  · subst h; rw [hi] at hj; injection hj with h1 h2; exact ⟨rfl, h1, h2⟩
  · rw [ei j h] at hj; cases hj
theorem MvS.cell12 {w w' : World} {S S' : Nat → Prop} (m : MvS w w' S S') {A o : Nat} {u : Value} (hA : A < w.heap.size) (hS : ¬ S A) (h : w.cell? ⟨A, o, none⟩ = some u) : w'.cell? ⟨A, o, none⟩ = some u :=
  (World.cell?_of_block (m.block A hA hS)).trans h
/-- How both stand, with bounds that never fall. -/
structure Q12 (W0 w : World) (B M : Nat) (room : Int) (vb vq ub ul : Value) (bs : List Int) (rs : List RgI) (vs : List Value) (mo : Int) : Prop where
  p : P12 W0 w B M room vb vq ub ul bs rs vs
  i : BInv bs mo
  m0 : 0 ≤ mo
  m1 : mo ≤ 18446744073709551615
theorem Q12.on {W0 w w' : World} {B M : Nat} {room mo : Int} {vb vq ub ul : Value} {bs : List Int} {rs : List RgI} {vs : List Value} (h : Q12 W0 w B M room vb vq ub ul bs rs vs mo) (hb : Below w.heap.size w w') : Q12 W0 w' B M room vb vq ub ul bs rs vs mo := ⟨h.p.on hb, h.i, h.m0, h.m1⟩
set_option maxRecDepth 100000 in
set_option maxHeartbeats 20000000 in
theorem plays12_at (room : Int) (r0 : 1 ≤ room) (r1 : room ≤ 4096) (m : Nat) (m0 : 1 ≤ m) (m1 : m ≤ 32) (b off c : Nat) (zs : List Act10) (hn : zs.length ≤ 150) (hok : ∀ x ∈ zs, x.ok) (w : World) (hb : b < w.heap.size)
    (hc : ∀ i, i < zs.length → w.cell? ⟨b, off + i * 3, none⟩ = some (.int .u8 (zs.getD i Act10.nil).k) ∧ w.cell? ⟨b, off + i * 3 + 1, none⟩ = some (.int .u64 (zs.getD i Act10.nil).r) ∧ w.cell? ⟨b, off + i * 3 + 2, none⟩ = some (.int .i64 (zs.getD i Act10.nil).n)) :
    Calls Try.prog 6 #[.int .i64 room, .int .i64 m, .slice (some ⟨b, off, none⟩) zs.length c] w fun e w' => e = .returned (.bool true) ∧ Below w.heap.size w w' := by
  have HC := Lib.hid hc; have HOK := Lib.hid hok
  obtain ⟨n, hN⟩ : ∃ n, n = zs.length := ⟨_, rfl⟩
  have HN := Lib.hid hN
  rw [← hN] at hn ⊢
  clear hc hok hN
  have NW := Lib.hid (snewI room m r0 r1 m0 m1 w)
  have NR := Lib.hid (fun w => new12 room m m0 m1 w)
  have MY := Lib.hid (fun w => may12_yes room m r0 r1 (by omega) (by omega) w)
  have LV := Lib.hid (fun w => lives12 w)
  have n150 : ¬ (150 : Int) < n := by omega
  have HR1 := Lib.hid r1
  clear r0 r1 m1
  go_enter Try.func6, Try.ntmps6
  go_wp2_with fail
  refine NW.out.mono ?_
  rintro e w1 ⟨B, rfl, b1, vb, vq, rs, h1, hrl, hk⟩
  have B1 := Lib.hid b1; have H1 := Lib.hid h1; have RL := Lib.hid hrl; have KK := Lib.hid hk
  clear b1 h1 hrl hk NW
  go_wp2_with fail
  refine (MY.out _).mono ?_
  rintro e w' ⟨rfl, rfl⟩
  go_wp2_with fail
  refine (NR.out _).mono ?_
  rintro e w2 ⟨M, rfl, b2, hM, ub, ul, vs, h2⟩
  have B2 := Lib.hid (B1.out.trans (b2.mono B1.out.size))
  have Q2 : Hid (Q12 w w2 B M room vb vq ub ul (List.replicate m 0) rs vs 0) := by
    have e : csI rs = List.replicate m [] := by
      refine List.ext_getElem (by rw [cs_lenI, List.length_replicate, RL.out]) (fun i h1 h2 => ?_)
      have hi : i < rs.length := by rw [cs_lenI] at h1; exact h1
      have e1 := cs_atI rs i hi
      rw [List.getD_eq_getElem?_getD, List.getElem?_eq_getElem h1] at e1
      rw [List.getElem_replicate]
      exact e1.trans (List.eq_nil_of_length_eq_zero (by unfold RgI.c; rw [cont_length]; exact KK.out i hi))
    have r2 : R12 w2 w.heap.size M room ub ul (List.replicate m 0) vs (csI rs) := by
      rw [e]
      exact ⟨h2.blk, Nat.le_trans B1.out.size h2.low, own_lower12 h2.ob B1.out.size, own_lower12 h2.ol B1.out.size, fun i hi => its_lower (h2.each i hi) B1.out.size, h2.lv, h2.lb, h2.n0, h2.n1, h2.sm⟩
    refine Lib.hid ⟨⟨H1.out.below b2, r2, fun j hj hx => ?_, B2.out⟩, BInv.start m, by omega, by omega⟩
    have h3 := (H1.out.inlt hj).2
    have h4 := (h2.inlt hx).1
    omega
  clear b2 h2 hM B2 B1 H1 RL KK NR MY
  go_wp2
  go_loopw [61] (fun x wr => ∃ (i : Nat) (ub : Value) (bs : List Int) (rs : List RgI) (vs : List Value) (mo : Int), x = .int .i64 i ∧ i ≤ n ∧ Q12 w wr B M room vb vq ub ul bs rs vs mo) (fun x _ => n - (intOf x).toNat)
  case atStart => exact ⟨0, _, _, _, _, _, rfl, Nat.zero_le _, Q2.out⟩
  case round =>
    clear Q2
    obtain ⟨i, ub, bs, rs, vs, mo, rfl, hi, hQ⟩ := hrel
    by_cases hin : i < n
    · have g1 : (i : Int) < n := by omega
      have g0 : (0 : Int) ≤ i := by omega
      obtain ⟨z0, z1, z2⟩ := HC.out i (by rw [← HN.out]; exact hin)
      have z0 := (hQ.p.b.cell (p := ⟨b, off + i * 3, none⟩) hb).trans z0
      have z1 := (hQ.p.b.cell (p := ⟨b, off + i * 3 + 1, none⟩) hb).trans z1
      have z2 := (hQ.p.b.cell (p := ⟨b, off + i * 3 + 2, none⟩) hb).trans z2
      have hz := HOK.out (zs.getD i Act10.nil) (by rw [List.getD_eq_getElem?_getD, List.getElem?_eq_getElem (by rw [← HN.out]; exact hin)]; exact List.getElem_mem _)
      obtain ⟨⟨k0, k1⟩, ⟨ρ0, ρ1⟩, -⟩ := hz
      generalize (zs.getD i Act10.nil).k = κ at *
      generalize (zs.getD i Act10.nil).r = ρ at *
      generalize (zs.getD i Act10.nil).n = N at *
      have HI := Lib.hid hin; have HQ := Lib.hid hQ
      have RK := Lib.hid (And.intro ρ0 ρ1)
      clear hQ hi ρ0 ρ1
      go_upto_region 11 with (fail)
      have hbl : Below wr.heap.size wr (wr.alloc (.cells #[.int .u8 κ, .int .u64 ρ, .int .i64 N] 78)) := (Below.refl _ wr).alloc (Nat.le_refl _) _
      have H2 := HQ.out.on hbl
      have cA1 : (wr.alloc (.cells #[.int .u8 κ, .int .u64 ρ, .int .i64 N] 78)).cell? ⟨wr.heap.size, 1, none⟩ = some (.int .u64 ρ) := by simp [go_sem]
      have cA2 : (wr.alloc (.cells #[.int .u8 κ, .int .u64 ρ, .int .i64 N] 78)).cell? ⟨wr.heap.size, 2, none⟩ = some (.int .i64 N) := by simp [go_sem]
      have cA0 : (wr.alloc (.cells #[.int .u8 κ, .int .u64 ρ, .int .i64 N] 78)).cell? ⟨wr.heap.size, 0, none⟩ = some (.int .u8 κ) := by simp [go_sem]
      have hA : Hid (wr.heap.size < (wr.alloc (.cells #[.int .u8 κ, .int .u64 ρ, .int .i64 N] 78)).heap.size) := Lib.hid (by simp)
      have hNA : Hid (¬ inSpI B vb vq rs wr.heap.size) := Lib.hid (fun e => by have := (HQ.out.p.sp.inlt e).2; omega)
      have HS := Lib.hid H2
      clear HQ z0 z1 z2 hbl H2
      generalize wr.alloc (.cells #[.int .u8 κ, .int .u64 ρ, .int .i64 N] 78) = wa at *
      generalize wr.heap.size = A at *
      have HT := Lib.hid (tot_sl12 rs)
      by_cases hq : κ % 4 < 3
      · by_cases hl : (totI rs : Int) < room
        · have PS := Lib.hid (spushI HS.out.p.sp hl ρ RK.out.1 RK.out.2 HS.out.i.mono (fun k hk => by have := HS.out.i.bnd k hk; have := HS.out.m1; omega) N HS.out.p.b.size)
          have HL := Lib.hid hl
          clear hl
          go_wp2_with fail
          refine PS.out.mono ?_
          rintro e w3 ⟨j, bs', rs', rfl, hj, hrl, hp, h3, hc3, ht3, m3⟩
          obtain ⟨x1, x2, x3⟩ := HS.out.p.mvS (bs' := bs') m3
          have cA1 := m3.cell12 hA.out hNA.out cA1
          have cA2 := m3.cell12 hA.out hNA.out cA2
          have PR := Lib.hid (push12 x1 (by rw [← HT.out]; exact HL.out) HR1.out ρ N RK.out.1 RK.out.2 HS.out.i.mono (fun k hk => by have := HS.out.i.bnd k hk; have := HS.out.m1; omega) x3.size)
          have FIN : Hid (∀ w4 j2 bs2 ub' vs', PushedI bs ρ j2 bs2 → R12 w4 w.heap.size M room ub' ul bs2 vs' ((csI rs).set j2 ((csI rs).getD j2 [] ++ [(ρ, N)])) → MvS w3 w4 (inR12 M ub ul vs) (inR12 M ub' ul vs') → j2 = j ∧ Q12 w w4 B M room vb vq ub' ul bs' rs' vs' (max mo ρ)) := Lib.hid (fun w4 j2 bs2 ub' vs' hp2 hr2 hm2 => by
            obtain ⟨rfl, rfl⟩ := pushed_uniqI hp2 hp
            obtain ⟨y1, y2, y3⟩ := mvR h3 x1 x2 x3 hm2
            have hb2 := HS.out.i.push (by have := HS.out.p.sp.n0; have := HS.out.p.sp.lb; omega) RK.out.1 hp
            exact ⟨rfl, ⟨⟨y1, by rw [hc3]; exact hr2, y2, y3⟩, hb2.2, by have := HS.out.m0; have := RK.out.1; omega, by have := HS.out.m1; have := RK.out.2; omega⟩⟩)
          clear hj hrl hp h3 hc3 ht3 m3 x1 x2 x3 PS
          go_wp2_with fail
          refine PR.out.mono ?_
          rintro e w4 ⟨j2, bs2, ub', vs', rfl, hj2, hp2, hr2, hm2⟩
          obtain ⟨hjj, hq4⟩ := FIN.out w4 j2 bs2 ub' vs' hp2 hr2 hm2
          have P4 := Lib.hid hq4
          subst hjj
          clear hj2 hp2 hr2 hm2 hq4 FIN PR
          have PK := Lib.hid (speek P4.out.p.sp)
          have PR5 := Lib.hid (fun W (hW : Below w4.heap.size w4 W) => peek12 (P4.out.p.rf.below hW))
          have ST := Lib.hid (fun W (hW : Below w4.heap.size w4 W) => stands12 (P4.out.p.on hW))
          go_wp2_with fail
          refine PK.out.mono ?_
          rintro e w5 (⟨hz5, rfl, b5⟩ | ⟨y5, hf5, rfl, b5⟩)
          · have B5 := Lib.hid b5; have HZ5 := Lib.hid hz5
            clear b5 hz5
            go_wp2_with fail
            refine (PR5.out _ B5.out).mono ?_
            rintro e w6 (⟨-, rfl, b6⟩ | ⟨y6, hf6, rfl, b6⟩)
            · have B6 := Lib.hid (B5.out.trans (b6.mono B5.out.size))
              clear b6
              go_wp2_with fail
              refine (ST.out _ B6.out).mono ?_
              rintro e w7 ⟨rfl, b7⟩
              have P7 := Lib.hid (P4.out.on (B6.out.trans (b7.mono B6.out.size)))
              clear b7
              go_wp2
              go_roundw
              case rel => exact ⟨i + 1, _, _, _, _, _, by first | rfl | (congr 1; omega), by have := HI.out; omega, P7.out⟩
              case measure => have := HI.out; simp [intOf]; omega
            · obtain ⟨i6, t6, hi6, hy6, _⟩ := hf6
              exact absurd hy6 (by rw [HZ5.out i6 (by rw [cs_lenI] at hi6; exact hi6)]; intro h; cases h)
          · have B5 := Lib.hid b5; have HF5 := Lib.hid hf5
            clear b5 hf5
            go_wp2_with fail
            refine (PR5.out _ B5.out).mono ?_
            rintro e w6 (⟨hz6, rfl, b6⟩ | ⟨y6, hf6, rfl, b6⟩)
            · obtain ⟨i5, t5, hi5, hy5, _⟩ := HF5.out
              exact absurd hy5 (by rw [hz6 i5 hi5]; intro h; cases h)
            · have hyy6 : y6 = y5 := by
                obtain ⟨i5, t5, _, hy5, hz5⟩ := HF5.out
                obtain ⟨i6, t6, _, hy6, hz6⟩ := hf6
                exact (first_uniq12 hy6 hy5 hz6 hz5).2.1
              subst hyy6
              have B6 := Lib.hid (B5.out.trans (b6.mono B5.out.size))
              clear b6 hf6
              go_wp2_with fail
              refine (ST.out _ B6.out).mono ?_
              rintro e w7 ⟨rfl, b7⟩
              have P7 := Lib.hid (P4.out.on (B6.out.trans (b7.mono B6.out.size)))
              clear b7
              go_wp2
              go_roundw
              case rel => exact ⟨i + 1, _, _, _, _, _, by first | rfl | (congr 1; omega), by have := HI.out; omega, P7.out⟩
              case measure => have := HI.out; simp [intOf]; omega
        · have PS := Lib.hid (spush_fullI HS.out.p.sp (by omega) ρ N)
          have PR := Lib.hid (fun k => push12_full ((HS.out.p.rf.below (below_drewN k (Below.refl _ _)))) (by rw [← HT.out]; omega) ρ N)
          have PN := Lib.hid (fun k k2 => (HS.out.on (below_drewN k (Below.refl _ wa))).on (below_drewN k2 (Below.refl _ _)))
          clear hl
          go_wp2_with fail
          refine PS.out.mono ?_
          rintro e w3 ⟨rfl, nd, rfl⟩
          go_wp2_with fail
          refine (PR.out nd).mono ?_
          rintro e w4 ⟨rfl, nd2, rfl⟩
          have P4 := Lib.hid (PN.out nd nd2)
          clear PS PR PN
          generalize (wa.drewN nd).drewN nd2 = w4 at *
          have PK := Lib.hid (speek P4.out.p.sp)
          have PR5 := Lib.hid (fun W (hW : Below w4.heap.size w4 W) => peek12 (P4.out.p.rf.below hW))
          have ST := Lib.hid (fun W (hW : Below w4.heap.size w4 W) => stands12 (P4.out.p.on hW))
          go_wp2_with fail
          refine PK.out.mono ?_
          rintro e w5 (⟨hz5, rfl, b5⟩ | ⟨y5, hf5, rfl, b5⟩)
          · have B5 := Lib.hid b5; have HZ5 := Lib.hid hz5
            clear b5 hz5
            go_wp2_with fail
            refine (PR5.out _ B5.out).mono ?_
            rintro e w6 (⟨-, rfl, b6⟩ | ⟨y6, hf6, rfl, b6⟩)
            · have B6 := Lib.hid (B5.out.trans (b6.mono B5.out.size))
              clear b6
              go_wp2_with fail
              refine (ST.out _ B6.out).mono ?_
              rintro e w7 ⟨rfl, b7⟩
              have P7 := Lib.hid (P4.out.on (B6.out.trans (b7.mono B6.out.size)))
              clear b7
              go_wp2
              go_roundw
              case rel => exact ⟨i + 1, _, _, _, _, _, by first | rfl | (congr 1; omega), by have := HI.out; omega, P7.out⟩
              case measure => have := HI.out; simp [intOf]; omega
            · obtain ⟨i6, t6, hi6, hy6, _⟩ := hf6
              exact absurd hy6 (by rw [HZ5.out i6 (by rw [cs_lenI] at hi6; exact hi6)]; intro h; cases h)
          · have B5 := Lib.hid b5; have HF5 := Lib.hid hf5
            clear b5 hf5
            go_wp2_with fail
            refine (PR5.out _ B5.out).mono ?_
            rintro e w6 (⟨hz6, rfl, b6⟩ | ⟨y6, hf6, rfl, b6⟩)
            · obtain ⟨i5, t5, hi5, hy5, _⟩ := HF5.out
              exact absurd hy5 (by rw [hz6 i5 hi5]; intro h; cases h)
            · have hyy6 : y6 = y5 := by
                obtain ⟨i5, t5, _, hy5, hz5⟩ := HF5.out
                obtain ⟨i6, t6, _, hy6, hz6⟩ := hf6
                exact (first_uniq12 hy6 hy5 hz6 hz5).2.1
              subst hyy6
              have B6 := Lib.hid (B5.out.trans (b6.mono B5.out.size))
              clear b6 hf6
              go_wp2_with fail
              refine (ST.out _ B6.out).mono ?_
              rintro e w7 ⟨rfl, b7⟩
              have P7 := Lib.hid (P4.out.on (B6.out.trans (b7.mono B6.out.size)))
              clear b7
              go_wp2
              go_roundw
              case rel => exact ⟨i + 1, _, _, _, _, _, by first | rfl | (congr 1; omega), by have := HI.out; omega, P7.out⟩
              case measure => have := HI.out; simp [intOf]; omega
      · have PS := Lib.hid (spopI HS.out.p.sp)
        go_wp2_with fail
        refine PS.out.mono ?_
        rintro e w3 (⟨hz, rfl, b3⟩ | ⟨y, rs', rfl, hp, hrl, h3, ht3, m3⟩)
        · have B3 := Lib.hid b3
          have PR := Lib.hid (pop12 (HS.out.p.rf.below b3) (HS.out.p.on b3).b.size)
          have HZ := Lib.hid hz
          clear b3 hz
          go_wp2_with fail
          refine PR.out.mono ?_
          rintro e w4 (⟨-, rfl, b4⟩ | ⟨y2, i2, t2, vs', rfl, hi2, hy2, _⟩)
          · have P4 := Lib.hid ((HS.out.on B3.out).on b4)
            clear b4 PR PS
            have PK := Lib.hid (speek P4.out.p.sp)
            have PR5 := Lib.hid (fun W (hW : Below w4.heap.size w4 W) => peek12 (P4.out.p.rf.below hW))
            have ST := Lib.hid (fun W (hW : Below w4.heap.size w4 W) => stands12 (P4.out.p.on hW))
            go_wp2_with fail
            refine PK.out.mono ?_
            rintro e w5 (⟨hz5, rfl, b5⟩ | ⟨y5, hf5, rfl, b5⟩)
            · have B5 := Lib.hid b5; have HZ5 := Lib.hid hz5
              clear b5 hz5
              go_wp2_with fail
              refine (PR5.out _ B5.out).mono ?_
              rintro e w6 (⟨-, rfl, b6⟩ | ⟨y6, hf6, rfl, b6⟩)
              · have B6 := Lib.hid (B5.out.trans (b6.mono B5.out.size))
                clear b6
                go_wp2_with fail
                refine (ST.out _ B6.out).mono ?_
                rintro e w7 ⟨rfl, b7⟩
                have P7 := Lib.hid (P4.out.on (B6.out.trans (b7.mono B6.out.size)))
                clear b7
                go_wp2
                go_roundw
                case rel => exact ⟨i + 1, _, _, _, _, _, by first | rfl | (congr 1; omega), by have := HI.out; omega, P7.out⟩
                case measure => have := HI.out; simp [intOf]; omega
              · obtain ⟨i6, t6, hi6, hy6, _⟩ := hf6
                exact absurd hy6 (by rw [HZ5.out i6 (by rw [cs_lenI] at hi6; exact hi6)]; intro h; cases h)
            · have B5 := Lib.hid b5; have HF5 := Lib.hid hf5
              clear b5 hf5
              go_wp2_with fail
              refine (PR5.out _ B5.out).mono ?_
              rintro e w6 (⟨hz6, rfl, b6⟩ | ⟨y6, hf6, rfl, b6⟩)
              · obtain ⟨i5, t5, hi5, hy5, _⟩ := HF5.out
                exact absurd hy5 (by rw [hz6 i5 hi5]; intro h; cases h)
              · have hyy6 : y6 = y5 := by
                  obtain ⟨i5, t5, _, hy5, hz5⟩ := HF5.out
                  obtain ⟨i6, t6, _, hy6, hz6⟩ := hf6
                  exact (first_uniq12 hy6 hy5 hz6 hz5).2.1
                subst hyy6
                have B6 := Lib.hid (B5.out.trans (b6.mono B5.out.size))
                clear b6 hf6
                go_wp2_with fail
                refine (ST.out _ B6.out).mono ?_
                rintro e w7 ⟨rfl, b7⟩
                have P7 := Lib.hid (P4.out.on (B6.out.trans (b7.mono B6.out.size)))
                clear b7
                go_wp2
                go_roundw
                case rel => exact ⟨i + 1, _, _, _, _, _, by first | rfl | (congr 1; omega), by have := HI.out; omega, P7.out⟩
                case measure => have := HI.out; simp [intOf]; omega
          · exact absurd hy2 (by rw [HZ.out i2 (by rw [cs_lenI] at hi2; exact hi2)]; intro h; cases h)
        · obtain ⟨x1, x2, x3⟩ := HS.out.p.mvS (bs' := bs) m3
          have PR := Lib.hid (pop12 x1 x3.size)
          obtain ⟨j, t, hjl, hjy, hjs, hjz⟩ := hp.out
          have FIN : Hid (∀ w4 (y2 : Int × Int) i2 t2 vs', (csI rs).getD i2 [] = y2 :: t2 → (∀ k, k < i2 → (csI rs).getD k [] = []) → R12 w4 w.heap.size M room ub ul bs vs' ((csI rs).set i2 t2) → MvS w3 w4 (inR12 M ub ul vs) (inR12 M ub ul vs') → y2 = y ∧ Q12 w w4 B M room vb vq ub ul bs rs' vs' mo) := Lib.hid (fun w4 y2 i2 t2 vs' e1 e2 hr2 hm2 => by
            obtain ⟨rfl, rfl, rfl⟩ := first_uniq12 e1 hjy e2 hjz
            obtain ⟨y1, y2', y3⟩ := mvR h3 x1 x2 x3 hm2
            exact ⟨rfl, ⟨⟨y1, by rw [hjs]; exact hr2, y2', y3⟩, HS.out.i, HS.out.m0, HS.out.m1⟩⟩)
          have NE : Hid ((csI rs).getD j [] = y :: t ∧ j < (csI rs).length) := Lib.hid ⟨hjy, hjl⟩
          clear hjl hjy hjs hjz hrl h3 ht3 m3 x1 x2 x3 PS
          go_wp2_with fail
          refine PR.out.mono ?_
          rintro e w4 (⟨hz2, rfl, b4⟩ | ⟨y2, i2, t2, vs', rfl, hi2, hy2, hz2, hr2, hm2⟩)
          · exact absurd NE.out.1 (by rw [hz2 j NE.out.2]; intro h; cases h)
          · obtain ⟨hyy, hq4⟩ := FIN.out w4 y2 i2 t2 vs' hy2 hz2 hr2 hm2
            have P4 := Lib.hid hq4
            subst hyy
            clear hi2 hy2 hz2 hr2 hm2 hq4 FIN PR
            have PK := Lib.hid (speek P4.out.p.sp)
            have PR5 := Lib.hid (fun W (hW : Below w4.heap.size w4 W) => peek12 (P4.out.p.rf.below hW))
            have ST := Lib.hid (fun W (hW : Below w4.heap.size w4 W) => stands12 (P4.out.p.on hW))
            go_wp2_with fail
            refine PK.out.mono ?_
            rintro e w5 (⟨hz5, rfl, b5⟩ | ⟨y5, hf5, rfl, b5⟩)
            · have B5 := Lib.hid b5; have HZ5 := Lib.hid hz5
              clear b5 hz5
              go_wp2_with fail
              refine (PR5.out _ B5.out).mono ?_
              rintro e w6 (⟨-, rfl, b6⟩ | ⟨y6, hf6, rfl, b6⟩)
              · have B6 := Lib.hid (B5.out.trans (b6.mono B5.out.size))
                clear b6
                go_wp2_with fail
                refine (ST.out _ B6.out).mono ?_
                rintro e w7 ⟨rfl, b7⟩
                have P7 := Lib.hid (P4.out.on (B6.out.trans (b7.mono B6.out.size)))
                clear b7
                go_wp2
                go_roundw
                case rel => exact ⟨i + 1, _, _, _, _, _, by first | rfl | (congr 1; omega), by have := HI.out; omega, P7.out⟩
                case measure => have := HI.out; simp [intOf]; omega
              · obtain ⟨i6, t6, hi6, hy6, _⟩ := hf6
                exact absurd hy6 (by rw [HZ5.out i6 (by rw [cs_lenI] at hi6; exact hi6)]; intro h; cases h)
            · have B5 := Lib.hid b5; have HF5 := Lib.hid hf5
              clear b5 hf5
              go_wp2_with fail
              refine (PR5.out _ B5.out).mono ?_
              rintro e w6 (⟨hz6, rfl, b6⟩ | ⟨y6, hf6, rfl, b6⟩)
              · obtain ⟨i5, t5, hi5, hy5, _⟩ := HF5.out
                exact absurd hy5 (by rw [hz6 i5 hi5]; intro h; cases h)
              · have hyy6 : y6 = y5 := by
                  obtain ⟨i5, t5, _, hy5, hz5⟩ := HF5.out
                  obtain ⟨i6, t6, _, hy6, hz6⟩ := hf6
                  exact (first_uniq12 hy6 hy5 hz6 hz5).2.1
                subst hyy6
                have B6 := Lib.hid (B5.out.trans (b6.mono B5.out.size))
                clear b6 hf6
                go_wp2_with fail
                refine (ST.out _ B6.out).mono ?_
                rintro e w7 ⟨rfl, b7⟩
                have P7 := Lib.hid (P4.out.on (B6.out.trans (b7.mono B6.out.size)))
                clear b7
                go_wp2
                go_roundw
                case rel => exact ⟨i + 1, _, _, _, _, _, by first | rfl | (congr 1; omega), by have := HI.out; omega, P7.out⟩
                case measure => have := HI.out; simp [intOf]; omega
    · obtain rfl : i = n := by omega
      have HB := Lib.hid hQ.p.b
      clear hQ hi hin
      go_wp2_with fail
      refine (LV.out _).mono ?_
      rintro e w9 ⟨rfl, b9⟩
      go_wp2
      go_ret
      exact ⟨rfl, HB.out.trans (b9.mono HB.out.size)⟩
end Go.Proofs.Ytkgiaijcgblpbaa
