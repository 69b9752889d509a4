/-
  The law of rising ranks of layer 12, walked: true for any number of queues and any acts. No condition.
-/
import Derived.Test.YtkgiaijcgblpbaaSpBoundW
import Derived.Test.YtkgiaijcgblpbaaOpenR
namespace Go.Proofs.Ytkgiaijcgblpbaa
set_option linter.unusedVariables false
set_option linter.unusedSimpArgs false
open Go.ChangeShapes Go.WideShapes Go.ChangeAt Go.RowKit
attribute [local go_sem] alloc_drewN setCell_drewN

def run12 (lo hi : Nat) : List Int := (List.range' lo (hi - lo)).map (fun k : Nat => (k : Int))
theorem run12_snoc (lo hi : Nat) (h : lo ≤ hi) : run12 lo hi ++ [(hi : Int)] = run12 lo (hi + 1) := by
  unfold run12
  rw [show hi + 1 - lo = (hi - lo) + 1 by omega, List.range'_1_concat, List.map_append, show lo + (hi - lo) = hi by omega]
  rfl
theorem run12_cons (lo hi : Nat) (h : lo < hi) : run12 lo hi = (lo : Int) :: run12 (lo + 1) hi := by
  unfold run12
  rw [show hi - lo = (hi - (lo + 1)) + 1 by omega, List.range'_succ, List.map_cons]
/-- All items stand in the last queue, those from lo to hi. -/
structure QIs (qs : List (List (Int × Int))) (m lo hi : Nat) : Prop where
  len : qs.length = m
  emp : ∀ t, t + 1 < m → qs.getD t [] = []
  las : (qs.getD (m - 1) []).map (·.2) = run12 lo hi
  le : lo ≤ hi
theorem QIs.start (rs : List RgI) (m : Nat) (hm : rs.length = m) (hk : ∀ i (hi : i < rs.length), (rs[i]).k = 0) : QIs (csI rs) m 0 0 := by
  have e : ∀ t, (csI rs).getD t [] = [] := fun t => by
    by_cases ht : t < rs.length
    · rw [cs_atI rs t ht]
      exact List.eq_nil_of_length_eq_zero (by unfold RgI.c; rw [cont_length]; exact hk t ht)
    · rw [List.getD_eq_getElem?_getD, List.getElem?_eq_none (by rw [cs_lenI]; omega)]; rfl
  exact ⟨by rw [cs_lenI]; exact hm, fun t _ => e t, by rw [e]; rfl, Nat.le_refl _⟩
theorem getD_setL (l : List (List (Int × Int))) (i j : Nat) (x : List (Int × Int)) (hi : i < l.length) : (l.set i x).getD j [] = if j = i then x else l.getD j [] := by
  by_cases h : j = i
  · subst h; rw [if_pos rfl, List.getD_eq_getElem?_getD, List.getElem?_set_self hi]; rfl
  · rw [if_neg h, List.getD_eq_getElem?_getD, List.getElem?_set_ne (Ne.symm h), ← List.getD_eq_getElem?_getD]
theorem QIs.push {qs qs' : List (List (Int × Int))} {m lo hi j : Nat} {r : Int} (h : QIs qs m lo hi) (hm : 1 ≤ m) (hj : j = m - 1) (e : qs' = qs.set j (qs.getD j [] ++ [(r, (hi : Int))])) : QIs qs' m lo (hi + 1) := by
  subst hj e
  have hl := h.len
  refine ⟨by rw [List.length_set]; exact h.len, fun t ht => ?_, ?_, by have := h.le; omega⟩
  · rw [getD_setL _ _ _ _ (by omega), if_neg (by omega)]; exact h.emp t ht
  · rw [getD_setL _ _ _ _ (by omega), if_pos rfl, List.map_append, h.las, ← run12_snoc lo hi h.le]; rfl
theorem QIs.pop {qs qs' : List (List (Int × Int))} {m lo hi : Nat} {y : Int × Int} (h : QIs qs m lo hi) (hm : 1 ≤ m) (p : PopdI qs qs' y) : lo < hi ∧ y.2 = (lo : Int) ∧ QIs qs' m (lo + 1) hi := by
  obtain ⟨j, t, hj, hy, rfl, hb⟩ := p.out
  have hl := h.len
  have hjm : j = m - 1 := by
    by_cases hjm : j + 1 < m
    · rw [h.emp j hjm] at hy; cases hy
    · omega
  subst hjm
  have hs := h.las
  rw [hy, List.map_cons] at hs
  have hlt : lo < hi := by
    rcases Nat.lt_or_ge lo hi with h1 | h1
    · exact h1
    · unfold run12 at hs
      rw [show hi - lo = 0 by omega] at hs
      cases hs
  rw [run12_cons lo hi hlt] at hs
  injection hs with h1 h2
  refine ⟨hlt, h1, by rw [List.length_set]; exact h.len, fun q hq => ?_, ?_, by omega⟩
  · rw [getD_setL _ _ _ _ (by omega), if_neg (by omega)]; exact h.emp q hq
  · rw [getD_setL _ _ _ _ (by omega), if_pos rfl]; exact h2
theorem QIs.some {qs : List (List (Int × Int))} {m lo hi : Nat} (h : QIs qs m lo hi) (hm : 1 ≤ m) (hlt : lo < hi) (hz : ∀ i, i < qs.length → qs.getD i [] = []) : False := by
  have hs := h.las
  have hl := h.len
  rw [hz (m - 1) (by omega), run12_cons lo hi hlt] at hs
  cases hs
theorem last_is {bs bs' : List Int} {rank : Int} {j m : Nat} (hm : 1 ≤ m) (hl : bs.length = m) (hp : PushedI bs rank j bs') (h : bs.getD (m - 1) 0 ≤ rank ∨ m = 1) : j = m - 1 := by
  rcases hp with ⟨hp, _⟩ | ⟨hp, h0, _⟩
  · have hi := hp.hi
    rcases h with h | h
    · by_cases hj : j + 1 < m
      · have := hp.up (m - 1) (by omega) (by omega)
        omega
      · omega
    · omega
  · rcases h with h | h
    · have := hp.up (m - 1) (by omega) (by omega)
      omega
    · omega
set_option maxRecDepth 100000 in
set_option maxHeartbeats 8000000 in
theorem rises12_false (n : Int) (n0 : 0 ≤ n) (n1 : n ≤ 255) (a : Option Addr) (c : Nat) (zs : List Rise12) (hn : zs.length ≤ 300) (hok : ∀ x ∈ zs, x.ok) (w : World)
    (hc : ∀ i, i < zs.length → ∃ b off, a = some ⟨b, off, none⟩ ∧ b < w.heap.size ∧ w.cell? ⟨b, off + i * 2, none⟩ = some (.int .u32 (zs.getD i Rise12.nil).m) ∧ w.cell? ⟨b, off + i * 2 + 1, none⟩ = some (.bool (zs.getD i Rise12.nil).p)) :
    Calls Try.prog 8 #[.int .u8 n, .slice a zs.length c, .bool false] w fun e w' => e = .returned (.bool true) ∧ Below w.heap.size w w' := by
  have HC := Lib.hid hc; have HOK := Lib.hid hok
  obtain ⟨l, hl⟩ : ∃ l, l = zs.length := ⟨_, rfl⟩
  have HL := Lib.hid hl
  rw [← hl] at hn ⊢
  clear hc hok hl
  have n300 : ¬ (300 : Int) < l := by omega
  have LV := Lib.hid (fun w => lives12 w)
  obtain ⟨m, hm⟩ : ∃ m : Nat, (m : Int) = n % 32 + 1 := ⟨(n % 32 + 1).toNat, by omega⟩
  have NW := Lib.hid (snewI 4096 m (by omega) (by omega) (by omega) (by omega) w)
  have w2 : n % 32 + 1 = (m : Int) := hm.symm
  have hm3 : m ≤ 32 := by omega
  have hm4 : 1 ≤ m := by omega
  clear hm
  go_enter Try.func8, Try.ntmps8
  go_wp2_with fail
  refine NW.out.mono ?_
  rintro e w1 ⟨B, rfl, b1, vb, vq, rs, h1, hrl, hk⟩
  have S1 := Lib.hid h1
  have B1 := Lib.hid b1
  have T1 := Lib.hid (tot_start rs hk)
  have Q1 := Lib.hid (QIs.start rs m hrl hk)
  clear h1 b1 hk hrl NW
  go_wp2
  go_loopw [10, 11, 40] (fun z y x wr => ∃ (i lo : Nat) (R mo : Int) (bs : List Int) (rs : List RgI), z = .int .u64 R ∧ y = .int .i64 lo ∧ x = .int .i64 i ∧ i ≤ l ∧ 0 ≤ mo ∧ mo ≤ 18446744073709551615 ∧ (0 ≤ R ∧ R ≤ 4294967295 * i ∧ mo ≤ R) ∧ BInv bs mo ∧ SpAtI wr w.heap.size B 4096 vb vq bs rs ∧ totI rs + lo = i ∧ QIs (csI rs) m lo i ∧ Below w.heap.size w wr) (fun _ _ x _ => l - (intOf x).toNat)
  case atStart => exact ⟨0, 0, 0, 0, _, rs, rfl, rfl, rfl, Nat.zero_le _, by omega, by omega, by omega, BInv.start m, S1.out, T1.out, Q1.out, B1.out⟩
  case round =>
    clear S1 B1 T1 Q1
    obtain ⟨i, lo, R, mo, bs, rs, rfl, rfl, rfl, hi, o0, o1, hR, hB, hS, hT, hQ, hb⟩ := hrel
    by_cases hin : i < l
    · obtain ⟨b, off, rfl, hbl, z0, z1⟩ := HC.out i (by rw [← HL.out]; exact hin)
      have z0 := (hb.cell (p := ⟨b, off + i * 2, none⟩) hbl).trans z0
      have z1 := (hb.cell (p := ⟨b, off + i * 2 + 1, none⟩) hbl).trans z1
      have hz := HOK.out (zs.getD i Rise12.nil) (by rw [List.getD_eq_getElem?_getD, List.getElem?_eq_getElem (by rw [← HL.out]; exact hin)]; exact List.getElem_mem _)
      obtain ⟨r0, r1⟩ := hz
      generalize (zs.getD i Rise12.nil).m = M at *
      generalize (zs.getD i Rise12.nil).p = P at *
      have hQl := hQ.len
      rw [cs_lenI] at hQl
      have hbl2 : bs.length = m := by have := hS.lb; omega
      have hle : bs.getD (m - 1) 0 ≤ R + M ∨ m = 1 := Or.inl (by have := (hB.bnd (m - 1) (by omega)).2; omega)
      have hR1 : 0 ≤ R + M ∧ R + M ≤ 18446744073709551615 := by omega
      have a1 : IntKind.u64.wrap (R + M) = R + M := by rw [IntKind.wrap_u64]; omega
      obtain ⟨wa, hwa⟩ : ∃ wa, wr.alloc (.cells #[.int .u32 M, .bool P] 88) = wa := ⟨_, rfl⟩
      obtain ⟨A, hAA⟩ : ∃ A, wr.heap.size = A := ⟨_, rfl⟩
      have hbW : Below wr.heap.size wr wa := by rw [← hwa]; exact (Below.refl _ _).alloc (Nat.le_refl _) _
      have hS2 := hS.below hbW
      have cA0 : wa.cell? ⟨A, 0, none⟩ = some (.int .u32 M) := by rw [← hwa, ← hAA]; simp [go_sem]
      have cA1 : wa.cell? ⟨A, 1, none⟩ = some (.bool P) := by rw [← hwa, ← hAA]; simp [go_sem]
      have PS := Lib.hid (spushI hS2 (by omega) (R + M) hR1.1 hR1.2 hB.mono (fun k hk => by have := hB.bnd k hk; omega) (i : Int) (Nat.le_trans hb.size hbW.size))
      have HB := Lib.hid hB; have HS := Lib.hid hS2; have HT := Lib.hid hT; have HBW := Lib.hid (hb.trans (hbW.mono hb.size)); have HI := Lib.hid hin; have HQ := Lib.hid hQ
      have HQL := Lib.hid hQ.le
      have HLE := Lib.hid hle; have HRR := Lib.hid hR; have HBL := Lib.hid hbl2
      have hA : ¬ inSpI B vb vq rs A := fun e => by have := (hS.inlt e).2; omega
      have g1 : (i : Int) < l := by omega
      have g0 : (0 : Int) ≤ i := by omega
      clear hB hS hS2 hT hb hQ hbW hle hR hbl2 hQl
      go_wp2_with fail
      refine PS.out.mono ?_
      rintro e w4 ⟨j, bs', rs', rfl, hj, hrl, hp, h4, hc4, ht4, m4⟩
      obtain ⟨hl4, hi4⟩ := HB.out.push (by have := HBL.out; omega) hR1.1 hp
      have hjm := last_is hm4 HBL.out hp HLE.out
      have Q4 := Lib.hid (HQ.out.push hm4 hjm hc4)
      have cA1 : w4.cell? ⟨A, 1, none⟩ = some (.bool P) := by
        have hlt := block_lt cA1
        have e := m4.block A hlt hA
        rw [← cA1]; unfold World.cell?; rw [e]
      have B4 := Lib.hid (m4.below HBW.out (fun j hj => (HS.out.inlt hj).1) HBW.out.size)
      have S4 := Lib.hid h4
      obtain ⟨mx, hmx⟩ : ∃ mx, max mo (R + M) = mx := ⟨_, rfl⟩
      rw [hmx] at hi4
      have I4 := Lib.hid hi4
      have hmx1 : 0 ≤ mx ∧ mx ≤ 18446744073709551615 ∧ mx ≤ R + M := by have := HRR.out; omega
      have HMX := Lib.hid hmx1
      have T4 : Hid (totI rs' + lo = i + 1) := Lib.hid (by have := HT.out; omega)
      clear h4 hi4 ht4 hc4 hp m4 hl4 hj hjm PS hmx hmx1 HBW HS HB HT HQ hA
      cases P with
      | false =>
        go_wp2
        go_roundw
        case rel => exact ⟨i + 1, lo, (R + M), mx, bs', rs', rfl, rfl, by first | rfl | (congr 1; omega), by have := HI.out; omega, HMX.out.1, by have := HMX.out; omega, by have := HMX.out; have := HRR.out; omega, I4.out, S4.out, T4.out, Q4.out, B4.out⟩
        case measure => have := HI.out; simp [intOf]; omega
      | true =>
        have PP := Lib.hid (spopI S4.out)
        go_wp2_with fail
        refine PP.out.mono ?_
        rintro e w5 (⟨hz, -, -⟩ | ⟨y, rs5, rfl, hpd, hl5, h5, ht5, m5⟩)
        · exact absurd (Q4.out.some hm4 (by have := HQL.out; omega) (fun t ht => hz t (by rw [cs_lenI] at ht; exact ht))) (fun h => h)
        · obtain ⟨q1, q2, q3⟩ := Q4.out.pop hm4 hpd
          have Q5 := Lib.hid q3
          have S5 := Lib.hid h5
          have B5 := Lib.hid (m5.below B4.out (fun j hj => (S4.out.inlt hj).1) B4.out.size)
          have T5 : Hid (totI rs5 + (lo + 1) = i + 1) := Lib.hid (by have := T4.out; omega)
          have HLT := Lib.hid q1
          obtain ⟨y1, y2⟩ := y
          dsimp only at q2
          subst q2
          clear q1 q3 h5 m5 ht5 hl5 hpd PP
          have lo1 : (lo : Int) ≤ 300 := by have := HLT.out; omega
          dsimp only
          go_wp2
          go_roundw
          case rel => exact ⟨i + 1, lo + 1, (R + M), mx, bs', rs5, rfl, by first | rfl | (congr 1; omega), by first | rfl | (congr 1; omega), by have := HI.out; omega, HMX.out.1, by have := HMX.out; omega, by have := HMX.out; have := HRR.out; omega, I4.out, S5.out, T5.out, Q5.out, B5.out⟩
          case measure => have := HI.out; simp [intOf]; omega
    · obtain rfl : i = l := by omega
      have S5 := Lib.hid hS; have T5 := Lib.hid hT; have Q5 := Lib.hid hQ; have B5 := Lib.hid hb
      clear hS hT hQ hb hB hin hi hR
      go_wp2
      go_loopw [11] (fun y wr => ∃ (lo : Nat) (rs : List RgI), y = .int .i64 lo ∧ SpAtI wr w.heap.size B 4096 vb vq bs rs ∧ totI rs + lo = i ∧ QIs (csI rs) m lo i ∧ Below w.heap.size w wr) (fun y _ => i - (intOf y).toNat)
      case atStart => exact ⟨lo, rs, rfl, S5.out, T5.out, Q5.out, B5.out⟩
      case round =>
        clear S5 T5 Q5 B5
        obtain ⟨lo, rs, rfl, hS, hT, hQ, hb⟩ := hrel
        have hlo := hQ.le
        by_cases hlt : lo < i
        · have PP := Lib.hid (spopI hS)
          have S5 := Lib.hid hS; have T5 := Lib.hid hT; have Q5 := Lib.hid hQ; have B5 := Lib.hid hb
          clear hS hT hQ hb
          go_wp2_with fail
          refine PP.out.mono ?_
          rintro e w5 (⟨hz, -, -⟩ | ⟨y, rs5, rfl, hpd, hl5, h5, ht5, m5⟩)
          · exact absurd (Q5.out.some hm4 hlt (fun t ht => hz t (by rw [cs_lenI] at ht; exact ht))) (fun h => h)
          · obtain ⟨q1, q2, q3⟩ := Q5.out.pop hm4 hpd
            have Q6 := Lib.hid q3
            have S6 := Lib.hid h5
            have B6 := Lib.hid (m5.below B5.out (fun j hj => (S5.out.inlt hj).1) B5.out.size)
            have T6 : Hid (totI rs5 + (lo + 1) = i) := Lib.hid (by have := T5.out; omega)
            obtain ⟨y1, y2⟩ := y
            dsimp only at q2
            subst q2
            clear q1 q3 h5 m5 ht5 hl5 hpd PP
            dsimp only
            go_wp2
            go_roundw
            case rel => exact ⟨lo + 1, rs5, by first | rfl | (congr 1; omega), S6.out, T6.out, Q6.out, B6.out⟩
            case measure => simp [intOf]; omega
        · have LN := Lib.hid (slenI hS)
          have htz : totI rs = 0 := by omega
          rw [htz] at LN
          have B5 := Lib.hid hb
          clear hS hT hQ hb htz
          go_wp2_with fail
          refine LN.out.mono ?_
          rintro e w' ⟨rfl, rfl⟩
          go_wp2_with fail
          refine (LV.out _).mono ?_
          rintro e w9 ⟨rfl, b9⟩
          go_wp2
          go_ret
          exact ⟨rfl, B5.out.trans (b9.mono B5.out.size)⟩
set_option maxRecDepth 100000 in
set_option maxHeartbeats 8000000 in
theorem rises12_true (n : Int) (n0 : 0 ≤ n) (n1 : n ≤ 255) (a : Option Addr) (c : Nat) (zs : List Rise12) (hn : zs.length ≤ 300) (hok : ∀ x ∈ zs, x.ok) (w : World)
    (hc : ∀ i, i < zs.length → ∃ b off, a = some ⟨b, off, none⟩ ∧ b < w.heap.size ∧ w.cell? ⟨b, off + i * 2, none⟩ = some (.int .u32 (zs.getD i Rise12.nil).m) ∧ w.cell? ⟨b, off + i * 2 + 1, none⟩ = some (.bool (zs.getD i Rise12.nil).p)) :
    Calls Try.prog 8 #[.int .u8 n, .slice a zs.length c, .bool true] w fun e w' => e = .returned (.bool true) ∧ Below w.heap.size w w' := by
  have HC := Lib.hid hc; have HOK := Lib.hid hok
  obtain ⟨l, hl⟩ : ∃ l, l = zs.length := ⟨_, rfl⟩
  have HL := Lib.hid hl
  rw [← hl] at hn ⊢
  clear hc hok hl
  have n300 : ¬ (300 : Int) < l := by omega
  have LV := Lib.hid (fun w => lives12 w)
  have NW := Lib.hid (show Calls Try.prog 39 #[.int .i64 4096, .int .i64 1] w _ from snewI 4096 1 (by omega) (by omega) (by omega) (by omega) w)
  obtain ⟨m, hme⟩ : ∃ m : Nat, m = 1 := ⟨_, rfl⟩
  go_enter Try.func8, Try.ntmps8
  go_wp2_with fail
  refine NW.out.mono ?_
  rintro e w1 ⟨B, rfl, b1, vb, vq, rs, h1, hrl, hk⟩
  subst hme
  obtain ⟨m, hme'⟩ : ∃ m : Nat, 1 = m := ⟨_, rfl⟩
  rw [hme'] at h1 hrl
  have HME := Lib.hid hme'.symm
  have hm3 : m ≤ 32 := by omega
  have hm4 : 1 ≤ m := by omega
  clear hme'
  have S1 := Lib.hid h1
  have B1 := Lib.hid b1
  have T1 := Lib.hid (tot_start rs hk)
  have Q1 := Lib.hid (QIs.start rs m hrl hk)
  clear h1 b1 hk hrl NW
  go_wp2
  go_loopw [10, 11, 40] (fun z y x wr => ∃ (i lo : Nat) (R mo : Int) (bs : List Int) (rs : List RgI), z = .int .u64 R ∧ y = .int .i64 lo ∧ x = .int .i64 i ∧ i ≤ l ∧ 0 ≤ mo ∧ mo ≤ 18446744073709551615 ∧ (0 ≤ R ∧ R ≤ 18446744073709551615) ∧ BInv bs mo ∧ SpAtI wr w.heap.size B 4096 vb vq bs rs ∧ totI rs + lo = i ∧ QIs (csI rs) m lo i ∧ Below w.heap.size w wr) (fun _ _ x _ => l - (intOf x).toNat)
  case atStart => exact ⟨0, 0, 0, 0, _, rs, rfl, rfl, rfl, Nat.zero_le _, by omega, by omega, by omega, BInv.start m, S1.out, T1.out, Q1.out, B1.out⟩
  case round =>
    clear S1 B1 T1 Q1
    obtain ⟨i, lo, R, mo, bs, rs, rfl, rfl, rfl, hi, o0, o1, hR, hB, hS, hT, hQ, hb⟩ := hrel
    by_cases hin : i < l
    · obtain ⟨b, off, rfl, hbl, z0, z1⟩ := HC.out i (by rw [← HL.out]; exact hin)
      have z0 := (hb.cell (p := ⟨b, off + i * 2, none⟩) hbl).trans z0
      have z1 := (hb.cell (p := ⟨b, off + i * 2 + 1, none⟩) hbl).trans z1
      have hz := HOK.out (zs.getD i Rise12.nil) (by rw [List.getD_eq_getElem?_getD, List.getElem?_eq_getElem (by rw [← HL.out]; exact hin)]; exact List.getElem_mem _)
      obtain ⟨r0, r1⟩ := hz
      generalize (zs.getD i Rise12.nil).m = M at *
      generalize (zs.getD i Rise12.nil).p = P at *
      have hQl := hQ.len
      rw [cs_lenI] at hQl
      have hbl2 : bs.length = m := by have := hS.lb; omega
      have hle : bs.getD (m - 1) 0 ≤ M ∨ m = 1 := Or.inr HME.out
      have hR1 : 0 ≤ M ∧ M ≤ 18446744073709551615 := by omega
      obtain ⟨wa, hwa⟩ : ∃ wa, wr.alloc (.cells #[.int .u32 M, .bool P] 88) = wa := ⟨_, rfl⟩
      obtain ⟨A, hAA⟩ : ∃ A, wr.heap.size = A := ⟨_, rfl⟩
      have hbW : Below wr.heap.size wr wa := by rw [← hwa]; exact (Below.refl _ _).alloc (Nat.le_refl _) _
      have hS2 := hS.below hbW
      have cA0 : wa.cell? ⟨A, 0, none⟩ = some (.int .u32 M) := by rw [← hwa, ← hAA]; simp [go_sem]
      have cA1 : wa.cell? ⟨A, 1, none⟩ = some (.bool P) := by rw [← hwa, ← hAA]; simp [go_sem]
      have PS := Lib.hid (spushI hS2 (by omega) M hR1.1 hR1.2 hB.mono (fun k hk => by have := hB.bnd k hk; omega) (i : Int) (Nat.le_trans hb.size hbW.size))
      have HB := Lib.hid hB; have HS := Lib.hid hS2; have HT := Lib.hid hT; have HBW := Lib.hid (hb.trans (hbW.mono hb.size)); have HI := Lib.hid hin; have HQ := Lib.hid hQ
      have HQL := Lib.hid hQ.le
      have HLE := Lib.hid hle; have HRR := Lib.hid hR; have HBL := Lib.hid hbl2
      have hA : ¬ inSpI B vb vq rs A := fun e => by have := (hS.inlt e).2; omega
      have g1 : (i : Int) < l := by omega
      have g0 : (0 : Int) ≤ i := by omega
      clear hB hS hS2 hT hb hQ hbW hle hR hbl2 hQl
      go_wp2_with fail
      refine PS.out.mono ?_
      rintro e w4 ⟨j, bs', rs', rfl, hj, hrl, hp, h4, hc4, ht4, m4⟩
      obtain ⟨hl4, hi4⟩ := HB.out.push (by have := HBL.out; omega) hR1.1 hp
      have hjm := last_is hm4 HBL.out hp HLE.out
      have Q4 := Lib.hid (HQ.out.push hm4 hjm hc4)
      have cA1 : w4.cell? ⟨A, 1, none⟩ = some (.bool P) := by
        have hlt := block_lt cA1
        have e := m4.block A hlt hA
        rw [← cA1]; unfold World.cell?; rw [e]
      have B4 := Lib.hid (m4.below HBW.out (fun j hj => (HS.out.inlt hj).1) HBW.out.size)
      have S4 := Lib.hid h4
      obtain ⟨mx, hmx⟩ : ∃ mx, max mo M = mx := ⟨_, rfl⟩
      rw [hmx] at hi4
      have I4 := Lib.hid hi4
      have hmx1 : 0 ≤ mx ∧ mx ≤ 18446744073709551615 := by have := HRR.out; omega
      have HMX := Lib.hid hmx1
      have T4 : Hid (totI rs' + lo = i + 1) := Lib.hid (by have := HT.out; omega)
      clear h4 hi4 ht4 hc4 hp m4 hl4 hj hjm PS hmx hmx1 HBW HS HB HT HQ hA
      cases P with
      | false =>
        go_wp2
        go_roundw
        case rel => exact ⟨i + 1, lo, M, mx, bs', rs', rfl, rfl, by first | rfl | (congr 1; omega), by have := HI.out; omega, HMX.out.1, by have := HMX.out; omega, by have := HMX.out; have := HRR.out; omega, I4.out, S4.out, T4.out, Q4.out, B4.out⟩
        case measure => have := HI.out; simp [intOf]; omega
      | true =>
        have PP := Lib.hid (spopI S4.out)
        go_wp2_with fail
        refine PP.out.mono ?_
        rintro e w5 (⟨hz, -, -⟩ | ⟨y, rs5, rfl, hpd, hl5, h5, ht5, m5⟩)
        · exact absurd (Q4.out.some hm4 (by have := HQL.out; omega) (fun t ht => hz t (by rw [cs_lenI] at ht; exact ht))) (fun h => h)
        · obtain ⟨q1, q2, q3⟩ := Q4.out.pop hm4 hpd
          have Q5 := Lib.hid q3
          have S5 := Lib.hid h5
          have B5 := Lib.hid (m5.below B4.out (fun j hj => (S4.out.inlt hj).1) B4.out.size)
          have T5 : Hid (totI rs5 + (lo + 1) = i + 1) := Lib.hid (by have := T4.out; omega)
          have HLT := Lib.hid q1
          obtain ⟨y1, y2⟩ := y
          dsimp only at q2
          subst q2
          clear q1 q3 h5 m5 ht5 hl5 hpd PP
          have lo1 : (lo : Int) ≤ 300 := by have := HLT.out; omega
          dsimp only
          go_wp2
          go_roundw
          case rel => exact ⟨i + 1, lo + 1, M, mx, bs', rs5, rfl, by first | rfl | (congr 1; omega), by first | rfl | (congr 1; omega), by have := HI.out; omega, HMX.out.1, by have := HMX.out; omega, by have := HMX.out; have := HRR.out; omega, I4.out, S5.out, T5.out, Q5.out, B5.out⟩
          case measure => have := HI.out; simp [intOf]; omega
    · obtain rfl : i = l := by omega
      have S5 := Lib.hid hS; have T5 := Lib.hid hT; have Q5 := Lib.hid hQ; have B5 := Lib.hid hb
      clear hS hT hQ hb hB hin hi hR
      go_wp2
      go_loopw [11] (fun y wr => ∃ (lo : Nat) (rs : List RgI), y = .int .i64 lo ∧ SpAtI wr w.heap.size B 4096 vb vq bs rs ∧ totI rs + lo = i ∧ QIs (csI rs) m lo i ∧ Below w.heap.size w wr) (fun y _ => i - (intOf y).toNat)
      case atStart => exact ⟨lo, rs, rfl, S5.out, T5.out, Q5.out, B5.out⟩
      case round =>
        clear S5 T5 Q5 B5
        obtain ⟨lo, rs, rfl, hS, hT, hQ, hb⟩ := hrel
        have hlo := hQ.le
        by_cases hlt : lo < i
        · have PP := Lib.hid (spopI hS)
          have S5 := Lib.hid hS; have T5 := Lib.hid hT; have Q5 := Lib.hid hQ; have B5 := Lib.hid hb
          clear hS hT hQ hb
          go_wp2_with fail
          refine PP.out.mono ?_
          rintro e w5 (⟨hz, -, -⟩ | ⟨y, rs5, rfl, hpd, hl5, h5, ht5, m5⟩)
          · exact absurd (Q5.out.some hm4 hlt (fun t ht => hz t (by rw [cs_lenI] at ht; exact ht))) (fun h => h)
          · obtain ⟨q1, q2, q3⟩ := Q5.out.pop hm4 hpd
            have Q6 := Lib.hid q3
            have S6 := Lib.hid h5
            have B6 := Lib.hid (m5.below B5.out (fun j hj => (S5.out.inlt hj).1) B5.out.size)
            have T6 : Hid (totI rs5 + (lo + 1) = i) := Lib.hid (by have := T5.out; omega)
            obtain ⟨y1, y2⟩ := y
            dsimp only at q2
            subst q2
            clear q1 q3 h5 m5 ht5 hl5 hpd PP
            dsimp only
            go_wp2
            go_roundw
            case rel => exact ⟨lo + 1, rs5, by first | rfl | (congr 1; omega), S6.out, T6.out, Q6.out, B6.out⟩
            case measure => simp [intOf]; omega
        · have LN := Lib.hid (slenI hS)
          have htz : totI rs = 0 := by omega
          rw [htz] at LN
          have B5 := Lib.hid hb
          clear hS hT hQ hb htz
          go_wp2_with fail
          refine LN.out.mono ?_
          rintro e w' ⟨rfl, rfl⟩
          go_wp2_with fail
          refine (LV.out _).mono ?_
          rintro e w9 ⟨rfl, b9⟩
          go_wp2
          go_ret
          exact ⟨rfl, B5.out.trans (b9.mono B5.out.size)⟩
theorem walk_spRises (n : Int) (n0 : 0 ≤ n) (n1 : n ≤ 255) (a : Option Addr) (l c : Nat) (zs : List Rise12) {w : World} (hr : RowR12 w a l zs) (hcap : l ≤ c) (one : Bool) :
    Calls Try.prog 8 #[.int .u8 n, .slice a l c, .bool one] w fun e w' => e = .returned (.bool true) ∧ Below w.heap.size w w' := by
  obtain ⟨hz, hm, hw, hc⟩ := hr
  by_cases h : l ≤ 300
  · subst hz
    have hc' : ∀ i, i < zs.length → ∃ b off, a = some ⟨b, off, none⟩ ∧ b < w.heap.size ∧ w.cell? ⟨b, off + i * 2, none⟩ = some (.int .u32 (zs.getD i Rise12.nil).m) ∧ w.cell? ⟨b, off + i * 2 + 1, none⟩ = some (.bool (zs.getD i Rise12.nil).p) := fun i hi => by
      obtain ⟨b, off, e, hb, hcell⟩ := hc (by omega)
      exact ⟨b, off, e, hb, hcell i hi⟩
    cases one with
    | false => exact rises12_false n n0 n1 a c zs h hw w hc'
    | true => exact rises12_true n n0 n1 a c zs h hw w hc'
  · unfold maxLen at hm
    have h1 : 300 < l := by omega
    have LV := Lib.hid (lives12 w)
    clear hc hw hz h
    go_enter Try.func8, Try.ntmps8
    go_wp2_with fail
    refine LV.out.mono ?_
    rintro e w9 ⟨rfl, b9⟩
    go_wp2
    go_ret
    exact ⟨rfl, b9⟩
end Go.Proofs.Ytkgiaijcgblpbaa
