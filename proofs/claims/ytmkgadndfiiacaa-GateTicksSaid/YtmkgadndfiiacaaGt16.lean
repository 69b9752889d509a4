/-
  Layer 22, the document's answer: for how long a class stays open, and when it is so for long enough. No condition but that the plan may be and the class is not open for ever.
-/
import Derived.Test.YtmkgadndfiiacaaGt15
namespace Go.Proofs.Ytmkgadndfiiacaa
set_option linter.unusedVariables false
set_option linter.unusedSimpArgs false
open Go.ChangeShapes Go.WideShapes Go.ChangeAt Go.RowKit
attribute [local go_sem] alloc_drewN setCell_drewN

set_option maxHeartbeats 2000000 in
theorem rstays22 {w : World} {a : Option Addr} {n : Nat} {fs : List Slot22} (hr : RowSl w a n fs) (c : Nat) (hok : PlanOk fs n) (cl : Nat) (hcl : cl ≤ 7) (t : Int) (t0 : 0 ≤ t) (t1 : t ≤ 18446744073709551615) {k0 : Nat} (hk : InSlot fs n (t % spans fs n) k0)
    {j : Nat} {v : Int} (hS : StaysIs fs n k0 (t % spans fs n) cl (spans fs n) j v true) :
    Calls Try.prog 35 #[.slice a n c, .int .i64 cl, .int .u64 t] w fun e w' => e = .returned (.int .u64 v) ∧ w' = w := by
  obtain ⟨p0, p1⟩ := round_pos hok
  have em : t.tmod (spans fs n) = t % spans fs n := Int.tmod_eq_emod_of_nonneg t0
  have m0 : 0 ≤ t % spans fs n := Int.emod_nonneg _ (by omega)
  have m1 : t % spans fs n < spans fs n := Int.emod_lt_of_pos _ (by omega)
  have hn : n ≤ 64 := hok.1.2
  have RD := Lib.hid (rround22 hr c hok)
  obtain ⟨tm, htm⟩ : ∃ m, t % spans fs n = m := ⟨_, rfl⟩
  rw [htm] at em m0 m1 hk hS
  obtain ⟨hgo, hend⟩ := hS
  obtain ⟨hcl2, hv⟩ : opj fs n k0 tm cl j = false ∧ v = pos22 fs n k0 tm j := by
    rcases hend with ⟨h1, h2, -⟩ | ⟨-, -, -, h⟩
    · exact ⟨h1, h2⟩
    · cases h
  have hle : ∀ i, i ≤ j → 0 ≤ pos22 fs n k0 tm i ∧ pos22 fs n k0 tm i < spans fs n := fun i hi => by
    have h1 := (pos_ge hok hk i).1
    cases i with
    | zero => simp only [pos22]; omega
    | succ i => exact ⟨by omega, (hgo i (by omega)).2⟩
  have IS := Lib.hid (fun (i : Nat) (hi : i ≤ j) => ris22 hr c hok cl hcl (tm + pos22 fs n k0 tm i) (by have := hle i hi; omega) (by have := hle i hi; omega) (cyc hok hk m0 i).1)
  have SL := Lib.hid (fun (i : Nat) (hi : i ≤ j) => rslot22 hr c hok (tm + pos22 fs n k0 tm i) (by have := hle i hi; omega) (by have := hle i hi; omega) (cyc hok hk m0 i).1)
  have CY := Lib.hid (cyc hok hk m0)
  have WP := Lib.hid (wid_pos hok hk)
  have HG := Lib.hid hgo; have HL := Lib.hid hle
  have hjv := Lib.hid hcl2
  have HK := Lib.hid hk.1
  have HV := Lib.hid hv
  have HMON := Lib.hid (fun i (hi : i < j) => pos_mono hok hk hi)
  obtain ⟨R, hR⟩ : ∃ R, spans fs n = R := ⟨_, rfl⟩
  have HR := Lib.hid hR
  rw [hR] at em p0 p1 m1 RD
  have p2 : ¬ R = 0 := by omega
  clear hr hok hk hgo hend hcl2 hv hle htm hR
  go_enter Try.func35, Try.ntmps35
  go_wp2_with fail
  refine RD.out.mono ?_
  rintro e w1 ⟨rfl, hw1⟩
  obtain rfl := hw1.symm
  go_wp2
  go_loopw [7] (fun z wr => ∃ i : Nat, i ≤ j ∧ z = .int .u64 (pos22 fs n k0 tm i) ∧ wr = w) (fun z _ => (v - intOf z).toNat)
  case atStart => exact ⟨0, Nat.zero_le _, rfl, rfl⟩
  case round =>
    obtain ⟨i, hi, rfl, rfl⟩ := hrel
    have IS1 := Lib.hid (IS.out i hi)
    have SL1 := Lib.hid (SL.out i hi)
    have hoi := opj_is (fs := fs) (t := tm) (cl := cl) HK.out i
    obtain ⟨l0, l1⟩ := HL.out i hi
    obtain ⟨-, cy, -⟩ := CY.out i
    rw [HR.out] at l1 cy
    obtain ⟨wp0, wp1⟩ := WP.out i
    have hnx : pos22 fs n k0 tm (i + 1) = pos22 fs n k0 tm i + wid fs n k0 tm i := rfl
    have HMX := Lib.hid (fun (h : i < j) => HMON.out i h)
    have HLT := Lib.hid (fun (h : i < j) => (HG.out i h).2)
    rw [← hoi] at IS1
    obtain ⟨P, hP⟩ : ∃ P, pos22 fs n k0 tm i = P := ⟨_, rfl⟩
    obtain ⟨wd, hwd⟩ : ∃ wd, wid fs n k0 tm i = wd := ⟨_, rfl⟩
    obtain ⟨E, hE⟩ : ∃ E, spans fs ((k0 + i) % n + 1) = E := ⟨_, rfl⟩
    rw [hP] at IS1 SL1 l0 l1 cy hnx
    rw [hP]
    rw [hE] at SL1 cy
    rw [hwd] at cy wp0 wp1 hnx
    obtain ⟨x, hx⟩ : ∃ x, tm + P = x := ⟨_, rfl⟩
    have hx0 : 0 ≤ x ∧ x ≤ 549755813888 := by omega
    rw [hx] at IS1 SL1 cy
    obtain ⟨y, hy⟩ : ∃ y, x % R = y := ⟨_, rfl⟩
    have hy0 : 0 ≤ y ∧ y < R := by rw [← hy]; exact ⟨Int.emod_nonneg _ (by omega), Int.emod_lt_of_pos _ (by omega)⟩
    have hyt : x.tmod R = y := by rw [Int.tmod_eq_emod_of_nonneg hx0.1]; exact hy
    rw [hy] at cy
    have HNX := Lib.hid (And.intro hnx (And.intro hP hwd))
    obtain ⟨x0, x1⟩ := hx0
    obtain ⟨y0, y1⟩ := hy0
    clear hnx hP hwd hE hy hoi
    cases ho : opj fs n k0 tm cl i with
    | true =>
      rw [ho] at IS1
      have hlt : i < j := by
        by_cases e : i < j
        · exact e
        · exfalso
          have e2 : i = j := by omega
          rw [e2, hjv.out] at ho
          cases ho
      obtain ⟨E', hE'⟩ : ∃ E', E - y = E' := ⟨_, rfl⟩
      have cE : E' = wd := by omega
      obtain ⟨P', hP'⟩ : ∃ P', P + wd = P' := ⟨_, rfl⟩
      subst cE
      have e1 : 0 ≤ E := by omega
      have e2 : E ≤ 549755813888 := by omega
      go_wp2_with fail
      refine IS1.out.mono ?_
      rintro e w1 ⟨rfl, hw1⟩
      obtain rfl := hw1.symm
      go_wp2_with fail
      refine SL1.out.mono ?_
      rintro e w1 ⟨rfl, hw1⟩
      obtain rfl := hw1.symm
      go_wp2_with fail
      refine RD.out.mono ?_
      rintro e w1 ⟨rfl, hw1⟩
      obtain rfl := hw1.symm
      go_wp2
      go_roundw
      case rel => exact ⟨i + 1, hlt, by rw [HNX.out.1, hP'], trivial⟩
      case measure =>
        have h1 := HMX.out hlt
        rw [show i.succ = i + 1 from rfl, HNX.out.1] at h1
        have h2 := HV.out
        simp only [intOf]
        omega
    | false =>
      rw [ho] at IS1
      have hij : i = j := by
        by_cases e : i < j
        · have := (HG.out i e).1
          rw [ho] at this
          cases this
        · omega
      go_wp2_with fail
      refine IS1.out.mono ?_
      rintro e w1 ⟨rfl, hw1⟩
      obtain rfl := hw1.symm
      go_wp2
      go_ret
      refine ⟨?_, rfl⟩
      rw [HV.out, ← hij, HNX.out.2.1]
      rfl
set_option maxHeartbeats 2000000 in
theorem rnext22_z {w : World} {a : Option Addr} {n : Nat} {fs : List Slot22} (hr : RowSl w a n fs) (c : Nat) (hok : PlanOk fs n) (cl : Nat) (hcl : cl ≤ 7) (t : Int) (t0 : 0 ≤ t) (t1 : t ≤ 9223372036854775808) (need : Int) (need0 : 0 ≤ need) (need1 : need ≤ 18446744073709551615) {k0 : Nat} (hk : InSlot fs n (t % spans fs n) k0)
    (hno : ¬ AllOpen fs n cl) (hz : need = 0) {top : Nat} {v : Int} {ok : Bool} (hlt : ∀ i, i < top → ∃ c, Wit fs n k0 (t % spans fs n) cl i c ∧ pos22 fs n k0 (t % spans fs n) c - pos22 fs n k0 (t % spans fs n) i < 1)
    (htop : (top ≤ n ∧ (∃ c, Wit fs n k0 (t % spans fs n) cl top c ∧ 1 ≤ pos22 fs n k0 (t % spans fs n) c - pos22 fs n k0 (t % spans fs n) top) ∧ v = t + pos22 fs n k0 (t % spans fs n) top ∧ ok = decide (t + pos22 fs n k0 (t % spans fs n) top ≤ 9223372036854775808)) ∨ (top = n + 1 ∧ v = 0 ∧ ok = false)) :
    Calls Try.prog 36 #[.slice a n c, .int .i64 cl, .int .u64 t, .int .u64 need] w fun e w' => e = .returned (.tuple #[.int .u64 v, .bool ok]) ∧ w' = w := by
  obtain ⟨p0, p1⟩ := round_pos hok
  have m0 : 0 ≤ t % spans fs n := Int.emod_nonneg _ (by omega)
  have hn : n ≤ 64 := hok.1.2
  have RD := Lib.hid (rround22 hr c hok)
  obtain ⟨tm, htm⟩ : ∃ m, t % spans fs n = m := ⟨_, rfl⟩
  rw [htm] at m0 hk hlt htop
  have hmod : ∀ p : Int, (t + p) % spans fs n = (tm + p) % spans fs n := fun p => by rw [← htm, Int.emod_add_emod]
  have hle : ∀ i, i ≤ n + 1 → 0 ≤ pos22 fs n k0 tm i ∧ pos22 fs n k0 tm i ≤ 549755813888 := fun i hi => by
    have h1 := pos_ge hok hk i
    omega
  have SL := Lib.hid (fun (i : Nat) (hi : i ≤ n + 1) => rslot22 hr c hok (t + pos22 fs n k0 tm i) (by have := hle i hi; omega) (by have := hle i hi; omega) (by rw [hmod]; exact (cyc hok hk m0 i).1))
  have ST := Lib.hid (fun (i : Nat) (hi : i ≤ n + 1) (c' : Nat) (hw : Wit fs n k0 tm cl i c') => rstays22 hr c hok cl hcl (t + pos22 fs n k0 tm i) (by have := hle i hi; omega) (by have := hle i hi; omega) (by rw [hmod]; exact (cyc hok hk m0 i).1) (by rw [hmod]; exact hw.stays hok hk m0 hno))
  have CY := Lib.hid (fun i => (cyc hok hk m0 i).2.1)
  have WP := Lib.hid (wid_pos hok hk)
  have HL := Lib.hid hle; have HLT := Lib.hid hlt; have HTOP := Lib.hid htop
  have HMOD := Lib.hid hmod
  have htn : top ≤ n + 1 := by rcases htop with ⟨h, -⟩ | ⟨h, -⟩ <;> omega
  obtain ⟨R, hR⟩ : ∃ R, spans fs n = R := ⟨_, rfl⟩
  have HR := Lib.hid hR
  rw [hR] at p0 p1 RD
  have p2 : ¬ R = 0 := by omega
  subst hz
  clear hr hok hk hle hlt htop hmod htm hR hno
  go_enter Try.func36, Try.ntmps36
  go_wp2
  go_loopw [10, 11] (fun z y wr => ∃ i : Nat, i ≤ top ∧ z = .int .u64 (t + pos22 fs n k0 tm i) ∧ y = .int .i64 i ∧ wr = w) (fun _ y _ => n + 1 - (intOf y).toNat)
  case atStart => exact ⟨0, Nat.zero_le _, by simp [pos22], rfl, rfl⟩
  case round =>
    obtain ⟨i, hi, rfl, rfl, rfl⟩ := hrel
    have z0 : (0 : Int) ≤ i := by omega
    by_cases hin : i ≤ n
    · have z1 : (i : Int) ≤ n := by omega
      have SL1 := Lib.hid (SL.out i (by omega))
      have cy := CY.out i
      rw [← HMOD.out, HR.out] at cy
      obtain ⟨l0, l1⟩ := HL.out i (by omega)
      obtain ⟨wp0, wp1⟩ := WP.out i
      have hnx : pos22 fs n k0 tm (i + 1) = pos22 fs n k0 tm i + wid fs n k0 tm i := rfl
      by_cases hit : i < top
      · obtain ⟨c', hw, hS⟩ := HLT.out i hit
        have ST1 := Lib.hid (ST.out i (by omega) c' hw)
        obtain ⟨S, hSe⟩ : ∃ S, pos22 fs n k0 tm c' - pos22 fs n k0 tm i = S := ⟨_, rfl⟩
        rw [hSe] at ST1 hS
        have hS2 : ¬ 1 ≤ S := by omega
        obtain ⟨P, hP⟩ : ∃ P, pos22 fs n k0 tm i = P := ⟨_, rfl⟩
        obtain ⟨wd, hwd⟩ : ∃ wd, wid fs n k0 tm i = wd := ⟨_, rfl⟩
        obtain ⟨E, hE⟩ : ∃ E, spans fs ((k0 + i) % n + 1) = E := ⟨_, rfl⟩
        rw [hP] at ST1 SL1 l0 l1 cy hnx
        rw [hP]
        rw [hE] at SL1 cy
        rw [hwd] at cy wp0 wp1 hnx
        obtain ⟨x, hx⟩ : ∃ x, t + P = x := ⟨_, rfl⟩
        have hx0 : 0 ≤ x ∧ x ≤ 9223372586610589696 := by omega
        rw [hx] at ST1 SL1 cy
        rw [hx]
        obtain ⟨y, hy⟩ : ∃ y, x % R = y := ⟨_, rfl⟩
        have hy0 : 0 ≤ y ∧ y < R := by rw [← hy]; exact ⟨Int.emod_nonneg _ (by omega), Int.emod_lt_of_pos _ (by omega)⟩
        have hyt : x.tmod R = y := by rw [Int.tmod_eq_emod_of_nonneg hx0.1]; exact hy
        rw [hy] at cy
        have HNX := Lib.hid hnx
        have HX := Lib.hid hx
        obtain ⟨x0, x1⟩ := hx0
        obtain ⟨y0, y1⟩ := hy0
        clear hnx hP hwd hE hy hx hSe hS hw
        obtain ⟨E', hE'⟩ : ∃ E', E - y = E' := ⟨_, rfl⟩
        have cE : E' = wd := by omega
        obtain ⟨x', hx'⟩ : ∃ x', x + wd = x' := ⟨_, rfl⟩
        subst cE
        have e1 : 0 ≤ E := by omega
        have e2 : E ≤ 549755813888 := by omega
        go_wp2_with fail
        refine ST1.out.mono ?_
        rintro e w1 ⟨rfl, hw1⟩
        obtain rfl := hw1.symm
        go_wp2_with fail
        refine SL1.out.mono ?_
        rintro e w1 ⟨rfl, hw1⟩
        obtain rfl := hw1.symm
        go_wp2_with fail
        refine RD.out.mono ?_
        rintro e w1 ⟨rfl, hw1⟩
        obtain rfl := hw1.symm
        go_wp2
        go_roundw
        case rel => exact ⟨i + 1, hit, by rw [HNX.out, ← hx', ← HX.out, Int.add_assoc], by go_num, trivial⟩
        case measure => simp [intOf] <;> omega
      · obtain rfl : i = top := by omega
        rcases HTOP.out with ⟨-, ⟨c', hw, hS⟩, hv, hk⟩ | ⟨h, -⟩
        · have ST1 := Lib.hid (ST.out i (by omega) c' hw)
          obtain ⟨S, hSe⟩ : ∃ S, pos22 fs n k0 tm c' - pos22 fs n k0 tm i = S := ⟨_, rfl⟩
          rw [hSe] at ST1 hS
          obtain ⟨x, hx⟩ : ∃ x, t + pos22 fs n k0 tm i = x := ⟨_, rfl⟩
          rw [hx] at ST1 SL1 cy hv hk
          rw [hx]
          clear hw hSe hx hnx cy
          subst hv hk
          go_wp2_with fail
          refine ST1.out.mono ?_
          rintro e w1 ⟨rfl, hw1⟩
          obtain rfl := hw1.symm
          go_wp2
          go_ret2
          exact ⟨rfl, rfl⟩
        · omega
    · have hit : top = n + 1 := by omega
      obtain ⟨hv, hk⟩ : v = 0 ∧ ok = false := by
        rcases HTOP.out with ⟨h, -⟩ | ⟨-, h1, h2⟩
        · omega
        · exact ⟨h1, h2⟩
      have z1 : ¬ (i : Int) ≤ n := by omega
      subst hv hk
      go_wp2
      go_ret2
      exact ⟨rfl, rfl⟩
set_option maxHeartbeats 2000000 in
theorem rnext22_p {w : World} {a : Option Addr} {n : Nat} {fs : List Slot22} (hr : RowSl w a n fs) (c : Nat) (hok : PlanOk fs n) (cl : Nat) (hcl : cl ≤ 7) (t : Int) (t0 : 0 ≤ t) (t1 : t ≤ 9223372036854775808) (need : Int) (need0 : 0 ≤ need) (need1 : need ≤ 18446744073709551615) {k0 : Nat} (hk : InSlot fs n (t % spans fs n) k0)
    (hno : ¬ AllOpen fs n cl) (hz : ¬ need = 0) {top : Nat} {v : Int} {ok : Bool} (hlt : ∀ i, i < top → ∃ c, Wit fs n k0 (t % spans fs n) cl i c ∧ pos22 fs n k0 (t % spans fs n) c - pos22 fs n k0 (t % spans fs n) i < need)
    (htop : (top ≤ n ∧ (∃ c, Wit fs n k0 (t % spans fs n) cl top c ∧ need ≤ pos22 fs n k0 (t % spans fs n) c - pos22 fs n k0 (t % spans fs n) top) ∧ v = t + pos22 fs n k0 (t % spans fs n) top ∧ ok = decide (t + pos22 fs n k0 (t % spans fs n) top ≤ 9223372036854775808)) ∨ (top = n + 1 ∧ v = 0 ∧ ok = false)) :
    Calls Try.prog 36 #[.slice a n c, .int .i64 cl, .int .u64 t, .int .u64 need] w fun e w' => e = .returned (.tuple #[.int .u64 v, .bool ok]) ∧ w' = w := by
  obtain ⟨p0, p1⟩ := round_pos hok
  have m0 : 0 ≤ t % spans fs n := Int.emod_nonneg _ (by omega)
  have hn : n ≤ 64 := hok.1.2
  have RD := Lib.hid (rround22 hr c hok)
  obtain ⟨tm, htm⟩ : ∃ m, t % spans fs n = m := ⟨_, rfl⟩
  rw [htm] at m0 hk hlt htop
  have hmod : ∀ p : Int, (t + p) % spans fs n = (tm + p) % spans fs n := fun p => by rw [← htm, Int.emod_add_emod]
  have hle : ∀ i, i ≤ n + 1 → 0 ≤ pos22 fs n k0 tm i ∧ pos22 fs n k0 tm i ≤ 549755813888 := fun i hi => by
    have h1 := pos_ge hok hk i
    omega
  have SL := Lib.hid (fun (i : Nat) (hi : i ≤ n + 1) => rslot22 hr c hok (t + pos22 fs n k0 tm i) (by have := hle i hi; omega) (by have := hle i hi; omega) (by rw [hmod]; exact (cyc hok hk m0 i).1))
  have ST := Lib.hid (fun (i : Nat) (hi : i ≤ n + 1) (c' : Nat) (hw : Wit fs n k0 tm cl i c') => rstays22 hr c hok cl hcl (t + pos22 fs n k0 tm i) (by have := hle i hi; omega) (by have := hle i hi; omega) (by rw [hmod]; exact (cyc hok hk m0 i).1) (by rw [hmod]; exact hw.stays hok hk m0 hno))
  have CY := Lib.hid (fun i => (cyc hok hk m0 i).2.1)
  have WP := Lib.hid (wid_pos hok hk)
  have HL := Lib.hid hle; have HLT := Lib.hid hlt; have HTOP := Lib.hid htop
  have HMOD := Lib.hid hmod
  have htn : top ≤ n + 1 := by rcases htop with ⟨h, -⟩ | ⟨h, -⟩ <;> omega
  obtain ⟨R, hR⟩ : ∃ R, spans fs n = R := ⟨_, rfl⟩
  have HR := Lib.hid hR
  rw [hR] at p0 p1 RD
  have p2 : ¬ R = 0 := by omega
  have hnb : (need == 0) = false := by simp [hz]
  clear hr hok hk hle hlt htop hmod htm hR hno
  go_enter Try.func36, Try.ntmps36
  go_wp2
  go_loopw [10, 11] (fun z y wr => ∃ i : Nat, i ≤ top ∧ z = .int .u64 (t + pos22 fs n k0 tm i) ∧ y = .int .i64 i ∧ wr = w) (fun _ y _ => n + 1 - (intOf y).toNat)
  case atStart => exact ⟨0, Nat.zero_le _, by simp [pos22], rfl, rfl⟩
  case round =>
    obtain ⟨i, hi, rfl, rfl, rfl⟩ := hrel
    have z0 : (0 : Int) ≤ i := by omega
    by_cases hin : i ≤ n
    · have z1 : (i : Int) ≤ n := by omega
      have SL1 := Lib.hid (SL.out i (by omega))
      have cy := CY.out i
      rw [← HMOD.out, HR.out] at cy
      obtain ⟨l0, l1⟩ := HL.out i (by omega)
      obtain ⟨wp0, wp1⟩ := WP.out i
      have hnx : pos22 fs n k0 tm (i + 1) = pos22 fs n k0 tm i + wid fs n k0 tm i := rfl
      by_cases hit : i < top
      · obtain ⟨c', hw, hS⟩ := HLT.out i hit
        have ST1 := Lib.hid (ST.out i (by omega) c' hw)
        obtain ⟨S, hSe⟩ : ∃ S, pos22 fs n k0 tm c' - pos22 fs n k0 tm i = S := ⟨_, rfl⟩
        rw [hSe] at ST1 hS
        have hS2 : ¬ need ≤ S := by omega
        obtain ⟨P, hP⟩ : ∃ P, pos22 fs n k0 tm i = P := ⟨_, rfl⟩
        obtain ⟨wd, hwd⟩ : ∃ wd, wid fs n k0 tm i = wd := ⟨_, rfl⟩
        obtain ⟨E, hE⟩ : ∃ E, spans fs ((k0 + i) % n + 1) = E := ⟨_, rfl⟩
        rw [hP] at ST1 SL1 l0 l1 cy hnx
        rw [hP]
        rw [hE] at SL1 cy
        rw [hwd] at cy wp0 wp1 hnx
        obtain ⟨x, hx⟩ : ∃ x, t + P = x := ⟨_, rfl⟩
        have hx0 : 0 ≤ x ∧ x ≤ 9223372586610589696 := by omega
        rw [hx] at ST1 SL1 cy
        rw [hx]
        obtain ⟨y, hy⟩ : ∃ y, x % R = y := ⟨_, rfl⟩
        have hy0 : 0 ≤ y ∧ y < R := by rw [← hy]; exact ⟨Int.emod_nonneg _ (by omega), Int.emod_lt_of_pos _ (by omega)⟩
        have hyt : x.tmod R = y := by rw [Int.tmod_eq_emod_of_nonneg hx0.1]; exact hy
        rw [hy] at cy
        have HNX := Lib.hid hnx
        have HX := Lib.hid hx
        obtain ⟨x0, x1⟩ := hx0
        obtain ⟨y0, y1⟩ := hy0
        clear hnx hP hwd hE hy hx hSe hS hw
        obtain ⟨E', hE'⟩ : ∃ E', E - y = E' := ⟨_, rfl⟩
        have cE : E' = wd := by omega
        obtain ⟨x', hx'⟩ : ∃ x', x + wd = x' := ⟨_, rfl⟩
        subst cE
        have e1 : 0 ≤ E := by omega
        have e2 : E ≤ 549755813888 := by omega
        go_wp2_with fail
        refine ST1.out.mono ?_
        rintro e w1 ⟨rfl, hw1⟩
        obtain rfl := hw1.symm
        go_wp2_with fail
        refine SL1.out.mono ?_
        rintro e w1 ⟨rfl, hw1⟩
        obtain rfl := hw1.symm
        go_wp2_with fail
        refine RD.out.mono ?_
        rintro e w1 ⟨rfl, hw1⟩
        obtain rfl := hw1.symm
        go_wp2
        go_roundw
        case rel => exact ⟨i + 1, hit, by rw [HNX.out, ← hx', ← HX.out, Int.add_assoc], by go_num, trivial⟩
        case measure => simp [intOf] <;> omega
      · obtain rfl : i = top := by omega
        rcases HTOP.out with ⟨-, ⟨c', hw, hS⟩, hv, hk⟩ | ⟨h, -⟩
        · have ST1 := Lib.hid (ST.out i (by omega) c' hw)
          obtain ⟨S, hSe⟩ : ∃ S, pos22 fs n k0 tm c' - pos22 fs n k0 tm i = S := ⟨_, rfl⟩
          rw [hSe] at ST1 hS
          obtain ⟨x, hx⟩ : ∃ x, t + pos22 fs n k0 tm i = x := ⟨_, rfl⟩
          rw [hx] at ST1 SL1 cy hv hk
          rw [hx]
          clear hw hSe hx hnx cy
          subst hv hk
          go_wp2_with fail
          refine ST1.out.mono ?_
          rintro e w1 ⟨rfl, hw1⟩
          obtain rfl := hw1.symm
          go_wp2
          go_ret2
          exact ⟨rfl, rfl⟩
        · omega
    · have hit : top = n + 1 := by omega
      obtain ⟨hv, hk⟩ : v = 0 ∧ ok = false := by
        rcases HTOP.out with ⟨h, -⟩ | ⟨-, h1, h2⟩
        · omega
        · exact ⟨h1, h2⟩
      have z1 : ¬ (i : Int) ≤ n := by omega
      subst hv hk
      go_wp2
      go_ret2
      exact ⟨rfl, rfl⟩
end Go.Proofs.Ytmkgadndfiiacaa
