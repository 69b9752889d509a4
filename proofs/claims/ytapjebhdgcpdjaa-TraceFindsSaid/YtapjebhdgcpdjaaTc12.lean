/-
  pacemakerlaw39.TraceBack, walked. No condition.
-/
import Derived.Test.YtapjebhdgcpdjaaTc10
namespace Go.Proofs.Ytapjebhdgcpdjaa
set_option linter.unusedVariables false
set_option linter.unusedSimpArgs false
open Go.ChangeShapes Go.WideShapes Go.ChangeAt Go.RowKit
attribute [-go_sem] run_index_string binOp_string_eql binOp_string_neq run_string_add_if run_slice_string_from_if run_slice_string_to_if
attribute [local go_sem] index_bt add_fits slice_from slice_to eql_str neq_str alloc_drewN setCell_drewN

theorem isrd_all (l : List Rec) (hl : allRt l) : IsRd (tput l) l.length ∧ rl (tput l) l.length = l := by
  have h := isrd_put l hl ByteArray.empty (by decide)
  rw [empty_right] at h
  exact h
/-- Read, where it is known how many records there are. -/
theorem tcread_is (s : ByteArray) (hs : s.size ≤ 100000) (k : Nat) (l : List Rec) (N : Int) (hk : IsRd s k) (hl : rl s k = l) (hN : N = 30 * (k : Int)) (w : World) :
    Calls Try.prog 33 #[.string s] w fun e w' => ∃ v, e = .returned (.tuple #[v, .int .i64 N]) ∧ SRc w' v l ∧ Below w.heap.size w w' := by
  subst hN hl
  refine (tcread s hs w).mono ?_
  rintro e w' ⟨v, k', rfl, hk', ho, hb⟩
  have e1 : k' = k := isrd_one hk' hk
  subst e1
  exact ⟨v, rfl, SRc.of_own ho, hb⟩
set_option maxRecDepth 100000 in
set_option maxHeartbeats 4000000 in
theorem back39 (a : Option Addr) (c : Nat) (l : List Rec) {w : World} (hr : RowRc w a l.length l) (hcap : l.length ≤ c) (hl : ¬ (l.length : Int) > 100) (s : ByteArray) (hs : ¬ (s.size : Int) > 29) (u : Int) (u0 : 0 ≤ u) (u1 : u ≤ 65535) (hall : allR39 l) :
    Calls Try.prog 9 #[.slice a l.length c, .string s, .int .u16 u] w fun e w' => e = .returned (.bool true) ∧ Below w.heap.size w w' := by
  have HSR := Lib.hid (SRc.of_row (c := c) hr)
  have hok := hr.2.2.1
  clear hr
  have hrt : allRt l := fun x h => ⟨hok x h, hall x h⟩
  have PT := Lib.hid (fun W v (h : SRc W v l) => tcPut l (by omega) hok h #[.string (tput l), .int .i64 0] (fun _ => rfl) (fun h => absurd hall h))
  have zT := tput_size l
  obtain ⟨d1, d2⟩ := isrd_put l hrt s (by omega)
  have RD1 := Lib.hid (fun W => tcread_is (tput l ++ s) (by rw [ByteArray.size_append]; omega) l.length l ((tput l).size : Int) d1 d2 (by omega) W)
  have hmod := Int.tmod_nonneg (a := u) (((tput l).size : Int) + 1) u0
  have hmod2 := Int.tmod_lt_of_pos u (show (0 : Int) < ((tput l).size : Int) + 1 by omega)
  obtain ⟨K, hK⟩ : ∃ K : Nat, Int.tmod u (((tput l).size : Int) + 1) = (K : Int) := ⟨(Int.tmod u (((tput l).size : Int) + 1)).toNat, by omega⟩
  have hKs : K ≤ (tput l).size := by omega
  obtain ⟨J, hJ⟩ : ∃ J : Nat, J = K / 30 := ⟨_, rfl⟩
  have hJl : J ≤ l.length := by omega
  obtain ⟨f1, f2⟩ := isrd_cut l hrt K (by omega)
  rw [← hJ] at f1 f2
  obtain ⟨N, hN⟩ : ∃ N : Int, N = 30 * (J : Int) := ⟨_, rfl⟩
  have RD2 := Lib.hid (fun W => tcread_is ((tput l).extract 0 K) (by rw [size_ext _ _ _ hKs]; omega) J (l.take J) N f1 f2 hN W)
  have hq : Int.tdiv (K : Int) 30 = (J : Int) := by rw [Int.tdiv_eq_ediv_of_nonneg (by omega)]; omega
  have hq2 : Int.tdiv N 30 = (J : Int) := by rw [Int.tdiv_eq_ediv_of_nonneg (by omega)]; omega
  have g1 : (N == (J : Int) * 30) = true := by simp; omega
  have hN2 : 0 ≤ N ∧ N ≤ 100000 := by omega
  have hJ5 : (l.take J).length ≤ 100000 := by rw [List.length_take]; omega
  obtain ⟨T, hT⟩ : ∃ T, tput l = T := ⟨_, rfl⟩
  rw [hT] at PT RD1 RD2 hK hKs zT
  have hTs : T.size ≤ 3000 := by omega
  have ft : Fits T s := ⟨by omega⟩
  have hin : InS T (K : Int) := ⟨by omega⟩
  have hll : l.length ≤ 100 := by omega
  have hJl2 : (J : Int) ≤ (l.length : Int) := by omega
  obtain ⟨hN0, hN1⟩ := hN2
  clear hT d1 d2 f1 f2 hmod hmod2 hJ hN zT hrt hok hall
  have hls : l.length ≤ 100000 := by omega
  go_enter Try.func9, Try.ntmps9
  go_wp2_with fail
  refine (PT.out _ _ HSR.out).mono ?_
  rintro e w1 ⟨rfl, h1⟩
  have HS1 := Lib.hid (HSR.out.later h1)
  have HB1 := Lib.hid h1
  have hz1 := HB1.out.size
  clear h1
  go_wp2_with fail
  refine (RD1.out _).mono ?_
  rintro e w2 ⟨v2, rfl, hr2, h2⟩
  have HS2 := Lib.hid (HS1.out.later h2)
  have HB2 := Lib.hid (HB1.out.trans (h2.mono hz1))
  have hz2 := HB2.out.size
  have SM1 := Lib.hid (same39 hls HS2.out hr2)
  clear h2
  go_wp2_with fail
  refine (SM1.out).mono ?_
  rintro e w3 ⟨rfl, h3⟩
  have HS3 := Lib.hid (HS2.out.later h3)
  have HB3 := Lib.hid (HB2.out.trans (h3.mono hz2))
  have hz3 := HB3.out.size
  clear h3 hr2
  go_wp2_with fail
  refine (RD2.out _).mono ?_
  rintro e w4 ⟨v4, rfl, hr4, h4⟩
  have HS4 := Lib.hid (HS3.out.later h4)
  have HB4 := Lib.hid (HB3.out.trans (h4.mono hz3))
  have hz4 := HB4.out.size
  have HR4 := Lib.hid hr4
  clear h4 hr4
  have HS1b := Lib.hid (HS4.out.front (n := 0) (c2 := c) J hJl)
  have SM := Lib.hid (same39 hJ5 HR4.out HS1b.out)
  go_wp2_with fail
  refine (SM.out).mono ?_
  rintro e w5 ⟨rfl, h5⟩
  have HB5 := Lib.hid (HB4.out.trans (h5.mono hz4))
  have hz5 := HB5.out.size
  clear h5
  go_wp2_with fail
  refine (lives39 _).mono ?_
  rintro e w6 ⟨rfl, h6⟩
  go_wp2
  go_ret
  exact ⟨rfl, HB5.out.trans (h6.mono hz5)⟩
theorem walk_traceBack (a : Option Addr) (n c : Nat) (l : List Rec) {w : World} (hr : RowRc w a n l) (hcap : n ≤ c) (s : ByteArray) (hs : s.size ≤ maxLen) (u : Int) (u0 : 0 ≤ u) (u1 : u ≤ 65535) :
    Calls Try.prog 9 #[.slice a n c, .string s, .int .u16 u] w fun e w' => e = .returned (.bool true) ∧ Below w.heap.size w w' := by
  have hn := hr.1
  have hok := hr.2.2.1
  by_cases h1 : (n : Int) > 100
  · clear hr hn hok
    go_enter Try.func9, Try.ntmps9
    go_wp2_with fail
    refine (lives39 _).mono ?_
    rintro e w1 ⟨rfl, hb⟩
    go_wp2
    go_ret
    exact ⟨rfl, hb⟩
  · by_cases h2 : (s.size : Int) > 29
    · clear hr hn hok
      go_enter Try.func9, Try.ntmps9
      go_wp2_with fail
      refine (lives39 _).mono ?_
      rintro e w1 ⟨rfl, hb⟩
      go_wp2
      go_ret
      exact ⟨rfl, hb⟩
    · subst hn
      by_cases hall : allR39 l
      · exact back39 a c l hr hcap h1 s h2 u u0 u1 hall
      · have HSR := Lib.hid (SRc.of_row (c := c) hr)
        have PT := Lib.hid (fun W v (h : SRc W v l) => tcPut l (by omega) hok h #[.string ⟨#[]⟩, .int .i64 6] (fun h => absurd h hall) (fun _ => rfl))
        have ed : decide ((⟨#[]⟩ : ByteArray) = ⟨#[]⟩) = true := decide_eq_true rfl
        clear hr hok hall
        go_enter Try.func9, Try.ntmps9
        go_wp2_with fail
        refine (PT.out _ _ HSR.out).mono ?_
        rintro e w1 ⟨rfl, h1⟩
        have hz1 := h1.size
        go_wp2_with fail
        refine (lives39 _).mono ?_
        rintro e w6 ⟨rfl, h6⟩
        go_wp2
        go_ret
        exact ⟨rfl, h1.trans (h6.mono hz1)⟩
end Go.Proofs.Ytapjebhdgcpdjaa
