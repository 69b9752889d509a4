/-
  pacemakerlaw39.TraceFinds, walked. No condition.
-/
import Derived.Test.YtapjebhdgcpdjaaTc12
namespace Go.Proofs.Ytapjebhdgcpdjaa
set_option linter.unusedVariables false
set_option linter.unusedSimpArgs false
open Go.ChangeShapes Go.WideShapes Go.ChangeAt Go.RowKit
attribute [-go_sem] run_index_string binOp_string_eql binOp_string_neq run_string_add_if run_slice_string_from_if run_slice_string_to_if
attribute [local go_sem] index_bt add_fits slice_from slice_to eql_str neq_str alloc_drewN setCell_drewN

set_option maxRecDepth 100000 in
set_option maxHeartbeats 4000000 in
theorem finds39 (a : Option Addr) (c : Nat) (l : List Rec) {w : World} (hr : RowRc w a l.length l) (hcap : l.length ≤ c) (hl : ¬ (l.length : Int) > 100) (hl0 : ¬ (l.length : Int) = 0) (x : Int) (x0 : -9223372036854775808 ≤ x) (x1 : x ≤ 9223372036854775807) (d : Int) (d0 : 0 ≤ d) (d1 : d ≤ 255) (hall : allR39 l) :
    Calls Try.prog 10 #[.slice a l.length c, .int .i64 x, .int .u8 d] w fun e w' => e = .returned (.bool true) ∧ Below w.heap.size w w' := by
  have HSR := Lib.hid (SRc.of_row (c := c) hr)
  have hok := hr.2.2.1
  clear hr
  have hrt : allRt l := fun x h => ⟨hok x h, hall x h⟩
  have PT := Lib.hid (fun W v (h : SRc W v l) => tcPut l (by omega) hok h #[.string (tput l), .int .i64 0] (fun _ => rfl) (fun h => absurd hall h))
  have zT := tput_size l
  obtain ⟨K, hKs, hK⟩ := place x (tput l).size (by omega)
  have WT := Lib.hid (fun W => with_at (tput l) K (K : Int) d rfl hKs (by omega) d0 d1 W)
  obtain ⟨J, hJ⟩ : ∃ J : Nat, J = K / 30 := ⟨_, rfl⟩
  have hJl : J ≤ l.length := by omega
  obtain ⟨N, hN⟩ : ∃ N : Int, N = 30 * (J : Int) := ⟨_, rfl⟩
  have zW := wth_size (tput l) K (u8 d) hKs
  have hq : Int.tdiv (K : Int) 30 = (J : Int) := by rw [Int.tdiv_eq_ediv_of_nonneg (by omega)]; omega
  have hq2 : Int.tdiv N 30 = (J : Int) := by rw [Int.tdiv_eq_ediv_of_nonneg (by omega)]; omega
  have g1 : (N == (J : Int) * 30) = true := by simp; omega
  have hN2 : 0 ≤ N ∧ N ≤ 100000 := by omega
  have hJ5 : (l.take J).length ≤ 100000 := by rw [List.length_take]; omega
  have gx : IntKind.u64.wrap x = x % 18446744073709551616 := IntKind.wrap_u64 x
  have gs : IntKind.u64.wrap ((tput l).size : Int) = ((tput l).size : Int) := by rw [IntKind.wrap_u64]; omega
  have gm : Int.tmod (x % 18446744073709551616) ((tput l).size : Int) = (K : Int) := by rw [Int.tmod_eq_emod_of_nonneg (by omega)]; exact hK
  have gk : IntKind.i64.wrap (K : Int) = (K : Int) := by rw [IntKind.wrap_i64]; omega
  obtain ⟨hN0, hN1⟩ := hN2
  have hll : l.length ≤ 100 := by omega
  have hJl2 : (J : Int) ≤ (l.length : Int) := by omega
  by_cases ht : wth (tput l) K (u8 d) = tput l
  · obtain ⟨f1, f2⟩ := isrd_all l hrt
    have RD := Lib.hid (fun W => tcread_is (tput l) (by omega) l.length l ((tput l).size : Int) f1 f2 (by omega) W)
    rw [ht] at WT
    obtain ⟨T, hT⟩ : ∃ T, tput l = T := ⟨_, rfl⟩
    rw [hT] at PT RD WT hK hKs zT gs gm
    have hTs : T.size ≤ 3000 := by omega
    have hT0 : ¬ (T.size : Int) = 0 := by omega
    have ed : decide (T = T) = true := decide_eq_true rfl
    clear hT f1 f2 hJ hN zT hrt hok hall ht zW hK
    go_enter Try.func10, Try.ntmps10
    go_wp2_with fail
    refine (PT.out _ _ HSR.out).mono ?_
    rintro e w1 ⟨rfl, h1⟩
    have HB1 := Lib.hid h1
    have hz1 := HB1.out.size
    clear h1
    go_wp2_with fail
    refine (WT.out _).mono ?_
    rintro e w2 ⟨rfl, h2⟩
    have HB2 := Lib.hid (HB1.out.trans (h2.mono hz1))
    have hz2 := HB2.out.size
    clear h2
    go_wp2_with fail
    refine (RD.out _).mono ?_
    rintro e w3 ⟨v3, rfl, hr3, h3⟩
    have HB3 := Lib.hid (HB2.out.trans (h3.mono hz2))
    have hz3 := HB3.out.size
    clear h3 hr3
    go_wp2_with fail
    refine (lives39 _).mono ?_
    rintro e w6 ⟨rfl, h6⟩
    go_wp2
    go_ret
    exact ⟨rfl, HB3.out.trans (h6.mono hz3)⟩
  · obtain ⟨f1, f2⟩ := isrd_wth l hrt K (u8 d) (by omega) ht
    rw [← hJ] at f1 f2
    have RD := Lib.hid (fun W => tcread_is (wth (tput l) K (u8 d)) (by omega) J (l.take J) N f1 f2 hN W)
    obtain ⟨T, hT⟩ : ∃ T, tput l = T := ⟨_, rfl⟩
    rw [hT] at PT RD WT hK hKs zT gs gm ht
    obtain ⟨U, hU⟩ : ∃ U, wth T K (u8 d) = U := ⟨_, rfl⟩
    rw [hU] at RD WT ht
    have hTs : T.size ≤ 3000 := by omega
    have hT0 : ¬ (T.size : Int) = 0 := by omega
    have ed : decide (U = T) = false := decide_eq_false ht
    clear hT hU f1 f2 hJ hN zT hrt hok hall ht zW hK
    go_enter Try.func10, Try.ntmps10
    go_wp2_with fail
    refine (PT.out _ _ HSR.out).mono ?_
    rintro e w1 ⟨rfl, h1⟩
    have HS1 := Lib.hid (HSR.out.later h1)
    have HB1 := Lib.hid h1
    have hz1 := HB1.out.size
    clear h1
    go_wp2_with fail
    refine (WT.out _).mono ?_
    rintro e w2 ⟨rfl, h2⟩
    have HS2 := Lib.hid (HS1.out.later h2)
    have HB2 := Lib.hid (HB1.out.trans (h2.mono hz1))
    have hz2 := HB2.out.size
    clear h2
    go_wp2_with fail
    refine (RD.out _).mono ?_
    rintro e w3 ⟨v3, rfl, hr3, h3⟩
    have HS3 := Lib.hid (HS2.out.later h3)
    have HB3 := Lib.hid (HB2.out.trans (h3.mono hz2))
    have hz3 := HB3.out.size
    have HR3 := Lib.hid hr3
    clear h3 hr3
    have HS1b := Lib.hid (HS3.out.front (n := 0) (c2 := c) J hJl)
    have SM := Lib.hid (same39 hJ5 HR3.out HS1b.out)
    go_wp2_with fail
    refine (SM.out).mono ?_
    rintro e w5 ⟨rfl, h5⟩
    have HB5 := Lib.hid (HB3.out.trans (h5.mono hz3))
    have hz5 := HB5.out.size
    clear h5
    go_wp2_with fail
    refine (lives39 _).mono ?_
    rintro e w6 ⟨rfl, h6⟩
    go_wp2
    go_ret
    exact ⟨rfl, HB5.out.trans (h6.mono hz5)⟩
theorem walk_traceFinds (a : Option Addr) (n c : Nat) (l : List Rec) {w : World} (hr : RowRc w a n l) (hcap : n ≤ c) (x : Int) (x0 : -9223372036854775808 ≤ x) (x1 : x ≤ 9223372036854775807) (d : Int) (d0 : 0 ≤ d) (d1 : d ≤ 255) :
    Calls Try.prog 10 #[.slice a n c, .int .i64 x, .int .u8 d] w fun e w' => e = .returned (.bool true) ∧ Below w.heap.size w w' := by
  have hn := hr.1
  have hok := hr.2.2.1
  by_cases h1 : (n : Int) > 100
  · clear hr hn hok
    go_enter Try.func10, Try.ntmps10
    go_wp2_with fail
    refine (lives39 _).mono ?_
    rintro e w1 ⟨rfl, hb⟩
    go_wp2
    go_ret
    exact ⟨rfl, hb⟩
  · by_cases h2 : (n : Int) = 0
    · have h3 : n = 0 := by omega
      subst h3
      clear hr hn hok h1 h2
      go_enter Try.func10, Try.ntmps10
      go_wp2_with fail
      refine (lives39 _).mono ?_
      rintro e w1 ⟨rfl, hb⟩
      go_wp2
      go_ret
      exact ⟨rfl, hb⟩
    · subst hn
      by_cases hall : allR39 l
      · exact finds39 a c l hr hcap h1 h2 x x0 x1 d d0 d1 hall
      · have HSR := Lib.hid (SRc.of_row (c := c) hr)
        have PT := Lib.hid (fun W v (h : SRc W v l) => tcPut l (by omega) hok h #[.string ⟨#[]⟩, .int .i64 6] (fun h => absurd h hall) (fun _ => rfl))
        clear hr hok hall
        go_enter Try.func10, Try.ntmps10
        go_wp2_with fail
        refine (PT.out _ _ HSR.out).mono ?_
        rintro e w1 ⟨rfl, h1⟩
        have hz1 := h1.size
        go_wp2_with fail
        refine (lives39 _).mono ?_
        rintro e w6 ⟨rfl, h6⟩
        go_wp2
        go_ret
        exact ⟨rfl, h1.trans (h6.mono hz1)⟩
end Go.Proofs.Ytapjebhdgcpdjaa
