/-
  pacemakerlaw39.TraceOf, walked. No condition.
-/
import Derived.Test.YtapjebhdgcpdjaaTcO3
import Derived.Test.YtapjebhdgcpdjaaTc10
namespace Go.Proofs.Ytapjebhdgcpdjaa
set_option linter.unusedVariables false
set_option linter.unusedSimpArgs false
open Go.ChangeShapes Go.WideShapes Go.ChangeAt Go.RowKit
attribute [-go_sem] run_index_string binOp_string_eql binOp_string_neq run_string_add_if run_slice_string_from_if run_slice_string_to_if
attribute [local go_sem] index_bt add_fits slice_from slice_to eql_str neq_str alloc_drewN setCell_drewN

theorem XC.later {w W : World} {b off : Nat} {X : List Opn} (h : XC w b off X) (hb : b < w.heap.size) (k : Below w.heap.size w W) : XC W b off X := fun i hi =>
  ⟨(k.cell (p := ⟨b, off + i * 5, none⟩) hb).trans (h i hi).1, (k.cell (p := ⟨b, off + i * 5 + 4, none⟩) hb).trans (h i hi).2⟩
theorem LC.later {w W : World} {b off : Nat} {L : List Rep27} (h : LC w b off L) (hb : b < w.heap.size) (k : Below w.heap.size w W) : LC W b off L := fun i hi => by
  obtain ⟨c0, c1, c2, c3, c4, c5⟩ := h i hi
  refine ⟨(k.cell (p := ⟨b, off + i * 42, none⟩) hb).trans c0, (k.cell (p := ⟨b, off + i * 42 + 1, none⟩) hb).trans c1, (k.cell (p := ⟨b, off + i * 42 + 2, none⟩) hb).trans c2, (k.cell (p := ⟨b, off + i * 42 + 3, none⟩) hb).trans c3, (k.cell (p := ⟨b, off + i * 42 + 4, none⟩) hb).trans c4, fun j h5 hj => ?_⟩
  obtain ⟨t, n, hc⟩ := c5 j h5 hj
  exact ⟨t, n, (k.cell (p := ⟨b, off + i * 42 + j, none⟩) hb).trans hc⟩
def OfEnd (W : World) (R : List Rec) (e : Ending) (w' : World) : Prop := ∃ v, e = .returned v ∧ SRc w' v R ∧ Below W.heap.size W w'
theorem nil_src (W : World) : SRc W (.slice none 0 0) [] := ⟨none, 0, rfl, fun h => absurd h (by decide)⟩
theorem tof_any (a1 a2 : Option Addr) (c1 c2 : Nat) (X : List Opn) (L : List Rep27) (hX : X.length ≤ 1000) (hL : L.length ≤ 1000) (hcap : L.length ≤ c2) {w : World} (hr1 : RowOp w a1 X.length X) (hr2 : RowR27 42 w a2 L.length L)
    (one2 : ∀ b off, a2 = some ⟨b, off, none⟩ → ∀ i, i < L.length → ∀ j, 5 ≤ j → j < 42 → ∃ k m, w.cell? ⟨b, off + i * 42 + j, none⟩ = some (.int k m)) (W : World) (hW : Below w.heap.size w W) :
    Calls Try.prog 39 #[.slice a1 X.length c1, .slice a2 L.length c2] W (OfEnd W (ofl39 X L (min L.length X.length))) ∧ Calls Try.prog 40 #[.slice a1 X.length c1, .slice a2 L.length c2] W (OfEnd W (ofl39 X L (min L.length X.length))) := by
  obtain ⟨-, -, ox, r1⟩ := hr1
  obtain ⟨-, -, ol, r2⟩ := hr2
  by_cases h0 : 0 < X.length ∧ 0 < L.length
  · obtain ⟨b1, off1, rfl, hb1, h1⟩ := r1 h0.1
    obtain ⟨b2, off2, rfl, hb2, h2⟩ := r2 h0.2
    have x1 : XC w b1 off1 X := fun i hi => ⟨(h1 i hi).1, (h1 i hi).2.2.2.2⟩
    have x2 : LC w b2 off2 L := fun i hi => by
      obtain ⟨c0, c1, c2, c3, c4, -⟩ := h2 i hi
      exact ⟨c0, c1, c2, c3, c4, fun j h5 hj => one2 b2 off2 rfl i hi j h5 hj⟩
    have hb1' := Nat.lt_of_lt_of_le hb1 hW.size
    have hb2' := Nat.lt_of_lt_of_le hb2 hW.size
    refine ⟨(tof_at b1 off1 c1 b2 off2 c2 X L _ rfl hX hL hcap ox ol W hb1' hb2' (x1.later hb1 hW) (x2.later hb2 hW)).mono ?_, (rof_at b1 off1 c1 b2 off2 c2 X L _ rfl hX hL ox ol W hb1' hb2' (x1.later hb1 hW) (x2.later hb2 hW)).mono ?_⟩
    · rintro e w' ⟨v, rfl, ho, hb⟩; exact ⟨v, rfl, SRc.of_own ho, hb⟩
    · rintro e w' ⟨v, rfl, ho, hb⟩; exact ⟨v, rfl, SRc.of_own ho, hb⟩
  · have hm : min L.length X.length = 0 := by omega
    rw [hm]
    have e0 : ofl39 X L 0 = [] := rfl
    rw [e0]
    unfold OfEnd
    have hmin : min (L.length : Int) (X.length : Int) = 0 := by omega
    clear r1 r2 one2 hW ox ol e0
    constructor
    · clear hm
      have hc0 : (0 : Int) ≤ (c2 : Int) := by omega
      rcases a2 with _ | ⟨b, off, spot⟩
      · refine Calls.mono (R := fun e w' => e = .returned (.slice none 0 0) ∧ w' = W) ?_ (fun e w' h => ⟨_, h.1, by rw [h.2]; exact nil_src W, by rw [h.2]; exact Below.refl _ _⟩)
        go_enter Try.func39, Try.ntmps39
        go_wp2
        refine wp_loop_rounds 1 ?_
        rw [rounds_succ]
        go_wp2
        go_ret
        exact ⟨rfl, rfl⟩
      · refine Calls.mono (R := fun e w' => e = .returned (.slice none 0 0) ∧ w' = W) ?_ (fun e w' h => ⟨_, h.1, by rw [h.2]; exact nil_src W, by rw [h.2]; exact Below.refl _ _⟩)
        go_enter Try.func39, Try.ntmps39
        go_wp2
        refine wp_loop_rounds 1 ?_
        rw [rounds_succ]
        go_wp2
        go_ret
        exact ⟨rfl, rfl⟩
    · by_cases hl : L.length = 0
      · have g1 : ¬ (0 : Int) < (L.length : Int) := by omega
        clear hm hmin
        refine Calls.mono (R := fun e w' => e = .returned (.slice none 0 0) ∧ w' = W) ?_ (fun e w' h => ⟨_, h.1, by rw [h.2]; exact nil_src W, by rw [h.2]; exact Below.refl _ _⟩)
        go_enter Try.func40, Try.ntmps40
        go_wp2
        refine wp_loop_rounds 1 ?_
        rw [rounds_succ]
        go_wp2
        go_ret
        exact ⟨rfl, rfl⟩
      · have g1 : (0 : Int) < (L.length : Int) := by omega
        have g2 : ¬ (0 : Int) < (X.length : Int) := by omega
        clear hm hmin
        refine Calls.mono (R := fun e w' => e = .returned (.slice none 0 0) ∧ w' = W) ?_ (fun e w' h => ⟨_, h.1, by rw [h.2]; exact nil_src W, by rw [h.2]; exact Below.refl _ _⟩)
        go_enter Try.func40, Try.ntmps40
        go_wp2
        refine wp_loop_rounds 1 ?_
        rw [rounds_succ]
        go_wp2
        go_ret
        exact ⟨rfl, rfl⟩
set_option maxRecDepth 100000 in
set_option maxHeartbeats 4000000 in
theorem walk_traceOf (a1 : Option Addr) (n1 c1 : Nat) (X : List Opn) {w : World} (hr1 : RowOp w a1 n1 X) (hcap1 : n1 ≤ c1) (a2 : Option Addr) (n2 c2 : Nat) (L : List Rep27) (hr2 : RowR27 42 w a2 n2 L) (hcap2 : n2 ≤ c2)
    (one2 : ∀ b off, a2 = some ⟨b, off, none⟩ → ∀ i, i < n2 → ∀ j, 5 ≤ j → j < 42 → ∃ k m, w.cell? ⟨b, off + i * 42 + j, none⟩ = some (.int k m)) (a3 : Option Addr) (n3 c3 : Nat) (M : List Rec) (hr3 : RowRc w a3 n3 M) (hcap3 : n3 ≤ c3) :
    Calls Try.prog 11 #[.slice a1 n1 c1, .slice a2 n2 c2, .slice a3 n3 c3] w fun e w' => e = .returned (.bool true) ∧ Below w.heap.size w w' := by
  have e1 := hr1.1
  have e2 := hr2.1
  have e3 := hr3.1
  by_cases h1 : (n1 : Int) > 100
  · clear hr1 hr2 hr3 e1 e2 e3 one2
    go_enter Try.func11, Try.ntmps11
    go_wp2_with fail
    refine (lives39 _).mono ?_
    rintro e w1 ⟨rfl, hb⟩
    go_wp2
    go_ret
    exact ⟨rfl, hb⟩
  · by_cases h2 : (n2 : Int) > 100
    · clear hr1 hr2 hr3 e1 e2 e3 one2
      go_enter Try.func11, Try.ntmps11
      go_wp2_with fail
      refine (lives39 _).mono ?_
      rintro e w1 ⟨rfl, hb⟩
      go_wp2
      go_ret
      exact ⟨rfl, hb⟩
    · by_cases h3 : (n3 : Int) > 100
      · clear hr1 hr2 hr3 e1 e2 e3 one2
        go_enter Try.func11, Try.ntmps11
        go_wp2_with fail
        refine (lives39 _).mono ?_
        rintro e w1 ⟨rfl, hb⟩
        go_wp2
        go_ret
        exact ⟨rfl, hb⟩
      · subst e1 e2 e3
        have OF := Lib.hid (fun W hW => tof_any a1 a2 c1 c2 X L (by omega) (by omega) hcap2 hr1 hr2 one2 W hW)
        have hok := hr3.2.2.1
        have HS := Lib.hid (SRc.of_row (c := c3) hr3)
        have hml : M.length ≤ 1000 := by omega
        have LF := Lib.hid (fun (W : World) (v : Value) (h : SRc W v M) => tleft M hml hok h)
        have RL := Lib.hid (fun (W : World) (v : Value) (h : SRc W v M) => rleft39 M hml hok h)
        have hlen : (ofl39 X L (min L.length X.length)).length ≤ 100000 := by rw [ofl_len]; omega
        obtain ⟨R, hR⟩ : ∃ R, ofl39 X L (min L.length X.length) = R := ⟨_, rfl⟩
        rw [hR] at OF hlen
        obtain ⟨S, hS⟩ : ∃ S, lsum M = S := ⟨_, rfl⟩
        rw [hS] at LF RL
        obtain ⟨s1, s2⟩ := S
        simp only at LF RL
        clear hR hS hr1 hr2 hr3 one2 hok
        go_enter Try.func11, Try.ntmps11
        go_wp2_with fail
        refine (LF.out _ _ HS.out).mono ?_
        rintro e w1 ⟨rfl, k1⟩
        have HS1 := Lib.hid (HS.out.later k1)
        have HB1 := Lib.hid k1
        have z1 := k1.size
        clear k1
        go_wp2_with fail
        refine (RL.out _ _ HS1.out).mono ?_
        rintro e w2 ⟨rfl, k2⟩
        have HB2 := Lib.hid (HB1.out.trans (k2.mono z1))
        have z2 := HB2.out.size
        clear k2
        go_wp2_with fail
        refine ((OF.out _ HB2.out).1).mono ?_
        rintro e w3 ⟨v3, rfl, r3, k3⟩
        have HB3 := Lib.hid (HB2.out.trans (k3.mono z2))
        have z3 := HB3.out.size
        have HR3 := Lib.hid r3
        clear k3 r3
        go_wp2_with fail
        refine ((OF.out _ HB3.out).2).mono ?_
        rintro e w4 ⟨v4, rfl, r4, k4⟩
        have HB4 := Lib.hid (HB3.out.trans (k4.mono z3))
        have z4 := HB4.out.size
        have SM := Lib.hid (same39 hlen (HR3.out.later k4) r4)
        clear k4 r4
        go_wp2_with fail
        refine (SM.out).mono ?_
        rintro e w5 ⟨rfl, k5⟩
        have HB5 := Lib.hid (HB4.out.trans (k5.mono z4))
        have z5 := HB5.out.size
        clear k5
        go_wp2_with fail
        refine (lives39 _).mono ?_
        rintro e w6 ⟨rfl, k6⟩
        go_wp2
        go_ret
        exact ⟨rfl, HB5.out.trans (k6.mono z5)⟩
end Go.Proofs.Ytapjebhdgcpdjaa
