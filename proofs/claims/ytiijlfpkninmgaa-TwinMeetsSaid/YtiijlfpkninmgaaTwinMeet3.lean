/-
  The law of the two ends of layer 10: every input. No condition.
-/
import Derived.Test.YtiijlfpkninmgaaTwinMeet2
namespace Go.Proofs.Ytiijlfpkninmgaa
set_option linter.unusedVariables false
set_option linter.unusedSimpArgs false
open Go.ChangeShapes Go.WideShapes Go.ChangeAt Go.RowKit
attribute [local go_sem] alloc_drewN setCell_drewN

set_option maxRecDepth 100000 in
theorem walk_twinMeets (a : Option Addr) (n c : Nat) (zs : List Int) {w : World} (hr : Row1 .u64 w a n zs) (hcap : n ≤ c) (b : Option Addr) (m d : Nat) (ts : List Bool) (ht : RowB w b m ts) (hcap2 : m ≤ d) :
    Calls Try.prog 9 #[.slice a n c, .slice b m d] w fun e w' => e = .returned (.bool true) ∧ Below w.heap.size w w' := by
  obtain ⟨hz, hm, hw, hc⟩ := hr
  obtain ⟨tz, tm, tc⟩ := ht
  have LV := Lib.hid (lives10 w)
  unfold maxLen at hm tm
  by_cases h : n ≤ 300
  · by_cases h2 : m ≤ 300
    · subst hz tz
      refine meets10_at a c zs h b d ts h2 w (fun i hi => ?_) (fun i hi => ?_)
      · obtain ⟨b, off, rfl, hb, hcell⟩ := hc (by omega)
        exact ⟨b, off, rfl, hb, hcell i hi⟩
      · obtain ⟨b, off, rfl, hb, hcell⟩ := tc (by omega)
        exact ⟨b, off, rfl, hb, hcell i hi⟩
    · have h1 : ¬ (300 : Int) < n := by omega
      have h3 : (300 : Int) < m := by omega
      clear hc hw hz tc tz h h2
      go_enter Try.func9, Try.ntmps9
      go_wp2_with fail
      refine LV.out.mono ?_
      rintro e w9 ⟨rfl, b9⟩
      go_wp2
      go_ret
      exact ⟨rfl, b9⟩
  · have h1 : (300 : Int) < n := by omega
    clear hc hw hz tc tz h
    go_enter Try.func9, Try.ntmps9
    go_wp2_with fail
    refine LV.out.mono ?_
    rintro e w9 ⟨rfl, b9⟩
    go_wp2
    go_ret
    exact ⟨rfl, b9⟩
end Go.Proofs.Ytiijlfpkninmgaa
