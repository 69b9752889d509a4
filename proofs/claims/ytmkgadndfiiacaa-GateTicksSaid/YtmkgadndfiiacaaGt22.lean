/-
  The law's own closure: whether a class is open at a tick. No condition.
-/
import Derived.Test.YtmkgadndfiiacaaGt20
namespace Go.Proofs.Ytmkgadndfiiacaa
set_option linter.unusedVariables false
set_option linter.unusedSimpArgs false
open Go.ChangeShapes Go.WideShapes Go.ChangeAt Go.RowKit
attribute [local go_sem] alloc_drewN setCell_drewN

set_option maxRecDepth 100000 in
set_option maxHeartbeats 2000000 in
theorem is22 {w0 V : World} {Bt Bc : Nat} {lv tv : Value} {L : List Slot22} {ts : List Int} (hT : Tk22 w0 V Bt lv tv L ts) {cl : Nat} (hcl : cl ≤ 7) (hc : V.heap[Bc]? = some (.cells #[.int .i64 cl] 3 (0, 0))) (x : Int) (x0 : 0 ≤ x) (x1 : x ≤ 1000000) {R : Nat} (hR : ts.length = R) (hR0 : 1 ≤ R) (hR1 : R ≤ 1000)
    {k : Nat} (hk : x % R = k) {o : Int} (ho : ts.getD k 0 = o) (o0 : 0 ≤ o) (o1 : o ≤ 255) :
    Calls Try.prog 37 #[.int .i64 x, .pointer (some ⟨Bt, 0, none⟩), .pointer (some ⟨Bc, 0, none⟩)] V fun e w' => e = .returned (.bool (decide (hlv o cl % 2 = 1))) ∧ Below V.heap.size V w' := by
  obtain ⟨c0, -⟩ := at1 hT.box
  obtain ⟨d0, -⟩ := at1 hc
  obtain ⟨ta, tc, etv, htc, hcell⟩ := hT.tk.form
  rw [hR] at etv htc hcell
  subst etv
  have hkl : k < R := by have := Int.emod_lt_of_pos x (show (0 : Int) < R by omega); omega
  obtain ⟨g, rfl, hg, ce⟩ := hcell k hkl
  rw [ho] at ce
  have et : x.tmod R = k := by rw [Int.tmod_eq_emod_of_nonneg x0]; exact hk
  have k0 : (0 : Int) ≤ k := by omega
  have k1 : (k : Int) < R := by omega
  have r0 : ¬ (R : Int) = 0 := by omega
  have c8 : (0 : Int) ≤ cl := by omega
  have c9 : (cl : Int) < 8 := by omega
  clear hT hc hcell hk ho hR
  go_enter Try.func37, Try.ntmps37
  go_wp2
  go_quiet (fail)
  go_wp2
  obtain ⟨a0, a1⟩ := hlv_wd o0 o1 cl
  have e1 := and1_u8 (hlv o cl) a0 a1
  rw [hlv_div] at e1
  go_ret
  refine ⟨?_, below_drewN _ (Below.refl _ V)⟩
  show Ending.returned (.bool (bits BinOp.and IntKind.u8 (o / 2 ^ cl) 1 == 1)) = _
  rw [e1, hlv_div]
  rfl
end Go.Proofs.Ytmkgadndfiiacaa
