/-
  Layer 7: an act with both, the pool and the document's answer. No condition.
-/
import Derived.Test.YtmkgadndfiiacaaP7b
import Derived.Deep.CutBlock
import Derived.Deep.DeepCutAuto
import Derived.RegionTactic
import Derived.Deep.RegionWith
import Derived.Deep.RegionHeld3
namespace Go.Proofs.Ytmkgadndfiiacaa
set_option linter.unusedVariables false
set_option linter.unusedSimpArgs false
open Go.ChangeShapes Go.WideShapes Go.ChangeAt Go.RowKit
attribute [local go_sem] alloc_drewN setCell_drewN

set_option maxRecDepth 100000 in
set_option maxHeartbeats 4000000 in
theorem step7_0 {base : Nat} {w : World} {B M : Nat} {most queues : Int} (h : Pair7 base w B M most queues) (kd : Int) (k0 : 0 ≤ kd) (k1 : kd ≤ 255) (q n : Int) (hr : kd % 8 = 0) :
    Calls Try.prog 58 #[.pointer (some ⟨B, 0, none⟩), .pointer (some ⟨M, 0, none⟩), .agg #[.int .u8 kd, .int .i64 q, .int .i64 n]] w fun e w' => e = .returned (.bool true) ∧ Pair7 base w' B M most queues ∧ Fr7 base w w' := by
  have er : kd.tmod 8 = 0 := by rw [Int.tmod_eq_emod_of_nonneg k0]; exact hr
  have hbA : Below w.heap.size w (w.alloc (.cells #[.int .u8 kd, .int .i64 q, .int .i64 n] 106)) := (Below.refl _ w).alloc (Nat.le_refl _) _
  have hA := heap_alloc_new w (.cells #[.int .u8 kd, .int .i64 q, .int .i64 n] 106)
  have HP := Lib.hid (take_pair (h.on hbA) n)
  have HBA := Lib.hid hbA
  go_enter Try.func58, Try.ntmps58
  go_wp2_with fail
  refine HP.out.mono ?_
  rintro e w2 ⟨a, d, rfl, fr2, HR⟩
  have hA2 := fr2.a _ _ hA
  obtain ⟨c0, c1, c2, -, -, -⟩ := at3 hA2
  have HF2 := Lib.hid ((Fr7.below HBA.out).trans fr2 : Fr7 base w w2)
  clear hA hA2 HP h hbA fr2
  go_wp2_with fail
  refine (HR.out _ (Below.refl _ w2)).mono ?_
  rintro e w3 ⟨rfl, hp3, fr3⟩
  have HP3 := Lib.hid hp3
  have HF3 := Lib.hid (HF2.out.trans fr3)
  clear hp3 fr3 HR HF2
  go_wp2
  go_ret
  exact ⟨by simp, HP3.out, HF3.out⟩
set_option maxRecDepth 100000 in
set_option maxHeartbeats 4000000 in
theorem step7_1 {base : Nat} {w : World} {B M : Nat} {most queues : Int} (h : Pair7 base w B M most queues) (kd : Int) (k0 : 0 ≤ kd) (k1 : kd ≤ 255) (q n : Int) (hr : kd % 8 = 1) :
    Calls Try.prog 58 #[.pointer (some ⟨B, 0, none⟩), .pointer (some ⟨M, 0, none⟩), .agg #[.int .u8 kd, .int .i64 q, .int .i64 n]] w fun e w' => e = .returned (.bool true) ∧ Pair7 base w' B M most queues ∧ Fr7 base w w' := by
  have er : kd.tmod 8 = 1 := by rw [Int.tmod_eq_emod_of_nonneg k0]; exact hr
  have hbA : Below w.heap.size w (w.alloc (.cells #[.int .u8 kd, .int .i64 q, .int .i64 n] 106)) := (Below.refl _ w).alloc (Nat.le_refl _) _
  have hA := heap_alloc_new w (.cells #[.int .u8 kd, .int .i64 q, .int .i64 n] 106)
  have HP := Lib.hid (take_pair (h.on hbA) n)
  have HBA := Lib.hid hbA
  go_enter Try.func58, Try.ntmps58
  go_wp2_with fail
  refine HP.out.mono ?_
  rintro e w2 ⟨a, d, rfl, fr2, HR⟩
  have hA2 := fr2.a _ _ hA
  obtain ⟨c0, c1, c2, -, -, -⟩ := at3 hA2
  have HF2 := Lib.hid ((Fr7.below HBA.out).trans fr2 : Fr7 base w w2)
  clear hA hA2 HP h hbA fr2
  go_wp2_with fail
  refine (HR.out _ (Below.refl _ w2)).mono ?_
  rintro e w3 ⟨rfl, hp3, fr3⟩
  have HP3 := Lib.hid hp3
  have HF3 := Lib.hid (HF2.out.trans fr3)
  clear hp3 fr3 HR HF2
  go_wp2
  go_ret
  exact ⟨by simp, HP3.out, HF3.out⟩
set_option maxRecDepth 100000 in
set_option maxHeartbeats 4000000 in
theorem step7_2 {base : Nat} {w : World} {B M : Nat} {most queues : Int} (h : Pair7 base w B M most queues) (kd : Int) (k0 : 0 ≤ kd) (k1 : kd ≤ 255) (q n : Int) (hr : kd % 8 = 2) :
    Calls Try.prog 58 #[.pointer (some ⟨B, 0, none⟩), .pointer (some ⟨M, 0, none⟩), .agg #[.int .u8 kd, .int .i64 q, .int .i64 n]] w fun e w' => e = .returned (.bool true) ∧ Pair7 base w' B M most queues ∧ Fr7 base w w' := by
  have er : kd.tmod 8 = 2 := by rw [Int.tmod_eq_emod_of_nonneg k0]; exact hr
  have hbA : Below w.heap.size w (w.alloc (.cells #[.int .u8 kd, .int .i64 q, .int .i64 n] 106)) := (Below.refl _ w).alloc (Nat.le_refl _) _
  have hA := heap_alloc_new w (.cells #[.int .u8 kd, .int .i64 q, .int .i64 n] 106)
  have HP := Lib.hid (take_pair (h.on hbA) n)
  have HBA := Lib.hid hbA
  go_enter Try.func58, Try.ntmps58
  go_wp2_with fail
  refine HP.out.mono ?_
  rintro e w2 ⟨a, d, rfl, fr2, HR⟩
  have hA2 := fr2.a _ _ hA
  obtain ⟨c0, c1, c2, -, -, -⟩ := at3 hA2
  have HF2 := Lib.hid ((Fr7.below HBA.out).trans fr2 : Fr7 base w w2)
  clear hA hA2 HP h hbA fr2
  go_wp2_with fail
  refine (HR.out _ (Below.refl _ w2)).mono ?_
  rintro e w3 ⟨rfl, hp3, fr3⟩
  have HP3 := Lib.hid hp3
  have HF3 := Lib.hid (HF2.out.trans fr3)
  clear hp3 fr3 HR HF2
  go_wp2
  go_ret
  exact ⟨by simp, HP3.out, HF3.out⟩
set_option maxRecDepth 100000 in
set_option maxHeartbeats 4000000 in
theorem step7_3 {base : Nat} {w : World} {B M : Nat} {most queues : Int} (h : Pair7 base w B M most queues) (kd : Int) (k0 : 0 ≤ kd) (k1 : kd ≤ 255) (q n : Int) (hr : kd % 8 = 3) :
    Calls Try.prog 58 #[.pointer (some ⟨B, 0, none⟩), .pointer (some ⟨M, 0, none⟩), .agg #[.int .u8 kd, .int .i64 q, .int .i64 n]] w fun e w' => e = .returned (.bool true) ∧ Pair7 base w' B M most queues ∧ Fr7 base w w' := by
  have er : kd.tmod 8 = 3 := by rw [Int.tmod_eq_emod_of_nonneg k0]; exact hr
  have hbA : Below w.heap.size w (w.alloc (.cells #[.int .u8 kd, .int .i64 q, .int .i64 n] 106)) := (Below.refl _ w).alloc (Nat.le_refl _) _
  have hA := heap_alloc_new w (.cells #[.int .u8 kd, .int .i64 q, .int .i64 n] 106)
  have HP := Lib.hid (give_pair (h.on hbA) n)
  have HBA := Lib.hid hbA
  go_enter Try.func58, Try.ntmps58
  go_wp2_with fail
  refine HP.out.mono ?_
  rintro e w2 ⟨a, d, rfl, fr2, HR⟩
  have hA2 := fr2.a _ _ hA
  obtain ⟨c0, c1, c2, -, -, -⟩ := at3 hA2
  have HF2 := Lib.hid ((Fr7.below HBA.out).trans fr2 : Fr7 base w w2)
  clear hA hA2 HP h hbA fr2
  go_wp2_with fail
  refine (HR.out _ (Below.refl _ w2)).mono ?_
  rintro e w3 ⟨rfl, hp3, fr3⟩
  have HP3 := Lib.hid hp3
  have HF3 := Lib.hid (HF2.out.trans fr3)
  clear hp3 fr3 HR HF2
  go_wp2
  go_ret
  exact ⟨by simp, HP3.out, HF3.out⟩
set_option maxRecDepth 100000 in
set_option maxHeartbeats 4000000 in
theorem step7_4 {base : Nat} {w : World} {B M : Nat} {most queues : Int} (h : Pair7 base w B M most queues) (kd : Int) (k0 : 0 ≤ kd) (k1 : kd ≤ 255) (q n : Int) (hr : kd % 8 = 4) :
    Calls Try.prog 58 #[.pointer (some ⟨B, 0, none⟩), .pointer (some ⟨M, 0, none⟩), .agg #[.int .u8 kd, .int .i64 q, .int .i64 n]] w fun e w' => e = .returned (.bool true) ∧ Pair7 base w' B M most queues ∧ Fr7 base w w' := by
  have er : kd.tmod 8 = 4 := by rw [Int.tmod_eq_emod_of_nonneg k0]; exact hr
  have hbA : Below w.heap.size w (w.alloc (.cells #[.int .u8 kd, .int .i64 q, .int .i64 n] 106)) := (Below.refl _ w).alloc (Nat.le_refl _) _
  have hA := heap_alloc_new w (.cells #[.int .u8 kd, .int .i64 q, .int .i64 n] 106)
  have HP := Lib.hid (give_pair (h.on hbA) n)
  have HBA := Lib.hid hbA
  go_enter Try.func58, Try.ntmps58
  go_wp2_with fail
  refine HP.out.mono ?_
  rintro e w2 ⟨a, d, rfl, fr2, HR⟩
  have hA2 := fr2.a _ _ hA
  obtain ⟨c0, c1, c2, -, -, -⟩ := at3 hA2
  have HF2 := Lib.hid ((Fr7.below HBA.out).trans fr2 : Fr7 base w w2)
  clear hA hA2 HP h hbA fr2
  go_wp2_with fail
  refine (HR.out _ (Below.refl _ w2)).mono ?_
  rintro e w3 ⟨rfl, hp3, fr3⟩
  have HP3 := Lib.hid hp3
  have HF3 := Lib.hid (HF2.out.trans fr3)
  clear hp3 fr3 HR HF2
  go_wp2
  go_ret
  exact ⟨by simp, HP3.out, HF3.out⟩
set_option maxRecDepth 100000 in
set_option maxHeartbeats 4000000 in
theorem step7_5 {base : Nat} {w : World} {B M : Nat} {most queues : Int} (h : Pair7 base w B M most queues) (kd : Int) (k0 : 0 ≤ kd) (k1 : kd ≤ 255) (q n : Int) (hr : kd % 8 = 5) :
    Calls Try.prog 58 #[.pointer (some ⟨B, 0, none⟩), .pointer (some ⟨M, 0, none⟩), .agg #[.int .u8 kd, .int .i64 q, .int .i64 n]] w fun e w' => e = .returned (.bool true) ∧ Pair7 base w' B M most queues ∧ Fr7 base w w' := by
  have er : kd.tmod 8 = 5 := by rw [Int.tmod_eq_emod_of_nonneg k0]; exact hr
  have hbA : Below w.heap.size w (w.alloc (.cells #[.int .u8 kd, .int .i64 q, .int .i64 n] 106)) := (Below.refl _ w).alloc (Nat.le_refl _) _
  have hA := heap_alloc_new w (.cells #[.int .u8 kd, .int .i64 q, .int .i64 n] 106)
  have HP := Lib.hid (app_pair (h.on hbA) q n)
  have HBA := Lib.hid hbA
  go_enter Try.func58, Try.ntmps58
  go_upto_region 15 with (fail)
  obtain ⟨W, hW⟩ : ∃ W, W = w.alloc (.cells #[.int .u8 kd, .int .i64 q, .int .i64 n] 106) := ⟨_, rfl⟩
  rw [← hW] at HP HBA hA ⊢
  clear hW
  obtain ⟨c0, c1, c2, f0, f1, f2⟩ := at3 hA
  have HA := Lib.hid hA
  have CF := Lib.hid (fun (v : World) (hv : v.heap[w.heap.size]? = some (.cells #[.int .u8 kd, .int .i64 q, .int .i64 n] 106 (0, 0))) => (⟨(at3 hv).2.1, (at3 hv).2.2.1⟩ : v.cell? ⟨w.heap.size, 1, none⟩ = some (.int .i64 q) ∧ v.cell? ⟨w.heap.size, 2, none⟩ = some (.int .i64 n)))
  have HPd : Hid (Calls Try.prog 113 #[.pointer (some ⟨B, 0, none⟩), .int .i64 q, .int .i64 n] W.drew fun e w' => ∃ (c : Int), e = .returned (.int .i64 c) ∧ Fr7 base W.drew w' ∧
      Hid (∀ v, Below w'.heap.size w' v → Calls Try.prog 114 #[.pointer (some ⟨M, 0, none⟩), .int .i64 q, .int .i64 n] v fun e w'' => e = .returned (.int .i64 c) ∧ Pair7 base w'' B M most queues ∧ Fr7 base v w'')) := Lib.hid (app_pair ((h.on HBA.out).on (Below.refl _ W).drew) q n)
  clear hA HP h
  go_region_held3 (fun v => v.cell? ⟨w.heap.size, 1, none⟩ = some (.int .i64 q) ∧ v.cell? ⟨w.heap.size, 2, none⟩ = some (.int .i64 n))
    ((first | exact CF.out _ X3.out | exact CF.out _ X2.out | exact CF.out _ HA.out))
    (first
    | (go_at_call 114; refine (HR.out _ (Below.refl _ _)).mono ?_; rintro e w3 ⟨rfl, hp3, fr3⟩; have X3 := Lib.hid (fr3.a _ _ X2.out))
    | (go_at_call 113; refine HPd.out.mono ?_; rintro e w2 ⟨c, rfl, fr2, HR⟩; have X2 := Lib.hid (fr2.a _ _ HA.out))
    | fail)
  have HP3 := Lib.hid hp3
  have HF3 := Lib.hid ((((Fr7.below HBA.out).trans (Fr7.below (Below.refl _ W).drew)).trans fr2).trans fr3 : Fr7 base w w3)
  clear hp3 fr3 fr2 HR
  go_wp2
  go_ret
  exact ⟨rfl, HP3.out, HF3.out⟩
set_option maxRecDepth 100000 in
set_option maxHeartbeats 4000000 in
theorem step7_6 {base : Nat} {w : World} {B M : Nat} {most queues : Int} (h : Pair7 base w B M most queues) (kd : Int) (k0 : 0 ≤ kd) (k1 : kd ≤ 255) (q n : Int) (hr : kd % 8 = 6) :
    Calls Try.prog 58 #[.pointer (some ⟨B, 0, none⟩), .pointer (some ⟨M, 0, none⟩), .agg #[.int .u8 kd, .int .i64 q, .int .i64 n]] w fun e w' => e = .returned (.bool true) ∧ Pair7 base w' B M most queues ∧ Fr7 base w w' := by
  have er : kd.tmod 8 = 6 := by rw [Int.tmod_eq_emod_of_nonneg k0]; exact hr
  have hbA : Below w.heap.size w (w.alloc (.cells #[.int .u8 kd, .int .i64 q, .int .i64 n] 106)) := (Below.refl _ w).alloc (Nat.le_refl _) _
  have hA := heap_alloc_new w (.cells #[.int .u8 kd, .int .i64 q, .int .i64 n] 106)
  have HP := Lib.hid (app_pair (h.on hbA) q n)
  have HBA := Lib.hid hbA
  go_enter Try.func58, Try.ntmps58
  go_upto_region 15 with (fail)
  obtain ⟨W, hW⟩ : ∃ W, W = w.alloc (.cells #[.int .u8 kd, .int .i64 q, .int .i64 n] 106) := ⟨_, rfl⟩
  rw [← hW] at HP HBA hA ⊢
  clear hW
  obtain ⟨c0, c1, c2, f0, f1, f2⟩ := at3 hA
  have HA := Lib.hid hA
  have CF := Lib.hid (fun (v : World) (hv : v.heap[w.heap.size]? = some (.cells #[.int .u8 kd, .int .i64 q, .int .i64 n] 106 (0, 0))) => (⟨(at3 hv).2.1, (at3 hv).2.2.1⟩ : v.cell? ⟨w.heap.size, 1, none⟩ = some (.int .i64 q) ∧ v.cell? ⟨w.heap.size, 2, none⟩ = some (.int .i64 n)))
  have HPd : Hid (Calls Try.prog 113 #[.pointer (some ⟨B, 0, none⟩), .int .i64 q, .int .i64 n] W.drew fun e w' => ∃ (c : Int), e = .returned (.int .i64 c) ∧ Fr7 base W.drew w' ∧
      Hid (∀ v, Below w'.heap.size w' v → Calls Try.prog 114 #[.pointer (some ⟨M, 0, none⟩), .int .i64 q, .int .i64 n] v fun e w'' => e = .returned (.int .i64 c) ∧ Pair7 base w'' B M most queues ∧ Fr7 base v w'')) := Lib.hid (app_pair ((h.on HBA.out).on (Below.refl _ W).drew) q n)
  clear hA HP h
  go_region_held3 (fun v => v.cell? ⟨w.heap.size, 1, none⟩ = some (.int .i64 q) ∧ v.cell? ⟨w.heap.size, 2, none⟩ = some (.int .i64 n))
    ((first | exact CF.out _ X3.out | exact CF.out _ X2.out | exact CF.out _ HA.out))
    (first
    | (go_at_call 114; refine (HR.out _ (Below.refl _ _)).mono ?_; rintro e w3 ⟨rfl, hp3, fr3⟩; have X3 := Lib.hid (fr3.a _ _ X2.out))
    | (go_at_call 113; refine HPd.out.mono ?_; rintro e w2 ⟨c, rfl, fr2, HR⟩; have X2 := Lib.hid (fr2.a _ _ HA.out))
    | fail)
  have HP3 := Lib.hid hp3
  have HF3 := Lib.hid ((((Fr7.below HBA.out).trans (Fr7.below (Below.refl _ W).drew)).trans fr2).trans fr3 : Fr7 base w w3)
  clear hp3 fr3 fr2 HR
  go_wp2
  go_ret
  exact ⟨rfl, HP3.out, HF3.out⟩
set_option maxRecDepth 100000 in
set_option maxHeartbeats 4000000 in
theorem step7_7 {base : Nat} {w : World} {B M : Nat} {most queues : Int} (h : Pair7 base w B M most queues) (kd : Int) (k0 : 0 ≤ kd) (k1 : kd ≤ 255) (q n : Int) (hr : kd % 8 = 7) :
    Calls Try.prog 58 #[.pointer (some ⟨B, 0, none⟩), .pointer (some ⟨M, 0, none⟩), .agg #[.int .u8 kd, .int .i64 q, .int .i64 n]] w fun e w' => e = .returned (.bool true) ∧ Pair7 base w' B M most queues ∧ Fr7 base w w' := by
  have er : kd.tmod 8 = 7 := by rw [Int.tmod_eq_emod_of_nonneg k0]; exact hr
  have hbA : Below w.heap.size w (w.alloc (.cells #[.int .u8 kd, .int .i64 q, .int .i64 n] 106)) := (Below.refl _ w).alloc (Nat.le_refl _) _
  have hA := heap_alloc_new w (.cells #[.int .u8 kd, .int .i64 q, .int .i64 n] 106)
  have HP := Lib.hid (pop_pair (h.on hbA) q)
  have HBA := Lib.hid hbA
  go_enter Try.func58, Try.ntmps58
  go_wp2_with fail
  refine HP.out.mono ?_
  rintro e w2 ⟨a, d, rfl, fr2, HR⟩
  have hA2 := fr2.a _ _ hA
  obtain ⟨c0, c1, c2, -, -, -⟩ := at3 hA2
  have HF2 := Lib.hid ((Fr7.below HBA.out).trans fr2 : Fr7 base w w2)
  clear hA hA2 HP h hbA fr2
  go_wp2_with fail
  refine (HR.out _ (Below.refl _ w2)).mono ?_
  rintro e w3 ⟨rfl, hp3, fr3⟩
  have HP3 := Lib.hid hp3
  have HF3 := Lib.hid (HF2.out.trans fr3)
  clear hp3 fr3 HR HF2
  go_wp2
  go_ret
  exact ⟨by simp, HP3.out, HF3.out⟩
theorem step7 {base : Nat} {w : World} {B M : Nat} {most queues : Int} (h : Pair7 base w B M most queues) (kd : Int) (k0 : 0 ≤ kd) (k1 : kd ≤ 255) (q n : Int) :
    Calls Try.prog 58 #[.pointer (some ⟨B, 0, none⟩), .pointer (some ⟨M, 0, none⟩), .agg #[.int .u8 kd, .int .i64 q, .int .i64 n]] w fun e w' => e = .returned (.bool true) ∧ Pair7 base w' B M most queues ∧ Fr7 base w w' := by
  have h8 : kd % 8 = 0 ∨ kd % 8 = 1 ∨ kd % 8 = 2 ∨ kd % 8 = 3 ∨ kd % 8 = 4 ∨ kd % 8 = 5 ∨ kd % 8 = 6 ∨ kd % 8 = 7 := by omega
  rcases h8 with e | e | e | e | e | e | e | e
  · exact step7_0 h kd k0 k1 q n e
  · exact step7_1 h kd k0 k1 q n e
  · exact step7_2 h kd k0 k1 q n e
  · exact step7_3 h kd k0 k1 q n e
  · exact step7_4 h kd k0 k1 q n e
  · exact step7_5 h kd k0 k1 q n e
  · exact step7_6 h kd k0 k1 q n e
  · exact step7_7 h kd k0 k1 q n e
end Go.Proofs.Ytmkgadndfiiacaa
