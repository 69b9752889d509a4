/-
  What the law on ticks asks: the slots, the row of ticks, and the class, all in memory. No condition but that the plan may be.
-/
import Derived.Test.YtmkgadndfiiacaaGt22
namespace Go.Proofs.Ytmkgadndfiiacaa
set_option linter.unusedVariables false
set_option linter.unusedSimpArgs false
open Go.ChangeShapes Go.WideShapes Go.ChangeAt Go.RowKit

structure Env22 (w0 V : World) (Bt Bc : Nat) (la : Option Addr) (n lc : Nat) (ta : Option Addr) (R tc : Nat) (F : List Slot22) (cl : Nat) : Prop where
  t : Tk22 w0 V Bt (.slice la n lc) (.slice ta R tc) F (tk22 F n)
  c : V.heap[Bc]? = some (.cells #[.int .i64 cl] 3 (0, 0))
section
variable {w0 V V' : World} {Bt Bc : Nat} {la ta : Option Addr} {n lc R tc : Nat} {F : List Slot22} {cl : Nat}
theorem Env22.later (h : Env22 w0 V Bt Bc la n lc ta R tc F cl) (hb : Below V.heap.size V V') : Env22 w0 V' Bt Bc la n lc ta R tc F cl := ⟨h.t.later hb, blk_call hb h.c⟩
theorem Env22.drew (h : Env22 w0 V Bt Bc la n lc ta R tc F cl) : Env22 w0 V.drew Bt Bc la n lc ta R tc F cl := h.later (Below.refl _ V).drew
theorem Env22.row (h : Env22 w0 V Bt Bc la n lc ta R tc F cl) (hl : F.length = n) (hn : n ≤ 12) (hx : ∀ x ∈ F, x.ok) : RowSl V la n F := by
  obtain ⟨a, c, e, -, hr⟩ := h.t.row (by rw [hl]; unfold maxLen; omega) hx
  rw [hl] at e hr
  injection e with e1 e2 e3
  subst e1
  exact hr
theorem tick_of (hok : PlanOk F n) (hR : spans F n = R) {x : Int} (x0 : 0 ≤ x) {q : Nat} (hq : InSlot F n (x % spans F n) q) : ∃ k : Nat, x % R = k ∧ k < R ∧ (tk22 F n).getD k 0 = (slotN F q).o := by
  obtain ⟨h1, h2, h3⟩ := hq
  rw [hR] at h2 h3
  obtain ⟨r0, r1⟩ := round_pos hok
  rw [hR] at r0
  have m0 : 0 ≤ x % R := Int.emod_nonneg _ (by omega)
  have m1 : x % R < R := Int.emod_lt_of_pos _ (by omega)
  have := tk22_at hok.2 m0 n (Nat.le_refl _) h1 h2 h3
  exact ⟨(x % R).toNat, by omega, by omega, this⟩
theorem Env22.is (h : Env22 w0 V Bt Bc la n lc ta R tc F cl) (hok : PlanOk F n) (hR : spans F n = R) (hR1 : R ≤ 1000) (hcl : cl ≤ 7) (hx : ∀ x ∈ F, x.ok) (hl : F.length = n) {x : Int} {b : Bool} (hb : OpAt F n cl x b) (x0 : 0 ≤ x) (x1 : x ≤ 1000000) :
    Calls Try.prog 37 #[.int .i64 x, .pointer (some ⟨Bt, 0, none⟩), .pointer (some ⟨Bc, 0, none⟩)] V fun e w' => e = .returned (.bool b) ∧ Below V.heap.size V w' := by
  obtain ⟨q, hq, ho⟩ := hb
  obtain ⟨k, k1, k2, k3⟩ := tick_of hok hR x0 hq
  have hqF : (slotN F q).ok := hx _ (by
    unfold slotN
    rw [List.getD_eq_getElem?_getD, List.getElem?_eq_getElem (by rw [hl]; exact hq.1)]
    exact List.getElem_mem _)
  have hlen := tk22_len hok.2 n (Nat.le_refl _)
  have := is22 h.t hcl h.c x x0 x1 (R := R) (by omega) (by omega) hR1 k1 k3 hqF.1.1 hqF.1.2
  rw [← ho]
  exact this
theorem Env22.opens (h : Env22 w0 V Bt Bc la n lc ta R tc F cl) (hok : PlanOk F n) (hR : spans F n = R) (hn : n ≤ 12) (hx : ∀ x ∈ F, x.ok) (hl : F.length = n) {x : Int} (x0 : 0 ≤ x) (x1 : x ≤ 18446744073709551615) :
    ∃ (k : Nat) (o : Int), x % R = k ∧ k < R ∧ (tk22 F n).getD k 0 = o ∧ 0 ≤ o ∧ o ≤ 255 ∧ (Calls Try.prog 31 #[.slice la n lc, .int .u64 x] V fun e w' => e = .returned (.int .u8 o) ∧ Below V.heap.size V w') := by
  obtain ⟨r0, r1⟩ := round_pos hok
  obtain ⟨q, hq⟩ := slot_is (fs := F) (t := x % spans F n) (Int.emod_nonneg _ (by omega)) (n := n) (Int.emod_lt_of_pos _ (by omega))
  obtain ⟨k, k1, k2, k3⟩ := tick_of hok hR x0 hq
  have hqF : (slotN F q).ok := hx _ (by
    unfold slotN
    rw [List.getD_eq_getElem?_getD, List.getElem?_eq_getElem (by rw [hl]; exact hq.1)]
    exact List.getElem_mem _)
  exact ⟨k, _, k1, k2, k3, hqF.1.1, hqF.1.2, gopen22 (h.row hl hn hx) hok x x0 x1 hq⟩
theorem Env22.cellT (h : Env22 w0 V Bt Bc la n lc ta R tc F cl) (hok : PlanOk F n) (hR : spans F n = R) {k : Nat} (hk : k < R) : ∃ g, ta = some ⟨g, 0, none⟩ ∧ g < V.heap.size ∧ V.cell? ⟨g, k, none⟩ = some (.int .u8 ((tk22 F n).getD k 0)) := by
  obtain ⟨a, c, e, -, hc⟩ := h.t.tk.form
  have hlen := tk22_len hok.2 n (Nat.le_refl _)
  have hl : (tk22 F n).length = R := by omega
  injection e with e1 e2 e3
  subst e1
  exact hc k (by omega)
end
theorem plan22_okx {zs os : List Int} {n : Nat} (hz : ∀ i, 0 ≤ zs.getD i 0 ∧ zs.getD i 0 ≤ 255) (ho : ∀ i, 0 ≤ os.getD i 0 ∧ os.getD i 0 ≤ 255) : ∀ x ∈ (List.range n).map (fun i => (⟨os.getD i 0, zs.getD i 0 % 10 + 1⟩ : Slot22)), x.ok := fun x hx => by
  obtain ⟨i, -, rfl⟩ := List.mem_map.1 hx
  have h1 := hz i
  have h2 := ho i
  exact ⟨h2, by dsimp only; omega⟩
end Go.Proofs.Ytmkgadndfiiacaa
