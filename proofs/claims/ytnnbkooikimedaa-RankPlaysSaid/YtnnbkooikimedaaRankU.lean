/-
  The law of layer 16 on ranks that rise: what is kept beside the ranks, where a flow is found. No condition.
-/
import Derived.Test.YtnnbkooikimedaaRankA
import Derived.Test.YtnnbkooikimedaaU64s
namespace Go.Proofs.Ytnnbkooikimedaa
set_option linter.unusedVariables false
set_option linter.unusedSimpArgs false
open Go.ChangeShapes Go.WideShapes Go.ChangeAt Go.RowKit
attribute [local go_sem] alloc_drewN setCell_drewN

theorem infoB16 : (Try.prog.info? 4).map (fun i => (i.zero, i.size, i.bytes)) = some (some (.bool false), 1, 1) := by kernel_rfl
set_option maxHeartbeats 1000000 in
theorem find16_at {w : World} {a : Option Addr} {n : Nat} {fs : List Fl} (hr : RowFl w a n fs) (c : Nat) (hn : n ≤ 100) (id : Int) (j : Nat) (hj : j < n) (h1 : (fs.getD j Fl.nil).id = id) (h2 : ∀ q, q < j → ¬ (fs.getD q Fl.nil).id = id) :
    Calls Try.prog 67 #[.slice a n c, .int .u32 id] w fun e w' => e = .returned (.int .i64 j) ∧ w' = w := by
  have HR := Lib.hid hr; have H1 := Lib.hid h1; have H2 := Lib.hid h2
  clear hr h1 h2
  go_enter Try.func67, Try.ntmps67
  go_wp2
  go_loopw [5] (fun z wr => ∃ i : Nat, i ≤ j ∧ z = .int .i64 i ∧ wr = w) (fun z _ => n - (intOf z).toNat)
  case atStart => exact ⟨0, Nat.zero_le _, rfl, rfl⟩
  case round =>
    obtain ⟨i, hi, rfl, rfl⟩ := hrel
    have z0 : (0 : Int) ≤ i := by omega
    have z1 : (i : Int) < n := by omega
    obtain ⟨b, off, rfl, hblt, c0, c1, c2, c3, c4⟩ := HR.out.atR (Below.refl _ _) i (by omega)
    by_cases e : i = j
    · subst e
      rw [H1.out] at c0
      go_wp2
      go_ret
      exact ⟨by simp, by simp⟩
    · have hne := H2.out i (by omega)
      obtain ⟨y, hy⟩ : ∃ y, (fs.getD i Fl.nil).id = y := ⟨_, rfl⟩
      rw [hy] at c0 hne
      clear hy
      go_wp2
      go_roundw
      case rel => exact ⟨i + 1, by omega, by go_num, by first | rfl | trivial⟩
      case measure => simp [intOf] <;> omega
set_option maxHeartbeats 1000000 in
theorem find16_no {w : World} {a : Option Addr} {n : Nat} {fs : List Fl} (hr : RowFl w a n fs) (c : Nat) (hn : n ≤ 100) (id : Int) (h2 : ∀ q, q < n → ¬ (fs.getD q Fl.nil).id = id) :
    Calls Try.prog 67 #[.slice a n c, .int .u32 id] w fun e w' => e = .returned (.int .i64 (-1)) ∧ w' = w := by
  have HR := Lib.hid hr; have H2 := Lib.hid h2
  clear hr h2
  go_enter Try.func67, Try.ntmps67
  go_wp2
  go_loopw [5] (fun z wr => ∃ i : Nat, i ≤ n ∧ z = .int .i64 i ∧ wr = w) (fun z _ => n - (intOf z).toNat)
  case atStart => exact ⟨0, Nat.zero_le _, rfl, rfl⟩
  case round =>
    obtain ⟨i, hi, rfl, rfl⟩ := hrel
    by_cases hlt : i < n
    · have z0 : (0 : Int) ≤ i := by omega
      have z1 : (i : Int) < n := by omega
      obtain ⟨b, off, rfl, hblt, c0, c1, c2, c3, c4⟩ := HR.out.atR (Below.refl _ _) i hlt
      have hne := H2.out i hlt
      obtain ⟨y, hy⟩ : ∃ y, (fs.getD i Fl.nil).id = y := ⟨_, rfl⟩
      rw [hy] at c0 hne
      clear hy
      go_wp2
      go_roundw
      case rel => exact ⟨i + 1, by omega, by go_num, by first | rfl | trivial⟩
      case measure => simp [intOf] <;> omega
    · obtain rfl : i = n := by omega
      go_wp2
      go_ret
      exact ⟨by simp, by simp⟩
theorem getD_set {α : Type} (l : List α) (i j : Nat) (x d : α) (hi : i < l.length) : (l.set i x).getD j d = if i = j then x else l.getD j d := by
  simp only [List.getD_eq_getElem?_getD, List.getElem?_set]
  by_cases e : i = j
  · rw [if_pos e, if_pos e, if_pos (by omega)]; rfl
  · rw [if_neg e, if_neg e]
/-- The ranks, the last rank of each flow, and whether it was met. -/
structure Mem16 (w wr : World) (A L M : Nat) (k v : Int) (va : Value) (n : Nat) (es : List Rf) (ls : List Int) (ms : List Bool) : Prop where
  ra : RanksAt wr A A k v va es
  b : Below w.heap.size w wr
  lo : wr.ownsRow w.heap.size 22 1 (.slice (some ⟨L, 0, none⟩) n n) n (ls.map (Value.int .u64))
  mo : wr.ownsRow w.heap.size 4 1 (.slice (some ⟨M, 0, none⟩) n n) n (ms.map Value.bool)
  ll : ls.length = n
  ml : ms.length = n
  nL : ¬ inRa A va L
  nM : ¬ inRa A va M
  sA : w.heap.size ≤ A
  LM : L ≠ M
section
variable {w wr : World} {A L M : Nat} {k v : Int} {va : Value} {n : Nat} {es : List Rf} {ls : List Int} {ms : List Bool}
theorem Mem16.mv {wr' : World} {v' : Int} {es' : List Rf} (h : Mem16 w wr A L M k v va n es ls ms) (m : MvS wr wr' (inRa A va) (inRa A va)) (h' : RanksAt wr' A A k v' va es') : Mem16 w wr' A L M k v' va n es' ls ms :=
  ⟨h', m.below h.b (fun j hj => Nat.le_trans h.sA (h.ra.inlt hj).1) h.b.size, own_keep h.lo (fun j hj => m.block j (World.ownsRow.lt h.lo j hj).2 (fun hh => h.nL (by injection hj with e; have e : _ = j := e; dsimp only at e; subst e; exact hh))), own_keep h.mo (fun j hj => m.block j (World.ownsRow.lt h.mo j hj).2 (fun hh => h.nM (by injection hj with e; have e : _ = j := e; dsimp only at e; subst e; exact hh))), h.ll, h.ml, h.nL, h.nM, h.sA, h.LM⟩
theorem Mem16.below {wr' : World} (h : Mem16 w wr A L M k v va n es ls ms) (hb : Below wr.heap.size wr wr') : Mem16 w wr' A L M k v va n es ls ms := h.mv (MvS.of_below _ hb) (h.ra.below hb)
theorem Mem16.at (h : Mem16 w wr A L M k v va n es ls ms) (j : Nat) (hj : j < n) : wr.cell? ⟨L, j, none⟩ = some (.int .u64 (ls.getD j 0)) ∧ wr.cell? ⟨M, j, none⟩ = some (.bool (ms.getD j false)) ∧ wr.frozen? ⟨L, j, none⟩ = false ∧ wr.frozen? ⟨M, j, none⟩ = false := by
  refine ⟨?_, ?_, h.lo.frozenAt j, h.mo.frozenAt j⟩
  · rw [h.lo.cellAt j (by omega), List.getElem?_map, List.getElem?_eq_getElem (by rw [h.ll]; exact hj), List.getD_eq_getElem?_getD, List.getElem?_eq_getElem (by rw [h.ll]; exact hj)]
    rfl
  · rw [h.mo.cellAt j (by omega), List.getElem?_map, List.getElem?_eq_getElem (by rw [h.ml]; exact hj), List.getD_eq_getElem?_getD, List.getElem?_eq_getElem (by rw [h.ml]; exact hj)]
    rfl
theorem Mem16.put (h : Mem16 w wr A L M k v va n es ls ms) (j : Nat) (x : Int) : Mem16 w ((wr.setCell ⟨L, j, none⟩ (.int .u64 x)).setCell ⟨M, j, none⟩ (.bool true)) A L M k v va n es (ls.set j x) (ms.set j true) := by
  have h1 : ∀ q, q ≠ L → (wr.setCell ⟨L, j, none⟩ (.int .u64 x)).heap[q]? = wr.heap[q]? := fun q hq => Below.heap_setCell wr ⟨L, j, none⟩ _ q hq
  have h2 : ∀ q, q ≠ M → ((wr.setCell ⟨L, j, none⟩ (.int .u64 x)).setCell ⟨M, j, none⟩ (.bool true)).heap[q]? = (wr.setCell ⟨L, j, none⟩ (.int .u64 x)).heap[q]? := fun q hq => Below.heap_setCell _ ⟨M, j, none⟩ _ q hq
  have hlL := (World.ownsRow.lt h.lo L rfl).1
  have hlM := (World.ownsRow.lt h.mo M rfl).1
  have l1 := row_put h.lo j (.int .u64 x)
  have m1 : (wr.setCell ⟨L, j, none⟩ (.int .u64 x)).ownsRow w.heap.size 4 1 (.slice (some ⟨M, 0, none⟩) n n) n (ms.map Value.bool) := own_keep h.mo (fun q hq => h1 q (fun e => h.LM (by injection hq with e2; have e2 : _ = q := e2; dsimp only at e2; omega)))
  have m2 := row_put m1 j (.bool true)
  rw [← List.map_set] at l1 m2
  refine ⟨h.ra.keep (fun q hq => (h2 q (fun e => h.nM (e ▸ hq))).trans (h1 q (fun e => h.nL (e ▸ hq)))), ?_, own_keep l1 (fun q hq => h2 q (fun e => h.LM (by injection hq with e2; have e2 : _ = q := e2; dsimp only at e2; omega))), m2, by rw [List.length_set]; exact h.ll, by rw [List.length_set]; exact h.ml, h.nL, h.nM, h.sA, h.LM⟩
  exact h.b.trans ⟨rfl, rfl, rfl, by simp [World.setCell], fun q hq => (h2 q (by omega)).trans (h1 q (by omega))⟩
end
/-- What the last ranks say of the ranks that come. -/
def InvR (k now : Int) (es : List Rf) (ls : List Int) (ms : List Bool) : Prop :=
  ∀ j, j < es.length → ms.getD j false = true → (k = 1 → ls.getD j 0 ≤ (es.getD j Rf.nil).tg) ∧ (k = 2 → ls.getD j 0 ≤ cap (now + (es.getD j Rf.nil).bu)) ∧ (k = 3 → (es.getD j Rf.nil).tg ≤ ls.getD j 0)
theorem InvR.later {k now now' : Int} {es : List Rf} {ls : List Int} {ms : List Bool} (h : InvR k now es ls ms) (hn : now ≤ now') : InvR k now' es ls ms := fun j hj hm =>
  ⟨(h j hj hm).1, fun hk => Int.le_trans ((h j hj hm).2.1 hk) (cap_mono (by omega)), (h j hj hm).2.2⟩
theorem InvR.now {k now v : Int} {es : List Rf} {ls : List Int} {ms : List Bool} (h : InvR k now es ls ms) (j : Nat) (hj : j < es.length) (hm : ms.getD j false = true) :
    (k = 1 → ls.getD j 0 ≤ rkOf k v now (es.getD j Rf.nil)) ∧ (k = 2 → ls.getD j 0 ≤ rkOf k v now (es.getD j Rf.nil)) ∧ (k = 3 → rkOf k v now (es.getD j Rf.nil) ≤ ls.getD j 0) := by
  obtain ⟨h1, h2, h3⟩ := h j hj hm
  refine ⟨fun e => ?_, fun e => ?_, fun e => ?_⟩
  · have := h1 e; subst e; show _ ≤ max v _; omega
  · have := h2 e; subst e; exact this
  · have := h3 e; subst e; exact this
theorem InvR.next {k now v n : Int} {es : List Rf} {ls : List Int} {ms : List Bool} (h : InvR k now es ls ms) (j : Nat) (hj : j < es.length) (hl : es.length ≤ ls.length) (hm : es.length ≤ ms.length) (hok : (es.getD j Rf.nil).ok) (hv1 : v ≤ 18446744073709551615) (hn : 0 ≤ n) :
    InvR k now (es.set j ((es.getD j Rf.nil).wt (tgOf k v n (es.getD j Rf.nil)))) (ls.set j (rkOf k v now (es.getD j Rf.nil))) (ms.set j true) := by
  intro q hq hmq
  rw [List.length_set] at hq
  rw [rf_set es j q _ hj, getD_set ls j q _ _ (by omega)]
  rw [getD_set ms j q _ _ (by omega)] at hmq
  by_cases e : j = q
  · subst e
    rw [if_pos rfl, if_pos rfl]
    obtain ⟨⟨a0, a1⟩, ⟨b0, b1⟩, t0, t1⟩ := hok
    generalize es.getD j Rf.nil = x at *
    obtain ⟨xi, xc, xb, xt⟩ := x
    dsimp only at a0 a1 b0 b1 t0 t1
    refine ⟨fun e => ?_, fun e => ?_, fun e => ?_⟩
    · subst e
      show max v xt ≤ cap (max v xt + xc * n)
      have hp : 0 ≤ xc * n := Int.mul_nonneg a0 hn
      have h1 := cap_mono (show max v xt ≤ max v xt + xc * n by omega)
      rw [cap_of (show max v xt ≤ 18446744073709551615 by omega)] at h1
      exact h1
    · subst e; exact Int.le_refl _
    · subst e
      show sub0 xt n ≤ xt
      unfold sub0; split <;> omega
  · rw [if_neg e, if_neg e]
    rw [if_neg e] at hmq
    exact h q hq hmq
end Go.Proofs.Ytnnbkooikimedaa
