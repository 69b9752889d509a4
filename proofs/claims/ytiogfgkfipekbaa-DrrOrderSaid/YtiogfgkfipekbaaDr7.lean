/-
  Package drr: New of any quanta. No condition.
-/
import Derived.Test.YtiogfgkfipekbaaDr6
import Derived.Test.YtiogfgkfipekbaaOpen
namespace Go.Proofs.Ytiogfgkfipekbaa
set_option linter.unusedVariables false
set_option linter.unusedSimpArgs false
open Go.ChangeShapes Go.WideShapes Go.ChangeAt Go.RowKit
attribute [local go_sem] alloc_drewN setCell_drewN

theorem sinfo : (Try.prog.info? 157).map (fun i => (i.zero, i.size, i.bytes)) = some (some (.agg #[.int .u64 0, .int .u64 0, .pointer none]), 3, 24) := by kernel_rfl
def sz3 : List Value := [.int .u64 0, .int .u64 0, .pointer none]
theorem smade (m : Nat) : (madeCells (Value.agg #[.int .u64 0, .int .u64 0, .pointer none]).cells (m * 3)).toList = (List.replicate m sz3).flatMap id := by
  have e0 : (madeCells (Value.agg #[.int .u64 0, .int .u64 0, .pointer none]).cells (m * 3)).toList = (List.range (m * 3)).map (fun x : Nat => (#[Value.int .u64 0, .int .u64 0, .pointer none] : Array Value)[x % 3]!) := by
    show ((Array.range (m * 3)).map (fun x : Nat => (#[Value.int .u64 0, .int .u64 0, .pointer none] : Array Value)[x % 3]!)).toList = _
    simp
  rw [e0]
  induction m with
  | zero => rfl
  | succ m ih =>
    have e1 : (madeCells (Value.agg #[.int .u64 0, .int .u64 0, .pointer none]).cells (m * 3)).toList = (List.range (m * 3)).map (fun x : Nat => (#[Value.int .u64 0, .int .u64 0, .pointer none] : Array Value)[x % 3]!) := by
      show ((Array.range (m * 3)).map (fun x : Nat => (#[Value.int .u64 0, .int .u64 0, .pointer none] : Array Value)[x % 3]!)).toList = _
      simp
    have e2 := ih e1
    rw [show (m + 1) * 3 = m * 3 + 1 + 1 + 1 by omega, List.range_succ, List.range_succ, List.range_succ, List.map_append, List.map_append, List.map_append, e2, ← List.replicate_append_replicate, List.flatMap_append]
    have r0 : m * 3 % 3 = 0 := by omega
    have r1 : (m * 3 + 1) % 3 = 1 := by omega
    have r2 : (m * 3 + 1 + 1) % 3 = 2 := by omega
    simp only [List.map_cons, List.map_nil, r0, r1, r2]
    rw [List.append_assoc, List.append_assoc]
    rfl
def scell (x : Int × Nat) : List Value := [.int .u64 x.1, .int .u64 0, .pointer (some ⟨x.2, 0, none⟩)]
/-- Turns that are being made: so many classes have their rings. -/
structure DrN (w : World) (base T g n Rb : Nat) (xs : List (Int × Nat)) : Prop where
  blk : w.heap[T]? = some (.cells #[.slice (some ⟨g, 0, none⟩) n n, .pointer (some ⟨Rb, 0, none⟩), .bool false] 150 (0, 0))
  low : base ≤ T
  oc : w.ownsRow base 157 3 (.slice (some ⟨g, 0, none⟩) n n) n (xs.flatMap scell ++ (List.replicate (n - xs.length) sz3).flatMap id)
  row : RingAtI w base Rb n (.slice none 0 0) [] 0 0
  each : ∀ x ∈ xs, RqAtI w base x.2 1024 (.slice none 0 0) [] 0 0
  up : (xs.map (·.2)).Pairwise (· < ·)
  le : xs.length ≤ n
theorem DrN.below {w w' : World} {base T g n Rb : Nat} {xs : List (Int × Nat)} (h : DrN w base T g n Rb xs) (hb : Below w.heap.size w w') : DrN w' base T g n Rb xs :=
  ⟨(hb.block T (Array.getElem?_eq_some_iff.1 h.blk).1).trans h.blk, h.low, own_onD h.oc (fun j hj => hb.block j (World.ownsRow.lt h.oc j hj).2), h.row.below hb, fun x hx => (h.each x hx).below hb, h.up, h.le⟩
theorem set3 {α : Type} (l1 l2 : List α) (a b c x y z : α) (k : Nat) (hk : l1.length = k) : ((((l1 ++ (a :: b :: c :: l2)).set k x).set (k + 1) y).set (k + 2) z) = l1 ++ (x :: y :: z :: l2) := by
  subst hk
  rw [List.set_append_right _ _ (Nat.le_refl _), Nat.sub_self, List.set_cons_zero, List.set_append_right _ _ (by omega), show l1.length + 1 - l1.length = 1 by omega, List.set_cons_succ, List.set_cons_zero, List.set_append_right _ _ (by omega), show l1.length + 2 - l1.length = 2 by omega, List.set_cons_succ, List.set_cons_succ, List.set_cons_zero]
/-- One class more. -/
theorem DrN.next {w w1 : World} {base T g n Rb : Nat} {xs : List (Int × Nat)} (h : DrN w base T g n Rb xs) (hl : xs.length < n) (q : Int) (hb : Below w.heap.size w w1) (hbase : base ≤ w.heap.size) (r : RqAtI w1 w.heap.size w.heap.size 1024 (.slice none 0 0) [] 0 0) :
    DrN (((w1.setCell ⟨g, xs.length * 3, none⟩ (.int .u64 q)).setCell ⟨g, xs.length * 3 + 1, none⟩ (.int .u64 0)).setCell ⟨g, xs.length * 3 + 2, none⟩ (.pointer (some ⟨w.heap.size, 0, none⟩))) base T g n Rb (xs ++ [(q, w.heap.size)]) ∧ (base ≤ g → Below base w (((w1.setCell ⟨g, xs.length * 3, none⟩ (.int .u64 q)).setCell ⟨g, xs.length * 3 + 1, none⟩ (.int .u64 0)).setCell ⟨g, xs.length * 3 + 2, none⟩ (.pointer (some ⟨w.heap.size, 0, none⟩)))) := by
  have hN := h.below hb
  have hf : ∀ x, (scell x).length = 3 := fun x => rfl
  have o1 := row_put hN.oc (xs.length * 3) (.int .u64 q)
  have o2 := row_put o1 (xs.length * 3 + 1) (.int .u64 0)
  have o3 := row_put o2 (xs.length * 3 + 2) (.pointer (some ⟨w.heap.size, 0, none⟩))
  have hrep : List.replicate (n - xs.length) sz3 = sz3 :: List.replicate (n - (xs.length + 1)) sz3 := by
    rw [show n - xs.length = (n - (xs.length + 1)) + 1 by omega]; rfl
  have e : ((((xs.flatMap scell ++ (List.replicate (n - xs.length) sz3).flatMap id).set (xs.length * 3) (.int .u64 q)).set (xs.length * 3 + 1) (.int .u64 0)).set (xs.length * 3 + 2) (.pointer (some ⟨w.heap.size, 0, none⟩))) = (xs ++ [(q, w.heap.size)]).flatMap scell ++ (List.replicate (n - (xs ++ [(q, w.heap.size)]).length) sz3).flatMap id := by
    rw [hrep, List.flatMap_cons]
    show (((xs.flatMap scell ++ (.int .u64 0 :: .int .u64 0 :: .pointer none :: (List.replicate (n - (xs.length + 1)) sz3).flatMap id)).set (xs.length * 3) (.int .u64 q)).set (xs.length * 3 + 1) (.int .u64 0)).set (xs.length * 3 + 2) _ = _
    rw [set3 _ _ _ _ _ _ _ _ _ (flat_len3 scell 3 hf xs), List.flatMap_append, List.length_append, List.append_assoc]
    rfl
  rw [e] at o3
  have hgb := (World.ownsRow.lt h.oc g rfl)
  have gT : g ≠ T := fun x => own_ne_blk h.oc h.blk (by decide) (by rw [x]; rfl)
  have gR : g ≠ Rb := fun x => own_ne_blk h.oc h.row.blk (by decide) (by rw [x]; rfl)
  have hh : ∀ j, j ≠ g → (((w1.setCell ⟨g, xs.length * 3, none⟩ (.int .u64 q)).setCell ⟨g, xs.length * 3 + 1, none⟩ (.int .u64 0)).setCell ⟨g, xs.length * 3 + 2, none⟩ (.pointer (some ⟨w.heap.size, 0, none⟩))).heap[j]? = w1.heap[j]? := fun j hj =>
    (Below.heap_setCell _ ⟨g, _, none⟩ _ j hj).trans ((Below.heap_setCell _ ⟨g, _, none⟩ _ j hj).trans (Below.heap_setCell _ ⟨g, _, none⟩ _ j hj))
  refine ⟨⟨(hh T (fun e => gT e.symm)).trans hN.blk, h.low, o3, hN.row.keepD (hh Rb (fun e => gR e.symm)) (fun j hj => by cases hj), fun x hx => ?_, ?_, by rw [List.length_append]; show xs.length + 1 ≤ n; omega⟩, fun hg => ?_⟩
  · rcases List.mem_append.1 hx with hx | hx
    · have hE := hN.each x hx
      exact hE.keepD (hh x.2 (fun e => own_ne_blk hN.oc hE.blk (by decide) (by rw [e]; rfl))) (fun j hj => by cases hj)
    · rw [List.mem_singleton] at hx
      subst hx
      have r2 := r.keepD (w' := (((w1.setCell ⟨g, xs.length * 3, none⟩ (.int .u64 q)).setCell ⟨g, xs.length * 3 + 1, none⟩ (.int .u64 0)).setCell ⟨g, xs.length * 3 + 2, none⟩ (.pointer (some ⟨w.heap.size, 0, none⟩)))) (hh _ (fun e => by have := hgb.2; omega)) (fun j hj => by cases hj)
      exact ⟨r2.blk, hbase, World.ownsRow_nil _ _ _ _, r2.r0, r2.r1, r2.le, r2.lr, r2.fl⟩
  · rw [List.map_append, List.pairwise_append]
    refine ⟨h.up, by simp, fun a ha b hb => ?_⟩
    obtain ⟨x, hx, rfl⟩ := List.mem_map.1 ha
    have : b = w.heap.size := by simpa using hb
    rw [this]
    exact (h.each x hx).base
  · refine ⟨hb.os, hb.tape, hb.output, by simpa [World.setCell] using hb.size, fun j hj => (hh j (by omega)).trans (hb.block j (by omega))⟩
/-- Turns that are made. -/
def Ts.new (n : Nat) (zs : List Int) : Ts := ⟨n, fun j => zs.getD j 0, fun _ => 0, fun _ => [], [], false⟩
theorem new_inv {n : Nat} {zs : List Int} (h0 : 1 ≤ n) (h1 : n ≤ 64) (hq : ∀ j, j < n → 64 ≤ zs.getD j 0 ∧ zs.getD j 0 ≤ 4294967296) : TInv (Ts.new n zs) :=
  ⟨h0, h1, List.nodup_nil, fun x hx => (by cases hx), fun i hi => ⟨fun h => (by cases h), fun h => absurd rfl h⟩, hq, fun i hi => Int.le_refl _, fun i hi => Or.inl (by show (0 : Int) ≤ 65535; decide), fun i hi x hx => (by cases hx), fun i hi => Nat.zero_le _, fun _ => rfl⟩
theorem DrN.done {w : World} {base T g n Rb : Nat} {xs : List (Int × Nat)} {zs : List Int} (h : DrN w base T g n Rb xs) (hl : xs.length = n) (h0 : 1 ≤ n) (h1 : n ≤ 64) (hx : xs.map (·.1) = zs.take n) (hz : zs.length = n) (hq : ∀ j, j < n → 64 ≤ zs.getD j 0 ∧ zs.getD j 0 ≤ 4294967296) : ∃ In, DrG w base T (Ts.new n zs) In := by
  obtain ⟨cs, hcs⟩ : ∃ cs : List Dc, xs.map (fun x => (⟨x.1, 0, x.2, .slice none 0 0, [], 0, 0⟩ : Dc)) = cs := ⟨_, rfl⟩
  have hcl : cs.length = n := by rw [← hcs, List.length_map, hl]
  have hat : ∀ i (hi : i < cs.length), cs[i] = (⟨(xs[i]'(by omega)).1, 0, (xs[i]'(by omega)).2, .slice none 0 0, [], 0, 0⟩ : Dc) := fun i hi => by subst hcs; rw [List.getElem_map]
  have hoc := h.oc
  rw [hl, Nat.sub_self] at hoc
  have e : xs.flatMap scell ++ (List.replicate 0 sz3).flatMap id = cs.flatMap dcell := by
    rw [← hcs, List.flatMap_map]
    show xs.flatMap scell ++ [] = _
    rw [List.append_nil]
    rfl
  rw [e] at hoc
  refine ⟨_, .slice (some ⟨g, 0, none⟩) n n, cs, Rb, .slice none 0 0, [], 0, 0, ⟨h.blk, h.low, by rw [hcl]; exact hoc, by rw [hcl]; exact h.row, fun i hi => ?_, fun i j hi hj hij => ?_, by omega, by omega⟩, hcl, fun i hi => ?_, rfl, new_inv h0 h1 hq, fun j => Iff.rfl⟩
  · rw [hat i hi]; exact h.each _ (List.getElem_mem _)
  · rw [hat i hi, hat j hj]
    refine ⟨fun e2 => ?_, Or.inl rfl⟩
    have hp := List.pairwise_iff_getElem.1 h.up
    have li : i < (xs.map (·.2)).length := by rw [List.length_map]; omega
    have lj : j < (xs.map (·.2)).length := by rw [List.length_map]; omega
    have e3 : (xs.map (·.2))[i] = (xs.map (·.2))[j] := by rw [List.getElem_map, List.getElem_map]; exact e2
    rcases Nat.lt_or_gt_of_ne hij with h2 | h2
    · have := hp i j li lj h2; omega
    · have := hp j i lj li h2; omega
  · rw [hat i hi]
    refine ⟨?_, rfl, rfl⟩
    have e1 : (xs.map (·.1))[i]? = (zs.take n)[i]? := by rw [hx]
    rw [List.getElem?_map, List.getElem?_eq_getElem (by omega), List.getElem?_take_of_lt (by omega), List.getElem?_eq_getElem (by omega)] at e1
    show (xs[i]'(by omega)).1 = zs.getD i 0
    rw [List.getD_eq_getElem?_getD, List.getElem?_eq_getElem (by omega)]
    exact Option.some.inj e1
end Go.Proofs.Ytiogfgkfipekbaa
