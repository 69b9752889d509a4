/-
  Package sppifo: all bounds as a copy; what holds of bounds whatever is pushed. What lay below the heap's end stands. No condition but that New made the queues.
-/
import Derived.Test.YtkgiaijcgblpbaaSpI5
namespace Go.Proofs.Ytkgiaijcgblpbaa
set_option linter.unusedVariables false
set_option linter.unusedSimpArgs false
open Go.ChangeShapes Go.WideShapes Go.ChangeAt Go.RowKit
attribute [local go_sem] alloc_drewN setCell_drewN

structure BInv (bs : List Int) (most : Int) : Prop where
  mono : ∀ i j, i ≤ j → j < bs.length → bs.getD i 0 ≤ bs.getD j 0
  bnd : ∀ i, i < bs.length → 0 ≤ bs.getD i 0 ∧ bs.getD i 0 ≤ most
theorem BInv.start (n : Nat) : BInv (List.replicate n 0) 0 := by
  have e : ∀ i, (List.replicate n (0 : Int)).getD i 0 = 0 := fun i => by
    rw [List.getD_eq_getElem?_getD, List.getElem?_replicate]
    split <;> rfl
  exact ⟨fun i j _ _ => by rw [e, e]; exact Int.le_refl _, fun i _ => by rw [e]; omega⟩
theorem BInv.push {bs bs' : List Int} {most rank : Int} {j : Nat} (h : BInv bs most) (hn : 0 < bs.length) (r0 : 0 ≤ rank) (hp : PushedI bs rank j bs') : bs'.length = bs.length ∧ BInv bs' (max most rank) := by
  rcases hp with ⟨hl, rfl⟩ | ⟨hl, _, rfl⟩
  · have hj : j < bs.length := by have := hl.hi; omega
    have hd := hl.dn (by omega)
    rw [Int.toNat_natCast] at hd
    have g : ∀ i, (bs.set j rank).getD i 0 = if i = j then rank else bs.getD i 0 := fun i => getD_set bs j i rank 0 hj
    refine ⟨by rw [List.length_set], fun i k hik hk => ?_, fun i hi => ?_⟩
    · rw [List.length_set] at hk
      rw [g, g]
      by_cases hij : i = j
      · rw [if_pos hij]
        by_cases hkj : k = j
        · rw [if_pos hkj]; exact Int.le_refl _
        · rw [if_neg hkj]
          exact Int.le_of_lt (hl.up k (by omega) hk)
      · rw [if_neg hij]
        by_cases hkj : k = j
        · rw [if_pos hkj]
          exact Int.le_trans (h.mono i j (by omega) hj) hd
        · rw [if_neg hkj]; exact h.mono i k hik hk
    · rw [List.length_set] at hi
      rw [g]
      by_cases hij : i = j
      · rw [if_pos hij]; omega
      · rw [if_neg hij]
        have := h.bnd i hi
        omega
  · have hu := hl.up 0 (by omega) hn
    have g : ∀ i, i < bs.length → (bs.map (fun b => b - (bs.getD 0 0 - rank))).getD i 0 = bs.getD i 0 - (bs.getD 0 0 - rank) := fun i hi => by
      generalize bs.getD 0 0 - rank = dd
      rw [List.getD_eq_getElem?_getD, List.getElem?_map, List.getElem?_eq_getElem hi, List.getD_eq_getElem?_getD, List.getElem?_eq_getElem hi]; rfl
    refine ⟨by rw [List.length_map], fun i k hik hk => ?_, fun i hi => ?_⟩
    · rw [List.length_map] at hk
      rw [g i (by omega), g k hk]
      have := h.mono i k hik hk
      omega
    · rw [List.length_map] at hi
      rw [g i hi]
      have h1 := h.bnd i hi
      have h2 := h.mono 0 i (Nat.zero_le _) hi
      omega
set_option maxRecDepth 100000 in
set_option maxHeartbeats 1000000 in
theorem sbounds {w : World} {base B : Nat} {room : Int} {vb vq : Value} {bs : List Int} {rs : List RgI} (h : SpAtI w base B room vb vq bs rs) :
    Calls Try.prog 50 #[.pointer (some ⟨B, 0, none⟩)] w fun e w' => e = .returned (.slice (some ⟨w.heap.size, 0, none⟩) bs.length bs.length) ∧ w'.ownsRow w.heap.size 48 1 (.slice (some ⟨w.heap.size, 0, none⟩) bs.length bs.length) bs.length (bs.map (Value.int .u64)) ∧ Below w.heap.size w w' := by
  obtain ⟨i0, hi, hz0, hz1, hz2⟩ := info_parts sinfoBI
  obtain ⟨c0, c1, c2⟩ := h.cell
  obtain ⟨g, c, rfl, -⟩ := h.formB
  have hn1 : bs.length ≤ 32 := by have := h.n1; have := h.lb; omega
  have H := Lib.hid h
  have hBlt : B < w.heap.size := (Array.getElem?_eq_some_iff.1 h.blk).1
  clear h c0 c2
  obtain ⟨n, hn⟩ : ∃ n, bs.length = n := ⟨_, rfl⟩
  have HN := Lib.hid hn
  rw [hn] at c1 hn1 ⊢
  clear hn
  go_enter Try.func50, Try.ntmps50
  have hsz : (Try.prog.info? 48).map (·.size) = some 1 := by rw [hi]; exact congrArg some hz1
  have HZ := Lib.hid hsz
  clear hsz
  obtain ⟨cs, hcs⟩ : ∃ cs, cs = bs.map (Value.int .u64) := ⟨_, rfl⟩
  have HNC : Hid (cs.length = Nat.min n n) := Lib.hid (by rw [hcs, List.length_map, HN.out]; exact (Nat.min_eq_left (Nat.le_refl n)).symm)
  have HFC : Hid (0 + cs.length ≤ (List.replicate n (Value.int .u64 0)).length) := Lib.hid (by rw [hcs, List.length_map, List.length_replicate, HN.out]; omega)
  have H1C : Hid (∀ v ∈ cs, v.oneCell' = true) := Lib.hid (fun v hv => by rw [hcs] at hv; obtain ⟨x, _, rfl⟩ := List.mem_map.1 hv; rfl)
  have OB : Hid (w.ownsRow base 48 1 (.slice (some ⟨g, 0, none⟩) n c) n cs) := Lib.hid (by have o := H.out.ob; rw [HN.out, ← hcs] at o; exact o)
  have HCS := Lib.hid hcs
  clear hcs
  go_wp2_with (first
    | (at_make; refine wpList_make_full _ rfl _ _ 82 rfl w.heap.size 48 i0 (.int .u64 0) 1 Try.underlying82 hi hz0 hz1 _ _ _ _ n rfl rfl rfl rfl (by rw [hz2]; omega) (by unfold maxLen; omega) (Nat.le_refl _) ?_; intro w1 ho1 hg1; have HO1 := Lib.hid ho1; have HG1 := Lib.hid hg1; clear ho1 hg1; have B1 : Hid (Below w.heap.size w w1) := Lib.hid ((Below.refl _ _).grown HG1.out (Nat.le_refl _) (by simp)); have d1 := (B1.out.cell (p := ⟨B, 1, none⟩) hBlt).trans c1; have HGC := Lib.hid (show w1.heap[w.heap.size]? = some (.cells (List.replicate n (Value.int .u64 0)).toArray 48 (0, 0)) by (have h1 := (own_full HO1.out).1; rw [show (madeCells (Value.int .u64 0).cells (n * 1)).toList = List.replicate n (Value.int .u64 0) by (simp [madeCells, Value.cells, List.map_const', List.eq_replicate_iff]; intro a _; rw [Nat.mod_one]; rfl)] at h1; exact h1)); have HPC := Lib.hid (fun (j : Nat) (v : Value) (hj : cs[j]? = some v) => (World.ownsRow.cells (own_onSI OB.out (fun j hj => B1.out.block j (World.ownsRow.lt OB.out j hj).2)) (g := g) rfl j v hj : w1.cell? ((⟨g, 0, none⟩ : Addr).add j) = some v)))
    | (with_reducible refine wpList_copy_splice (o := ⟨some 17, _, _, _, _, _⟩) rfl _ _ 82 82 rfl 48 Try.underlying82 HZ.out _ _ _ _ _ _ rfl rfl w.heap.size 0 (List.replicate n (Value.int .u64 0)) 48 HGC.out cs HNC.out (fun _ => ⟨rfl, _, rfl, HPC.out⟩) HFC.out H1C.out w.heap.size w B1.out (Nat.le_refl _) ?_; intro w3 HG3 hb3; have B3 := Lib.hid hb3; clear hb3))
  go_ret
  have es : splice (List.replicate n (Value.int .u64 0)) 0 cs = bs.map (Value.int .u64) := by
    unfold splice
    rw [List.take_zero, List.nil_append, Nat.zero_add, List.drop_of_length_le (by rw [List.length_replicate, HCS.out, List.length_map, HN.out]; exact Nat.le_refl _), List.append_nil]
    exact HCS.out
  have hg3 := HG3.out
  rw [es] at hg3
  exact ⟨rfl, own_of_full hg3 (Nat.le_refl _) (by unfold maxLen; omega) (by rw [List.length_map]; exact HN.out), B3.out⟩
end Go.Proofs.Ytkgiaijcgblpbaa
