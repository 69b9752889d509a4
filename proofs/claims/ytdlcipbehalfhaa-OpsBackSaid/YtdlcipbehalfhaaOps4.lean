/-
  What package wire takes and puts of rows that a call owns; package ops, the operation that stands at the beginning of bytes. What lay below the heap's end stands.
-/
import Derived.Test.YtdlcipbehalfhaaOps2
import Derived.Test.YtdlcipbehalfhaaVal
import Derived.StillTailTactics
import Derived.Deep.CutBlock
import Derived.Deep.DeepCutAuto
namespace Go.Proofs.Ytdlcipbehalfhaa
set_option linter.unusedVariables false
set_option linter.unusedSimpArgs false
open Go.ChangeShapes Go.WideShapes Go.ChangeAt Go.RowKit
attribute [-go_sem] run_index_string binOp_string_eql binOp_string_neq run_string_add_if run_slice_string_from_if run_slice_string_to_if
attribute [local go_sem] index_bt add_fits slice_from slice_to eql_str neq_str alloc_drewN setCell_drewN

theorem own_ints {w : World} {base : Nat} {v : Value} {zs : List Int} (h : w.ownsRow base 3 1 v zs.length (zs.map (Value.int .i64))) :
    (v = .slice none 0 0 ∧ zs = []) ∨ ∃ g cap, v = .slice (some ⟨g, 0, none⟩) zs.length cap ∧ g < w.heap.size ∧ ∀ i, i < zs.length → w.cell? ⟨g, 0 + i, none⟩ = some (.int .i64 (zs.getD i 0)) := by
  have h' := h
  rcases h'.2 with ⟨rfl, h0⟩ | ⟨g, cap, cur, rfl, hb, _⟩
  · exact Or.inl ⟨rfl, List.length_eq_zero_iff.1 h0⟩
  · refine Or.inr ⟨g, cap, rfl, (World.ownsRow.lt h g rfl).2, fun i hi => ?_⟩
    have c0 := h.cells (g := g) rfl i (.int .i64 (zs.getD i 0)) (by rw [List.getElem?_map, List.getElem?_eq_getElem hi, List.getD_eq_getElem?_getD, List.getElem?_eq_getElem hi]; rfl)
    have e : (⟨g, 0, none⟩ : Addr).add i = ⟨g, 0 + i, none⟩ := Go.WideShapes.add_plain _ _ _
    rw [e] at c0
    exact c0
def TakeEnd (s : ByteArray) (ks : List Int) (w : World) (e : Ending) (w' : World) : Prop :=
  ∃ v, e = .returned (.tuple #[v, .int .i64 ((tl s ks 0).2.1 : Nat), .int .i64 (tl s ks 0).2.2]) ∧ FRow w w' v (tl s ks 0).1 ∧ Below w.heap.size w w'
theorem Take_own (s : ByteArray) (ks : List Int) (hs : s.size ≤ 100000000) (hn : ks.length ≤ 200) (hok : ∀ x ∈ ks, -9223372036854775808 ≤ x ∧ x ≤ 9223372036854775807) (base : Nat) (v : Value) (w : World)
    (h : w.ownsRow base 3 1 v ks.length (ks.map (Value.int .i64))) : Calls Try.prog 140 #[.string s, v] w (TakeEnd s ks w) := by
  rcases own_ints h with ⟨rfl, rfl⟩ | ⟨g, cap, rfl, hg, hc⟩
  · refine (Take_none s none 0 w).mono ?_
    rintro e w' ⟨rfl, hb⟩
    exact ⟨_, rfl, World.ownsRow_nil _ _ _ _, hb⟩
  · exact Take_at s g 0 cap ks hs hn hok w hg hc
theorem refTake_own (s : ByteArray) (ks : List Int) (hs : s.size ≤ 100000000) (hn : ks.length ≤ 200) (hok : ∀ x ∈ ks, -9223372036854775808 ≤ x ∧ x ≤ 9223372036854775807) (base : Nat) (v : Value) (w : World)
    (h : w.ownsRow base 3 1 v ks.length (ks.map (Value.int .i64))) : Calls Try.prog 90 #[.string s, v] w (TakeEnd s ks w) := by
  rcases own_ints h with ⟨rfl, rfl⟩ | ⟨g, cap, rfl, hg, hc⟩
  · refine (refTake_none s none 0 w).mono ?_
    rintro e w' ⟨rfl, hb⟩
    exact ⟨_, rfl, World.ownsRow_nil _ _ _ _, hb⟩
  · exact refTake_at s g 0 cap ks hs hn hok w hg hc
theorem okinds_len (b : Int) : (okinds b).length ≤ 200 := by unfold okinds; split; decide; split <;> decide
theorem okinds_ok (b : Int) : ∀ x ∈ okinds b, -9223372036854775808 ≤ x ∧ x ≤ 9223372036854775807 := by
  unfold okinds
  intro x hx
  split at hx
  · simp at hx; omega
  · split at hx
    · simp at hx; omega
    · cases hx
def KRow (w0 w : World) (v : Value) (ks : List Int) : Prop := w.ownsRow w0.heap.size 3 1 v ks.length (ks.map (Value.int .i64))
theorem lit_krow {w0 W : World} {g n : Nat} {cs : Array Value} {ks : List Int} (hb : w0.heap.size ≤ W.heap.size) (hg : W.heap.size = g) (hn : ks.length = n) (hm : n ≤ maxLen) (hc : cs.toList = ks.map (Value.int .i64)) (hl : cs.size = n * 1) :
    KRow w0 (W.alloc (.cells cs 3)) (.slice (some ⟨g, 0, none⟩) n n) ks := by
  subst hn hg
  have := World.ownsRow_lit (e := 3) (size := 1) (base := w0.heap.size) W cs ks.length hb hm hl
  rw [hc] at this
  exact this
theorem kinds_any (b : Int) (b0 : 1 ≤ b) (b4 : b ≤ 4) (w : World) :
    Calls Try.prog 141 #[.int .i64 b] w fun e w' => ∃ v, e = .returned v ∧ KRow w w' v (okinds b) ∧ Below w.heap.size w w' := by
  have h : b = 1 ∨ b = 2 ∨ b = 3 ∨ b = 4 := by omega
  rcases h with rfl | rfl | rfl | rfl
  · clear b0 b4
    go_enter Try.func141, Try.ntmps141
    go_wp2
    go_ret
    refine ⟨_, rfl, ?_, (Below.refl _ _).alloc (Nat.le_refl _) _⟩
    exact lit_krow (ks := [3, 3, 5]) (by simp) (by simp) rfl (by unfold maxLen; decide) rfl rfl
  · clear b0 b4
    go_enter Try.func141, Try.ntmps141
    go_wp2
    go_ret
    exact ⟨_, rfl, World.ownsRow_nil _ _ _ _, Below.refl _ _⟩
  · clear b0 b4
    go_enter Try.func141, Try.ntmps141
    go_wp2
    go_ret
    refine ⟨_, rfl, ?_, (Below.refl _ _).alloc (Nat.le_refl _) _⟩
    exact lit_krow (ks := [5]) (by simp) (by simp) rfl (by unfold maxLen; decide) rfl rfl
  · clear b0 b4
    go_enter Try.func141, Try.ntmps141
    go_wp2
    go_ret
    exact ⟨_, rfl, World.ownsRow_nil _ _ _ _, Below.refl _ _⟩
theorem tl_fits (s : ByteArray) (ks : List Int) (h : (tl s ks 0).2.2 = 0) : (tl s ks 0).1.map Fd.k = ks ∧ ∀ f ∈ (tl s ks 0).1, (0 ≤ f.n ∧ f.n ≤ 18446744073709551615) ∧ (f.k = 3 → f.n ≤ 4294967295) := by
  have hk := tl_kinds _ _ _ h
  obtain ⟨hf, hp, _, hd⟩ := tl_only s ks (tl s ks 0).1 0 (tl s ks 0).2.1 (Nat.zero_le _) (by rw [← h])
  refine ⟨hk, fun f hm => ?_⟩
  obtain ⟨j1, j2, j3, _⟩ := hf f hm
  have hr := er_range f j1
  refine ⟨j3, fun h3 => ?_⟩
  have := hr.2.2.2.2.2 (by omega)
  rw [h3, wk3] at this
  omega
set_option maxRecDepth 100000 in
set_option maxHeartbeats 1000000 in
theorem oper_any (b : Int) (b0 : 1 ≤ b) (b4 : b ≤ 4) (fl : List Fd) (hk : fl.map Fd.k = okinds b) (hf : ∀ f ∈ fl, (0 ≤ f.n ∧ f.n ≤ 18446744073709551615) ∧ (f.k = 3 → f.n ≤ 4294967295)) (base : Nat) (v : Value) (w : World) (ho : w.ownsRow base 165 3 v fl.length (fl.flatMap Fd.cells)) :
    Calls Try.prog 142 #[.int .i64 b, v] w fun e w' => e = .returned (oper b fl).val ∧ Below w.heap.size w w' := by
  have h : b = 1 ∨ b = 3 ∨ b = 2 ∨ b = 4 := by omega
  rcases h with rfl | rfl | h
  · clear b0 b4
    have hk : fl.map Fd.k = [3, 3, 5] := hk
    obtain ⟨f0, f1, f2, rfl⟩ := len_three (l := fl) (by have := congrArg List.length hk; simpa using this)
    obtain ⟨k0, n0, s0⟩ := f0
    obtain ⟨k1, n1, s1⟩ := f1
    obtain ⟨k2, n2, s2⟩ := f2
    simp only [List.map_cons, List.map_nil, List.cons.injEq, and_true] at hk
    obtain ⟨rfl, rfl, rfl⟩ := hk
    obtain ⟨⟨a0, a1⟩, a2⟩ := hf ⟨3, n0, s0⟩ (by simp)
    obtain ⟨⟨c0, c1⟩, c2⟩ := hf ⟨3, n1, s1⟩ (by simp)
    obtain ⟨⟨d0, d1⟩, d2⟩ := hf ⟨5, n2, s2⟩ (by simp)
    have a2 := a2 rfl
    have c2 := c2 rfl
    simp only at a0 a1 a2 c0 c1 c2 d0 d1
    clear d2 hf
    have ev : (oper 1 [⟨3, n0, s0⟩, ⟨3, n1, s1⟩, ⟨5, n2, s2⟩]).val = .agg #[.int .i64 1, .int .u32 n0, .int .u32 n1, .int .u64 n2, .int .u64 0] := rfl
    rw [ev]
    clear ev
    rcases own_fields _ _ _ _ _ ho with ⟨_, h⟩ | ⟨g, cap, rfl, hgb, hg, hc⟩
    · cases h
    · obtain ⟨p0, p1, p2⟩ := hc 0 (by simp)
      obtain ⟨q0, q1, q2⟩ := hc 1 (by simp)
      obtain ⟨r0, r1, r2⟩ := hc 2 (by simp)
      have p1 : w.cell? ⟨g, 1, none⟩ = some (.int .u64 n0) := p1
      have q1 : w.cell? ⟨g, 4, none⟩ = some (.int .u64 n1) := q1
      have r1 : w.cell? ⟨g, 7, none⟩ = some (.int .u64 n2) := r1
      have gn : ¬ g = w.heap.size := Nat.ne_of_lt hg
      have hl : ([⟨3, n0, s0⟩, ⟨3, n1, s1⟩, ⟨5, n2, s2⟩] : List Fd).length = 3 := rfl
      rw [hl]
      clear hl ho hc p0 p2 q0 q2 r0 r2
      go_enter Try.func142, Try.ntmps142
      go_wp2
      go_region
      go_wp2
      (try simp only [Exit.inBlock, Exit.then])
      refine bp_gen ?_
      intro v1 hv1
      have XB : Below w.heap.size w v1 := by
        rw [hv1]
        (repeat' (first | (with_reducible exact Below.refl _ _) | (with_reducible assumption) | (with_reducible refine below_drewN _ ?_) | (with_reducible refine Below.drew ?_) | (with_reducible refine Below.setCell ?_ (by simp) _) | (with_reducible refine Below.alloc ?_ (by simp; try omega) _)))
      have Xz : v1.heap[w.heap.size]? = some (.cells #[.int .i64 1, .int .u32 n0, .int .u32 n1, .int .u64 n2, .int .u64 0] 30 (0, 0)) := by
        rw [hv1]
        (repeat' (first | (with_reducible exact heap_alloc_new _ _) | (with_reducible exact blk_new (by first | (simp; done) | omega)) | (with_reducible refine blk_drew ?_) | (with_reducible apply put1_0) | (with_reducible apply put2_0) | (with_reducible apply put2_1) | (with_reducible apply put3_0) | (with_reducible apply put3_1) | (with_reducible apply put3_2) | (with_reducible apply put4_0) | (with_reducible apply put4_1) | (with_reducible apply put4_2) | (with_reducible apply put4_3) | (with_reducible apply put5_0) | (with_reducible apply put5_1) | (with_reducible apply put5_2) | (with_reducible apply put5_3) | (with_reducible apply put5_4) | (with_reducible apply put6_0) | (with_reducible apply put6_1) | (with_reducible apply put6_2) | (with_reducible apply put6_3) | (with_reducible apply put6_4) | (with_reducible apply put6_5) | (with_reducible refine blk_else (by omega) ?_) | (with_reducible refine blk_old ?_)))
      obtain ⟨z0_, z1_, z2_, z3_, z4_, -⟩ := at5 Xz
      refine bodyPost_ret (v := .agg #[.int .i64 1, .int .u32 n0, .int .u32 n1, .int .u64 n2, .int .u64 0]) (by simp [results, Try.results142, go_sem, z0_, z1_, z2_, z3_, z4_]) rfl ⟨rfl, XB⟩
  · clear b0 b4
    have hk : fl.map Fd.k = [5] := hk
    obtain ⟨f0, rfl⟩ := len_one (l := fl) (by have := congrArg List.length hk; simpa using this)
    obtain ⟨k0, n0, s0⟩ := f0
    simp only [List.map_cons, List.map_nil, List.cons.injEq, and_true] at hk
    subst hk
    obtain ⟨⟨a0, a1⟩, a2⟩ := hf ⟨5, n0, s0⟩ (by simp)
    simp only at a0 a1
    clear a2 hf
    have ev : (oper 3 [⟨5, n0, s0⟩]).val = .agg #[.int .i64 3, .int .u32 0, .int .u32 0, .int .u64 0, .int .u64 n0] := rfl
    rw [ev]
    clear ev
    rcases own_fields _ _ _ _ _ ho with ⟨_, h⟩ | ⟨g, cap, rfl, hgb, hg, hc⟩
    · cases h
    · obtain ⟨p0, p1, p2⟩ := hc 0 (by simp)
      have p1 : w.cell? ⟨g, 1, none⟩ = some (.int .u64 n0) := p1
      have gn : ¬ g = w.heap.size := Nat.ne_of_lt hg
      have hl : ([⟨5, n0, s0⟩] : List Fd).length = 1 := rfl
      rw [hl]
      clear hl ho hc p0 p2
      go_enter Try.func142, Try.ntmps142
      go_wp2
      (try simp only [Exit.inBlock, Exit.then])
      refine bp_gen ?_
      intro v1 hv1
      have XB : Below w.heap.size w v1 := by
        rw [hv1]
        (repeat' (first | (with_reducible exact Below.refl _ _) | (with_reducible assumption) | (with_reducible refine below_drewN _ ?_) | (with_reducible refine Below.drew ?_) | (with_reducible refine Below.setCell ?_ (by simp) _) | (with_reducible refine Below.alloc ?_ (by simp; try omega) _)))
      have Xz : v1.heap[w.heap.size]? = some (.cells #[.int .i64 3, .int .u32 0, .int .u32 0, .int .u64 0, .int .u64 n0] 30 (0, 0)) := by
        rw [hv1]
        (repeat' (first | (with_reducible exact heap_alloc_new _ _) | (with_reducible exact blk_new (by first | (simp; done) | omega)) | (with_reducible refine blk_drew ?_) | (with_reducible apply put1_0) | (with_reducible apply put2_0) | (with_reducible apply put2_1) | (with_reducible apply put3_0) | (with_reducible apply put3_1) | (with_reducible apply put3_2) | (with_reducible apply put4_0) | (with_reducible apply put4_1) | (with_reducible apply put4_2) | (with_reducible apply put4_3) | (with_reducible apply put5_0) | (with_reducible apply put5_1) | (with_reducible apply put5_2) | (with_reducible apply put5_3) | (with_reducible apply put5_4) | (with_reducible apply put6_0) | (with_reducible apply put6_1) | (with_reducible apply put6_2) | (with_reducible apply put6_3) | (with_reducible apply put6_4) | (with_reducible apply put6_5) | (with_reducible refine blk_else (by omega) ?_) | (with_reducible refine blk_old ?_)))
      obtain ⟨z0_, z1_, z2_, z3_, z4_, -⟩ := at5 Xz
      refine bodyPost_ret (v := .agg #[.int .i64 3, .int .u32 0, .int .u32 0, .int .u64 0, .int .u64 n0]) (by simp [results, Try.results142, go_sem, z0_, z1_, z2_, z3_, z4_]) rfl ⟨rfl, XB⟩
  · have hb1 : (b == 1) = false := by simp; omega
    have hb3 : (b == 3) = false := by simp; omega
    have ev : (oper b fl).val = .agg #[.int .i64 b, .int .u32 0, .int .u32 0, .int .u64 0, .int .u64 0] := by
      unfold oper
      rw [if_neg (by omega), if_neg (by omega)]
      rfl
    rw [ev]
    clear ev hk hf ho h
    go_enter Try.func142, Try.ntmps142
    go_wp2
    (try simp only [Exit.inBlock, Exit.then])
    refine bp_gen ?_
    intro v1 hv1
    have XB : Below w.heap.size w v1 := by
      rw [hv1]
      (repeat' (first | (with_reducible exact Below.refl _ _) | (with_reducible assumption) | (with_reducible refine below_drewN _ ?_) | (with_reducible refine Below.drew ?_) | (with_reducible refine Below.setCell ?_ (by simp) _) | (with_reducible refine Below.alloc ?_ (by simp; try omega) _)))
    have Xz : v1.heap[w.heap.size]? = some (.cells #[.int .i64 b, .int .u32 0, .int .u32 0, .int .u64 0, .int .u64 0] 30 (0, 0)) := by
      rw [hv1]
      (repeat' (first | (with_reducible exact heap_alloc_new _ _) | (with_reducible exact blk_new (by first | (simp; done) | omega)) | (with_reducible refine blk_drew ?_) | (with_reducible apply put1_0) | (with_reducible apply put2_0) | (with_reducible apply put2_1) | (with_reducible apply put3_0) | (with_reducible apply put3_1) | (with_reducible apply put3_2) | (with_reducible apply put4_0) | (with_reducible apply put4_1) | (with_reducible apply put4_2) | (with_reducible apply put4_3) | (with_reducible apply put5_0) | (with_reducible apply put5_1) | (with_reducible apply put5_2) | (with_reducible apply put5_3) | (with_reducible apply put5_4) | (with_reducible apply put6_0) | (with_reducible apply put6_1) | (with_reducible apply put6_2) | (with_reducible apply put6_3) | (with_reducible apply put6_4) | (with_reducible apply put6_5) | (with_reducible refine blk_else (by omega) ?_) | (with_reducible refine blk_old ?_)))
    obtain ⟨z0_, z1_, z2_, z3_, z4_, -⟩ := at5 Xz
    refine bodyPost_ret (v := .agg #[.int .i64 b, .int .u32 0, .int .u32 0, .int .u64 0, .int .u64 0]) (by simp [results, Try.results142, go_sem, z0_, z1_, z2_, z3_, z4_]) rfl ⟨rfl, XB⟩
end Go.Proofs.Ytdlcipbehalfhaa
