/-
  Layer 7, the document's answer: Take and Append. No condition.
-/
import Derived.Test.YtmkgadndfiiacaaR7b
import Derived.Deep.CutBlock
import Derived.Deep.DeepCutAuto
import Derived.RegionTactic
namespace Go.Proofs.Ytmkgadndfiiacaa
set_option linter.unusedVariables false
set_option linter.unusedSimpArgs false
open Go.ChangeShapes Go.WideShapes Go.ChangeAt Go.RowKit
attribute [local go_sem] alloc_drewN setCell_drewN

set_option maxRecDepth 100000 in
set_option maxHeartbeats 2000000 in
theorem take7_full {w : World} {base M : Nat} {most queues : Int} {vi vn vb : Value} {its ins : List (Int × Int)} {back : List Int} {nev : Int} (h : R7 base w M most queues vi vn vb its ins back nev) (hf : most ≤ its.length) (hl : its.length ≤ 1000000) (x : Int) :
    Calls Try.prog 110 #[.pointer (some ⟨M, 0, none⟩), .int .i64 x] w fun e w' => e = .returned (.tuple #[.int .i64 0, .bool false]) ∧ ∃ n, w' = w.drewN n := by
  obtain ⟨c0, c1, c2, c3, c4, c5, -, -, -, -, -, -⟩ := at6 h.blk
  obtain ⟨a, c, rfl⟩ := row_slice h.it
  clear h
  go_enter Try.func110, Try.ntmps110
  go_wp2
  go_quiet (fail)
  go_wp2
  go_ret2
  exact ⟨rfl, _, rfl⟩
set_option maxRecDepth 100000 in
set_option maxHeartbeats 2000000 in
theorem take7_new {w : World} {base M : Nat} {most queues : Int} {vi vn vb : Value} {its ins : List (Int × Int)} {nev : Int} (h : R7 base w M most queues vi vn vb its ins [] nev) (hf : (its.length : Int) < most) (hl : its.length ≤ 1000000) (n0 : 0 ≤ nev) (n1 : nev ≤ 1000000) (hbase : base ≤ w.heap.size) (x : Int) :
    Calls Try.prog 110 #[.pointer (some ⟨M, 0, none⟩), .int .i64 x] w fun e w' => e = .returned (.tuple #[.int .i64 nev, .bool true]) ∧ ∃ vi' vb', R7 base w' M most queues vi' vn vb' (its ++ [(nev, x)]) ins [] (nev + 1) ∧ MvS w w' (inR M vi vn vb) (inR M vi' vn vb') := by
  obtain ⟨i0, hi0, hz0, hz1, hz2⟩ := info_parts infoIt
  obtain ⟨ab, cb, rfl⟩ := row_slice h.bk
  have hbn : ([] : List Int).length = 0 := rfl
  obtain ⟨a, c, rfl⟩ := row_slice h.it
  obtain ⟨n, hn⟩ : ∃ n, its.length = n := ⟨_, rfl⟩
  have HN := Lib.hid hn
  rw [hn] at h hf hl ⊢
  clear hn
  obtain ⟨c0, c1, c2, c3, c4, c5, f0, f1, f2, f3, f4, f5⟩ := at6 h.blk
  have H := Lib.hid h
  have Hb := Lib.hid hbase
  have hnf : ¬ most ≤ (n : Int) := by omega
  clear h hbase
  go_enter Try.func110, Try.ntmps110
  go_wp2
  go_quiet (fail)
  go_upto_region 8 with (fail)
  refine wp_genc (fun W hW => ?_)
  have hr := H.out.setNev (nev + 1)
  have H2 := Lib.hid (show R7 base W M most queues (.slice a n c) vn (.slice ab 0 cb) its ins [] (nev + 1) by rw [hW]; exact hr.1.drewN _)
  have HM2 : Hid (MvS w W (inR M (.slice a n c) vn (.slice ab 0 cb)) (inR M (.slice a n c) vn (.slice ab 0 cb))) := Lib.hid (by rw [hW]; exact hr.2.drewN _)
  have H2b : Hid (base ≤ W.heap.size) := Lib.hid (by rw [hW]; have := Hb.out; simpa [World.setCell] using this)
  clear hW hr H c0 c1 c2 c3 c4 c5 f0 f1 f2 f3 f4 f5
  obtain ⟨c0, c1, c2, c3, c4, c5, f0, f1, f2, f3, f4, f5⟩ := at6 H2.out.blk
  have HAo : Hid ((W.alloc (.cells #[.int .i64 nev, .int .i64 x] 114)).ownsRow base 114 2 (.slice a n c) n (its.flatMap pr7)) := Lib.hid (by have h9 := (H2.out.below ((Below.refl _ W).alloc (Nat.le_refl _) (.cells #[.int .i64 nev, .int .i64 x] 114))).it; rw [HN.out] at h9; exact h9)
  have HCo : Hid (∀ j u, [Value.int .i64 nev, Value.int .i64 x][j]? = some u → (W.alloc (.cells #[.int .i64 nev, .int .i64 x] 114)).cell? ((⟨W.heap.size, 0, none⟩ : Addr).add j) = some u) := Lib.hid (World.news_of_block (heap_alloc_new W (.cells #[.int .i64 nev, .int .i64 x] 114)))
  have HOo : Hid (∀ u ∈ [Value.int .i64 nev, Value.int .i64 x], u.oneCell' = true) := Lib.hid (fun x hx => by simp at hx; rcases hx with rfl | rfl <;> rfl)
  have HBA := Lib.hid ((Below.refl _ W).alloc (Nat.le_refl _) (.cells #[.int .i64 nev, .int .i64 x] 114))
  have hm9 : n + 1 ≤ maxLen := by unfold maxLen; omega
  have HM9 := Lib.hid hm9
  have HB9 : Hid (base ≤ (W.alloc (.cells #[.int .i64 nev, .int .i64 x] 114)).heap.size) := Lib.hid (Nat.le_trans H2b.out (by simp))
  clear hm9
  go_wp2_with (first
    | (at_builtin; refine wpList_append_own_at _ rfl _ _ 100 rfl base 114 i0 (.agg #[.int .i64 0, .int .i64 0]) 2 16 Try.underlying100 hi0 hz0 hz1 hz2 rfl (by decide) (.slice a n c) n _ rfl HAo.out ⟨W.heap.size, 0, none⟩ 1 1 [.int .i64 nev, .int .i64 x] rfl rfl HCo.out HOo.out HM9.out (by omega) HB9.out ?_; intro v4 w4 ho4 hg4 hn4 hat4; clear hn4; have FIN := Lib.hid (H2.out.addIt HBA.out (a := nev) (x := x) hg4 (by rw [HN.out]; exact ho4) hat4); have kb := blk_grown hg4 (H2.out.below HBA.out).ne.1 (H2.out.below HBA.out).blk; obtain ⟨k0_, k1_, k2_, k3_, k4_, k5_, g0_, g1_, g2_, g3_, g4_, g5_⟩ := at6 kb; clear kb hg4 hat4; obtain ⟨a4, c4, rfl⟩ := row_slice ho4; clear ho4)
    | fail)
  go_ret2
  obtain ⟨p1, p2⟩ := FIN.out
  exact ⟨rfl, _, _, p1, HM2.out.trans p2⟩
set_option maxRecDepth 100000 in
set_option maxHeartbeats 2000000 in
theorem take7_back {w : World} {base M : Nat} {most queues : Int} {vi vn vb : Value} {its ins : List (Int × Int)} {bs : List Int} {y : Int} {nev : Int} (h : R7 base w M most queues vi vn vb its ins (bs ++ [y]) nev) (hf : (its.length : Int) < most) (hl : its.length ≤ 1000000) (hbl : bs.length ≤ 1000000) (hbase : base ≤ w.heap.size) (x : Int) :
    Calls Try.prog 110 #[.pointer (some ⟨M, 0, none⟩), .int .i64 x] w fun e w' => e = .returned (.tuple #[.int .i64 y, .bool true]) ∧ ∃ vi' vb', R7 base w' M most queues vi' vn vb' (its ++ [(y, x)]) ins bs nev ∧ MvS w w' (inR M vi vn vb) (inR M vi' vn vb') := by
  obtain ⟨i0, hi0, hz0, hz1, hz2⟩ := info_parts infoIt
  obtain ⟨ab, cb, rfl⟩ := row_slice h.bk
  have hbl2 : (bs ++ [y]).length = bs.length + 1 := by simp
  rw [hbl2] at h ⊢
  obtain ⟨g, eg, cy, hcb⟩ : ∃ g, ab = some ⟨g, 0, none⟩ ∧ w.cell? ⟨g, bs.length, none⟩ = some (.int .i64 y) ∧ bs.length + 1 ≤ cb := by
    rcases h.bk.2 with ⟨e, e0⟩ | ⟨g, cap, cur, e, -, -, hcp, -⟩
    · exfalso; simp at e0
    · injection e with e1 e2 e3
      refine ⟨g, e1, ?_, by rw [e3]; simpa using hcp⟩
      subst e1
      have := h.bk.cells (g := g) rfl bs.length (.int .i64 y) (by rw [List.map_append, List.getElem?_append_right (by simp), List.length_map, Nat.sub_self]; rfl)
      rwa [show (⟨g, 0, none⟩ : Addr).add bs.length = ⟨g, bs.length, none⟩ by rw [Go.WideShapes.add_plain, Nat.zero_add]] at this
  subst eg
  obtain ⟨m, hm⟩ : ∃ m, bs.length = m := ⟨_, rfl⟩
  have HMM := Lib.hid hm
  have w1_ : IntKind.i64.wrap (((m + 1 : Nat) : Int) - 1) = m := by rw [IntKind.wrap_i64]; omega
  have w2_ : (((m + 1 : Nat) : Int) - 1) = m := by omega
  have w3_ : (m : Int) + 1 - 1 = m := by omega
  have w4_ : (0 : Int) < (m + 1 : Nat) := by omega
  have w5_ : (0 : Int) ≤ m := by omega
  have w6_ : (m : Int) < (m + 1 : Nat) := by omega
  have hml : m ≤ 1000000 := by omega
  rw [hm] at h cy hcb ⊢
  have w7_ : (m : Int) ≤ cb := by omega
  have w8_ : m ≤ cb := by omega
  clear hm hbl2 hbl
  obtain ⟨a, c, rfl⟩ := row_slice h.it
  obtain ⟨n, hn⟩ : ∃ n, its.length = n := ⟨_, rfl⟩
  have HN := Lib.hid hn
  rw [hn] at h hf hl ⊢
  clear hn
  obtain ⟨c0, c1, c2, c3, c4, c5, f0, f1, f2, f3, f4, f5⟩ := at6 h.blk
  have H := Lib.hid h
  have Hb := Lib.hid hbase
  have hnf : ¬ most ≤ (n : Int) := by omega
  clear h hbase
  go_enter Try.func110, Try.ntmps110
  go_wp2
  go_quiet (fail)
  go_wp2
  go_quiet (fail)
  go_upto_region 6 with (fail)
  go_region
  go_upto_region 8 with (fail)
  refine wp_genc (fun W hW => ?_)
  have hr := H.out.pops2 HMM.out
  have H2 := Lib.hid (show R7 base W M most queues (.slice a n c) vn (.slice (some ⟨g, 0, none⟩) m cb) its ins bs nev by rw [hW]; exact hr.1.drewN _)
  have HM2 : Hid (MvS w W (inR M (.slice a n c) vn (.slice (some ⟨g, 0, none⟩) (m + 1) cb)) (inR M (.slice a n c) vn (.slice (some ⟨g, 0, none⟩) m cb))) := Lib.hid (by rw [hW]; exact hr.2.drewN _)
  have H2b : Hid (base ≤ W.heap.size) := Lib.hid (by rw [hW]; have := Hb.out; simpa [World.setCell] using this)
  clear hW hr H c0 c1 c2 c3 c4 c5 f0 f1 f2 f3 f4 f5
  obtain ⟨c0, c1, c2, c3, c4, c5, f0, f1, f2, f3, f4, f5⟩ := at6 H2.out.blk
  have HAo : Hid ((W.alloc (.cells #[.int .i64 y, .int .i64 x] 114)).ownsRow base 114 2 (.slice a n c) n (its.flatMap pr7)) := Lib.hid (by have h9 := (H2.out.below ((Below.refl _ W).alloc (Nat.le_refl _) (.cells #[.int .i64 y, .int .i64 x] 114))).it; rw [HN.out] at h9; exact h9)
  have HCo : Hid (∀ j u, [Value.int .i64 y, Value.int .i64 x][j]? = some u → (W.alloc (.cells #[.int .i64 y, .int .i64 x] 114)).cell? ((⟨W.heap.size, 0, none⟩ : Addr).add j) = some u) := Lib.hid (World.news_of_block (heap_alloc_new W (.cells #[.int .i64 y, .int .i64 x] 114)))
  have HOo : Hid (∀ u ∈ [Value.int .i64 y, Value.int .i64 x], u.oneCell' = true) := Lib.hid (fun x hx => by simp at hx; rcases hx with rfl | rfl <;> rfl)
  have HBA := Lib.hid ((Below.refl _ W).alloc (Nat.le_refl _) (.cells #[.int .i64 y, .int .i64 x] 114))
  have hm9 : n + 1 ≤ maxLen := by unfold maxLen; omega
  have HM9 := Lib.hid hm9
  have HB9 : Hid (base ≤ (W.alloc (.cells #[.int .i64 y, .int .i64 x] 114)).heap.size) := Lib.hid (Nat.le_trans H2b.out (by simp))
  clear hm9
  go_wp2_with (first
    | (at_builtin; refine wpList_append_own_at _ rfl _ _ 100 rfl base 114 i0 (.agg #[.int .i64 0, .int .i64 0]) 2 16 Try.underlying100 hi0 hz0 hz1 hz2 rfl (by decide) (.slice a n c) n _ rfl HAo.out ⟨W.heap.size, 0, none⟩ 1 1 [.int .i64 y, .int .i64 x] rfl rfl HCo.out HOo.out HM9.out (by omega) HB9.out ?_; intro v4 w4 ho4 hg4 hn4 hat4; clear hn4; have FIN := Lib.hid (H2.out.addIt HBA.out (a := y) (x := x) hg4 (by rw [HN.out]; exact ho4) hat4); have kb := blk_grown hg4 (H2.out.below HBA.out).ne.1 (H2.out.below HBA.out).blk; obtain ⟨k0_, k1_, k2_, k3_, k4_, k5_, g0_, g1_, g2_, g3_, g4_, g5_⟩ := at6 kb; clear kb hg4 hat4; obtain ⟨a4, c4, rfl⟩ := row_slice ho4; clear ho4)
    | fail)
  go_ret2
  obtain ⟨p1, p2⟩ := FIN.out
  exact ⟨rfl, _, _, p1, HM2.out.trans p2⟩
end Go.Proofs.Ytmkgadndfiiacaa
