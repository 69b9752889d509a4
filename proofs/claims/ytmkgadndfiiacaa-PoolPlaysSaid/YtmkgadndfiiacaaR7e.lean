/-
  Layer 7, the document's answer: Give and Pop. No condition.
-/
import Derived.Test.YtmkgadndfiiacaaR7d
import Derived.Deep.CutBlock
import Derived.Deep.DeepCutAuto
namespace Go.Proofs.Ytmkgadndfiiacaa
set_option linter.unusedVariables false
set_option linter.unusedSimpArgs false
open Go.ChangeShapes Go.WideShapes Go.ChangeAt Go.RowKit
attribute [local go_sem] alloc_drewN setCell_drewN

theorem own_base {w : World} {b b' size n : Nat} {e : TypeId} {v : Value} {xs : List Value} (h : w.ownsRow b e size v n xs) (hb : b' ≤ b) : w.ownsRow b' e size v n xs := by
  refine ⟨h.1, ?_⟩
  rcases h.2 with hh | ⟨g, cap, cur, h1, h2, h3⟩
  · exact Or.inl hh
  · exact Or.inr ⟨g, cap, cur, h1, Nat.le_trans hb h2, h3⟩
theorem erase7 (l : List (Int × Int)) (k : Nat) (h : k < l.length) : ((l.take k).flatMap pr7) ++ ((l.drop (k + 1)).flatMap pr7) = (l.eraseIdx k).flatMap pr7 := by
  rw [List.eraseIdx_eq_take_drop_succ, List.flatMap_append]
theorem news7 {w : World} {base g n c : Nat} {e : TypeId} {l : List (Int × Int)} (h : w.ownsRow base e 2 (.slice (some ⟨g, 0, none⟩) n c) l.length (l.flatMap pr7)) (k : Nat) : ∀ j u, ((l.drop k).flatMap pr7)[j]? = some u → w.cell? ((⟨g, k * 2, none⟩ : Addr).add j) = some u := fun j u hj => by
  have hs : l.flatMap pr7 = (l.take k).flatMap pr7 ++ (l.drop k).flatMap pr7 := by rw [← List.flatMap_append, List.take_append_drop]
  have hl := pr7_len (l.take k)
  by_cases hk : k ≤ l.length
  · rw [List.length_take, Nat.min_eq_left hk] at hl
    have := h.cells (g := g) rfl (k * 2 + j) u (by rw [hs, List.getElem?_append_right (by omega), hl, show k * 2 + j - k * 2 = j by omega]; exact hj)
    rw [Go.WideShapes.add_plain] at this ⊢
    rwa [show 0 + (k * 2 + j) = k * 2 + j by omega] at this
  · rw [List.drop_eq_nil_of_le (by omega)] at hj
    simp at hj
theorem newt7 {w : World} {base g n c : Nat} {e : TypeId} {l : List (Int × Int)} (h : w.ownsRow base e 2 (.slice (some ⟨g, 0, none⟩) n c) l.length (l.flatMap pr7)) (k : Nat) : ∀ j u, ((l.take k).flatMap pr7)[j]? = some u → w.cell? ((⟨g, 0, none⟩ : Addr).add j) = some u := fun j u hj => by
  have hs : l.flatMap pr7 = (l.take k).flatMap pr7 ++ (l.drop k).flatMap pr7 := by rw [← List.flatMap_append, List.take_append_drop]
  have hlt := (List.getElem?_eq_some_iff.1 hj).1
  exact h.cells (g := g) rfl j u (by rw [hs, List.getElem?_append_left hlt]; exact hj)
theorem one7 (l : List (Int × Int)) : ∀ u ∈ l.flatMap pr7, u.oneCell' = true := fun u hu => by
  obtain ⟨p, -, hp⟩ := List.mem_flatMap.1 hu
  simp [pr7] at hp
  rcases hp with rfl | rfl <;> rfl
set_option maxRecDepth 100000 in
set_option maxHeartbeats 2000000 in
theorem give7_none {w : World} {base M : Nat} {most queues : Int} {vi vn vb : Value} {its ins : List (Int × Int)} {back : List Int} {nev : Int} (h : R7 base w M most queues vi vn vb its ins back nev) (hl : its.length ≤ 1000000) (hl2 : ins.length ≤ 1000000) (x : Int) (hx : ∀ j, j < its.length → fst7 its j ≠ x) :
    Calls Try.prog 112 #[.pointer (some ⟨M, 0, none⟩), .int .i64 x] w fun e w' => e = .returned (.tuple #[.int .i64 0, .int .i64 7]) ∧ w' = w := by
  have FD := Lib.hid (find7_go h hl x (r := -1) (Or.inr ⟨rfl, hx⟩))
  clear h hx
  go_enter Try.func112, Try.ntmps112
  go_wp2_with fail
  refine FD.out.mono ?_
  rintro e w1 ⟨rfl, hw1⟩
  obtain rfl := hw1.symm
  go_wp2
  go_ret2
  exact ⟨rfl, rfl⟩
set_option maxRecDepth 100000 in
set_option maxHeartbeats 2000000 in
theorem give7_state {w : World} {base M : Nat} {most queues : Int} {vi vn vb : Value} {its ins : List (Int × Int)} {back : List Int} {nev : Int} (h : R7 base w M most queues vi vn vb its ins back nev) (hl : its.length ≤ 1000000) (hl2 : ins.length ≤ 1000000) (x : Int) {k : Nat} (hk : k < its.length) (hkx : fst7 its k = x) (hkb : ∀ j, j < k → fst7 its j ≠ x) {m : Nat} (hm : m < ins.length) (hmx : snd7 ins m = x) (hmb : ∀ j, j < m → snd7 ins j ≠ x) :
    Calls Try.prog 112 #[.pointer (some ⟨M, 0, none⟩), .int .i64 x] w fun e w' => e = .returned (.tuple #[.int .i64 0, .int .i64 9]) ∧ w' = w := by
  have FD := Lib.hid (find7_go h hl x (r := (k : Int)) (Or.inl ⟨k, hk, rfl, hkx, hkb⟩))
  have QD := Lib.hid (queued7_go h hl2 x (r := (m : Int)) (Or.inl ⟨m, hm, rfl, hmx, hmb⟩))
  clear h hk hkx hkb hm hmx hmb
  have k0 : ¬ (k : Int) < 0 := by omega
  have m0 : (0 : Int) ≤ m := by omega
  go_enter Try.func112, Try.ntmps112
  go_wp2_with fail
  refine FD.out.mono ?_
  rintro e w1 ⟨rfl, hw1⟩
  obtain rfl := hw1.symm
  go_wp2_with fail
  refine QD.out.mono ?_
  rintro e w1 ⟨rfl, hw1⟩
  obtain rfl := hw1.symm
  go_wp2
  go_ret2
  exact ⟨rfl, rfl⟩
set_option maxRecDepth 100000 in
set_option maxHeartbeats 2000000 in
theorem give7_oka {w : World} {base M : Nat} {most queues : Int} {vn vb : Value} {its ins : List (Int × Int)} {back : List Int} {nev : Int} {g n c : Nat} (h : R7 base w M most queues (.slice (some ⟨g, 0, none⟩) n c) vn vb its ins back nev) (HN : Hid (its.length = n)) (hl : n ≤ 1000000) (hl2 : ins.length ≤ 1000000) (x : Int) {k : Nat} (hk : k < n) (hac : n ≤ c) (hck : k + 1 < c) (hkx : fst7 its k = x) (hkb : ∀ j, j < k → fst7 its j ≠ x) (hmb : ∀ j, j < ins.length → snd7 ins j ≠ x) (hbase : base ≤ w.heap.size) (hl3 : back.length ≤ 1000000) {xv : Int} (hxv : snd7 its k = xv) :
    Calls Try.prog 112 #[.pointer (some ⟨M, 0, none⟩), .int .i64 x] w fun e w' => e = .returned (.tuple #[.int .i64 xv, .int .i64 0]) ∧ ∃ vi' vb', R7 base w' M most queues vi' vn vb' (its.eraseIdx k) ins (back ++ [x]) nev ∧ MvS w w' (inR M (.slice (some ⟨g, 0, none⟩) n c) vn vb) (inR M vi' vn vb') := by
  obtain ⟨i0, hi0, hz0, hz1, hz2⟩ := info_parts infoIt
  obtain ⟨j0, hj0, hy0, hy1, hy2⟩ := info_parts infoInt
  have FD := Lib.hid (find7_go h (by rw [HN.out]; exact hl) x (r := (k : Int)) (Or.inl ⟨k, by rw [HN.out]; exact hk, rfl, hkx, hkb⟩))
  have QD := Lib.hid (queued7_go h hl2 x (r := -1) (Or.inr ⟨rfl, hmb⟩))
  obtain ⟨a9, c9, e9, -, hcell⟩ := row2 h.it
  obtain ⟨g9, eg9, hgb, hg, d0, d1⟩ := hcell k (by rw [HN.out]; exact hk)
  injection e9 with e91 e92 e93
  rw [eg9] at e91
  injection e91 with e91
  injection e91 with e91
  subst e91
  rw [hxv] at d1
  have HE := Lib.hid (erase7 its k (by rw [HN.out]; exact hk))
  have H := Lib.hid h
  have Hb := Lib.hid hbase
  obtain ⟨c0, c1, c2, c3, c4, c5, f0, f1, f2, f3, f4, f5⟩ := at6 h.blk
  have O0 : Hid (w.ownsRow w.heap.size 114 2 (.slice none 0 0) 0 []) := Lib.hid (World.ownsRow_nil _ _ _ _)
  have NA : Hid (∀ j u, ((its.take k).flatMap pr7)[j]? = some u → w.cell? ((⟨g, 0, none⟩ : Addr).add j) = some u) := Lib.hid (newt7 H.out.it k)
  have LA : Hid (((its.take k).flatMap pr7).length = k * 2) := Lib.hid (by rw [pr7_len, List.length_take, HN.out, Nat.min_eq_left (by omega)])
  have LB : Hid (((its.drop (k + 1)).flatMap pr7).length = (n - (k + 1)) * 2) := Lib.hid (by rw [pr7_len, List.length_drop, HN.out] <;> try omega)
  have NB : Hid (∀ W : World, Below w.heap.size w W → ∀ j u, ((its.drop (k + 1)).flatMap pr7)[j]? = some u → W.cell? ((⟨g, (k + 1) * 2, none⟩ : Addr).add j) = some u) := Lib.hid (fun W hb => news7 (H.out.below hb).it (k + 1))
  have k0 : ¬ (k : Int) < 0 := by omega
  have k1 : (0 : Int) ≤ k := by omega
  have k2 : (k : Int) < n := by omega
  have k3 : (k : Int) ≤ n := by omega
  have k4 : (k : Int) ≤ c := by omega
  have k5 : (k : Int) + 1 ≤ n := by omega
  have k6 : (n : Int) ≤ c := by omega
  have k7 : (k : Int) + 1 < c := by omega
  have k8 : ¬ c = k + 1 := by omega
  have k9 : (k : Int) + 1 ≤ c := by omega
  clear h hkx hkb hmb hbase hcell d0 e92 e93 eg9 hxv
  go_enter Try.func112, Try.ntmps112
  go_wp2_with fail
  refine FD.out.mono ?_
  rintro e w1 ⟨rfl, hw1⟩
  obtain rfl := hw1.symm
  go_wp2_with fail
  refine QD.out.mono ?_
  rintro e w1 ⟨rfl, hw1⟩
  obtain rfl := hw1.symm
  have HO1 := Lib.hid (one7 (its.take k)); have HO2 := Lib.hid (one7 (its.drop (k + 1)))
  have HM1 : Hid (0 + k ≤ maxLen) := Lib.hid (by unfold maxLen; omega)
  have HM2_ : Hid (0 + k + (n - (k + 1)) ≤ maxLen) := Lib.hid (by unfold maxLen; omega)
  have HY1 : Hid ((0 + k) * 16 ≤ 140737488355328) := Lib.hid (by omega)
  have HY2 : Hid ((0 + k + (n - (k + 1))) * 16 ≤ 140737488355328) := Lib.hid (by omega)
  go_upto_region 10 with (first
    | (at_builtin; (refine wpList_append_own_at _ rfl _ _ 100 rfl w.heap.size 114 i0 (.agg #[.int .i64 0, .int .i64 0]) 2 16 Try.underlying100 hi0 hz0 hz1 hz2 rfl (by decide) v4 (0 + k) _ rfl HO4.out ⟨g, (k + 1) * 2, none⟩ (n - (k + 1)) (c - (k + 1)) ((its.drop (k + 1)).flatMap pr7) rfl LB.out (NB.out _ FB4.out) HO2.out HM2_.out HY2.out FB4.out.size ?_; intro v5 w5 ho5 hg5 hn5 hat5; clear hn5 hat5; have HO5 := Lib.hid ho5; have FB5 := Lib.hid (FB4.out.grown hg5 FB4.out.size (fun j hj => (World.ownsRow.lt HO4.out j hj).1)); clear ho5 hg5; obtain ⟨k0_, k1_, k2_, k3_, k4_, k5_, g0_, g1_, g2_, g3_, g4_, g5_⟩ := at6 (H.out.below FB5.out).blk; obtain ⟨a5, c5_, ev5⟩ := row_slice HO5.out; subst ev5))
    | (at_builtin; (refine wpList_append_own_at _ rfl _ _ 100 rfl w.heap.size 114 i0 (.agg #[.int .i64 0, .int .i64 0]) 2 16 Try.underlying100 hi0 hz0 hz1 hz2 rfl (by decide) (.slice none 0 0) 0 _ rfl O0.out ⟨g, 0, none⟩ k c ((its.take k).flatMap pr7) rfl LA.out NA.out HO1.out HM1.out HY1.out (Nat.le_refl _) ?_; intro v4 w4 ho4 hg4 hn4 hat4; clear hn4 hat4; have HO4 := Lib.hid ho4; have FB4 := Lib.hid ((Below.refl _ w).grown hg4 (Nat.le_refl _) (fun j hj => by cases hj)); clear ho4 hg4; obtain ⟨k0_, k1_, k2_, k3_, k4_, k5_, g0_, g1_, g2_, g3_, g4_, g5_⟩ := at6 (H.out.below FB4.out).blk))
    | fail)
  have O5 : w5.ownsRow base 114 2 (.slice a5 (k + (n - (k + 1))) c5_) (its.eraseIdx k).length ((its.eraseIdx k).flatMap pr7) := by
    have h9 := own_base HO5.out Hb.out
    rw [List.nil_append, HE.out, show 0 + k + (n - (k + 1)) = k + (n - (k + 1)) by omega] at h9
    rw [List.length_eraseIdx_of_lt (by rw [HN.out]; omega), HN.out, show n - 1 = k + (n - (k + 1)) by omega]
    exact h9
  have hat5 : ∀ j, (Value.slice a5 (k + (n - (k + 1))) c5_).ownBlock = some j → w.heap.size ≤ j := fun j hj => (World.ownsRow.lt HO5.out j (by rw [← hj]; cases a5 <;> rfl)).1
  refine wp_genc (fun W hW => ?_)
  have hr := H.out.newIt FB5.out O5 hat5
  have H2 := Lib.hid (show R7 base W M most queues (.slice a5 (k + (n - (k + 1))) c5_) vn vb (its.eraseIdx k) ins back nev by rw [hW]; exact hr.1)
  have HM2 : Hid (MvS w W (inR M (.slice (some ⟨g, 0, none⟩) n c) vn vb) (inR M (.slice a5 (k + (n - (k + 1))) c5_) vn vb)) := Lib.hid (by rw [hW]; exact hr.2)
  have H2b : Hid (base ≤ W.heap.size) := Lib.hid (by have h9 := HM2.out.size; have := Hb.out; omega)
  clear hW hr O5 hat5 HO5 FB5 HO4 FB4 HN NB NA LA LB HE O0 HO1 HO2 HM1 HM2_ HY1 HY2 c0 c1 c2 c3 c4 c5 f0 f1 f2 f3 f4 f5 k0_ k1_ k2_ k3_ k4_ k5_ g0_ g1_ g2_ g3_ g4_ g5_
  obtain ⟨c0, c1, c2, c3, c4, c5, f0, f1, f2, f3, f4, f5⟩ := at6 H2.out.blk
  obtain ⟨nb, hnb⟩ : ∃ nb, back.length = nb := ⟨_, rfl⟩
  have HN := Lib.hid hnb
  rw [hnb] at hl3
  clear hnb
  have HAo : Hid ((W.alloc (.cells #[.int .i64 x] 3)).ownsRow base 3 1 vb nb (back.map (Value.int .i64))) := Lib.hid (by have h9 := (H2.out.below ((Below.refl _ W).alloc (Nat.le_refl _) (.cells #[.int .i64 x] 3))).bk; rw [HN.out] at h9; exact h9)
  have HCo : Hid (∀ j u, [Value.int .i64 x][j]? = some u → (W.alloc (.cells #[.int .i64 x] 3)).cell? ((⟨W.heap.size, 0, none⟩ : Addr).add j) = some u) := Lib.hid (World.news_of_block (heap_alloc_new W (.cells #[.int .i64 x] 3)))
  have HOo : Hid (∀ u ∈ [Value.int .i64 x], u.oneCell' = true) := Lib.hid (fun x hx => by simp at hx; subst hx; rfl)
  have HBA := Lib.hid ((Below.refl _ W).alloc (Nat.le_refl _) (.cells #[.int .i64 x] 3))
  have hm9 : nb + 1 ≤ maxLen := by unfold maxLen; omega
  have HM9 := Lib.hid hm9
  have HB9 : Hid (base ≤ (W.alloc (.cells #[.int .i64 x] 3)).heap.size) := Lib.hid (Nat.le_trans H2b.out (by simp))
  clear hm9
  go_wp2_with (first
    | (at_builtin; refine wpList_append_own_at _ rfl _ _ 102 rfl base 3 j0 (.int .i64 0) 1 8 Try.underlying102 hj0 hy0 hy1 hy2 rfl (by decide) vb nb _ rfl HAo.out ⟨W.heap.size, 0, none⟩ 1 1 [.int .i64 x] rfl rfl HCo.out HOo.out HM9.out (by omega) HB9.out ?_; intro v4 w4 ho4 hg4 hn4 hat4; clear hn4; have FIN := Lib.hid (H2.out.addBk HBA.out (x := x) hg4 (by rw [HN.out]; exact ho4) hat4); have kb := blk_grown hg4 (H2.out.below HBA.out).ne.2.2 (H2.out.below HBA.out).blk; obtain ⟨k0_, k1_, k2_, k3_, k4_, k5_, g0_, g1_, g2_, g3_, g4_, g5_⟩ := at6 kb; clear kb hg4 hat4; obtain ⟨a4, c4, rfl⟩ := row_slice ho4; clear ho4)
    | fail)
  go_ret2
  obtain ⟨p1, p2⟩ := FIN.out
  exact ⟨rfl, _, _, p1, HM2.out.trans p2⟩
set_option maxRecDepth 100000 in
set_option maxHeartbeats 2000000 in
theorem give7_okb {w : World} {base M : Nat} {most queues : Int} {vn vb : Value} {its ins : List (Int × Int)} {back : List Int} {nev : Int} {g k : Nat} (h : R7 base w M most queues (.slice (some ⟨g, 0, none⟩) (k + 1) (k + 1)) vn vb its ins back nev) (HN : Hid (its.length = (k + 1))) (hl : k + 1 ≤ 1000000) (hl2 : ins.length ≤ 1000000) (x : Int) (hkx : fst7 its k = x) (hkb : ∀ j, j < k → fst7 its j ≠ x) (hmb : ∀ j, j < ins.length → snd7 ins j ≠ x) (hbase : base ≤ w.heap.size) (hl3 : back.length ≤ 1000000) {xv : Int} (hxv : snd7 its k = xv) :
    Calls Try.prog 112 #[.pointer (some ⟨M, 0, none⟩), .int .i64 x] w fun e w' => e = .returned (.tuple #[.int .i64 xv, .int .i64 0]) ∧ ∃ vi' vb', R7 base w' M most queues vi' vn vb' (its.eraseIdx k) ins (back ++ [x]) nev ∧ MvS w w' (inR M (.slice (some ⟨g, 0, none⟩) (k + 1) (k + 1)) vn vb) (inR M vi' vn vb') := by
  obtain ⟨i0, hi0, hz0, hz1, hz2⟩ := info_parts infoIt
  obtain ⟨j0, hj0, hy0, hy1, hy2⟩ := info_parts infoInt
  have FD := Lib.hid (find7_go h (by rw [HN.out]; exact hl) x (r := (k : Int)) (Or.inl ⟨k, by rw [HN.out]; omega, rfl, hkx, hkb⟩))
  have QD := Lib.hid (queued7_go h hl2 x (r := -1) (Or.inr ⟨rfl, hmb⟩))
  obtain ⟨a9, c9, e9, -, hcell⟩ := row2 h.it
  obtain ⟨g9, eg9, hgb, hg, d0, d1⟩ := hcell k (by rw [HN.out]; omega)
  injection e9 with e91 e92 e93
  rw [eg9] at e91
  injection e91 with e91
  injection e91 with e91
  subst e91
  rw [hxv] at d1
  have HE := Lib.hid (erase7 its k (by rw [HN.out]; omega))
  have H := Lib.hid h
  have Hb := Lib.hid hbase
  obtain ⟨c0, c1, c2, c3, c4, c5, f0, f1, f2, f3, f4, f5⟩ := at6 h.blk
  have O0 : Hid (w.ownsRow w.heap.size 114 2 (.slice none 0 0) 0 []) := Lib.hid (World.ownsRow_nil _ _ _ _)
  have NA : Hid (∀ j u, ((its.take k).flatMap pr7)[j]? = some u → w.cell? ((⟨g, 0, none⟩ : Addr).add j) = some u) := Lib.hid (newt7 H.out.it k)
  have LA : Hid (((its.take k).flatMap pr7).length = k * 2) := Lib.hid (by rw [pr7_len, List.length_take, HN.out, Nat.min_eq_left (by omega)])
  have LB : Hid (((its.drop (k + 1)).flatMap pr7).length = 0 * 2) := Lib.hid (by rw [pr7_len, List.length_drop, HN.out] <;> try omega)
  have NB : Hid (∀ W : World, Below w.heap.size w W → ∀ j u, ((its.drop (k + 1)).flatMap pr7)[j]? = some u → W.cell? ((⟨g, 0, none⟩ : Addr).add j) = some u) := Lib.hid (fun W hb => fun j u hj => by rw [List.drop_eq_nil_of_le (by rw [HN.out]; omega)] at hj; simp at hj)
  have k0 : ¬ (k : Int) < 0 := by omega
  have k1 : (0 : Int) ≤ k := by omega
  have k2 : (k : Int) < (k + 1) := by omega
  have k3 : (k : Int) ≤ (k + 1) := by omega
  have k4 : (k : Int) ≤ (k + 1) := by omega
  have k5 : (k : Int) + 1 ≤ (k + 1) := by omega
  have k6 : ((k + 1) : Int) ≤ (k + 1) := by omega
  clear h hkx hkb hmb hbase hcell d0 e92 e93 eg9 hxv
  go_enter Try.func112, Try.ntmps112
  go_wp2_with fail
  refine FD.out.mono ?_
  rintro e w1 ⟨rfl, hw1⟩
  obtain rfl := hw1.symm
  go_wp2_with fail
  refine QD.out.mono ?_
  rintro e w1 ⟨rfl, hw1⟩
  obtain rfl := hw1.symm
  have HO1 := Lib.hid (one7 (its.take k)); have HO2 := Lib.hid (one7 (its.drop (k + 1)))
  have HM1 : Hid (0 + k ≤ maxLen) := Lib.hid (by unfold maxLen; omega)
  have HM2_ : Hid (0 + k + 0 ≤ maxLen) := Lib.hid (by unfold maxLen; omega)
  have HY1 : Hid ((0 + k) * 16 ≤ 140737488355328) := Lib.hid (by omega)
  have HY2 : Hid ((0 + k + 0) * 16 ≤ 140737488355328) := Lib.hid (by omega)
  go_upto_region 10 with (first
    | (at_builtin; (refine wpList_append_own_at _ rfl _ _ 100 rfl w.heap.size 114 i0 (.agg #[.int .i64 0, .int .i64 0]) 2 16 Try.underlying100 hi0 hz0 hz1 hz2 rfl (by decide) v4 (0 + k) _ rfl HO4.out ⟨g, 0, none⟩ 0 (0) ((its.drop (k + 1)).flatMap pr7) rfl LB.out (NB.out _ FB4.out) HO2.out HM2_.out HY2.out FB4.out.size ?_; intro v5 w5 ho5 hg5 hn5 hat5; clear hn5 hat5; have HO5 := Lib.hid ho5; have FB5 := Lib.hid (FB4.out.grown hg5 FB4.out.size (fun j hj => (World.ownsRow.lt HO4.out j hj).1)); clear ho5 hg5; obtain ⟨k0_, k1_, k2_, k3_, k4_, k5_, g0_, g1_, g2_, g3_, g4_, g5_⟩ := at6 (H.out.below FB5.out).blk; obtain ⟨a5, c5_, ev5⟩ := row_slice HO5.out; subst ev5))
    | (at_builtin; (refine wpList_append_own_at _ rfl _ _ 100 rfl w.heap.size 114 i0 (.agg #[.int .i64 0, .int .i64 0]) 2 16 Try.underlying100 hi0 hz0 hz1 hz2 rfl (by decide) (.slice none 0 0) 0 _ rfl O0.out ⟨g, 0, none⟩ k (k + 1) ((its.take k).flatMap pr7) rfl LA.out NA.out HO1.out HM1.out HY1.out (Nat.le_refl _) ?_; intro v4 w4 ho4 hg4 hn4 hat4; clear hn4 hat4; have HO4 := Lib.hid ho4; have FB4 := Lib.hid ((Below.refl _ w).grown hg4 (Nat.le_refl _) (fun j hj => by cases hj)); clear ho4 hg4; obtain ⟨k0_, k1_, k2_, k3_, k4_, k5_, g0_, g1_, g2_, g3_, g4_, g5_⟩ := at6 (H.out.below FB4.out).blk))
    | fail)
  have O5 : w5.ownsRow base 114 2 (.slice a5 k c5_) (its.eraseIdx k).length ((its.eraseIdx k).flatMap pr7) := by
    have h9 := own_base HO5.out Hb.out
    rw [List.nil_append, HE.out, show 0 + k + 0 = k by omega] at h9
    rw [List.length_eraseIdx_of_lt (by rw [HN.out]; omega), HN.out, show (k + 1) - 1 = k by omega]
    exact h9
  have hat5 : ∀ j, (Value.slice a5 k c5_).ownBlock = some j → w.heap.size ≤ j := fun j hj => (World.ownsRow.lt HO5.out j (by rw [← hj]; cases a5 <;> rfl)).1
  refine wp_genc (fun W hW => ?_)
  have hr := H.out.newIt FB5.out O5 hat5
  have H2 := Lib.hid (show R7 base W M most queues (.slice a5 k c5_) vn vb (its.eraseIdx k) ins back nev by rw [hW]; exact hr.1)
  have HM2 : Hid (MvS w W (inR M (.slice (some ⟨g, 0, none⟩) (k + 1) (k + 1)) vn vb) (inR M (.slice a5 k c5_) vn vb)) := Lib.hid (by rw [hW]; exact hr.2)
  have H2b : Hid (base ≤ W.heap.size) := Lib.hid (by have h9 := HM2.out.size; have := Hb.out; omega)
  clear hW hr O5 hat5 HO5 FB5 HO4 FB4 HN NB NA LA LB HE O0 HO1 HO2 HM1 HM2_ HY1 HY2 c0 c1 c2 c3 c4 c5 f0 f1 f2 f3 f4 f5 k0_ k1_ k2_ k3_ k4_ k5_ g0_ g1_ g2_ g3_ g4_ g5_
  obtain ⟨c0, c1, c2, c3, c4, c5, f0, f1, f2, f3, f4, f5⟩ := at6 H2.out.blk
  obtain ⟨nb, hnb⟩ : ∃ nb, back.length = nb := ⟨_, rfl⟩
  have HN := Lib.hid hnb
  rw [hnb] at hl3
  clear hnb
  have HAo : Hid ((W.alloc (.cells #[.int .i64 x] 3)).ownsRow base 3 1 vb nb (back.map (Value.int .i64))) := Lib.hid (by have h9 := (H2.out.below ((Below.refl _ W).alloc (Nat.le_refl _) (.cells #[.int .i64 x] 3))).bk; rw [HN.out] at h9; exact h9)
  have HCo : Hid (∀ j u, [Value.int .i64 x][j]? = some u → (W.alloc (.cells #[.int .i64 x] 3)).cell? ((⟨W.heap.size, 0, none⟩ : Addr).add j) = some u) := Lib.hid (World.news_of_block (heap_alloc_new W (.cells #[.int .i64 x] 3)))
  have HOo : Hid (∀ u ∈ [Value.int .i64 x], u.oneCell' = true) := Lib.hid (fun x hx => by simp at hx; subst hx; rfl)
  have HBA := Lib.hid ((Below.refl _ W).alloc (Nat.le_refl _) (.cells #[.int .i64 x] 3))
  have hm9 : nb + 1 ≤ maxLen := by unfold maxLen; omega
  have HM9 := Lib.hid hm9
  have HB9 : Hid (base ≤ (W.alloc (.cells #[.int .i64 x] 3)).heap.size) := Lib.hid (Nat.le_trans H2b.out (by simp))
  clear hm9
  go_wp2_with (first
    | (at_builtin; refine wpList_append_own_at _ rfl _ _ 102 rfl base 3 j0 (.int .i64 0) 1 8 Try.underlying102 hj0 hy0 hy1 hy2 rfl (by decide) vb nb _ rfl HAo.out ⟨W.heap.size, 0, none⟩ 1 1 [.int .i64 x] rfl rfl HCo.out HOo.out HM9.out (by omega) HB9.out ?_; intro v4 w4 ho4 hg4 hn4 hat4; clear hn4; have FIN := Lib.hid (H2.out.addBk HBA.out (x := x) hg4 (by rw [HN.out]; exact ho4) hat4); have kb := blk_grown hg4 (H2.out.below HBA.out).ne.2.2 (H2.out.below HBA.out).blk; obtain ⟨k0_, k1_, k2_, k3_, k4_, k5_, g0_, g1_, g2_, g3_, g4_, g5_⟩ := at6 kb; clear kb hg4 hat4; obtain ⟨a4, c4, rfl⟩ := row_slice ho4; clear ho4)
    | fail)
  go_ret2
  obtain ⟨p1, p2⟩ := FIN.out
  exact ⟨rfl, _, _, p1, HM2.out.trans p2⟩
theorem give7_ok {w : World} {base M : Nat} {most queues : Int} {vi vn vb : Value} {its ins : List (Int × Int)} {back : List Int} {nev : Int} (h : R7 base w M most queues vi vn vb its ins back nev) (hl : its.length ≤ 1000000) (hl2 : ins.length ≤ 1000000) (x : Int) {k : Nat} (hk : k < its.length) (hkx : fst7 its k = x) (hkb : ∀ j, j < k → fst7 its j ≠ x) (hmb : ∀ j, j < ins.length → snd7 ins j ≠ x) (hbase : base ≤ w.heap.size) (hl3 : back.length ≤ 1000000) :
    Calls Try.prog 112 #[.pointer (some ⟨M, 0, none⟩), .int .i64 x] w fun e w' => e = .returned (.tuple #[.int .i64 (snd7 its k), .int .i64 0]) ∧ ∃ vi' vb', R7 base w' M most queues vi' vn vb' (its.eraseIdx k) ins (back ++ [x]) nev ∧ MvS w w' (inR M vi vn vb) (inR M vi' vn vb') := by
  obtain ⟨a, c, rfl, hac, hcell⟩ := row2 h.it
  obtain ⟨g, rfl, -, -, -, -⟩ := hcell k hk
  by_cases hck : k + 1 < c
  · exact give7_oka h (Lib.hid rfl) hl hl2 x hk hac hck hkx hkb hmb hbase hl3 rfl
  · have e1 : its.length = k + 1 := by omega
    obtain rfl : c = k + 1 := by omega
    rw [e1] at h ⊢
    exact give7_okb h (Lib.hid e1) (by omega) hl2 x hkx hkb hmb hbase hl3 rfl
set_option maxRecDepth 100000 in
set_option maxHeartbeats 2000000 in
theorem pop7_none {w : World} {base M : Nat} {most queues : Int} {vi vn vb : Value} {its ins : List (Int × Int)} {back : List Int} {nev : Int} (h : R7 base w M most queues vi vn vb its ins back nev) (hl2 : ins.length ≤ 1000000) (q : Int) (hq : qf7 ins q = []) :
    Calls Try.prog 116 #[.pointer (some ⟨M, 0, none⟩), .int .i64 q] w fun e w' => e = .returned (.tuple #[.int .i64 0, .bool false]) ∧ Below w.heap.size w w' := by
  have QU := Lib.hid (queue7_go h hl2 q)
  rw [hq] at QU
  clear h
  go_enter Try.func116, Try.ntmps116
  go_wp2_with fail
  refine QU.out.mono ?_
  rintro e w1 ⟨v, rfl, ho, hb⟩
  obtain ⟨av, cv, rfl⟩ := row_slice ho
  have HB := Lib.hid hb
  clear ho hb QU
  go_wp2
  go_ret2
  exact ⟨rfl, HB.out⟩
set_option maxRecDepth 100000 in
set_option maxHeartbeats 2000000 in
theorem pop7_oka {w : World} {base M : Nat} {most queues : Int} {vi vb : Value} {its ins : List (Int × Int)} {back : List Int} {nev : Int} {g n c : Nat} (h : R7 base w M most queues vi (.slice (some ⟨g, 0, none⟩) n c) vb its ins back nev) (HN : Hid (ins.length = n)) (hl : n ≤ 1000000) (q : Int) {y : Int} {rest : List Int} (hq : qf7 ins q = y :: rest) {k : Nat} (hk : k < n) (hac : n ≤ c) (hck : k + 1 < c) (hkx : snd7 ins k = y) (hkb : ∀ j, j < k → snd7 ins j ≠ y) (hbase : base ≤ w.heap.size) :
    Calls Try.prog 116 #[.pointer (some ⟨M, 0, none⟩), .int .i64 q] w fun e w' => e = .returned (.tuple #[.int .i64 y, .bool true]) ∧ ∃ vn', R7 base w' M most queues vi vn' vb its (ins.eraseIdx k) back nev ∧ MvS w w' (inR M vi (.slice (some ⟨g, 0, none⟩) n c) vb) (inR M vi vn' vb) := by
  obtain ⟨i0, hi0, hz0, hz1, hz2⟩ := info_parts infoPl
  have QU := Lib.hid (queue7_go h (by rw [HN.out]; exact hl) q)
  rw [hq] at QU
  have QD := Lib.hid (fun (W : World) (hb : Below w.heap.size w W) => queued7_go (h.below hb) (by rw [HN.out]; exact hl) y (r := (k : Int)) (Or.inl ⟨k, by rw [HN.out]; exact hk, rfl, hkx, hkb⟩))
  have H0 := Lib.hid h
  have HE := Lib.hid (erase7 ins k (by rw [HN.out]; exact hk))
  have Hb0 := Lib.hid hbase
  have k0 : ¬ (k : Int) < 0 := by omega
  have k1 : (0 : Int) ≤ k := by omega
  have k2 : (k : Int) < n := by omega
  have k3 : (k : Int) ≤ n := by omega
  have k4 : (k : Int) ≤ c := by omega
  have k5 : (k : Int) + 1 ≤ n := by omega
  have k6 : (n : Int) ≤ c := by omega
  have k7 : (k : Int) + 1 < c := by omega
  have k8 : ¬ c = k + 1 := by omega
  have k9 : (k : Int) + 1 ≤ c := by omega
  clear h hkx hkb hbase
  go_enter Try.func116, Try.ntmps116
  go_wp2_with fail
  refine QU.out.mono ?_
  rintro e w1 ⟨v, rfl, ho, hb⟩
  obtain ⟨av, cv, rfl⟩ := row_slice ho
  obtain ⟨gv, eg⟩ : ∃ gv, av = some ⟨gv, 0, none⟩ := by
    rcases ho.2 with ⟨e, e0⟩ | ⟨gv, cap, cur, e, -⟩
    · simp at e0
    · injection e with e1 e2 e3
      exact ⟨gv, e1⟩
  subst eg
  have H := Lib.hid (H0.out.below hb)
  have HMB := Lib.hid (MvS.of_below (inR M vi (.slice (some ⟨g, 0, none⟩) n c) vb) hb)
  have Hb : Hid (base ≤ w1.heap.size) := Lib.hid (Nat.le_trans Hb0.out hb.size)
  have cy : w1.cell? ⟨gv, 0, none⟩ = some (.int .i64 y) := by
    have := ho.cells (g := gv) rfl 0 (.int .i64 y) rfl
    rwa [Go.WideShapes.add_plain] at this
  have hgvl : gv < w1.heap.size := World.block_lt_of_cell? w1 _ cy
  have hgM : ¬ gv = M := fun e => own_ne_blk ho H.out.blk (by decide) (by rw [e]; rfl)
  have hMg : ¬ M = gv := fun e => hgM e.symm
  have CY := Lib.hid (fun (W : World) (hb : Below w1.heap.size w1 W) => (hb.cell (p := ⟨gv, 0, none⟩) hgvl).trans cy)
  have QD1 := Lib.hid (QD.out w1 hb)
  obtain ⟨RL, hRL⟩ : ∃ RL, (y :: rest).length = RL := ⟨_, rfl⟩
  rw [hRL]
  have rl4 : 0 < RL := by rw [← hRL]; exact Nat.succ_pos _
  have rl3 : ¬ RL = 0 := by omega
  have rl0 : ¬ (RL : Int) = 0 := by omega
  have rl1 : (0 : Int) < RL := by omega
  have rl2 : ((RL : Int) == 0) = false := by simp [rl3]
  obtain ⟨c0, c1, c2, c3, c4, c5, f0, f1, f2, f3, f4, f5⟩ := at6 H.out.blk
  have O0 : Hid (w1.ownsRow w1.heap.size 206 2 (.slice none 0 0) 0 []) := Lib.hid (World.ownsRow_nil _ _ _ _)
  have NA : Hid (∀ j u, ((ins.take k).flatMap pr7)[j]? = some u → w1.cell? ((⟨g, 0, none⟩ : Addr).add j) = some u) := Lib.hid (newt7 H.out.pl k)
  have LA : Hid (((ins.take k).flatMap pr7).length = k * 2) := Lib.hid (by rw [pr7_len, List.length_take, HN.out, Nat.min_eq_left (by omega)])
  have LB : Hid (((ins.drop (k + 1)).flatMap pr7).length = (n - (k + 1)) * 2) := Lib.hid (by rw [pr7_len, List.length_drop, HN.out] <;> try omega)
  have NB : Hid (∀ W : World, Below w1.heap.size w1 W → ∀ j u, ((ins.drop (k + 1)).flatMap pr7)[j]? = some u → W.cell? ((⟨g, (k + 1) * 2, none⟩ : Addr).add j) = some u) := Lib.hid (fun W hb => news7 ((H.out.below hb)).pl (k + 1))
  clear ho hb hRL QU QD H0 Hb0
  go_wp2_with fail
  refine QD1.out.mono ?_
  rintro e w2 ⟨rfl, hw1⟩
  obtain rfl := hw1.symm
  have HO1 := Lib.hid (one7 (ins.take k)); have HO2 := Lib.hid (one7 (ins.drop (k + 1)))
  have HM1 : Hid (0 + k ≤ maxLen) := Lib.hid (by unfold maxLen; omega)
  have HM2_ : Hid (0 + k + (n - (k + 1)) ≤ maxLen) := Lib.hid (by unfold maxLen; omega)
  have HY1 : Hid ((0 + k) * 16 ≤ 140737488355328) := Lib.hid (by omega)
  have HY2 : Hid ((0 + k + (n - (k + 1))) * 16 ≤ 140737488355328) := Lib.hid (by omega)
  go_upto_region 8 with (first
    | (at_builtin; (refine wpList_append_own_at _ rfl _ _ 101 rfl w1.heap.size 206 i0 (.agg #[.int .i64 0, .int .i64 0]) 2 16 Try.underlying101 hi0 hz0 hz1 hz2 rfl (by decide) v4 (0 + k) _ rfl HO4.out ⟨g, (k + 1) * 2, none⟩ (n - (k + 1)) (c - (k + 1)) ((ins.drop (k + 1)).flatMap pr7) rfl LB.out (NB.out _ FB4.out) HO2.out HM2_.out HY2.out FB4.out.size ?_; intro v5 w5 ho5 hg5 hn5 hat5; clear hn5 hat5; have HO5 := Lib.hid ho5; have FB5 := Lib.hid (FB4.out.grown hg5 FB4.out.size (fun j hj => (World.ownsRow.lt HO4.out j hj).1)); clear ho5 hg5; have y5_ := CY.out _ FB5.out; obtain ⟨k0_, k1_, k2_, k3_, k4_, k5_, g0_, g1_, g2_, g3_, g4_, g5_⟩ := at6 (H.out.below FB5.out).blk; obtain ⟨a5, c5_, ev5⟩ := row_slice HO5.out; subst ev5))
    | (at_builtin; (refine wpList_append_own_at _ rfl _ _ 101 rfl w1.heap.size 206 i0 (.agg #[.int .i64 0, .int .i64 0]) 2 16 Try.underlying101 hi0 hz0 hz1 hz2 rfl (by decide) (.slice none 0 0) 0 _ rfl O0.out ⟨g, 0, none⟩ k c ((ins.take k).flatMap pr7) rfl LA.out NA.out HO1.out HM1.out HY1.out (Nat.le_refl _) ?_; intro v4 w4 ho4 hg4 hn4 hat4; clear hn4 hat4; have HO4 := Lib.hid ho4; have FB4 := Lib.hid ((Below.refl _ w1).grown hg4 (Nat.le_refl _) (fun j hj => by cases hj)); clear ho4 hg4; have y4_ := CY.out _ FB4.out; obtain ⟨k0_, k1_, k2_, k3_, k4_, k5_, g0_, g1_, g2_, g3_, g4_, g5_⟩ := at6 (H.out.below FB4.out).blk))
    | fail)
  have O5 : w5.ownsRow base 206 2 (.slice a5 (k + (n - (k + 1))) c5_) (ins.eraseIdx k).length ((ins.eraseIdx k).flatMap pr7) := by
    have h9 := own_base HO5.out Hb.out
    rw [List.nil_append, HE.out, show 0 + k + (n - (k + 1)) = k + (n - (k + 1)) by omega] at h9
    rw [List.length_eraseIdx_of_lt (by rw [HN.out]; omega), HN.out, show n - 1 = k + (n - (k + 1)) by omega]
    exact h9
  have hat5 : ∀ j, (Value.slice a5 (k + (n - (k + 1))) c5_).ownBlock = some j → w1.heap.size ≤ j := fun j hj => (World.ownsRow.lt HO5.out j (by rw [← hj]; cases a5 <;> rfl)).1
  have hr := Lib.hid (H.out.newPl FB5.out O5 hat5)
  clear O5 hat5
  go_wp2
  go_ret2
  exact ⟨rfl, _, hr.out.1, HMB.out.trans hr.out.2⟩
set_option maxRecDepth 100000 in
set_option maxHeartbeats 2000000 in
theorem pop7_okb {w : World} {base M : Nat} {most queues : Int} {vi vb : Value} {its ins : List (Int × Int)} {back : List Int} {nev : Int} {g k : Nat} (h : R7 base w M most queues vi (.slice (some ⟨g, 0, none⟩) (k + 1) (k + 1)) vb its ins back nev) (HN : Hid (ins.length = (k + 1))) (hl : k + 1 ≤ 1000000) (q : Int) {y : Int} {rest : List Int} (hq : qf7 ins q = y :: rest) (hkx : snd7 ins k = y) (hkb : ∀ j, j < k → snd7 ins j ≠ y) (hbase : base ≤ w.heap.size) :
    Calls Try.prog 116 #[.pointer (some ⟨M, 0, none⟩), .int .i64 q] w fun e w' => e = .returned (.tuple #[.int .i64 y, .bool true]) ∧ ∃ vn', R7 base w' M most queues vi vn' vb its (ins.eraseIdx k) back nev ∧ MvS w w' (inR M vi (.slice (some ⟨g, 0, none⟩) (k + 1) (k + 1)) vb) (inR M vi vn' vb) := by
  obtain ⟨i0, hi0, hz0, hz1, hz2⟩ := info_parts infoPl
  have QU := Lib.hid (queue7_go h (by rw [HN.out]; exact hl) q)
  rw [hq] at QU
  have QD := Lib.hid (fun (W : World) (hb : Below w.heap.size w W) => queued7_go (h.below hb) (by rw [HN.out]; exact hl) y (r := (k : Int)) (Or.inl ⟨k, by rw [HN.out]; omega, rfl, hkx, hkb⟩))
  have H0 := Lib.hid h
  have HE := Lib.hid (erase7 ins k (by rw [HN.out]; omega))
  have Hb0 := Lib.hid hbase
  have k0 : ¬ (k : Int) < 0 := by omega
  have k1 : (0 : Int) ≤ k := by omega
  have k2 : (k : Int) < (k + 1) := by omega
  have k3 : (k : Int) ≤ (k + 1) := by omega
  have k4 : (k : Int) ≤ (k + 1) := by omega
  have k5 : (k : Int) + 1 ≤ (k + 1) := by omega
  have k6 : ((k + 1) : Int) ≤ (k + 1) := by omega
  clear h hkx hkb hbase
  go_enter Try.func116, Try.ntmps116
  go_wp2_with fail
  refine QU.out.mono ?_
  rintro e w1 ⟨v, rfl, ho, hb⟩
  obtain ⟨av, cv, rfl⟩ := row_slice ho
  obtain ⟨gv, eg⟩ : ∃ gv, av = some ⟨gv, 0, none⟩ := by
    rcases ho.2 with ⟨e, e0⟩ | ⟨gv, cap, cur, e, -⟩
    · simp at e0
    · injection e with e1 e2 e3
      exact ⟨gv, e1⟩
  subst eg
  have H := Lib.hid (H0.out.below hb)
  have HMB := Lib.hid (MvS.of_below (inR M vi (.slice (some ⟨g, 0, none⟩) (k + 1) (k + 1)) vb) hb)
  have Hb : Hid (base ≤ w1.heap.size) := Lib.hid (Nat.le_trans Hb0.out hb.size)
  have cy : w1.cell? ⟨gv, 0, none⟩ = some (.int .i64 y) := by
    have := ho.cells (g := gv) rfl 0 (.int .i64 y) rfl
    rwa [Go.WideShapes.add_plain] at this
  have hgvl : gv < w1.heap.size := World.block_lt_of_cell? w1 _ cy
  have hgM : ¬ gv = M := fun e => own_ne_blk ho H.out.blk (by decide) (by rw [e]; rfl)
  have hMg : ¬ M = gv := fun e => hgM e.symm
  have CY := Lib.hid (fun (W : World) (hb : Below w1.heap.size w1 W) => (hb.cell (p := ⟨gv, 0, none⟩) hgvl).trans cy)
  have QD1 := Lib.hid (QD.out w1 hb)
  obtain ⟨RL, hRL⟩ : ∃ RL, (y :: rest).length = RL := ⟨_, rfl⟩
  rw [hRL]
  have rl4 : 0 < RL := by rw [← hRL]; exact Nat.succ_pos _
  have rl3 : ¬ RL = 0 := by omega
  have rl0 : ¬ (RL : Int) = 0 := by omega
  have rl1 : (0 : Int) < RL := by omega
  have rl2 : ((RL : Int) == 0) = false := by simp [rl3]
  obtain ⟨c0, c1, c2, c3, c4, c5, f0, f1, f2, f3, f4, f5⟩ := at6 H.out.blk
  have O0 : Hid (w1.ownsRow w1.heap.size 206 2 (.slice none 0 0) 0 []) := Lib.hid (World.ownsRow_nil _ _ _ _)
  have NA : Hid (∀ j u, ((ins.take k).flatMap pr7)[j]? = some u → w1.cell? ((⟨g, 0, none⟩ : Addr).add j) = some u) := Lib.hid (newt7 H.out.pl k)
  have LA : Hid (((ins.take k).flatMap pr7).length = k * 2) := Lib.hid (by rw [pr7_len, List.length_take, HN.out, Nat.min_eq_left (by omega)])
  have LB : Hid (((ins.drop (k + 1)).flatMap pr7).length = 0 * 2) := Lib.hid (by rw [pr7_len, List.length_drop, HN.out] <;> try omega)
  have NB : Hid (∀ W : World, Below w1.heap.size w1 W → ∀ j u, ((ins.drop (k + 1)).flatMap pr7)[j]? = some u → W.cell? ((⟨g, 0, none⟩ : Addr).add j) = some u) := Lib.hid (fun W hb => fun j u hj => by rw [List.drop_eq_nil_of_le (by rw [HN.out]; omega)] at hj; simp at hj)
  clear ho hb hRL QU QD H0 Hb0
  go_wp2_with fail
  refine QD1.out.mono ?_
  rintro e w2 ⟨rfl, hw1⟩
  obtain rfl := hw1.symm
  have HO1 := Lib.hid (one7 (ins.take k)); have HO2 := Lib.hid (one7 (ins.drop (k + 1)))
  have HM1 : Hid (0 + k ≤ maxLen) := Lib.hid (by unfold maxLen; omega)
  have HM2_ : Hid (0 + k + 0 ≤ maxLen) := Lib.hid (by unfold maxLen; omega)
  have HY1 : Hid ((0 + k) * 16 ≤ 140737488355328) := Lib.hid (by omega)
  have HY2 : Hid ((0 + k + 0) * 16 ≤ 140737488355328) := Lib.hid (by omega)
  go_upto_region 8 with (first
    | (at_builtin; (refine wpList_append_own_at _ rfl _ _ 101 rfl w1.heap.size 206 i0 (.agg #[.int .i64 0, .int .i64 0]) 2 16 Try.underlying101 hi0 hz0 hz1 hz2 rfl (by decide) v4 (0 + k) _ rfl HO4.out ⟨g, 0, none⟩ 0 (0) ((ins.drop (k + 1)).flatMap pr7) rfl LB.out (NB.out _ FB4.out) HO2.out HM2_.out HY2.out FB4.out.size ?_; intro v5 w5 ho5 hg5 hn5 hat5; clear hn5 hat5; have HO5 := Lib.hid ho5; have FB5 := Lib.hid (FB4.out.grown hg5 FB4.out.size (fun j hj => (World.ownsRow.lt HO4.out j hj).1)); clear ho5 hg5; have y5_ := CY.out _ FB5.out; obtain ⟨k0_, k1_, k2_, k3_, k4_, k5_, g0_, g1_, g2_, g3_, g4_, g5_⟩ := at6 (H.out.below FB5.out).blk; obtain ⟨a5, c5_, ev5⟩ := row_slice HO5.out; subst ev5))
    | (at_builtin; (refine wpList_append_own_at _ rfl _ _ 101 rfl w1.heap.size 206 i0 (.agg #[.int .i64 0, .int .i64 0]) 2 16 Try.underlying101 hi0 hz0 hz1 hz2 rfl (by decide) (.slice none 0 0) 0 _ rfl O0.out ⟨g, 0, none⟩ k (k + 1) ((ins.take k).flatMap pr7) rfl LA.out NA.out HO1.out HM1.out HY1.out (Nat.le_refl _) ?_; intro v4 w4 ho4 hg4 hn4 hat4; clear hn4 hat4; have HO4 := Lib.hid ho4; have FB4 := Lib.hid ((Below.refl _ w1).grown hg4 (Nat.le_refl _) (fun j hj => by cases hj)); clear ho4 hg4; have y4_ := CY.out _ FB4.out; obtain ⟨k0_, k1_, k2_, k3_, k4_, k5_, g0_, g1_, g2_, g3_, g4_, g5_⟩ := at6 (H.out.below FB4.out).blk))
    | fail)
  have O5 : w5.ownsRow base 206 2 (.slice a5 k c5_) (ins.eraseIdx k).length ((ins.eraseIdx k).flatMap pr7) := by
    have h9 := own_base HO5.out Hb.out
    rw [List.nil_append, HE.out, show 0 + k + 0 = k by omega] at h9
    rw [List.length_eraseIdx_of_lt (by rw [HN.out]; omega), HN.out, show (k + 1) - 1 = k by omega]
    exact h9
  have hat5 : ∀ j, (Value.slice a5 k c5_).ownBlock = some j → w1.heap.size ≤ j := fun j hj => (World.ownsRow.lt HO5.out j (by rw [← hj]; cases a5 <;> rfl)).1
  have hr := Lib.hid (H.out.newPl FB5.out O5 hat5)
  clear O5 hat5
  go_wp2
  go_ret2
  exact ⟨rfl, _, hr.out.1, HMB.out.trans hr.out.2⟩
theorem pop7_ok {w : World} {base M : Nat} {most queues : Int} {vi vn vb : Value} {its ins : List (Int × Int)} {back : List Int} {nev : Int} (h : R7 base w M most queues vi vn vb its ins back nev) (hl : ins.length ≤ 1000000) (q : Int) {y : Int} {rest : List Int} (hq : qf7 ins q = y :: rest) {k : Nat} (hk : k < ins.length) (hkx : snd7 ins k = y) (hkb : ∀ j, j < k → snd7 ins j ≠ y) (hbase : base ≤ w.heap.size) :
    Calls Try.prog 116 #[.pointer (some ⟨M, 0, none⟩), .int .i64 q] w fun e w' => e = .returned (.tuple #[.int .i64 y, .bool true]) ∧ ∃ vn', R7 base w' M most queues vi vn' vb its (ins.eraseIdx k) back nev ∧ MvS w w' (inR M vi vn vb) (inR M vi vn' vb) := by
  obtain ⟨a, c, rfl, hac, hcell⟩ := row2 h.pl
  obtain ⟨g, rfl, -, -, -, -⟩ := hcell k hk
  by_cases hck : k + 1 < c
  · exact pop7_oka h (Lib.hid rfl) hl q hq hk hac hck hkx hkb hbase
  · have e1 : ins.length = k + 1 := by omega
    obtain rfl : c = k + 1 := by omega
    rw [e1] at h ⊢
    exact pop7_okb h (Lib.hid e1) (by omega) q hq hkx hkb hbase
end Go.Proofs.Ytmkgadndfiiacaa
