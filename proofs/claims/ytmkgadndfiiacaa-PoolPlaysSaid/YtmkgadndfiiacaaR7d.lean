/-
  Layer 7, the document's answer: Append and Queue. No condition.
-/
import Derived.Test.YtmkgadndfiiacaaR7b
import Derived.Deep.CutBlock
import Derived.Deep.DeepCutAuto
namespace Go.Proofs.Ytmkgadndfiiacaa
set_option linter.unusedVariables false
set_option linter.unusedSimpArgs false
open Go.ChangeShapes Go.WideShapes Go.ChangeAt Go.RowKit
attribute [local go_sem] alloc_drewN setCell_drewN

set_option maxRecDepth 100000 in
set_option maxHeartbeats 2000000 in
theorem append7_arg {w : World} {base M : Nat} {most queues : Int} {vi vn vb : Value} {its ins : List (Int × Int)} {back : List Int} {nev : Int} (h : R7 base w M most queues vi vn vb its ins back nev) (q x : Int) (hq : q < 0 ∨ queues ≤ q) :
    Calls Try.prog 114 #[.pointer (some ⟨M, 0, none⟩), .int .i64 q, .int .i64 x] w fun e w' => e = .returned (.int .i64 6) ∧ w' = w := by
  obtain ⟨c0, c1, c2, c3, c4, c5, f0, f1, f2, f3, f4, f5⟩ := at6 h.blk
  clear h
  rcases (show q < 0 ∨ (¬ q < 0 ∧ queues ≤ q) by omega) with hq | ⟨hq, hq2⟩
  all_goals
    go_enter Try.func114, Try.ntmps114
    go_wp2
    go_ret
    exact ⟨rfl, rfl⟩
set_option maxRecDepth 100000 in
set_option maxHeartbeats 2000000 in
theorem append7_none {w : World} {base M : Nat} {most queues : Int} {vi vn vb : Value} {its ins : List (Int × Int)} {back : List Int} {nev : Int} (h : R7 base w M most queues vi vn vb its ins back nev) (hl : its.length ≤ 1000000) (hl2 : ins.length ≤ 1000000) (q x : Int) (hq0 : 0 ≤ q) (hq1 : q < queues) (hx : ∀ j, j < its.length → fst7 its j ≠ x) :
    Calls Try.prog 114 #[.pointer (some ⟨M, 0, none⟩), .int .i64 q, .int .i64 x] w fun e w' => e = .returned (.int .i64 7) ∧ w' = w := by
  obtain ⟨c0, c1, c2, c3, c4, c5, f0, f1, f2, f3, f4, f5⟩ := at6 h.blk
  have FD := Lib.hid (find7_go h hl x (r := -1) (Or.inr ⟨rfl, hx⟩))
  have hq2 : ¬ q < 0 := by omega
  have hq3 : ¬ queues ≤ q := by omega
  clear h hx
  go_enter Try.func114, Try.ntmps114
  go_wp2_with fail
  refine FD.out.mono ?_
  rintro e w1 ⟨rfl, hw1⟩
  obtain rfl := hw1.symm
  go_wp2
  go_ret
  exact ⟨rfl, rfl⟩
set_option maxRecDepth 100000 in
set_option maxHeartbeats 2000000 in
theorem append7_there {w : World} {base M : Nat} {most queues : Int} {vi vn vb : Value} {its ins : List (Int × Int)} {back : List Int} {nev : Int} (h : R7 base w M most queues vi vn vb its ins back nev) (hl : its.length ≤ 1000000) (hl2 : ins.length ≤ 1000000) (q x : Int) (hq0 : 0 ≤ q) (hq1 : q < queues) {k : Nat} (hk : k < its.length) (hkx : fst7 its k = x) (hkb : ∀ j, j < k → fst7 its j ≠ x) {m : Nat} (hm : m < ins.length) (hmx : snd7 ins m = x) (hmb : ∀ j, j < m → snd7 ins j ≠ x) :
    Calls Try.prog 114 #[.pointer (some ⟨M, 0, none⟩), .int .i64 q, .int .i64 x] w fun e w' => e = .returned (.int .i64 8) ∧ w' = w := by
  obtain ⟨c0, c1, c2, c3, c4, c5, f0, f1, f2, f3, f4, f5⟩ := at6 h.blk
  have FD := Lib.hid (find7_go h hl x (r := (k : Int)) (Or.inl ⟨k, hk, rfl, hkx, hkb⟩))
  have QD := Lib.hid (queued7_go h hl2 x (r := (m : Int)) (Or.inl ⟨m, hm, rfl, hmx, hmb⟩))
  have hq2 : ¬ q < 0 := by omega
  have hq3 : ¬ queues ≤ q := by omega
  clear h hk hkx hkb hm hmx hmb
  have k0 : ¬ (k : Int) < 0 := by omega
  have m0 : (0 : Int) ≤ m := by omega
  go_enter Try.func114, Try.ntmps114
  go_wp2_with fail
  refine FD.out.mono ?_
  rintro e w1 ⟨rfl, hw1⟩
  obtain rfl := hw1.symm
  go_wp2_with fail
  refine QD.out.mono ?_
  rintro e w1 ⟨rfl, hw1⟩
  obtain rfl := hw1.symm
  go_wp2
  go_ret
  exact ⟨rfl, rfl⟩
set_option maxRecDepth 100000 in
set_option maxHeartbeats 2000000 in
theorem append7_ok {w : World} {base M : Nat} {most queues : Int} {vi vn vb : Value} {its ins : List (Int × Int)} {back : List Int} {nev : Int} (h : R7 base w M most queues vi vn vb its ins back nev) (hl : its.length ≤ 1000000) (hl2 : ins.length ≤ 1000000) (q x : Int) (hq0 : 0 ≤ q) (hq1 : q < queues) {k : Nat} (hk : k < its.length) (hkx : fst7 its k = x) (hkb : ∀ j, j < k → fst7 its j ≠ x) (hmb : ∀ j, j < ins.length → snd7 ins j ≠ x) (hbase : base ≤ w.heap.size) :
    Calls Try.prog 114 #[.pointer (some ⟨M, 0, none⟩), .int .i64 q, .int .i64 x] w fun e w' => e = .returned (.int .i64 0) ∧ ∃ vn', R7 base w' M most queues vi vn' vb its (ins ++ [(q, x)]) back nev ∧ MvS w w' (inR M vi vn vb) (inR M vi vn' vb) := by
  obtain ⟨c0, c1, c2, c3, c4, c5, f0, f1, f2, f3, f4, f5⟩ := at6 h.blk
  obtain ⟨i0, hi0, hz0, hz1, hz2⟩ := info_parts infoPl
  have FD := Lib.hid (find7_go h hl x (r := (k : Int)) (Or.inl ⟨k, hk, rfl, hkx, hkb⟩))
  have QD := Lib.hid (queued7_go h hl2 x (r := -1) (Or.inr ⟨rfl, hmb⟩))
  have hq2 : ¬ q < 0 := by omega
  have hq3 : ¬ queues ≤ q := by omega
  have H := Lib.hid h
  have Hb := Lib.hid hbase
  obtain ⟨n, hn⟩ : ∃ n, ins.length = n := ⟨_, rfl⟩
  have HN := Lib.hid hn
  rw [hn] at hl2
  clear h hk hkx hkb hmb hbase hn
  have k0 : ¬ (k : Int) < 0 := by omega
  have HAo : Hid ((w.alloc (.cells #[.int .i64 q, .int .i64 x] 206)).ownsRow base 206 2 vn n (ins.flatMap pr7)) := Lib.hid (by have h9 := (H.out.below ((Below.refl _ w).alloc (Nat.le_refl _) (.cells #[.int .i64 q, .int .i64 x] 206))).pl; rw [HN.out] at h9; exact h9)
  have HCo : Hid (∀ j u, [Value.int .i64 q, Value.int .i64 x][j]? = some u → (w.alloc (.cells #[.int .i64 q, .int .i64 x] 206)).cell? ((⟨w.heap.size, 0, none⟩ : Addr).add j) = some u) := Lib.hid (World.news_of_block (heap_alloc_new w (.cells #[.int .i64 q, .int .i64 x] 206)))
  have HOo : Hid (∀ u ∈ [Value.int .i64 q, Value.int .i64 x], u.oneCell' = true) := Lib.hid (fun x hx => by simp at hx; rcases hx with rfl | rfl <;> rfl)
  have HBA := Lib.hid ((Below.refl _ w).alloc (Nat.le_refl _) (.cells #[.int .i64 q, .int .i64 x] 206))
  have hm9 : n + 1 ≤ maxLen := by unfold maxLen; omega
  have HM9 := Lib.hid hm9
  have HB9 : Hid (base ≤ (w.alloc (.cells #[.int .i64 q, .int .i64 x] 206)).heap.size) := Lib.hid (Nat.le_trans Hb.out (by simp))
  clear hm9
  go_enter Try.func114, Try.ntmps114
  go_wp2_with fail
  refine FD.out.mono ?_
  rintro e w1 ⟨rfl, hw1⟩
  obtain rfl := hw1.symm
  go_wp2_with fail
  refine QD.out.mono ?_
  rintro e w1 ⟨rfl, hw1⟩
  obtain rfl := hw1.symm
  go_wp2_with (first
    | (at_builtin; refine wpList_append_own_at _ rfl _ _ 101 rfl base 206 i0 (.agg #[.int .i64 0, .int .i64 0]) 2 16 Try.underlying101 hi0 hz0 hz1 hz2 rfl (by decide) vn n _ rfl HAo.out ⟨w.heap.size, 0, none⟩ 1 1 [.int .i64 q, .int .i64 x] rfl rfl HCo.out HOo.out HM9.out (by omega) HB9.out ?_; intro v4 w4 ho4 hg4 hn4 hat4; clear hn4; have FIN := Lib.hid (H.out.addPl HBA.out (a := q) (x := x) hg4 (by rw [HN.out]; exact ho4) hat4); have kb := blk_grown hg4 (H.out.below HBA.out).ne.2.1 (H.out.below HBA.out).blk; obtain ⟨k0_, k1_, k2_, k3_, k4_, k5_, g0_, g1_, g2_, g3_, g4_, g5_⟩ := at6 kb; clear kb hg4 hat4; obtain ⟨a4, c4, rfl⟩ := row_slice ho4; clear ho4)
    | fail)
  go_ret
  obtain ⟨p1, p2⟩ := FIN.out
  exact ⟨rfl, _, p1, p2⟩
/-- What stands in a queue. -/
def qf7 (l : List (Int × Int)) (q : Int) : List Int := (l.filter (fun p => p.1 = q)).map (·.2)
theorem qf7_len (l : List (Int × Int)) (q : Int) : (qf7 l q).length ≤ l.length := by
  unfold qf7
  rw [List.length_map]
  exact List.length_filter_le _ _
theorem take7 (l : List (Int × Int)) (i : Nat) (h : i < l.length) : l.take (i + 1) = l.take i ++ [(fst7 l i, snd7 l i)] := by
  rw [List.take_add_one, List.getElem?_eq_getElem h]
  unfold fst7 snd7
  rw [List.getD_eq_getElem?_getD, List.getElem?_eq_getElem h]
  rfl
set_option maxRecDepth 100000 in
set_option maxHeartbeats 2000000 in
theorem queue7_go {w : World} {base M : Nat} {most queues : Int} {vi vn vb : Value} {its ins : List (Int × Int)} {back : List Int} {nev : Int} (h : R7 base w M most queues vi vn vb its ins back nev) (hl : ins.length ≤ 1000000) (q : Int) :
    Calls Try.prog 62 #[.pointer (some ⟨M, 0, none⟩), .int .i64 q] w fun e w' => ∃ v, e = .returned v ∧ w'.ownsRow w.heap.size 3 1 v (qf7 ins q).length ((qf7 ins q).map (Value.int .i64)) ∧ Below w.heap.size w w' := by
  obtain ⟨i0, hi0, hz0, hz1, hz2⟩ := info_parts infoInt
  obtain ⟨a, c, rfl, hac, -⟩ := row2 h.pl
  have H := Lib.hid h
  obtain ⟨n, hn⟩ : ∃ n, ins.length = n := ⟨_, rfl⟩
  have HN := Lib.hid hn
  have CX := Lib.hid (fun (W : World) (hb : Below w.heap.size w W) => (at6 (h.below hb).blk).2.2.2.1)
  have RX := Lib.hid (fun (W : World) (hb : Below w.heap.size w W) (i : Nat) (hi : i < n) => (by
    obtain ⟨a', c', e', -, hc⟩ := row2 (h.below hb).pl
    injection e' with e1 e2 e3
    subst e1
    obtain ⟨g, h1, -, h3, h4, h5⟩ := hc i (by omega)
    exact ⟨g, h1, h3, h4, h5⟩ : ∃ g, a = some ⟨g, 0, none⟩ ∧ g < W.heap.size ∧ W.cell? ⟨g, i * 2, none⟩ = some (.int .i64 (fst7 ins i)) ∧ W.cell? ⟨g, i * 2 + 1, none⟩ = some (.int .i64 (snd7 ins i))))
  rw [hn] at CX hl hac
  clear h hn
  go_enter Try.func62, Try.ntmps62
  go_wp2
  go_loopw [5, 6] (fun v y wr => ∃ (i : Nat) (lv : Value), lv = v ∧ y = .int .i64 i ∧ i ≤ n ∧ wr.ownsRow w.heap.size 3 1 lv (qf7 (ins.take i) q).length ((qf7 (ins.take i) q).map (Value.int .i64)) ∧ Below w.heap.size w wr) (fun _ y _ => n - (intOf y).toNat)
  case atStart => exact ⟨0, _, rfl, rfl, Nat.zero_le _, World.ownsRow_nil _ _ _ _, Below.refl _ _⟩
  case round =>
    obtain ⟨i, lv, rfl, rfl, hi, ho, hb⟩ := hrel
    have z0 : (0 : Int) ≤ i := by omega
    have c3 := CX.out wr hb
    by_cases hlt : i < n
    · have z1 : (i : Int) < n := by omega
      obtain ⟨g, rfl, hg, d0, d1⟩ := RX.out wr hb i hlt
      have htk := take7 ins i (by rw [HN.out]; exact hlt)
      by_cases hq : fst7 ins i = q
      · have hqf : qf7 (ins.take (i + 1)) q = qf7 (ins.take i) q ++ [snd7 ins i] := by
          rw [htk]; unfold qf7; rw [List.filter_append, List.map_append]; simp [hq]
        obtain ⟨sx, hsx⟩ : ∃ sx, snd7 ins i = sx := ⟨_, rfl⟩
        rw [hsx] at d1 hqf
        rw [hq] at d0
        have hll : (qf7 (ins.take i) q).length ≤ 1000000 := by have := qf7_len (ins.take i) q; rw [List.length_take] at this; omega
        obtain ⟨L, hL⟩ : ∃ L, qf7 (ins.take i) q = L := ⟨_, rfl⟩
        rw [hL] at ho hqf hll
        have HQ := Lib.hid hqf
        have HAo : Hid ((wr.alloc (.cells #[.int .i64 sx] 3)).ownsRow w.heap.size 3 1 lv L.length (L.map (Value.int .i64))) := Lib.hid (ho.alloc _)
        have HCo : Hid (∀ j u, [Value.int .i64 sx][j]? = some u → (wr.alloc (.cells #[.int .i64 sx] 3)).cell? ((⟨wr.heap.size, 0, none⟩ : Addr).add j) = some u) := Lib.hid (World.news_of_block (heap_alloc_new wr (.cells #[.int .i64 sx] 3)))
        have HOo : Hid (∀ u ∈ [Value.int .i64 sx], u.oneCell' = true) := Lib.hid (fun x hx => by simp at hx; subst hx; rfl)
        have HM9 : Hid (L.length + 1 ≤ maxLen) := Lib.hid (by unfold maxLen; omega)
        have HM8 : Hid ((L.length + 1) * 8 ≤ 140737488355328) := Lib.hid (by omega)
        have HB9 : Hid (w.heap.size ≤ (wr.alloc (.cells #[.int .i64 sx] 3)).heap.size) := Lib.hid (Nat.le_trans hb.size (by simp))
        have HBW := Lib.hid hb
        have HLT := Lib.hid (World.ownsRow.lt ho)
        clear ho hqf hL hll hb htk hsx
        go_wp2_with (first
          | (at_builtin; refine wpList_append_own_at _ rfl _ _ 102 rfl w.heap.size 3 i0 (.int .i64 0) 1 8 Try.underlying102 hi0 hz0 hz1 hz2 rfl (by decide) lv L.length _ rfl HAo.out ⟨wr.heap.size, 0, none⟩ 1 1 [.int .i64 sx] rfl rfl HCo.out HOo.out HM9.out HM8.out HB9.out ?_; intro v4 w4 ho4 hg4 hn4 hat4; clear hn4 hat4; have FIN := Lib.hid ho4; have FB := Lib.hid ((HBW.out.alloc HBW.out.size _).grown hg4 HB9.out (fun j hj => (HLT.out j hj).1)); clear ho4 hg4)
          | fail)
        go_roundw
        case rel => exact ⟨i + 1, v4, rfl, by go_num, hlt, by rw [HQ.out, List.length_append, List.map_append]; exact FIN.out, FB.out⟩
        case measure => simp [intOf] <;> omega
      · have hqf : qf7 (ins.take (i + 1)) q = qf7 (ins.take i) q := by
          rw [htk]; unfold qf7; rw [List.filter_append, List.map_append]; simp [hq]
        obtain ⟨fx, hfx⟩ : ∃ fx, fst7 ins i = fx := ⟨_, rfl⟩
        rw [hfx] at d0 hq
        have HQ := Lib.hid hqf
        have HO := Lib.hid ho; have HBW := Lib.hid hb
        clear hqf htk hfx ho hb
        go_wp2
        go_roundw
        case rel => exact ⟨i + 1, lv, rfl, by go_num, hlt, by rw [HQ.out]; exact HO.out, HBW.out⟩
        case measure => simp [intOf] <;> omega
    · obtain rfl : i = n := by omega
      have htk : ins.take i = ins := List.take_of_length_le (by rw [HN.out]; exact Nat.le_refl _)
      rw [htk] at ho
      have HO := Lib.hid ho; have HBW := Lib.hid hb
      clear ho hb htk
      go_wp2
      go_ret
      exact ⟨_, rfl, HO.out, HBW.out⟩
end Go.Proofs.Ytmkgadndfiiacaa
