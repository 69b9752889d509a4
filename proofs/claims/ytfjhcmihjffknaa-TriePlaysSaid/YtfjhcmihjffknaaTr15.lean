/-
  Package trie: the longest prefix that covers two. No condition but that both are right.
-/
import Derived.Test.YtfjhcmihjffknaaTrD
import Derived.Test.YtfjhcmihjffknaaTr6
import Derived.Test.YtfjhcmihjffknaaShelfT
import Derived.Deep.RegionWith
namespace Go.Proofs.Ytfjhcmihjffknaa
set_option linter.unusedVariables false
set_option linter.unusedSimpArgs false
open Go.ChangeShapes Go.WideShapes Go.ChangeAt Go.RowKit
attribute [local go_sem] alloc_drewN setCell_drewN

theorem lz_any {b a : Int} (hb : 0 ≤ b ∧ b ≤ 4294967295) (ha : 0 ≤ a ∧ a ≤ 4294967295) (w : World) : Calls Try.prog 94 #[.int .u32 (bits .xor .u32 b a)] w fun e w' => e = .returned (.int .i64 (alike b a)) ∧ w' = w := by
  obtain ⟨x, rfl⟩ : ∃ x : Nat, b = x := ⟨b.toNat, by omega⟩
  obtain ⟨y, rfl⟩ : ∃ y : Nat, a = y := ⟨a.toNat, by omega⟩
  have hx : x < 2 ^ 32 := by omega
  have hy : y < 2 ^ 32 := by omega
  have hxy : x ^^^ y < 2 ^ 32 := Nat.xor_lt_two_pow hx hy
  have e : bits .xor .u32 (x : Int) (y : Int) = ((x ^^^ y : Nat) : Int) := by
    show IntKind.u32.wrap (((BitVec.ofInt 32 (x : Int) ^^^ BitVec.ofInt 32 (y : Int)).toNat : Nat) : Int) = _
    rw [BitVec.ofInt_natCast, BitVec.ofInt_natCast, BitVec.toNat_xor, BitVec.toNat_ofNat, BitVec.toNat_ofNat, Nat.mod_eq_of_lt hx, Nat.mod_eq_of_lt hy, wrap_small _ (by omega) (by omega)]
  rw [e]
  have h := Try.bits_LeadingZeros32 ((x ^^^ y : Nat) : Int) w (by omega) (by omega)
  unfold alike
  rw [Int.toNat_natCast, Int.toNat_natCast]
  rw [Int.toNat_natCast] at h
  exact h
theorem bp_genT15 {P : Program} {f : Func} {Q : Ending → World → Prop} {ex : Exit} {a : Act} {w : World} (h : ∀ v, v = w → bodyPost P f Q ex a v) : bodyPost P f Q ex a w := h w rfl
theorem two_far {W : World} {k j : Nat} {u v x : Value} {o : Nat} (h : W.cell? ⟨k, o, none⟩ = some x) (hk : k ≠ j) : ((W.setCell ⟨j, 0, none⟩ u).setCell ⟨j, 1, none⟩ v).cell? ⟨k, o, none⟩ = some x :=
  (World.cell?_of_block (w := W) (w' := (W.setCell ⟨j, 0, none⟩ u).setCell ⟨j, 1, none⟩ v) (a := ⟨k, o, none⟩) ((Below.heap_setCell _ _ _ k hk).trans (Below.heap_setCell _ _ _ k hk))).trans h
theorem min_three (m n k : Int) : (m ≤ n ∧ m ≤ k) ∨ (n < m ∧ n ≤ k) ∨ (m ≤ n ∧ k < m) ∨ (n < m ∧ k < n) := by omega
set_option maxRecDepth 100000 in
set_option maxHeartbeats 8000000 in
theorem common_any {b m a n : Int} (hb : 0 ≤ b ∧ b ≤ 4294967295) (ha : 0 ≤ a ∧ a ≤ 4294967295) (hp : RtP b m) (hr : RtP a n) (w : World) : Calls Try.prog 89 #[.agg #[.int .u32 b, .int .i64 m], .agg #[.int .u32 a, .int .i64 n]] w fun e w' => e = .returned (.agg #[.int .u32 (comA b m a n), .int .i64 (comN b m a n)]) ∧ Below w.heap.size w w' := by
  obtain ⟨b1, q1, s1⟩ := prefix_box w b m
  obtain ⟨b2, q2, s2⟩ := prefix_box (w.alloc (.cells #[.int .u32 b, .int .i64 m] 70)) a n
  obtain ⟨b3, q3, s3⟩ := prefix_box ((w.alloc (.cells #[.int .u32 b, .int .i64 m] 70)).alloc (.cells #[.int .u32 a, .int .i64 n] 70)) 0 0
  have BB := Lib.hid (b1.trans ((b2.trans (b3.mono b2.size)).mono b1.size))
  have Q1 := (b3.block _ (Nat.lt_of_lt_of_le s1 b2.size)).trans ((b2.block _ s1).trans q1)
  have Q2 := (b3.block _ s2).trans q2
  simp only [World.size_alloc] at Q2 q3
  obtain ⟨x0, x1⟩ := box2 Q1
  obtain ⟨y0, y1⟩ := box2 Q2
  have Q3 := Lib.hid q3
  obtain ⟨z0, z1⟩ := box2 q3
  have f0 := frozen_of_row _ _ 0 _ _ q3
  have f1 := frozen_of_row _ _ 1 _ _ q3
  have LZ := Lib.hid (fun v => lz_any hb ha v)
  obtain ⟨⟨g1, g2, g3⟩, -, -⟩ := com_at hb ha hp hr
  have G := Lib.hid (And.intro g1 (And.intro g2 g3))
  have hm32 := hp.1.2
  have MK := Lib.hid (fun v => mask_any (comN b m a n) (by omega) (by omega) v)
  have AM := Lib.hid (show bits .and .u32 b (mk31 (comN b m a n)) = comA b m a n by
    rw [mk31_at ⟨g1, by omega⟩]
    exact and_mask _ (by omega) b hb.1 hb.2)
  have hc : comN b m a n = min (min m n) (alike b a) := rfl
  clear b1 b2 b3 q1 q2 q3 s1 s2 s3 Q1 Q2 g1 g2 g3
  obtain ⟨c, hcc⟩ : ∃ c, comN b m a n = c := ⟨_, rfl⟩
  rw [hcc] at hc MK AM G ⊢
  generalize comA b m a n = cA at *
  generalize alike b a = L at *
  have W3 := Lib.hid (show c = min (min m n) L from hc)
  have MN : ∀ (W : World) (ts : Array TypeId) (t : TypeId), (Builtin.min_ ts t #[.int .i64 m, .int .i64 n, .int .i64 L]).run Try.prog W = .ok (.int .i64 c) W := fun W ts t => by
    have e : (if L < (if n < m then n else m) then L else (if n < m then n else m)) = c := by
      rw [hc]
      split <;> split <;> omega
    rw [← e]
    simp [Builtin.min_, Builtin.min2]
  clear hc hcc
  have ZF := Lib.hid (show ((((((w.alloc (.cells #[.int .u32 b, .int .i64 m] 70)).alloc (.cells #[.int .u32 a, .int .i64 n] 70)).alloc (.cells #[.int .u32 0, .int .i64 0] 70))).setCell ⟨w.heap.size + 1 + 1, 0, none⟩ (.int .u32 cA)).setCell ⟨w.heap.size + 1 + 1, 1, none⟩ (.int .i64 c)).heap[w.heap.size + 1 + 1]? = some (.cells #[.int .u32 cA, .int .i64 c] 70 (0, 0)) by simpa using heap_set (heap_set Q3.out 0 (.int .u32 cA)) 1 (.int .i64 c))
  go_enter Try.func89, Try.ntmps89
  go_wp2
  generalize (((w.alloc (.cells #[.int .u32 b, .int .i64 m] 70)).alloc (.cells #[.int .u32 a, .int .i64 n] 70)).alloc (.cells #[.int .u32 0, .int .i64 0] 70)) = W at *
  go_region_held3 (fun v => v.cell? ⟨w.heap.size, 0, none⟩ = some (.int .u32 b) ∧ v.cell? ⟨w.heap.size, 1, none⟩ = some (.int .i64 m) ∧ v.cell? ⟨w.heap.size + 1, 0, none⟩ = some (.int .u32 a) ∧ v.cell? ⟨w.heap.size + 1, 1, none⟩ = some (.int .i64 n)) ((exact ⟨x0, x1, y0, y1⟩)) (first
    | (go_at_call 94; refine (LZ.out _).mono ?_; rintro e w2 ⟨rfl, rfl⟩)
    | fail)
  clear MN
  go_wp2
  go_region_held3 (fun v => v.cell? ⟨w.heap.size, 0, none⟩ = some (.int .u32 b)) ((first | exact x0 | exact two_far x0 (by omega))) (first
    | (go_at_call 87; refine (MK.out _).mono ?_; rintro e w2 ⟨rfl, rfl⟩)
    | fail)
  rw [AM.out]
  (try simp only [Exit.then])
  go_wp2
  refine bp_genT15 ?_
  intro vz hvz
  have P : vz.heap[w.heap.size + 1 + 1]? = some (.cells #[.int .u32 cA, .int .i64 c] 70 (0, 0)) := by
    rw [hvz]
    exact ZF.out
  have Q : Below w.heap.size w vz := by
    rw [hvz]
    exact (Below.setCell (Below.setCell BB.out (p := ⟨w.heap.size + 1 + 1, 0, none⟩) (by show w.heap.size ≤ w.heap.size + 1 + 1; omega) _) (p := ⟨w.heap.size + 1 + 1, 1, none⟩) (by show w.heap.size ≤ w.heap.size + 1 + 1; omega) _).drew.drew
  clear hvz
  obtain ⟨k0, k1⟩ := box2 P
  refine bodyPost_ret (v := .agg #[.int .u32 cA, .int .i64 c]) (by simp [results, Try.results89, go_sem, k0, k1]) rfl ⟨rfl, Q⟩
end Go.Proofs.Ytfjhcmihjffknaa
