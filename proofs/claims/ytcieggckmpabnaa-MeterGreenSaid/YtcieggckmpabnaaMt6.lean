/-
  The law on green packets over stretches of time: true for any meters and packets. No condition.
-/
import Derived.Test.YtcieggckmpabnaaMt2a
import Derived.Test.YtcieggckmpabnaaMt2b
import Derived.Test.YtcieggckmpabnaaMt2d
import Derived.Test.YtcieggckmpabnaaMt3
import Derived.Test.YtcieggckmpabnaaOpen21
import Derived.Test.YtcieggckmpabnaaRows2
import Derived.StillTailTactics
import Derived.Deep.DeepCutAuto
import Derived.Deep.DrawnRows
namespace Go.Proofs.Ytcieggckmpabnaa
set_option linter.unusedVariables false
set_option linter.unusedSimpArgs false
open Go.ChangeShapes Go.WideShapes Go.ChangeAt Go.RowKit
attribute [local go_sem] alloc_drewN setCell_drewN

attribute [local go_sem ↓] Go.wp_at_zero Go.wp_at_succ
theorem wpAnyH_norm {P : Program} {md : Region.Mode} {ops : Array Oper} {Q : Exit → Act → World → Prop} {S : World → Prop} {fuel n : Nat} {listed l : Array Bool} {a : Act} {w : World} (hn : fuel = n) (hl : listed = l) (h : wpAnyH P md ops Q S n l a w) : wpAnyH P md ops Q S fuel listed a w := by
  subst hn hl
  exact h
theorem take_list {P : Program} {md : Region.Mode} {ops : Array Oper} {Q : Exit → Act → World → Prop} {S : World → Prop} {i : Nat} {oi : Oper} {v : Value} {fuel : Nat} {listed : Array Bool} {a : Act} {w : World} (hi : ops.toList[i]? = some oi)
    (hs : Region.noSelect ops = true) (hf : Region.free md ops listed i = true) (hr : (Region.ready md ops listed).contains i = true)
    (hQ : ∀ c a w, Q (.panic c) (a.put oi.dst v) w → Q (.panic c) a w) (hy : YieldsIf P ops S oi v a) (hS : S w)
    (h : wpAnyH P md ops Q S fuel (listed.setIfInBounds i true) (a.put oi.dst v) w) : wpAnyH P md ops Q S (fuel + 1) listed a w :=
  wpAnyH_take (by rw [← hi]; simp) hs hf hr hQ hy hS h
theorem cons_list {P : Program} {md : Region.Mode} {ops : Array Oper} {Q : Exit → Act → World → Prop} {S : World → Prop} {fuel : Nat} {listed : Array Bool} {a : Act} {w : World} {i : Nat} {rs : List Nat} {o : Oper} (ho : ops.toList[i]? = some o) 
    (h : ∀ K' : Act → World → Prop, Shut (∀ a w, S w → (S w → wpAnyH P md ops Q S fuel (listed.setIfInBounds i true) a w) → K' a w) → if Region.wanted o (yielded ops a.tmps) = true then Oper.wp P o a w K' Q else K' (a.put o.dst undef) w)
    (hs : AllReadyH P md ops Q S fuel listed a w rs) : AllReadyH P md ops Q S fuel listed a w (i :: rs) :=
  AllReadyH.cons (by rw [← ho]; simp) h hs
theorem infoU64m : (Try.prog.info? 41).map (fun i => (i.zero, i.size, i.bytes)) = some (some (.int .u64 0), 1, 8) := by kernel_rfl
theorem of_belm (a : Int) (h0 : 0 ≤ a) (h1 : a ≤ 18446744073709551615) (w : World) :
    Calls Try.prog 37 #[.int .u64 a] w fun e w' => ∃ a0 a1, e = .returned (.agg #[.int .u64 (a0), .int .u64 (a1), .int .u64 (0), .int .u64 (0)]) ∧ Wide a0 a1 0 0 a ∧ Below w.heap.size w w' := by
  refine (of_any a h0 h1 w).mono ?_
  rintro e w' ⟨a0, a1, o, rfl, h, rfl⟩
  exact ⟨a0, a1, rfl, h, (Below.refl _ w).alloc (Nat.le_refl _) _⟩
/-- A meter of one rate that may be, its numbers words. -/
structure GO (r n f a b : Int) : Prop where
  ok : MO.ok ⟨r, n, f, a, b⟩
  wd : MO.wd ⟨r, n, f, a, b⟩
structure GT (s q n f a b : Int) : Prop where
  ok : MT.ok ⟨s, q, n, f, a, b⟩
  wd : MT.wd ⟨s, q, n, f, a, b⟩
theorem go_tk {r n f a b x : Int} (h : GO r n f a b) (hx : 0 ≤ x) : ∃ a1 b1, MO.tick ⟨r, n, f, a, b⟩ x = ⟨r, n, f, a1, b1⟩ ∧ GO r n f a1 b1 ∧ a1 ≤ a + r * x := by
  obtain ⟨hok, hwd⟩ := h
  obtain ⟨k, h1, h2⟩ := id hok
  obtain ⟨⟨r0, r1⟩, ⟨n0, n1⟩, ⟨f0, f1⟩, ⟨a0, a1⟩, b0, b1⟩ := hwd
  dsimp only at k h1 h2 r0 r1 n0 n1 f0 f1 a0 a1 b0 b1
  have p := Int.mul_nonneg r0 hx
  have e : MO.tick ⟨r, n, f, a, b⟩ x = ⟨r, n, f, a + min (r * x) (n - a), b + min (r * x - min (r * x) (n - a)) (f - b)⟩ := if_pos hok
  generalize r * x = P at *
  exact ⟨_, _, e, ⟨⟨k, by show a + min _ _ ≤ n; omega, by show b + min _ _ ≤ f; omega⟩, ⟨r0, r1⟩, ⟨n0, n1⟩, ⟨f0, f1⟩, ⟨by show (0 : Int) ≤ a + min _ _; omega, by show a + min _ _ ≤ (18446744073709551615 : Int); omega⟩, by show (0 : Int) ≤ b + min _ _; omega, by show b + min _ _ ≤ (18446744073709551615 : Int); omega⟩, by omega⟩
theorem gt_tk {r q n f a b x : Int} (h : GT r q n f a b) (hx : 0 ≤ x) : ∃ a1 b1, MT.tick ⟨r, q, n, f, a, b⟩ x = ⟨r, q, n, f, a1, b1⟩ ∧ GT r q n f a1 b1 ∧ a1 ≤ a + r * x := by
  obtain ⟨hok, hwd⟩ := h
  obtain ⟨k, h1, h2⟩ := id hok
  obtain ⟨⟨r0, r1⟩, ⟨q0, q1⟩, ⟨n0, n1⟩, ⟨f0, f1⟩, ⟨a0, a1⟩, b0, b1⟩ := hwd
  dsimp only at k h1 h2 r0 r1 q0 q1 n0 n1 f0 f1 a0 a1 b0 b1
  have p := Int.mul_nonneg r0 hx
  have p2 := Int.mul_nonneg q0 hx
  have e : MT.tick ⟨r, q, n, f, a, b⟩ x = ⟨r, q, n, f, min (a + r * x) n, min (b + q * x) f⟩ := if_pos hok
  generalize r * x = P at *
  generalize q * x = P2 at *
  exact ⟨_, _, e, ⟨⟨k, by show min _ n ≤ n; omega, by show min _ f ≤ f; omega⟩, ⟨r0, r1⟩, ⟨q0, q1⟩, ⟨n0, n1⟩, ⟨f0, f1⟩, ⟨by show (0 : Int) ≤ min _ _; omega, by show min _ _ ≤ (18446744073709551615 : Int); omega⟩, by show (0 : Int) ≤ min _ _; omega, by show min _ _ ≤ (18446744073709551615 : Int); omega⟩, by omega⟩
theorem go_cl {r n f a b k : Int} (c : Int) (h : GO r n f a b) (hk : 0 ≤ k) : ∃ a1 b1 p, MO.col ⟨r, n, f, a, b⟩ k c = (⟨r, n, f, a1, b1⟩, p) ∧ GO r n f a1 b1 ∧ ((p = 1 ∧ k + a1 = a) ∨ (p ≠ 1 ∧ a1 = a)) := by
  have h0 := h
  obtain ⟨hok, hwd⟩ := h
  obtain ⟨kk, h1, h2⟩ := id hok
  obtain ⟨⟨r0, r1⟩, ⟨n0, n1⟩, ⟨f0, f1⟩, ⟨a0, a1⟩, b0, b1⟩ := hwd
  dsimp only at kk h1 h2 r0 r1 n0 n1 f0 f1 a0 a1 b0 b1
  unfold MO.col
  rw [if_pos hok]
  dsimp only
  split
  · exact ⟨_, _, _, rfl, h0, Or.inr ⟨by decide, rfl⟩⟩
  · split
    · rename_i hx
      exact ⟨_, _, _, rfl, ⟨⟨kk, by show a - k ≤ n; omega, h2⟩, ⟨r0, r1⟩, ⟨n0, n1⟩, ⟨f0, f1⟩, ⟨by show (0 : Int) ≤ a - k; omega, by show a - k ≤ (18446744073709551615 : Int); omega⟩, b0, b1⟩, Or.inl ⟨rfl, by omega⟩⟩
    · split
      · exact ⟨_, _, _, rfl, ⟨⟨kk, h1, by show b - k ≤ f; omega⟩, ⟨r0, r1⟩, ⟨n0, n1⟩, ⟨f0, f1⟩, ⟨a0, a1⟩, by show (0 : Int) ≤ b - k; omega, by show b - k ≤ (18446744073709551615 : Int); omega⟩, Or.inr ⟨by decide, rfl⟩⟩
      · exact ⟨_, _, _, rfl, h0, Or.inr ⟨by decide, rfl⟩⟩
theorem gt_cl {r q n f a b k : Int} (c : Int) (h : GT r q n f a b) (hk : 0 ≤ k) : ∃ a1 b1 p, MT.col ⟨r, q, n, f, a, b⟩ k c = (⟨r, q, n, f, a1, b1⟩, p) ∧ GT r q n f a1 b1 ∧ ((p = 1 ∧ k + a1 = a) ∨ (p ≠ 1 ∧ a1 = a)) := by
  have h0 := h
  obtain ⟨hok, hwd⟩ := h
  obtain ⟨kk, h1, h2⟩ := id hok
  obtain ⟨⟨r0, r1⟩, ⟨q0, q1⟩, ⟨n0, n1⟩, ⟨f0, f1⟩, ⟨a0, a1⟩, b0, b1⟩ := hwd
  dsimp only at kk h1 h2 r0 r1 q0 q1 n0 n1 f0 f1 a0 a1 b0 b1
  unfold MT.col
  rw [if_pos hok]
  dsimp only
  split
  · exact ⟨_, _, _, rfl, h0, Or.inr ⟨by decide, rfl⟩⟩
  · split
    · exact ⟨_, _, _, rfl, ⟨⟨kk, h1, by show b - k ≤ f; omega⟩, ⟨r0, r1⟩, ⟨q0, q1⟩, ⟨n0, n1⟩, ⟨f0, f1⟩, ⟨a0, a1⟩, by show (0 : Int) ≤ b - k; omega, by show b - k ≤ (18446744073709551615 : Int); omega⟩, Or.inr ⟨by decide, rfl⟩⟩
    · exact ⟨_, _, _, rfl, ⟨⟨kk, by show a - k ≤ n; omega, by show b - k ≤ f; omega⟩, ⟨r0, r1⟩, ⟨q0, q1⟩, ⟨n0, n1⟩, ⟨f0, f1⟩, ⟨by show (0 : Int) ≤ a - k; omega, by show a - k ≤ (18446744073709551615 : Int); omega⟩, by show (0 : Int) ≤ b - k; omega, by show b - k ≤ (18446744073709551615 : Int); omega⟩, Or.inl ⟨rfl, by omega⟩⟩
/-- What the first loop keeps, of the numbers. -/
structure KG (r q n f : Int) (j : Nat) (oa ob ta tb : Int) (g h d : List Int) : Prop where
  lg : g.length = j
  lh : h.length = j
  ld : d.length = j
  o : GO r n f oa ob
  t : GT r q n f ta tb
  cg : CF r n 0 g d oa
  ch : CF r n 0 h d ta
  bg : ∀ x ∈ g, 0 ≤ x ∧ x ≤ 18446744073709551615
  bh : ∀ x ∈ h, 0 ≤ x ∧ x ≤ 18446744073709551615
  bd : ∀ x ∈ d, 0 ≤ x ∧ x ≤ 281474976710655
theorem mem_snoc {P : Int → Prop} {g : List Int} {x : Int} (h : ∀ y ∈ g, P y) (hx : P x) : ∀ y ∈ g ++ [x], P y := fun z hz => by
  rcases List.mem_append.1 hz with hz | hz
  · exact h z hz
  · rw [List.mem_singleton.1 hz]; exact hx
theorem KG.snoc {r q n f oa ob ta tb oa3 ob3 ta3 tb3 x y z : Int} {j : Nat} {g h d : List Int} (k : KG r q n f j oa ob ta tb g h d) (o : GO r n f oa3 ob3) (t : GT r q n f ta3 tb3) (h1 : x + oa3 ≤ oa + r * z) (h2 : x + oa3 ≤ n) (h3 : y + ta3 ≤ ta + r * z) (h4 : y + ta3 ≤ n)
    (x0 : 0 ≤ x) (x1 : x ≤ 18446744073709551615) (y0 : 0 ≤ y) (y1 : y ≤ 18446744073709551615) (z0 : 0 ≤ z) (z1 : z ≤ 281474976710655) :
    KG r q n f (j + 1) oa3 ob3 ta3 tb3 (g ++ [x]) (h ++ [y]) (d ++ [z]) where
  lg := by rw [List.length_append, k.lg]; rfl
  lh := by rw [List.length_append, k.lh]; rfl
  ld := by rw [List.length_append, k.ld]; rfl
  o := o
  t := t
  cg := k.cg.snoc h1 h2 (by have := o.wd.2.2.2.1.1; dsimp only at this; omega)
  ch := k.ch.snoc h3 h4 (by have := t.wd.2.2.2.2.1.1; dsimp only at this; omega)
  bg := mem_snoc k.bg ⟨x0, x1⟩
  bh := mem_snoc k.bh ⟨y0, y1⟩
  bd := mem_snoc k.bd ⟨z0, z1⟩
set_option maxRecDepth 100000 in
set_option maxHeartbeats 60000000 in
theorem walk_meterGreen (x : Int) (x0 : 0 ≤ x) (x1 : x ≤ 4294967295) (y : Int) (y0 : 0 ≤ y) (y1 : y ≤ 4294967295) (n : Int) (n0 : 0 ≤ n) (n1 : n ≤ 18446744073709551615) (f : Int) (f0 : 0 ≤ f) (f1 : f ≤ 18446744073709551615) (a : Option Addr) (N cc : Nat) (fs : List Act21) {w : World} (hr : RowA21 w a N fs) (hc : N ≤ cc) :
    Calls Try.prog 6 #[.agg #[.int .u32 x, .int .u32 y], .agg #[.int .u64 n, .int .u64 f], .slice a N cc] w fun e w' => e = .returned (.bool true) ∧ Below w.heap.size w w' := by
  have LV := Lib.hid (fun W => lives21 W)
  obtain ⟨r, hX⟩ : ∃ r, x + 1 = r := ⟨_, rfl⟩
  obtain ⟨q, hY⟩ : ∃ q, r + y = q := ⟨_, rfl⟩
  have NW1 := Lib.hid (fun W => mo_new r n f W)
  have NW2 := Lib.hid (fun W => mt_new r q n f W)
  have HR := Lib.hid hr
  have hnm := hr.2.1
  unfold maxLen at hnm
  have hw1 : IntKind.u64.wrap x = x := by rw [IntKind.wrap_u64]; omega
  have hw2 : IntKind.u64.wrap y = y := by rw [IntKind.wrap_u64]; omega
  have r9 : 1 ≤ r ∧ r ≤ 4294967296 := by omega
  have q9 : r ≤ q ∧ q ≤ 8589934591 := by omega
  by_cases hboth : moe r n f = 0 ∧ mte r q n f = 0 ∧ N ≤ 60
  · obtain ⟨h1, h2, hn60⟩ := hboth
    have g60 : decide ((60 : Int) < N) = false := decide_eq_false (by omega)
    rw [if_pos h1, h1] at NW1
    rw [if_pos h2, h2] at NW2
    have H0 := Lib.hid (⟨rfl, rfl, rfl, ⟨⟨h1, Int.le_refl _, Int.le_refl _⟩, ⟨by show 0 ≤ r; omega, by show r ≤ _; omega⟩, ⟨n0, n1⟩, ⟨f0, f1⟩, ⟨n0, n1⟩, f0, f1⟩, ⟨⟨h2, Int.le_refl _, Int.le_refl _⟩, ⟨by show 0 ≤ r; omega, by show r ≤ _; omega⟩, ⟨by show 0 ≤ q; omega, by show q ≤ _; omega⟩, ⟨n0, n1⟩, ⟨f0, f1⟩, ⟨n0, n1⟩, f0, f1⟩, CF.nil _ _ _ _, CF.nil _ _ _ _, by simp, by simp, by simp⟩ : KG r q n f 0 n f n f [] [] [])
    clear h1 h2 hr
    go_enter Try.func6, Try.ntmps6
    go_wp2
    refine wp_genc ?_
    intro v0 hv0
    have XB : Below w.heap.size w v0 := by
      rw [hv0]
      (repeat' (first | (with_reducible exact Below.refl _ _) | (with_reducible assumption) | (with_reducible refine below_drewN _ ?_) | (with_reducible refine Below.drew ?_) | (with_reducible refine Below.setCell ?_ (by simp) _) | (with_reducible refine Below.alloc ?_ (by simp; try omega) _)))
    have Xu : v0.heap[w.heap.size]? = some (.cells #[.int .u32 x, .int .u32 y] 87 (0, 0)) := by
      rw [hv0]
      (repeat' (first | (with_reducible exact heap_alloc_new _ _) | (with_reducible exact blk_new (by first | (simp; done) | omega)) | (with_reducible refine blk_drew ?_) | (with_reducible apply put2_0) | (with_reducible apply put2_1) | (with_reducible refine blk_else (by omega) ?_) | (with_reducible refine blk_old ?_)))
    have Xv : v0.heap[w.heap.size + 1]? = some (.cells #[.int .u64 n, .int .u64 f] 88 (0, 0)) := by
      rw [hv0]
      (repeat' (first | (with_reducible exact heap_alloc_new _ _) | (with_reducible exact blk_new (by first | (simp; done) | omega)) | (with_reducible refine blk_drew ?_) | (with_reducible apply put2_0) | (with_reducible apply put2_1) | (with_reducible refine blk_else (by omega) ?_) | (with_reducible refine blk_old ?_)))
    obtain ⟨Bv, hBv⟩ : ∃ x, x = w.heap.size + 1 := ⟨_, rfl⟩
    rw [← hBv] at Xv
    try rw [← hBv]
    have lev : w.heap.size ≤ Bv := by omega
    obtain ⟨Bu, hBu⟩ : ∃ x, x = w.heap.size := ⟨_, rfl⟩
    rw [← hBu] at Xu
    try rw [← hBu]
    have nuv : ¬ Bu = Bv := by omega
    have nvu : ¬ Bv = Bu := fun h => nuv h.symm
    have leu : w.heap.size ≤ Bu := by omega
    clear hBu hBv
    clear hv0
    have Hv1 := Lib.hid Xv
    have Hu1 := Lib.hid Xu
    have HB1 := Lib.hid XB
    clear Xv Xu XB
    obtain ⟨v0_, v1_, vf0_, vf1_⟩ := at2 Hv1.out
    have vn_ := ne_blk Hv1.out
    have vm_ := Ne.symm (a := Bv) vn_
    have vl_ := lt_blk Hv1.out
    obtain ⟨u0_, u1_, uf0_, uf1_⟩ := at2 Hu1.out
    have un_ := ne_blk Hu1.out
    have um_ := Ne.symm (a := Bu) un_
    have ul_ := lt_blk Hu1.out
    go_quiet (fail)
    go_wp2_with fail
    refine cl_gen ?_
    intro v1 hv1
    have XB : Below w.heap.size w v1 := by
      rw [hv1]
      (repeat' (first | (with_reducible exact HB1.out) | (with_reducible exact Below.refl _ _) | (with_reducible refine below_drewN _ ?_) | (with_reducible refine Below.drew ?_) | (with_reducible refine Below.setCell ?_ (by first | (simp; done) | omega) _) | (with_reducible refine Below.alloc ?_ (by have := HB1.out.size; simp; omega) _)))
    clear v0_ v1_ vf0_ vf1_ vn_ vm_ vl_ u0_ u1_ uf0_ uf1_ un_ um_ ul_
    clear hv1 Hu1 Hv1 HB1
    refine (NW1.out _).mono ?_
    rintro e w2 ⟨rfl, bb⟩
    have HB2 := Lib.hid (bel_onto XB bb XB.size)
    clear XB bb
    go_wp2_with fail
    refine cl_gen ?_
    intro v2 hv2
    have XB : Below w.heap.size w v2 := by
      rw [hv2]
      (repeat' (first | (with_reducible exact HB2.out) | (with_reducible exact Below.refl _ _) | (with_reducible refine below_drewN _ ?_) | (with_reducible refine Below.drew ?_) | (with_reducible refine Below.setCell ?_ (by first | (simp; done) | omega) _) | (with_reducible refine Below.alloc ?_ (by have := HB2.out.size; simp; omega) _)))
    have Xo : v2.heap[w2.heap.size]? = some (.cells #[.int .u64 r, .int .u64 n, .int .u64 f, .int .u64 n, .int .u64 f] 64 (0, 0)) := by
      rw [hv2]
      (repeat' (first | (with_reducible exact heap_alloc_new _ _) | (with_reducible exact blk_new (by first | (simp; done) | omega)) | (with_reducible refine blk_drew ?_) | (with_reducible apply put5_0) | (with_reducible apply put5_1) | (with_reducible apply put5_2) | (with_reducible apply put5_3) | (with_reducible apply put5_4) | (with_reducible refine blk_else (by omega) ?_) | (with_reducible refine blk_old ?_)))
    obtain ⟨Bo, hBo⟩ : ∃ x, x = w2.heap.size := ⟨_, rfl⟩
    rw [← hBo] at Xo
    try rw [← hBo]
    have leo : w.heap.size ≤ Bo := by have := HB2.out.size; omega
    clear hBo
    clear hv2 HB2
    refine (NW2.out _).mono ?_
    rintro e w3 ⟨rfl, bb⟩
    have Ho3 := Lib.hid (blk_call bb Xo)
    have HB3 := Lib.hid (bel_onto XB bb XB.size)
    clear Xo XB bb
    obtain ⟨o0_, o1_, o2_, o3_, o4_, of0_, of1_, of2_, of3_, of4_⟩ := at5 Ho3.out
    have on_ := ne_blk Ho3.out
    have om_ := Ne.symm (a := Bo) on_
    have ol_ := lt_blk Ho3.out
    go_wp2
    refine wp_genc ?_
    intro v3 hv3
    have Xo : v3.heap[Bo]? = some (.cells #[.int .u64 r, .int .u64 n, .int .u64 f, .int .u64 n, .int .u64 f] 64 (0, 0)) := by
      rw [hv3]
      (repeat' (first | (with_reducible exact Ho3.out) | (with_reducible exact heap_alloc_new _ _) | (with_reducible exact blk_new (by first | (simp; done) | omega)) | (with_reducible refine blk_drew ?_) | (with_reducible apply put5_0) | (with_reducible apply put5_1) | (with_reducible apply put5_2) | (with_reducible apply put5_3) | (with_reducible apply put5_4) | (with_reducible refine blk_else (by omega) ?_) | (with_reducible refine blk_old ?_)))
    have XB : Below w.heap.size w v3 := by
      rw [hv3]
      (repeat' (first | (with_reducible exact HB3.out) | (with_reducible exact Below.refl _ _) | (with_reducible refine below_drewN _ ?_) | (with_reducible refine Below.drew ?_) | (with_reducible refine Below.setCell ?_ (by first | (simp; done) | omega) _) | (with_reducible refine Below.alloc ?_ (by have := HB3.out.size; simp; omega) _)))
    have Xp : v3.heap[w3.heap.size]? = some (.cells #[.int .u64 r, .int .u64 q, .int .u64 n, .int .u64 f, .int .u64 n, .int .u64 f] 68 (0, 0)) := by
      rw [hv3]
      (repeat' (first | (with_reducible exact heap_alloc_new _ _) | (with_reducible exact blk_new (by first | (simp; done) | omega)) | (with_reducible refine blk_drew ?_) | (with_reducible apply put6_0) | (with_reducible apply put6_1) | (with_reducible apply put6_2) | (with_reducible apply put6_3) | (with_reducible apply put6_4) | (with_reducible apply put6_5) | (with_reducible refine blk_else (by omega) ?_) | (with_reducible refine blk_old ?_)))
    obtain ⟨Bp, hBp⟩ : ∃ x, x = w3.heap.size := ⟨_, rfl⟩
    rw [← hBp] at Xp
    try rw [← hBp]
    have npo : ¬ Bp = Bo := by have := lt_blk Ho3.out; omega
    have nop : ¬ Bo = Bp := fun h => npo h.symm
    have lep : w.heap.size ≤ Bp := by have := HB3.out.size; omega
    clear hBp
    clear o0_ o1_ o2_ o3_ o4_ of0_ of1_ of2_ of3_ of4_ on_ om_ ol_
    clear hv3 Ho3 HB3
    have Ho4 := Lib.hid Xo
    have Hp4 := Lib.hid Xp
    have HB4 := Lib.hid XB
    clear Xo Xp XB
    obtain ⟨o0_, o1_, o2_, o3_, o4_, of0_, of1_, of2_, of3_, of4_⟩ := at5 Ho4.out
    have on_ := ne_blk Ho4.out
    have om_ := Ne.symm (a := Bo) on_
    have ol_ := lt_blk Ho4.out
    obtain ⟨p0_, p1_, p2_, p3_, p4_, p5_, pf0_, pf1_, pf2_, pf3_, pf4_, pf5_⟩ := at6 Hp4.out
    have pn_ := ne_blk Hp4.out
    have pm_ := Ne.symm (a := Bp) pn_
    have pl_ := lt_blk Hp4.out
    obtain ⟨i0, hi, hz0, hz1, hz2⟩ := info_parts infoU64m
    go_loopw [16, 17, 18, 74] (fun e16 e17 e18 e74 wr => ∃ (j : Nat) (oa ob ta tb : Int) (g h d : List Int), e74 = .int .i64 j ∧ j ≤ N ∧ KG r q n f j oa ob ta tb g h d ∧ NR .u64 41 wr w.heap.size e16 g ∧ NR .u64 41 wr w.heap.size e17 h ∧ NR .u64 41 wr w.heap.size e18 d ∧ (∀ b, e16.ownBlock = some b → e17.ownBlock ≠ some b) ∧ (∀ b, e16.ownBlock = some b → e18.ownBlock ≠ some b) ∧ (∀ b, e17.ownBlock = some b → e18.ownBlock ≠ some b) ∧ wr.heap[Bo]? = some (.cells #[.int .u64 r, .int .u64 n, .int .u64 f, .int .u64 oa, .int .u64 ob] 64 (0, 0)) ∧ wr.heap[Bp]? = some (.cells #[.int .u64 r, .int .u64 q, .int .u64 n, .int .u64 f, .int .u64 ta, .int .u64 tb] 68 (0, 0)) ∧ Below w.heap.size w wr) (fun _ _ _ e _ => N - (intOf e).toNat)
    case atStart => exact ⟨0, n, f, n, f, [], [], [], rfl, Nat.zero_le _, H0.out, NR.nil _ _ _ _, NR.nil _ _ _ _, NR.nil _ _ _ _, (fun _ h => nomatch h), (fun _ h => nomatch h), (fun _ h => nomatch h), Ho4.out, Hp4.out, HB4.out⟩
    case round =>
      clear o0_ o1_ o2_ o3_ o4_ of0_ of1_ of2_ of3_ of4_ on_ om_ ol_ p0_ p1_ p2_ p3_ p4_ p5_ pf0_ pf1_ pf2_ pf3_ pf4_ pf5_ pn_ pm_ pl_ Ho4 Hp4 HB4 g60
      obtain ⟨j, oa, ob, ta, tb, g, h, d, rfl, hj, KN0, NG, NH, ND, P01, P02, P12, xo, xt, xb⟩ := hrel
      obtain ⟨a0, c0, rfl, hc0, cell0⟩ := NG.form
      obtain ⟨a1, c1, rfl, hc1, cell1⟩ := NH.form
      obtain ⟨a2, c2, rfl, hc2, cell2⟩ := ND.form
      have hlg := KN0.lg
      have hlh := KN0.lh
      have hld := KN0.ld
      rw [hlg] at NG hc0 cell0 P01 P02 ⊢
      rw [hlh] at NH hc1 cell1 P01 P12 ⊢
      rw [hld] at ND hc2 cell2 P02 P12 ⊢
      have Ho9 := Lib.hid xo; have Hp9 := Lib.hid xt; have HB9 := Lib.hid xb
      have not_ : ¬ Bo = Bp := fun e => npo e.symm
      by_cases hlt : j < N
      · obtain ⟨hzl, hzm, hzw, hzc⟩ := HR.out
        obtain ⟨b_, off, rfl, hb0, hcs⟩ := hzc (by omega)
        obtain ⟨cx0, cx1, cx2⟩ := hcs j hlt
        have d0_ := (xb.cell (p := ⟨b_, off + j * 3, none⟩) hb0).trans cx0
        have d1_ := (xb.cell (p := ⟨b_, off + j * 3 + 1, none⟩) hb0).trans cx1
        have d2_ := (xb.cell (p := ⟨b_, off + j * 3 + 2, none⟩) hb0).trans cx2
        have hxw : (fs.getD j Act21.nil).ok := hzw _ (by rw [List.getD_eq_getElem?_getD, List.getElem?_eq_getElem (by omega : j < fs.length)]; exact List.getElem_mem _)
        generalize fs.getD j Act21.nil = act at *
        obtain ⟨ad, an, ac⟩ := act
        obtain ⟨⟨p0, p1⟩, ⟨p2, p3⟩, p4, p5⟩ := hxw
        dsimp only at p0 p1 p2 p3 p4 p5 d0_ d1_ d2_
        obtain ⟨tt, htt⟩ : ∃ t, ad / 65536 = t := ⟨_, rfl⟩
        have t0 : 0 ≤ tt := by omega
        have t1 : tt ≤ 281474976710655 := by omega
        have A1 := Lib.hid (fun W => mo_tick ⟨r, n, f, oa, ob⟩ KN0.o.wd tt t0 (by omega) W)
        have A2 := Lib.hid (fun W => mt_tick ⟨r, q, n, f, ta, tb⟩ KN0.t.wd tt t0 (by omega) W)
        obtain ⟨oa1, ob1, e1, GO1, u1_⟩ := go_tk KN0.o t0
        obtain ⟨ta1, tb1, e2, GT1, u2_⟩ := gt_tk KN0.t t0
        rw [e1] at A1
        rw [e2] at A2
        have B1 := Lib.hid (fun W => mo_col ⟨r, n, f, oa1, ob1⟩ GO1.wd an p2 p3 ac W)
        have B2 := Lib.hid (fun W => mt_col ⟨r, q, n, f, ta1, tb1⟩ GT1.wd an p2 p3 ac W)
        obtain ⟨oa2, ob2, pa, e3, GO2, u3_⟩ := go_cl ac GO1 p2
        obtain ⟨ta2, tb2, pb, e4, GT2, u4_⟩ := gt_cl ac GT1 p2
        rw [e3] at B1
        rw [e4] at B2
        simp only [mo_val, mt_val] at A1 A2 B1 B2
        have le1 := GO1.ok.2.1
        have le2 := GT1.ok.2.1
        dsimp only at le1 le2
        have HGO := Lib.hid GO2; have HGT := Lib.hid GT2
        have Q01 := Lib.hid P01; have Q02 := Lib.hid P02; have Q12 := Lib.hid P12
        have Q10 := Lib.hid (fun g_ (h_ : (Value.slice a1 j c1).ownBlock = some g_) (e : (Value.slice a0 j c0).ownBlock = some g_) => P01 g_ e h_)
        have Q20 := Lib.hid (fun g_ (h_ : (Value.slice a2 j c2).ownBlock = some g_) (e : (Value.slice a0 j c0).ownBlock = some g_) => P02 g_ e h_)
        have Q21 := Lib.hid (fun g_ (h_ : (Value.slice a2 j c2).ownBlock = some g_) (e : (Value.slice a1 j c1).ownBlock = some g_) => P12 g_ e h_)
        have GE0 := Lib.hid (fun g_ h_ => (NG.lt g_ h_).1)
        have GE1 := Lib.hid (fun g_ h_ => (NH.lt g_ h_).1)
        have GE2 := Lib.hid (fun g_ h_ => (ND.lt g_ h_).1)
        have n0o := NG.ne xo (by decide)
        have n1o := NH.ne xo (by decide)
        have n2o := ND.ne xo (by decide)
        have n0p := NG.ne xt (by decide)
        have n1p := NH.ne xt (by decide)
        have n2p := ND.ne xt (by decide)
        have HR0_9 := Lib.hid NG
        have HR1_9 := Lib.hid NH
        have HR2_9 := Lib.hid ND
        have HKN := Lib.hid KN0
        have HL0 := Lib.hid hlg
        have HL1 := Lib.hid hlh
        have HL2 := Lib.hid hld
        have HU := Lib.hid (And.intro u1_ (And.intro u2_ (And.intro u3_ u4_)))
        have cas : ((pa == 1) = true ∨ (pa == 1) = false) := by cases (pa == 1) <;> simp
        have cbs : ((pb == 1) = true ∨ (pb == 1) = false) := by cases (pb == 1) <;> simp
        clear hzl hzm hzw hzc hcs cx0 cx1 cx2 e1 e2 e3 e4 GO1 GT1 GO2 GT2 xb xo xt KN0 NG NH ND P01 P02 P12 hlg hlh hld cell0 cell1 cell2 hc0 hc1 hc2 u1_ u2_ u3_ u4_
        obtain ⟨o0_, o1_, o2_, o3_, o4_, of0_, of1_, of2_, of3_, of4_⟩ := at5 Ho9.out
        have on_ := ne_blk Ho9.out
        have om_ := Ne.symm (a := Bo) on_
        have ol_ := lt_blk Ho9.out
        obtain ⟨p0_, p1_, p2_, p3_, p4_, p5_, pf0_, pf1_, pf2_, pf3_, pf4_, pf5_⟩ := at6 Hp9.out
        have pn_ := ne_blk Hp9.out
        have pm_ := Ne.symm (a := Bp) pn_
        have pl_ := lt_blk Hp9.out
        go_upto_region 12 with (fail)
        refine wp_genc ?_
        intro v9 hv9
        have Xo : v9.heap[Bo]? = some (.cells #[.int .u64 r, .int .u64 n, .int .u64 f, .int .u64 oa, .int .u64 ob] 64 (0, 0)) := by
          rw [hv9]
          (repeat' (first | (with_reducible exact Ho9.out) | (with_reducible exact heap_alloc_new _ _) | (with_reducible exact blk_new (by first | (simp; done) | omega)) | (with_reducible refine blk_drew ?_) | (with_reducible apply put5_0) | (with_reducible apply put5_1) | (with_reducible apply put5_2) | (with_reducible apply put5_3) | (with_reducible apply put5_4) | (with_reducible refine blk_else (by omega) ?_) | (with_reducible refine blk_old ?_)))
        have Xp : v9.heap[Bp]? = some (.cells #[.int .u64 r, .int .u64 q, .int .u64 n, .int .u64 f, .int .u64 ta, .int .u64 tb] 68 (0, 0)) := by
          rw [hv9]
          (repeat' (first | (with_reducible exact Hp9.out) | (with_reducible exact heap_alloc_new _ _) | (with_reducible exact blk_new (by first | (simp; done) | omega)) | (with_reducible refine blk_drew ?_) | (with_reducible apply put6_0) | (with_reducible apply put6_1) | (with_reducible apply put6_2) | (with_reducible apply put6_3) | (with_reducible apply put6_4) | (with_reducible apply put6_5) | (with_reducible refine blk_else (by omega) ?_) | (with_reducible refine blk_old ?_)))
        have XR0 : NR .u64 41 v9 w.heap.size (.slice a0 j c0) g := by
          rw [hv9]
          (repeat' (first | (with_reducible exact HR0_9.out) | (with_reducible refine NR.drew ?_) | (with_reducible refine NR.drewN ?_) | (with_reducible refine NR.put ?_ (by assumption) _) | (with_reducible refine NR.alloc ?_ _)))
        have XR1 : NR .u64 41 v9 w.heap.size (.slice a1 j c1) h := by
          rw [hv9]
          (repeat' (first | (with_reducible exact HR1_9.out) | (with_reducible refine NR.drew ?_) | (with_reducible refine NR.drewN ?_) | (with_reducible refine NR.put ?_ (by assumption) _) | (with_reducible refine NR.alloc ?_ _)))
        have XR2 : NR .u64 41 v9 w.heap.size (.slice a2 j c2) d := by
          rw [hv9]
          (repeat' (first | (with_reducible exact HR2_9.out) | (with_reducible refine NR.drew ?_) | (with_reducible refine NR.drewN ?_) | (with_reducible refine NR.put ?_ (by assumption) _) | (with_reducible refine NR.alloc ?_ _)))
        have XB : Below w.heap.size w v9 := by
          rw [hv9]
          (repeat' (first | (with_reducible exact HB9.out) | (with_reducible exact Below.refl _ _) | (with_reducible refine below_drewN _ ?_) | (with_reducible refine Below.drew ?_) | (with_reducible refine Below.setCell ?_ (by first | (simp; done) | omega) _) | (with_reducible refine Below.alloc ?_ (by have := HB9.out.size; simp; omega) _)))
        have Xe : v9.heap[wr.heap.size]? = some (.cells #[.int .u64 ad, .int .u64 an, .int .i64 ac] 73 (0, 0)) := by
          rw [hv9]
          (repeat' (first | (with_reducible exact heap_alloc_new _ _) | (with_reducible exact blk_new (by first | (simp; done) | omega)) | (with_reducible refine blk_drew ?_) | (with_reducible apply put3_0) | (with_reducible apply put3_1) | (with_reducible apply put3_2) | (with_reducible refine blk_else (by omega) ?_) | (with_reducible refine blk_old ?_)))
        obtain ⟨Be, hBe⟩ : ∃ x, x = wr.heap.size := ⟨_, rfl⟩
        rw [← hBe] at Xe
        try rw [← hBe]
        have neo : ¬ Be = Bo := by have := lt_blk Ho9.out; omega
        have noe : ¬ Bo = Be := fun h => neo h.symm
        have nep : ¬ Be = Bp := by have := lt_blk Hp9.out; omega
        have npe : ¬ Bp = Be := fun h => nep h.symm
        have lee : w.heap.size ≤ Be := by have := HB9.out.size; omega
        clear hBe
        clear o0_ o1_ o2_ o3_ o4_ of0_ of1_ of2_ of3_ of4_ on_ om_ ol_ p0_ p1_ p2_ p3_ p4_ p5_ pf0_ pf1_ pf2_ pf3_ pf4_ pf5_ pn_ pm_ pl_ d0_ d1_ d2_
        clear hv9 Ho9 Hp9 HB9
        clear HR0_9 HR1_9 HR2_9
        have HR0_10 := Lib.hid XR0
        have HR1_10 := Lib.hid XR1
        have HR2_10 := Lib.hid XR2
        clear XR0 XR1 XR2
        have Ho10 := Lib.hid Xo
        have Hp10 := Lib.hid Xp
        have He10 := Lib.hid Xe
        have HB10 := Lib.hid XB
        clear Xo Xp Xe XB
        obtain ⟨o0_, o1_, o2_, o3_, o4_, of0_, of1_, of2_, of3_, of4_⟩ := at5 Ho10.out
        have on_ := ne_blk Ho10.out
        have om_ := Ne.symm (a := Bo) on_
        have ol_ := lt_blk Ho10.out
        obtain ⟨p0_, p1_, p2_, p3_, p4_, p5_, pf0_, pf1_, pf2_, pf3_, pf4_, pf5_⟩ := at6 Hp10.out
        have pn_ := ne_blk Hp10.out
        have pm_ := Ne.symm (a := Bp) pn_
        have pl_ := lt_blk Hp10.out
        obtain ⟨e0_, e1_, e2_, ef0_, ef1_, ef2_⟩ := at3 He10.out
        have en_ := ne_blk He10.out
        have em_ := Ne.symm (a := Be) en_
        have el_ := lt_blk He10.out
        go_region_with (first
          | (go_at_call 29; with_reducible refine (A1.out _).mono ?_; rintro e u1 ⟨rfl, hu1⟩; have Yo : u1.heap[Bo]? = some (.cells #[.int .u64 r, .int .u64 n, .int .u64 f, .int .u64 oa, .int .u64 ob] 64 (0, 0)) := blk_call hu1 (by (repeat' (first | (with_reducible exact Ho10.out) | (with_reducible exact heap_alloc_new _ _) | (with_reducible exact blk_new (by first | (simp; done) | omega)) | (with_reducible refine blk_drew ?_) | (with_reducible apply put5_0) | (with_reducible apply put5_1) | (with_reducible apply put5_2) | (with_reducible apply put5_3) | (with_reducible apply put5_4) | (with_reducible refine blk_else (by omega) ?_) | (with_reducible refine blk_old ?_)))); have Yp : u1.heap[Bp]? = some (.cells #[.int .u64 r, .int .u64 q, .int .u64 n, .int .u64 f, .int .u64 ta, .int .u64 tb] 68 (0, 0)) := blk_call hu1 (by (repeat' (first | (with_reducible exact Hp10.out) | (with_reducible exact heap_alloc_new _ _) | (with_reducible exact blk_new (by first | (simp; done) | omega)) | (with_reducible refine blk_drew ?_) | (with_reducible apply put6_0) | (with_reducible apply put6_1) | (with_reducible apply put6_2) | (with_reducible apply put6_3) | (with_reducible apply put6_4) | (with_reducible apply put6_5) | (with_reducible refine blk_else (by omega) ?_) | (with_reducible refine blk_old ?_)))); have Ye : u1.heap[Be]? = some (.cells #[.int .u64 ad, .int .u64 an, .int .i64 ac] 73 (0, 0)) := blk_call hu1 (by (repeat' (first | (with_reducible exact He10.out) | (with_reducible exact heap_alloc_new _ _) | (with_reducible exact blk_new (by first | (simp; done) | omega)) | (with_reducible refine blk_drew ?_) | (with_reducible apply put3_0) | (with_reducible apply put3_1) | (with_reducible apply put3_2) | (with_reducible refine blk_else (by omega) ?_) | (with_reducible refine blk_old ?_)))); have YB := Lib.hid (show Below w.heap.size w u1 from bel_call hu1 (by (repeat' (first | (with_reducible exact HB10.out) | (with_reducible refine below_drewN _ ?_) | (with_reducible refine Below.drew ?_)))) (Nat.le_refl _)); have HRY0 := Lib.hid (show NR .u64 41 u1 w.heap.size (.slice a0 j c0) g from NR.below (by (repeat' (first | (with_reducible exact HR0_10.out) | (with_reducible refine NR.drew ?_)))) hu1); have HRY1 := Lib.hid (show NR .u64 41 u1 w.heap.size (.slice a1 j c1) h from NR.below (by (repeat' (first | (with_reducible exact HR1_10.out) | (with_reducible refine NR.drew ?_)))) hu1); have HRY2 := Lib.hid (show NR .u64 41 u1 w.heap.size (.slice a2 j c2) d from NR.below (by (repeat' (first | (with_reducible exact HR2_10.out) | (with_reducible refine NR.drew ?_)))) hu1); obtain ⟨o0c, o1c, o2c, o3c, o4c, of0c, of1c, of2c, of3c, of4c⟩ := at5 Yo; have olc := lt_blk Yo; have onc := ne_blk Yo; have omc := Ne.symm (a := Bo) onc; obtain ⟨p0c, p1c, p2c, p3c, p4c, p5c, pf0c, pf1c, pf2c, pf3c, pf4c, pf5c⟩ := at6 Yp; have plc := lt_blk Yp; have pnc := ne_blk Yp; have pmc := Ne.symm (a := Bp) pnc; have HYo := Lib.hid Yo; have HYp := Lib.hid Yp; have HYe := Lib.hid Ye; clear hu1 Yo Yp Ye)
          | (go_at_call 30; with_reducible refine (A2.out _).mono ?_; rintro e u2 ⟨rfl, hu2⟩; have Zo : u2.heap[Bo]? = some (.cells #[.int .u64 r, .int .u64 n, .int .u64 f, .int .u64 oa, .int .u64 ob] 64 (0, 0)) := blk_call hu2 (by (repeat' (first | (with_reducible exact HYo.out) | (with_reducible exact heap_alloc_new _ _) | (with_reducible exact blk_new (by first | (simp; done) | omega)) | (with_reducible refine blk_drew ?_) | (with_reducible apply put5_0) | (with_reducible apply put5_1) | (with_reducible apply put5_2) | (with_reducible apply put5_3) | (with_reducible apply put5_4) | (with_reducible refine blk_else (by omega) ?_) | (with_reducible refine blk_old ?_)))); have Zp : u2.heap[Bp]? = some (.cells #[.int .u64 r, .int .u64 q, .int .u64 n, .int .u64 f, .int .u64 ta, .int .u64 tb] 68 (0, 0)) := blk_call hu2 (by (repeat' (first | (with_reducible exact HYp.out) | (with_reducible exact heap_alloc_new _ _) | (with_reducible exact blk_new (by first | (simp; done) | omega)) | (with_reducible refine blk_drew ?_) | (with_reducible apply put6_0) | (with_reducible apply put6_1) | (with_reducible apply put6_2) | (with_reducible apply put6_3) | (with_reducible apply put6_4) | (with_reducible apply put6_5) | (with_reducible refine blk_else (by omega) ?_) | (with_reducible refine blk_old ?_)))); have Ze : u2.heap[Be]? = some (.cells #[.int .u64 ad, .int .u64 an, .int .i64 ac] 73 (0, 0)) := blk_call hu2 (by (repeat' (first | (with_reducible exact HYe.out) | (with_reducible exact heap_alloc_new _ _) | (with_reducible exact blk_new (by first | (simp; done) | omega)) | (with_reducible refine blk_drew ?_) | (with_reducible apply put3_0) | (with_reducible apply put3_1) | (with_reducible apply put3_2) | (with_reducible refine blk_else (by omega) ?_) | (with_reducible refine blk_old ?_)))); have HB20 := Lib.hid (show Below w.heap.size w u2 from bel_call hu2 (by (repeat' (first | (with_reducible exact YB.out) | (with_reducible refine below_drewN _ ?_) | (with_reducible refine Below.drew ?_)))) (Nat.le_refl _)); have HR0_20 := Lib.hid (show NR .u64 41 u2 w.heap.size (.slice a0 j c0) g from NR.below (by (repeat' (first | (with_reducible exact HRY0.out) | (with_reducible refine NR.drew ?_)))) hu2); have HR1_20 := Lib.hid (show NR .u64 41 u2 w.heap.size (.slice a1 j c1) h from NR.below (by (repeat' (first | (with_reducible exact HRY1.out) | (with_reducible refine NR.drew ?_)))) hu2); have HR2_20 := Lib.hid (show NR .u64 41 u2 w.heap.size (.slice a2 j c2) d from NR.below (by (repeat' (first | (with_reducible exact HRY2.out) | (with_reducible refine NR.drew ?_)))) hu2); clear o0c o1c o2c o3c o4c of0c of1c of2c of3c of4c olc onc omc p0c p1c p2c p3c p4c p5c pf0c pf1c pf2c pf3c pf4c pf5c plc pnc pmc; obtain ⟨o0c, o1c, o2c, o3c, o4c, of0c, of1c, of2c, of3c, of4c⟩ := at5 Zo; have olc := lt_blk Zo; have onc := ne_blk Zo; have omc := Ne.symm (a := Bo) onc; obtain ⟨p0c, p1c, p2c, p3c, p4c, p5c, pf0c, pf1c, pf2c, pf3c, pf4c, pf5c⟩ := at6 Zp; have plc := lt_blk Zp; have pnc := ne_blk Zp; have pmc := Ne.symm (a := Bp) pnc; have Ho20 := Lib.hid Zo; have Hp20 := Lib.hid Zp; have He20 := Lib.hid Ze; clear hu2 Zo Zp Ze HYo HYp HYe YB HRY0 HRY1 HRY2)
          | fail)
        all_goals
          clear Ho10 Hp10 He10 HB10 HR0_10 HR1_10 HR2_10 o0_ o1_ o2_ o3_ o4_ of0_ of1_ of2_ of3_ of4_ on_ om_ ol_ p0_ p1_ p2_ p3_ p4_ p5_ pf0_ pf1_ pf2_ pf3_ pf4_ pf5_ pn_ pm_ pl_ e0_ e1_ e2_ ef0_ ef1_ ef2_ en_ em_ el_
          go_upto_region 13 with (fail)
          refine wp_genc ?_
          intro v20 hv20
          have Xo : v20.heap[Bo]? = some (.cells #[.int .u64 r, .int .u64 n, .int .u64 f, .int .u64 oa1, .int .u64 ob1] 64 (0, 0)) := by
            rw [hv20]
            (repeat' (first | (with_reducible exact Ho20.out) | (with_reducible exact heap_alloc_new _ _) | (with_reducible exact blk_new (by first | (simp; done) | omega)) | (with_reducible refine blk_drew ?_) | (with_reducible apply put5_0) | (with_reducible apply put5_1) | (with_reducible apply put5_2) | (with_reducible apply put5_3) | (with_reducible apply put5_4) | (with_reducible refine blk_else (by omega) ?_) | (with_reducible refine blk_old ?_)))
          have Xp : v20.heap[Bp]? = some (.cells #[.int .u64 r, .int .u64 q, .int .u64 n, .int .u64 f, .int .u64 ta1, .int .u64 tb1] 68 (0, 0)) := by
            rw [hv20]
            (repeat' (first | (with_reducible exact Hp20.out) | (with_reducible exact heap_alloc_new _ _) | (with_reducible exact blk_new (by first | (simp; done) | omega)) | (with_reducible refine blk_drew ?_) | (with_reducible apply put6_0) | (with_reducible apply put6_1) | (with_reducible apply put6_2) | (with_reducible apply put6_3) | (with_reducible apply put6_4) | (with_reducible apply put6_5) | (with_reducible refine blk_else (by omega) ?_) | (with_reducible refine blk_old ?_)))
          have Xe : v20.heap[Be]? = some (.cells #[.int .u64 ad, .int .u64 an, .int .i64 ac] 73 (0, 0)) := by
            rw [hv20]
            (repeat' (first | (with_reducible exact He20.out) | (with_reducible exact heap_alloc_new _ _) | (with_reducible exact blk_new (by first | (simp; done) | omega)) | (with_reducible refine blk_drew ?_) | (with_reducible apply put3_0) | (with_reducible apply put3_1) | (with_reducible apply put3_2) | (with_reducible refine blk_else (by omega) ?_) | (with_reducible refine blk_old ?_)))
          have XR0 : NR .u64 41 v20 w.heap.size (.slice a0 j c0) g := by
            rw [hv20]
            (repeat' (first | (with_reducible exact HR0_20.out) | (with_reducible refine NR.drew ?_) | (with_reducible refine NR.drewN ?_) | (with_reducible refine NR.put ?_ (by assumption) _) | (with_reducible refine NR.alloc ?_ _)))
          have XR1 : NR .u64 41 v20 w.heap.size (.slice a1 j c1) h := by
            rw [hv20]
            (repeat' (first | (with_reducible exact HR1_20.out) | (with_reducible refine NR.drew ?_) | (with_reducible refine NR.drewN ?_) | (with_reducible refine NR.put ?_ (by assumption) _) | (with_reducible refine NR.alloc ?_ _)))
          have XR2 : NR .u64 41 v20 w.heap.size (.slice a2 j c2) d := by
            rw [hv20]
            (repeat' (first | (with_reducible exact HR2_20.out) | (with_reducible refine NR.drew ?_) | (with_reducible refine NR.drewN ?_) | (with_reducible refine NR.put ?_ (by assumption) _) | (with_reducible refine NR.alloc ?_ _)))
          have XB : Below w.heap.size w v20 := by
            rw [hv20]
            (repeat' (first | (with_reducible exact HB20.out) | (with_reducible exact Below.refl _ _) | (with_reducible refine below_drewN _ ?_) | (with_reducible refine Below.drew ?_) | (with_reducible refine Below.setCell ?_ (by first | (simp; done) | omega) _) | (with_reducible refine Below.alloc ?_ (by have := HB20.out.size; simp; omega) _)))
          clear hv20 Ho20 Hp20 He20 HB20
          clear HR0_20 HR1_20 HR2_20
          have HR0_21 := Lib.hid XR0
          have HR1_21 := Lib.hid XR1
          have HR2_21 := Lib.hid XR2
          clear XR0 XR1 XR2
          have Ho21 := Lib.hid Xo
          have Hp21 := Lib.hid Xp
          have He21 := Lib.hid Xe
          have HB21 := Lib.hid XB
          clear Xo Xp Xe XB
          obtain ⟨o0_, o1_, o2_, o3_, o4_, of0_, of1_, of2_, of3_, of4_⟩ := at5 Ho21.out
          have on_ := ne_blk Ho21.out
          have om_ := Ne.symm (a := Bo) on_
          have ol_ := lt_blk Ho21.out
          obtain ⟨p0_, p1_, p2_, p3_, p4_, p5_, pf0_, pf1_, pf2_, pf3_, pf4_, pf5_⟩ := at6 Hp21.out
          have pn_ := ne_blk Hp21.out
          have pm_ := Ne.symm (a := Bp) pn_
          have pl_ := lt_blk Hp21.out
          obtain ⟨e0_, e1_, e2_, ef0_, ef1_, ef2_⟩ := at3 He21.out
          have en_ := ne_blk He21.out
          have em_ := Ne.symm (a := Be) en_
          have el_ := lt_blk He21.out
          clear o0c o1c o2c o3c o4c of0c of1c of2c of3c of4c olc onc omc p0c p1c p2c p3c p4c p5c pf0c pf1c pf2c pf3c pf4c pf5c plc pnc pmc
          go_wp2_with fail
          refine cl_gen ?_
          intro v21 hv21
          have Xo : v21.heap[Bo]? = some (.cells #[.int .u64 r, .int .u64 n, .int .u64 f, .int .u64 oa1, .int .u64 ob1] 64 (0, 0)) := by
            rw [hv21]
            (repeat' (first | (with_reducible exact Ho21.out) | (with_reducible exact heap_alloc_new _ _) | (with_reducible exact blk_new (by first | (simp; done) | omega)) | (with_reducible refine blk_drew ?_) | (with_reducible apply put5_0) | (with_reducible apply put5_1) | (with_reducible apply put5_2) | (with_reducible apply put5_3) | (with_reducible apply put5_4) | (with_reducible refine blk_else (by omega) ?_) | (with_reducible refine blk_old ?_)))
          have Xp : v21.heap[Bp]? = some (.cells #[.int .u64 r, .int .u64 q, .int .u64 n, .int .u64 f, .int .u64 ta1, .int .u64 tb1] 68 (0, 0)) := by
            rw [hv21]
            (repeat' (first | (with_reducible exact Hp21.out) | (with_reducible exact heap_alloc_new _ _) | (with_reducible exact blk_new (by first | (simp; done) | omega)) | (with_reducible refine blk_drew ?_) | (with_reducible apply put6_0) | (with_reducible apply put6_1) | (with_reducible apply put6_2) | (with_reducible apply put6_3) | (with_reducible apply put6_4) | (with_reducible apply put6_5) | (with_reducible refine blk_else (by omega) ?_) | (with_reducible refine blk_old ?_)))
          have Xe : v21.heap[Be]? = some (.cells #[.int .u64 ad, .int .u64 an, .int .i64 ac] 73 (0, 0)) := by
            rw [hv21]
            (repeat' (first | (with_reducible exact He21.out) | (with_reducible exact heap_alloc_new _ _) | (with_reducible exact blk_new (by first | (simp; done) | omega)) | (with_reducible refine blk_drew ?_) | (with_reducible apply put3_0) | (with_reducible apply put3_1) | (with_reducible apply put3_2) | (with_reducible refine blk_else (by omega) ?_) | (with_reducible refine blk_old ?_)))
          have XR0 : NR .u64 41 v21 w.heap.size (.slice a0 j c0) g := by
            rw [hv21]
            (repeat' (first | (with_reducible exact HR0_21.out) | (with_reducible refine NR.drew ?_) | (with_reducible refine NR.drewN ?_) | (with_reducible refine NR.put ?_ (by assumption) _) | (with_reducible refine NR.alloc ?_ _)))
          have XR1 : NR .u64 41 v21 w.heap.size (.slice a1 j c1) h := by
            rw [hv21]
            (repeat' (first | (with_reducible exact HR1_21.out) | (with_reducible refine NR.drew ?_) | (with_reducible refine NR.drewN ?_) | (with_reducible refine NR.put ?_ (by assumption) _) | (with_reducible refine NR.alloc ?_ _)))
          have XR2 : NR .u64 41 v21 w.heap.size (.slice a2 j c2) d := by
            rw [hv21]
            (repeat' (first | (with_reducible exact HR2_21.out) | (with_reducible refine NR.drew ?_) | (with_reducible refine NR.drewN ?_) | (with_reducible refine NR.put ?_ (by assumption) _) | (with_reducible refine NR.alloc ?_ _)))
          have XB : Below w.heap.size w v21 := by
            rw [hv21]
            (repeat' (first | (with_reducible exact HB21.out) | (with_reducible exact Below.refl _ _) | (with_reducible refine below_drewN _ ?_) | (with_reducible refine Below.drew ?_) | (with_reducible refine Below.setCell ?_ (by first | (simp; done) | omega) _) | (with_reducible refine Below.alloc ?_ (by have := HB21.out.size; simp; omega) _)))
          clear o0_ o1_ o2_ o3_ o4_ of0_ of1_ of2_ of3_ of4_ on_ om_ ol_ p0_ p1_ p2_ p3_ p4_ p5_ pf0_ pf1_ pf2_ pf3_ pf4_ pf5_ pn_ pm_ pl_ e0_ e1_ e2_ ef0_ ef1_ ef2_ en_ em_ el_
          clear hv21 Ho21 Hp21 He21 HB21
          clear HR0_21 HR1_21 HR2_21
          refine (B1.out _).mono ?_
          rintro e w22 ⟨rfl, bb⟩
          have HR0_22 := Lib.hid (NR.below XR0 bb)
          have HR1_22 := Lib.hid (NR.below XR1 bb)
          have HR2_22 := Lib.hid (NR.below XR2 bb)
          clear XR0 XR1 XR2
          have Ho22 := Lib.hid (blk_call bb Xo)
          have Hp22 := Lib.hid (blk_call bb Xp)
          have He22 := Lib.hid (blk_call bb Xe)
          have HB22 := Lib.hid (bel_onto XB bb XB.size)
          clear Xo Xp Xe XB bb
          obtain ⟨o0_, o1_, o2_, o3_, o4_, of0_, of1_, of2_, of3_, of4_⟩ := at5 Ho22.out
          have on_ := ne_blk Ho22.out
          have om_ := Ne.symm (a := Bo) on_
          have ol_ := lt_blk Ho22.out
          obtain ⟨p0_, p1_, p2_, p3_, p4_, p5_, pf0_, pf1_, pf2_, pf3_, pf4_, pf5_⟩ := at6 Hp22.out
          have pn_ := ne_blk Hp22.out
          have pm_ := Ne.symm (a := Bp) pn_
          have pl_ := lt_blk Hp22.out
          obtain ⟨e0_, e1_, e2_, ef0_, ef1_, ef2_⟩ := at3 He22.out
          have en_ := ne_blk He22.out
          have em_ := Ne.symm (a := Be) en_
          have el_ := lt_blk He22.out
          go_wp2_with fail
          refine cl_gen ?_
          intro v22 hv22
          have Xo : v22.heap[Bo]? = some (.cells #[.int .u64 r, .int .u64 n, .int .u64 f, .int .u64 oa2, .int .u64 ob2] 64 (0, 0)) := by
            rw [hv22]
            (repeat' (first | (with_reducible exact Ho22.out) | (with_reducible exact heap_alloc_new _ _) | (with_reducible exact blk_new (by first | (simp; done) | omega)) | (with_reducible refine blk_drew ?_) | (with_reducible apply put5_0) | (with_reducible apply put5_1) | (with_reducible apply put5_2) | (with_reducible apply put5_3) | (with_reducible apply put5_4) | (with_reducible refine blk_else (by omega) ?_) | (with_reducible refine blk_old ?_)))
          have Xp : v22.heap[Bp]? = some (.cells #[.int .u64 r, .int .u64 q, .int .u64 n, .int .u64 f, .int .u64 ta1, .int .u64 tb1] 68 (0, 0)) := by
            rw [hv22]
            (repeat' (first | (with_reducible exact Hp22.out) | (with_reducible exact heap_alloc_new _ _) | (with_reducible exact blk_new (by first | (simp; done) | omega)) | (with_reducible refine blk_drew ?_) | (with_reducible apply put6_0) | (with_reducible apply put6_1) | (with_reducible apply put6_2) | (with_reducible apply put6_3) | (with_reducible apply put6_4) | (with_reducible apply put6_5) | (with_reducible refine blk_else (by omega) ?_) | (with_reducible refine blk_old ?_)))
          have Xe : v22.heap[Be]? = some (.cells #[.int .u64 ad, .int .u64 an, .int .i64 ac] 73 (0, 0)) := by
            rw [hv22]
            (repeat' (first | (with_reducible exact He22.out) | (with_reducible exact heap_alloc_new _ _) | (with_reducible exact blk_new (by first | (simp; done) | omega)) | (with_reducible refine blk_drew ?_) | (with_reducible apply put3_0) | (with_reducible apply put3_1) | (with_reducible apply put3_2) | (with_reducible refine blk_else (by omega) ?_) | (with_reducible refine blk_old ?_)))
          have XR0 : NR .u64 41 v22 w.heap.size (.slice a0 j c0) g := by
            rw [hv22]
            (repeat' (first | (with_reducible exact HR0_22.out) | (with_reducible refine NR.drew ?_) | (with_reducible refine NR.drewN ?_) | (with_reducible refine NR.put ?_ (by assumption) _) | (with_reducible refine NR.alloc ?_ _)))
          have XR1 : NR .u64 41 v22 w.heap.size (.slice a1 j c1) h := by
            rw [hv22]
            (repeat' (first | (with_reducible exact HR1_22.out) | (with_reducible refine NR.drew ?_) | (with_reducible refine NR.drewN ?_) | (with_reducible refine NR.put ?_ (by assumption) _) | (with_reducible refine NR.alloc ?_ _)))
          have XR2 : NR .u64 41 v22 w.heap.size (.slice a2 j c2) d := by
            rw [hv22]
            (repeat' (first | (with_reducible exact HR2_22.out) | (with_reducible refine NR.drew ?_) | (with_reducible refine NR.drewN ?_) | (with_reducible refine NR.put ?_ (by assumption) _) | (with_reducible refine NR.alloc ?_ _)))
          have XB : Below w.heap.size w v22 := by
            rw [hv22]
            (repeat' (first | (with_reducible exact HB22.out) | (with_reducible exact Below.refl _ _) | (with_reducible refine below_drewN _ ?_) | (with_reducible refine Below.drew ?_) | (with_reducible refine Below.setCell ?_ (by first | (simp; done) | omega) _) | (with_reducible refine Below.alloc ?_ (by have := HB22.out.size; simp; omega) _)))
          clear o0_ o1_ o2_ o3_ o4_ of0_ of1_ of2_ of3_ of4_ on_ om_ ol_ p0_ p1_ p2_ p3_ p4_ p5_ pf0_ pf1_ pf2_ pf3_ pf4_ pf5_ pn_ pm_ pl_ e0_ e1_ e2_ ef0_ ef1_ ef2_ en_ em_ el_
          clear hv22 Ho22 Hp22 He22 HB22
          clear HR0_22 HR1_22 HR2_22
          refine (B2.out _).mono ?_
          rintro e w23 ⟨rfl, bb⟩
          have HR0_23 := Lib.hid (NR.below XR0 bb)
          have HR1_23 := Lib.hid (NR.below XR1 bb)
          have HR2_23 := Lib.hid (NR.below XR2 bb)
          clear XR0 XR1 XR2
          have Ho23 := Lib.hid (blk_call bb Xo)
          have Hp23 := Lib.hid (blk_call bb Xp)
          have He23 := Lib.hid (blk_call bb Xe)
          have HB23 := Lib.hid (bel_onto XB bb XB.size)
          clear Xo Xp Xe XB bb
          obtain ⟨o0_, o1_, o2_, o3_, o4_, of0_, of1_, of2_, of3_, of4_⟩ := at5 Ho23.out
          have on_ := ne_blk Ho23.out
          have om_ := Ne.symm (a := Bo) on_
          have ol_ := lt_blk Ho23.out
          obtain ⟨p0_, p1_, p2_, p3_, p4_, p5_, pf0_, pf1_, pf2_, pf3_, pf4_, pf5_⟩ := at6 Hp23.out
          have pn_ := ne_blk Hp23.out
          have pm_ := Ne.symm (a := Bp) pn_
          have pl_ := lt_blk Hp23.out
          obtain ⟨e0_, e1_, e2_, ef0_, ef1_, ef2_⟩ := at3 He23.out
          have en_ := ne_blk He23.out
          have em_ := Ne.symm (a := Be) en_
          have el_ := lt_blk He23.out
          rcases cas with ca_ | ca_
          · rcases cbs with cb_ | cb_
            · go_upto_region 21 with (fail)
              refine wp_genc ?_
              intro v23 hv23
              have Xo : v23.heap[Bo]? = some (.cells #[.int .u64 r, .int .u64 n, .int .u64 f, .int .u64 oa2, .int .u64 ob2] 64 (0, 0)) := by
                rw [hv23]
                (repeat' (first | (with_reducible exact Ho23.out) | (with_reducible exact heap_alloc_new _ _) | (with_reducible exact blk_new (by first | (simp; done) | omega)) | (with_reducible refine blk_drew ?_) | (with_reducible apply put5_0) | (with_reducible apply put5_1) | (with_reducible apply put5_2) | (with_reducible apply put5_3) | (with_reducible apply put5_4) | (with_reducible refine blk_else (by omega) ?_) | (with_reducible refine blk_old ?_)))
              have Xp : v23.heap[Bp]? = some (.cells #[.int .u64 r, .int .u64 q, .int .u64 n, .int .u64 f, .int .u64 ta2, .int .u64 tb2] 68 (0, 0)) := by
                rw [hv23]
                (repeat' (first | (with_reducible exact Hp23.out) | (with_reducible exact heap_alloc_new _ _) | (with_reducible exact blk_new (by first | (simp; done) | omega)) | (with_reducible refine blk_drew ?_) | (with_reducible apply put6_0) | (with_reducible apply put6_1) | (with_reducible apply put6_2) | (with_reducible apply put6_3) | (with_reducible apply put6_4) | (with_reducible apply put6_5) | (with_reducible refine blk_else (by omega) ?_) | (with_reducible refine blk_old ?_)))
              have Xe : v23.heap[Be]? = some (.cells #[.int .u64 ad, .int .u64 an, .int .i64 ac] 73 (0, 0)) := by
                rw [hv23]
                (repeat' (first | (with_reducible exact He23.out) | (with_reducible exact heap_alloc_new _ _) | (with_reducible exact blk_new (by first | (simp; done) | omega)) | (with_reducible refine blk_drew ?_) | (with_reducible apply put3_0) | (with_reducible apply put3_1) | (with_reducible apply put3_2) | (with_reducible refine blk_else (by omega) ?_) | (with_reducible refine blk_old ?_)))
              have XR0 : NR .u64 41 v23 w.heap.size (.slice a0 j c0) g := by
                rw [hv23]
                (repeat' (first | (with_reducible exact HR0_23.out) | (with_reducible refine NR.drew ?_) | (with_reducible refine NR.drewN ?_) | (with_reducible refine NR.put ?_ (by assumption) _) | (with_reducible refine NR.alloc ?_ _)))
              have XR1 : NR .u64 41 v23 w.heap.size (.slice a1 j c1) h := by
                rw [hv23]
                (repeat' (first | (with_reducible exact HR1_23.out) | (with_reducible refine NR.drew ?_) | (with_reducible refine NR.drewN ?_) | (with_reducible refine NR.put ?_ (by assumption) _) | (with_reducible refine NR.alloc ?_ _)))
              have XR2 : NR .u64 41 v23 w.heap.size (.slice a2 j c2) d := by
                rw [hv23]
                (repeat' (first | (with_reducible exact HR2_23.out) | (with_reducible refine NR.drew ?_) | (with_reducible refine NR.drewN ?_) | (with_reducible refine NR.put ?_ (by assumption) _) | (with_reducible refine NR.alloc ?_ _)))
              have XB : Below w.heap.size w v23 := by
                rw [hv23]
                (repeat' (first | (with_reducible exact HB23.out) | (with_reducible exact Below.refl _ _) | (with_reducible refine below_drewN _ ?_) | (with_reducible refine Below.drew ?_) | (with_reducible refine Below.setCell ?_ (by first | (simp; done) | omega) _) | (with_reducible refine Below.alloc ?_ (by have := HB23.out.size; simp; omega) _)))
              clear o0_ o1_ o2_ o3_ o4_ of0_ of1_ of2_ of3_ of4_ on_ om_ ol_ p0_ p1_ p2_ p3_ p4_ p5_ pf0_ pf1_ pf2_ pf3_ pf4_ pf5_ pn_ pm_ pl_ e0_ e1_ e2_ ef0_ ef1_ ef2_ en_ em_ el_
              clear hv23 Ho23 Hp23 He23 HB23
              clear HR0_23 HR1_23 HR2_23
              have HR0_24 := Lib.hid XR0
              have HR1_24 := Lib.hid XR1
              have HR2_24 := Lib.hid XR2
              clear XR0 XR1 XR2
              have Ho24 := Lib.hid Xo
              have Hp24 := Lib.hid Xp
              have He24 := Lib.hid Xe
              have HB24 := Lib.hid XB
              clear Xo Xp Xe XB
              obtain ⟨o0_, o1_, o2_, o3_, o4_, of0_, of1_, of2_, of3_, of4_⟩ := at5 Ho24.out
              have on_ := ne_blk Ho24.out
              have om_ := Ne.symm (a := Bo) on_
              have ol_ := lt_blk Ho24.out
              obtain ⟨p0_, p1_, p2_, p3_, p4_, p5_, pf0_, pf1_, pf2_, pf3_, pf4_, pf5_⟩ := at6 Hp24.out
              have pn_ := ne_blk Hp24.out
              have pm_ := Ne.symm (a := Bp) pn_
              have pl_ := lt_blk Hp24.out
              obtain ⟨e0_, e1_, e2_, ef0_, ef1_, ef2_⟩ := at3 He24.out
              have en_ := ne_blk He24.out
              have em_ := Ne.symm (a := Be) en_
              have el_ := lt_blk He24.out
              have O0 := Lib.hid (show v23.ownsRow w.heap.size 41 1 (.slice a0 j c0) j (g.map (Value.int .u64)) from by have h_ := HR0_24.out; unfold NR at h_; rw [HL0.out] at h_; exact h_)
              have L0 := Lib.hid (fun g_ h_ => (HR0_24.out.lt g_ h_).2)
              have NE0o := Lib.hid n0o
              have NE0p := Lib.hid n0p
              have tok0 : True := trivial
              have O1 := Lib.hid (show v23.ownsRow w.heap.size 41 1 (.slice a1 j c1) j (h.map (Value.int .u64)) from by have h_ := HR1_24.out; unfold NR at h_; rw [HL1.out] at h_; exact h_)
              have L1 := Lib.hid (fun g_ h_ => (HR1_24.out.lt g_ h_).2)
              have NE1o := Lib.hid n1o
              have NE1p := Lib.hid n1p
              have tok1 : True := trivial
              have O2 := Lib.hid (show v23.ownsRow w.heap.size 41 1 (.slice a2 j c2) j (d.map (Value.int .u64)) from by have h_ := HR2_24.out; unfold NR at h_; rw [HL2.out] at h_; exact h_)
              have L2 := Lib.hid (fun g_ h_ => (HR2_24.out.lt g_ h_).2)
              have NE2o := Lib.hid n2o
              have NE2p := Lib.hid n2p
              have tok2 : True := trivial
              have OC0 := Lib.hid (show ∀ u ∈ ([.int .u64 an] : List Value), u.oneCell' = true from fun u hu => by rw [List.mem_singleton.1 hu]; rfl)
              have OC1 := Lib.hid (show ∀ u ∈ ([.int .u64 an] : List Value), u.oneCell' = true from fun u hu => by rw [List.mem_singleton.1 hu]; rfl)
              have OC2 := Lib.hid (show ∀ u ∈ ([.int .u64 tt] : List Value), u.oneCell' = true from fun u hu => by rw [List.mem_singleton.1 hu]; rfl)
              have m63 : j + 1 ≤ maxLen := by unfold maxLen; omega
              have mby : (j + 1) * 8 ≤ 140737488355328 := by omega
              obtain ⟨u1_, u2_, u3_, u4_⟩ := HU.out
              have KN2 := Lib.hid (HKN.out.snoc HGO.out HGT.out (x := an) (y := an) (z := tt) (by rcases u3_ with ⟨z1, z2⟩ | ⟨z1, z2⟩ <;> simp at ca_ <;> omega) (by rcases u3_ with ⟨z1, z2⟩ | ⟨z1, z2⟩ <;> simp at ca_ <;> omega) (by rcases u4_ with ⟨z1, z2⟩ | ⟨z1, z2⟩ <;> simp at cb_ <;> omega) (by rcases u4_ with ⟨z1, z2⟩ | ⟨z1, z2⟩ <;> simp at cb_ <;> omega) (by omega) (by omega) (by omega) (by omega) (by omega) (by omega) : KG r q n f (j + 1) oa2 ob2 ta2 tb2 (g ++ [an]) (h ++ [an]) (d ++ [tt]))
              clear u1_ u2_ u3_ u4_ HU HKN
              clear o0_ o1_ o2_ o3_ o4_ of0_ of1_ of2_ of3_ of4_ on_ om_ ol_ p0_ p1_ p2_ p3_ p4_ p5_ pf0_ pf1_ pf2_ pf3_ pf4_ pf5_ pn_ pm_ pl_ e0_ e1_ e2_ ef0_ ef1_ ef2_ en_ em_ el_
              go_wp2_with (first
                | (at_builtin; have _t := tok0; refine wpList_append_lies _ rfl _ _ 89 rfl w.heap.size 41 i0 (.int .u64 0) 1 8 Try.underlying89 hi hz0 hz1 hz2 rfl (by decide) (.slice a0 j c0) j (g.map (Value.int .u64)) (by rfl) (by (repeat' (first | (with_reducible exact O0.out) | (with_reducible refine World.ownsRow.alloc ?_ _)))) _ 1 1 [.int .u64 an] (by rfl) (by rfl) (by exact World.news_of_block (cs := #[.int .u64 an]) (by (repeat' (first | (with_reducible exact heap_alloc_new _ _) | (with_reducible exact blk_new (by first | (simp; done) | omega)) | (with_reducible refine blk_drew ?_) | (with_reducible refine blk_drewNr ?_) | (with_reducible refine blk_old ?_))))) OC0.out (by decide) m63 mby (by have h0 := HB24.out.size; first | (simp; omega) | (have h9 := hgrow0.size; simp at h9 ⊢; omega) | (have h9 := hgrow0.size; have h8 := hgrow1.size; simp at h9 h8 ⊢; omega)) _ rfl ?_; intro g0 cap0 W0 hown0 hgrow0 hat0 hlt0; clear tok0)
                | (at_builtin; have _t := tok1; refine wpList_append_lies _ rfl _ _ 89 rfl w.heap.size 41 i0 (.int .u64 0) 1 8 Try.underlying89 hi hz0 hz1 hz2 rfl (by decide) (.slice a1 j c1) j (h.map (Value.int .u64)) (by rfl) (by (repeat' (first | (with_reducible exact O1.out) | (with_reducible refine World.ownsRow.alloc ?_ _) | (refine own_grown hgrow0 Q10.out ?_)))) _ 1 1 [.int .u64 an] (by rfl) (by rfl) (by exact World.news_of_block (cs := #[.int .u64 an]) (by (repeat' (first | (with_reducible exact heap_alloc_new _ _) | (with_reducible exact blk_new (by first | (simp; done) | omega)) | (with_reducible refine blk_drew ?_) | (with_reducible refine blk_drewNr ?_) | (with_reducible refine blk_old ?_))))) OC1.out (by decide) m63 mby (by have h0 := HB24.out.size; first | (simp; omega) | (have h9 := hgrow0.size; simp at h9 ⊢; omega) | (have h9 := hgrow0.size; have h8 := hgrow1.size; simp at h9 h8 ⊢; omega)) _ rfl ?_; intro g1 cap1 W1 hown1 hgrow1 hat1 hlt1; clear tok1)
                | (at_builtin; have _t := tok2; refine wpList_append_lies _ rfl _ _ 89 rfl w.heap.size 41 i0 (.int .u64 0) 1 8 Try.underlying89 hi hz0 hz1 hz2 rfl (by decide) (.slice a2 j c2) j (d.map (Value.int .u64)) (by rfl) (by (repeat' (first | (with_reducible exact O2.out) | (with_reducible refine World.ownsRow.alloc ?_ _) | (refine own_grown hgrow0 Q20.out ?_) | (refine own_grown hgrow1 Q21.out ?_)))) _ 1 1 [.int .u64 tt] (by rfl) (by rfl) (by exact World.news_of_block (cs := #[.int .u64 tt]) (by (repeat' (first | (with_reducible exact heap_alloc_new _ _) | (with_reducible exact blk_new (by first | (simp; done) | omega)) | (with_reducible refine blk_drew ?_) | (with_reducible refine blk_drewNr ?_) | (with_reducible refine blk_old ?_))))) OC2.out (by decide) m63 mby (by have h0 := HB24.out.size; first | (simp; omega) | (have h9 := hgrow0.size; simp at h9 ⊢; omega) | (have h9 := hgrow0.size; have h8 := hgrow1.size; simp at h9 h8 ⊢; omega)) _ rfl ?_; intro g2 cap2 W2 hown2 hgrow2 hat2 hlt2; clear tok2))
              go_roundw
              case rel =>
                refine ⟨j + 1, oa2, ob2, ta2, tb2, _, _, _, by go_num, by omega, KN2.out, ?_, ?_, ?_, ?_, ?_, ?_, ?_, ?_, ?_⟩
                · (refine NR.snoc (n := _) HL0.out ?_; repeat' (first | (with_reducible exact hown0) | (with_reducible refine World.ownsRow.alloc ?_ _) | (refine own_new hgrow1 Q01.out L1.out hat0 (by first | (simp; done) | (simp; omega) | omega | (have h9 := hgrow0.size; simp at h9 ⊢; omega) | (have h8 := hgrow1.size; simp at h8 ⊢; omega) | (have h9 := hgrow0.size; have h8 := hgrow1.size; simp at h9 h8 ⊢; omega)) ?_) | (refine own_new hgrow2 Q02.out L2.out hat0 (by first | (simp; done) | (simp; omega) | omega | (have h9 := hgrow0.size; simp at h9 ⊢; omega) | (have h8 := hgrow1.size; simp at h8 ⊢; omega) | (have h9 := hgrow0.size; have h8 := hgrow1.size; simp at h9 h8 ⊢; omega)) ?_)))
                · (refine NR.snoc (n := _) HL1.out ?_; repeat' (first | (with_reducible exact hown1) | (with_reducible refine World.ownsRow.alloc ?_ _) | (refine own_new hgrow2 Q12.out L2.out hat1 (by first | (simp; done) | (simp; omega) | omega | (have h9 := hgrow0.size; simp at h9 ⊢; omega) | (have h8 := hgrow1.size; simp at h8 ⊢; omega) | (have h9 := hgrow0.size; have h8 := hgrow1.size; simp at h9 h8 ⊢; omega)) ?_)))
                · (refine NR.snoc (n := _) HL2.out ?_; repeat' (first | (with_reducible exact hown2) | (with_reducible refine World.ownsRow.alloc ?_ _)))
                · (refine apt ?_; exact apart2 Q01.out L0.out L1.out hat0 (by first | (simp; done) | (simp; omega) | omega | (have h9 := hgrow0.size; simp at h9 ⊢; omega) | (have h8 := hgrow1.size; simp at h8 ⊢; omega) | (have h9 := hgrow0.size; have h8 := hgrow1.size; simp at h9 h8 ⊢; omega)) hlt0 hat1 (by first | (simp; done) | (simp; omega) | omega | (have h9 := hgrow0.size; simp at h9 ⊢; omega) | (have h8 := hgrow1.size; simp at h8 ⊢; omega) | (have h9 := hgrow0.size; have h8 := hgrow1.size; simp at h9 h8 ⊢; omega)))
                · (refine apt ?_; exact apart2 Q02.out L0.out L2.out hat0 (by first | (simp; done) | (simp; omega) | omega | (have h9 := hgrow0.size; simp at h9 ⊢; omega) | (have h8 := hgrow1.size; simp at h8 ⊢; omega) | (have h9 := hgrow0.size; have h8 := hgrow1.size; simp at h9 h8 ⊢; omega)) hlt0 hat2 (by first | (simp; done) | (simp; omega) | omega | (have h9 := hgrow0.size; simp at h9 ⊢; omega) | (have h8 := hgrow1.size; simp at h8 ⊢; omega) | (have h9 := hgrow0.size; have h8 := hgrow1.size; simp at h9 h8 ⊢; omega)))
                · (refine apt ?_; exact apart2 Q12.out L1.out L2.out hat1 (by first | (simp; done) | (simp; omega) | omega | (have h9 := hgrow0.size; simp at h9 ⊢; omega) | (have h8 := hgrow1.size; simp at h8 ⊢; omega) | (have h9 := hgrow0.size; have h8 := hgrow1.size; simp at h9 h8 ⊢; omega)) hlt1 hat2 (by first | (simp; done) | (simp; omega) | omega | (have h9 := hgrow0.size; simp at h9 ⊢; omega) | (have h8 := hgrow1.size; simp at h8 ⊢; omega) | (have h9 := hgrow0.size; have h8 := hgrow1.size; simp at h9 h8 ⊢; omega)))
                · (repeat' (first | (with_reducible exact Ho24.out) | (with_reducible exact heap_alloc_new _ _) | (with_reducible exact blk_new (by first | (simp; done) | omega)) | (with_reducible refine blk_drew ?_) | (with_reducible refine blk_drewNr ?_) | (with_reducible refine blk_old ?_) | (refine blk_grown hgrow0 (NE0o.out) ?_) | (refine blk_grown hgrow1 (NE1o.out) ?_) | (refine blk_grown hgrow2 (NE2o.out) ?_)))
                · (repeat' (first | (with_reducible exact Hp24.out) | (with_reducible exact heap_alloc_new _ _) | (with_reducible exact blk_new (by first | (simp; done) | omega)) | (with_reducible refine blk_drew ?_) | (with_reducible refine blk_drewNr ?_) | (with_reducible refine blk_old ?_) | (refine blk_grown hgrow0 (NE0p.out) ?_) | (refine blk_grown hgrow1 (NE1p.out) ?_) | (refine blk_grown hgrow2 (NE2p.out) ?_)))
                · (repeat' (first | (with_reducible exact HB24.out) | (with_reducible refine Below.alloc ?_ (by have h0 := HB24.out.size; first | (simp; omega) | (have h9 := hgrow0.size; simp at h9 ⊢; omega) | (have h9 := hgrow0.size; have h8 := hgrow1.size; simp at h9 h8 ⊢; omega)) _) | (refine Below.grown ?_ hgrow0 (by have h0 := HB24.out.size; first | (simp; omega) | (have h9 := hgrow0.size; simp at h9 ⊢; omega) | (have h9 := hgrow0.size; have h8 := hgrow1.size; simp at h9 h8 ⊢; omega)) GE0.out) | (refine Below.grown ?_ hgrow1 (by have h0 := HB24.out.size; first | (simp; omega) | (have h9 := hgrow0.size; simp at h9 ⊢; omega) | (have h9 := hgrow0.size; have h8 := hgrow1.size; simp at h9 h8 ⊢; omega)) GE1.out) | (refine Below.grown ?_ hgrow2 (by have h0 := HB24.out.size; first | (simp; omega) | (have h9 := hgrow0.size; simp at h9 ⊢; omega) | (have h9 := hgrow0.size; have h8 := hgrow1.size; simp at h9 h8 ⊢; omega)) GE2.out)))
              case measure => simp [intOf] <;> omega
            · go_upto_region 21 with (fail)
              refine wp_genc ?_
              intro v23 hv23
              have Xo : v23.heap[Bo]? = some (.cells #[.int .u64 r, .int .u64 n, .int .u64 f, .int .u64 oa2, .int .u64 ob2] 64 (0, 0)) := by
                rw [hv23]
                (repeat' (first | (with_reducible exact Ho23.out) | (with_reducible exact heap_alloc_new _ _) | (with_reducible exact blk_new (by first | (simp; done) | omega)) | (with_reducible refine blk_drew ?_) | (with_reducible apply put5_0) | (with_reducible apply put5_1) | (with_reducible apply put5_2) | (with_reducible apply put5_3) | (with_reducible apply put5_4) | (with_reducible refine blk_else (by omega) ?_) | (with_reducible refine blk_old ?_)))
              have Xp : v23.heap[Bp]? = some (.cells #[.int .u64 r, .int .u64 q, .int .u64 n, .int .u64 f, .int .u64 ta2, .int .u64 tb2] 68 (0, 0)) := by
                rw [hv23]
                (repeat' (first | (with_reducible exact Hp23.out) | (with_reducible exact heap_alloc_new _ _) | (with_reducible exact blk_new (by first | (simp; done) | omega)) | (with_reducible refine blk_drew ?_) | (with_reducible apply put6_0) | (with_reducible apply put6_1) | (with_reducible apply put6_2) | (with_reducible apply put6_3) | (with_reducible apply put6_4) | (with_reducible apply put6_5) | (with_reducible refine blk_else (by omega) ?_) | (with_reducible refine blk_old ?_)))
              have Xe : v23.heap[Be]? = some (.cells #[.int .u64 ad, .int .u64 an, .int .i64 ac] 73 (0, 0)) := by
                rw [hv23]
                (repeat' (first | (with_reducible exact He23.out) | (with_reducible exact heap_alloc_new _ _) | (with_reducible exact blk_new (by first | (simp; done) | omega)) | (with_reducible refine blk_drew ?_) | (with_reducible apply put3_0) | (with_reducible apply put3_1) | (with_reducible apply put3_2) | (with_reducible refine blk_else (by omega) ?_) | (with_reducible refine blk_old ?_)))
              have XR0 : NR .u64 41 v23 w.heap.size (.slice a0 j c0) g := by
                rw [hv23]
                (repeat' (first | (with_reducible exact HR0_23.out) | (with_reducible refine NR.drew ?_) | (with_reducible refine NR.drewN ?_) | (with_reducible refine NR.put ?_ (by assumption) _) | (with_reducible refine NR.alloc ?_ _)))
              have XR1 : NR .u64 41 v23 w.heap.size (.slice a1 j c1) h := by
                rw [hv23]
                (repeat' (first | (with_reducible exact HR1_23.out) | (with_reducible refine NR.drew ?_) | (with_reducible refine NR.drewN ?_) | (with_reducible refine NR.put ?_ (by assumption) _) | (with_reducible refine NR.alloc ?_ _)))
              have XR2 : NR .u64 41 v23 w.heap.size (.slice a2 j c2) d := by
                rw [hv23]
                (repeat' (first | (with_reducible exact HR2_23.out) | (with_reducible refine NR.drew ?_) | (with_reducible refine NR.drewN ?_) | (with_reducible refine NR.put ?_ (by assumption) _) | (with_reducible refine NR.alloc ?_ _)))
              have XB : Below w.heap.size w v23 := by
                rw [hv23]
                (repeat' (first | (with_reducible exact HB23.out) | (with_reducible exact Below.refl _ _) | (with_reducible refine below_drewN _ ?_) | (with_reducible refine Below.drew ?_) | (with_reducible refine Below.setCell ?_ (by first | (simp; done) | omega) _) | (with_reducible refine Below.alloc ?_ (by have := HB23.out.size; simp; omega) _)))
              clear o0_ o1_ o2_ o3_ o4_ of0_ of1_ of2_ of3_ of4_ on_ om_ ol_ p0_ p1_ p2_ p3_ p4_ p5_ pf0_ pf1_ pf2_ pf3_ pf4_ pf5_ pn_ pm_ pl_ e0_ e1_ e2_ ef0_ ef1_ ef2_ en_ em_ el_
              clear hv23 Ho23 Hp23 He23 HB23
              clear HR0_23 HR1_23 HR2_23
              have HR0_24 := Lib.hid XR0
              have HR1_24 := Lib.hid XR1
              have HR2_24 := Lib.hid XR2
              clear XR0 XR1 XR2
              have Ho24 := Lib.hid Xo
              have Hp24 := Lib.hid Xp
              have He24 := Lib.hid Xe
              have HB24 := Lib.hid XB
              clear Xo Xp Xe XB
              obtain ⟨o0_, o1_, o2_, o3_, o4_, of0_, of1_, of2_, of3_, of4_⟩ := at5 Ho24.out
              have on_ := ne_blk Ho24.out
              have om_ := Ne.symm (a := Bo) on_
              have ol_ := lt_blk Ho24.out
              obtain ⟨p0_, p1_, p2_, p3_, p4_, p5_, pf0_, pf1_, pf2_, pf3_, pf4_, pf5_⟩ := at6 Hp24.out
              have pn_ := ne_blk Hp24.out
              have pm_ := Ne.symm (a := Bp) pn_
              have pl_ := lt_blk Hp24.out
              obtain ⟨e0_, e1_, e2_, ef0_, ef1_, ef2_⟩ := at3 He24.out
              have en_ := ne_blk He24.out
              have em_ := Ne.symm (a := Be) en_
              have el_ := lt_blk He24.out
              have O0 := Lib.hid (show v23.ownsRow w.heap.size 41 1 (.slice a0 j c0) j (g.map (Value.int .u64)) from by have h_ := HR0_24.out; unfold NR at h_; rw [HL0.out] at h_; exact h_)
              have L0 := Lib.hid (fun g_ h_ => (HR0_24.out.lt g_ h_).2)
              have NE0o := Lib.hid n0o
              have NE0p := Lib.hid n0p
              have tok0 : True := trivial
              have O1 := Lib.hid (show v23.ownsRow w.heap.size 41 1 (.slice a1 j c1) j (h.map (Value.int .u64)) from by have h_ := HR1_24.out; unfold NR at h_; rw [HL1.out] at h_; exact h_)
              have L1 := Lib.hid (fun g_ h_ => (HR1_24.out.lt g_ h_).2)
              have NE1o := Lib.hid n1o
              have NE1p := Lib.hid n1p
              have tok1 : True := trivial
              have O2 := Lib.hid (show v23.ownsRow w.heap.size 41 1 (.slice a2 j c2) j (d.map (Value.int .u64)) from by have h_ := HR2_24.out; unfold NR at h_; rw [HL2.out] at h_; exact h_)
              have L2 := Lib.hid (fun g_ h_ => (HR2_24.out.lt g_ h_).2)
              have NE2o := Lib.hid n2o
              have NE2p := Lib.hid n2p
              have tok2 : True := trivial
              have OC0 := Lib.hid (show ∀ u ∈ ([.int .u64 an] : List Value), u.oneCell' = true from fun u hu => by rw [List.mem_singleton.1 hu]; rfl)
              have OC1 := Lib.hid (show ∀ u ∈ ([.int .u64 0] : List Value), u.oneCell' = true from fun u hu => by rw [List.mem_singleton.1 hu]; rfl)
              have OC2 := Lib.hid (show ∀ u ∈ ([.int .u64 tt] : List Value), u.oneCell' = true from fun u hu => by rw [List.mem_singleton.1 hu]; rfl)
              have m63 : j + 1 ≤ maxLen := by unfold maxLen; omega
              have mby : (j + 1) * 8 ≤ 140737488355328 := by omega
              obtain ⟨u1_, u2_, u3_, u4_⟩ := HU.out
              have KN2 := Lib.hid (HKN.out.snoc HGO.out HGT.out (x := an) (y := 0) (z := tt) (by rcases u3_ with ⟨z1, z2⟩ | ⟨z1, z2⟩ <;> simp at ca_ <;> omega) (by rcases u3_ with ⟨z1, z2⟩ | ⟨z1, z2⟩ <;> simp at ca_ <;> omega) (by rcases u4_ with ⟨z1, z2⟩ | ⟨z1, z2⟩ <;> simp at cb_ <;> omega) (by rcases u4_ with ⟨z1, z2⟩ | ⟨z1, z2⟩ <;> simp at cb_ <;> omega) (by omega) (by omega) (by omega) (by omega) (by omega) (by omega) : KG r q n f (j + 1) oa2 ob2 ta2 tb2 (g ++ [an]) (h ++ [0]) (d ++ [tt]))
              clear u1_ u2_ u3_ u4_ HU HKN
              clear o0_ o1_ o2_ o3_ o4_ of0_ of1_ of2_ of3_ of4_ on_ om_ ol_ p0_ p1_ p2_ p3_ p4_ p5_ pf0_ pf1_ pf2_ pf3_ pf4_ pf5_ pn_ pm_ pl_ e0_ e1_ e2_ ef0_ ef1_ ef2_ en_ em_ el_
              go_wp2_with (first
                | (at_builtin; have _t := tok0; refine wpList_append_lies _ rfl _ _ 89 rfl w.heap.size 41 i0 (.int .u64 0) 1 8 Try.underlying89 hi hz0 hz1 hz2 rfl (by decide) (.slice a0 j c0) j (g.map (Value.int .u64)) (by rfl) (by (repeat' (first | (with_reducible exact O0.out) | (with_reducible refine World.ownsRow.alloc ?_ _)))) _ 1 1 [.int .u64 an] (by rfl) (by rfl) (by exact World.news_of_block (cs := #[.int .u64 an]) (by (repeat' (first | (with_reducible exact heap_alloc_new _ _) | (with_reducible exact blk_new (by first | (simp; done) | omega)) | (with_reducible refine blk_drew ?_) | (with_reducible refine blk_drewNr ?_) | (with_reducible refine blk_old ?_))))) OC0.out (by decide) m63 mby (by have h0 := HB24.out.size; first | (simp; omega) | (have h9 := hgrow0.size; simp at h9 ⊢; omega) | (have h9 := hgrow0.size; have h8 := hgrow1.size; simp at h9 h8 ⊢; omega)) _ rfl ?_; intro g0 cap0 W0 hown0 hgrow0 hat0 hlt0; clear tok0)
                | (at_builtin; have _t := tok1; refine wpList_append_lies _ rfl _ _ 89 rfl w.heap.size 41 i0 (.int .u64 0) 1 8 Try.underlying89 hi hz0 hz1 hz2 rfl (by decide) (.slice a1 j c1) j (h.map (Value.int .u64)) (by rfl) (by (repeat' (first | (with_reducible exact O1.out) | (with_reducible refine World.ownsRow.alloc ?_ _) | (refine own_grown hgrow0 Q10.out ?_)))) _ 1 1 [.int .u64 0] (by rfl) (by rfl) (by exact World.news_of_block (cs := #[.int .u64 0]) (by (repeat' (first | (with_reducible exact heap_alloc_new _ _) | (with_reducible exact blk_new (by first | (simp; done) | omega)) | (with_reducible refine blk_drew ?_) | (with_reducible refine blk_drewNr ?_) | (with_reducible refine blk_old ?_))))) OC1.out (by decide) m63 mby (by have h0 := HB24.out.size; first | (simp; omega) | (have h9 := hgrow0.size; simp at h9 ⊢; omega) | (have h9 := hgrow0.size; have h8 := hgrow1.size; simp at h9 h8 ⊢; omega)) _ rfl ?_; intro g1 cap1 W1 hown1 hgrow1 hat1 hlt1; clear tok1)
                | (at_builtin; have _t := tok2; refine wpList_append_lies _ rfl _ _ 89 rfl w.heap.size 41 i0 (.int .u64 0) 1 8 Try.underlying89 hi hz0 hz1 hz2 rfl (by decide) (.slice a2 j c2) j (d.map (Value.int .u64)) (by rfl) (by (repeat' (first | (with_reducible exact O2.out) | (with_reducible refine World.ownsRow.alloc ?_ _) | (refine own_grown hgrow0 Q20.out ?_) | (refine own_grown hgrow1 Q21.out ?_)))) _ 1 1 [.int .u64 tt] (by rfl) (by rfl) (by exact World.news_of_block (cs := #[.int .u64 tt]) (by (repeat' (first | (with_reducible exact heap_alloc_new _ _) | (with_reducible exact blk_new (by first | (simp; done) | omega)) | (with_reducible refine blk_drew ?_) | (with_reducible refine blk_drewNr ?_) | (with_reducible refine blk_old ?_))))) OC2.out (by decide) m63 mby (by have h0 := HB24.out.size; first | (simp; omega) | (have h9 := hgrow0.size; simp at h9 ⊢; omega) | (have h9 := hgrow0.size; have h8 := hgrow1.size; simp at h9 h8 ⊢; omega)) _ rfl ?_; intro g2 cap2 W2 hown2 hgrow2 hat2 hlt2; clear tok2))
              go_roundw
              case rel =>
                refine ⟨j + 1, oa2, ob2, ta2, tb2, _, _, _, by go_num, by omega, KN2.out, ?_, ?_, ?_, ?_, ?_, ?_, ?_, ?_, ?_⟩
                · (refine NR.snoc (n := _) HL0.out ?_; repeat' (first | (with_reducible exact hown0) | (with_reducible refine World.ownsRow.alloc ?_ _) | (refine own_new hgrow1 Q01.out L1.out hat0 (by first | (simp; done) | (simp; omega) | omega | (have h9 := hgrow0.size; simp at h9 ⊢; omega) | (have h8 := hgrow1.size; simp at h8 ⊢; omega) | (have h9 := hgrow0.size; have h8 := hgrow1.size; simp at h9 h8 ⊢; omega)) ?_) | (refine own_new hgrow2 Q02.out L2.out hat0 (by first | (simp; done) | (simp; omega) | omega | (have h9 := hgrow0.size; simp at h9 ⊢; omega) | (have h8 := hgrow1.size; simp at h8 ⊢; omega) | (have h9 := hgrow0.size; have h8 := hgrow1.size; simp at h9 h8 ⊢; omega)) ?_)))
                · (refine NR.snoc (n := _) HL1.out ?_; repeat' (first | (with_reducible exact hown1) | (with_reducible refine World.ownsRow.alloc ?_ _) | (refine own_new hgrow2 Q12.out L2.out hat1 (by first | (simp; done) | (simp; omega) | omega | (have h9 := hgrow0.size; simp at h9 ⊢; omega) | (have h8 := hgrow1.size; simp at h8 ⊢; omega) | (have h9 := hgrow0.size; have h8 := hgrow1.size; simp at h9 h8 ⊢; omega)) ?_)))
                · (refine NR.snoc (n := _) HL2.out ?_; repeat' (first | (with_reducible exact hown2) | (with_reducible refine World.ownsRow.alloc ?_ _)))
                · (refine apt ?_; exact apart2 Q01.out L0.out L1.out hat0 (by first | (simp; done) | (simp; omega) | omega | (have h9 := hgrow0.size; simp at h9 ⊢; omega) | (have h8 := hgrow1.size; simp at h8 ⊢; omega) | (have h9 := hgrow0.size; have h8 := hgrow1.size; simp at h9 h8 ⊢; omega)) hlt0 hat1 (by first | (simp; done) | (simp; omega) | omega | (have h9 := hgrow0.size; simp at h9 ⊢; omega) | (have h8 := hgrow1.size; simp at h8 ⊢; omega) | (have h9 := hgrow0.size; have h8 := hgrow1.size; simp at h9 h8 ⊢; omega)))
                · (refine apt ?_; exact apart2 Q02.out L0.out L2.out hat0 (by first | (simp; done) | (simp; omega) | omega | (have h9 := hgrow0.size; simp at h9 ⊢; omega) | (have h8 := hgrow1.size; simp at h8 ⊢; omega) | (have h9 := hgrow0.size; have h8 := hgrow1.size; simp at h9 h8 ⊢; omega)) hlt0 hat2 (by first | (simp; done) | (simp; omega) | omega | (have h9 := hgrow0.size; simp at h9 ⊢; omega) | (have h8 := hgrow1.size; simp at h8 ⊢; omega) | (have h9 := hgrow0.size; have h8 := hgrow1.size; simp at h9 h8 ⊢; omega)))
                · (refine apt ?_; exact apart2 Q12.out L1.out L2.out hat1 (by first | (simp; done) | (simp; omega) | omega | (have h9 := hgrow0.size; simp at h9 ⊢; omega) | (have h8 := hgrow1.size; simp at h8 ⊢; omega) | (have h9 := hgrow0.size; have h8 := hgrow1.size; simp at h9 h8 ⊢; omega)) hlt1 hat2 (by first | (simp; done) | (simp; omega) | omega | (have h9 := hgrow0.size; simp at h9 ⊢; omega) | (have h8 := hgrow1.size; simp at h8 ⊢; omega) | (have h9 := hgrow0.size; have h8 := hgrow1.size; simp at h9 h8 ⊢; omega)))
                · (repeat' (first | (with_reducible exact Ho24.out) | (with_reducible exact heap_alloc_new _ _) | (with_reducible exact blk_new (by first | (simp; done) | omega)) | (with_reducible refine blk_drew ?_) | (with_reducible refine blk_drewNr ?_) | (with_reducible refine blk_old ?_) | (refine blk_grown hgrow0 (NE0o.out) ?_) | (refine blk_grown hgrow1 (NE1o.out) ?_) | (refine blk_grown hgrow2 (NE2o.out) ?_)))
                · (repeat' (first | (with_reducible exact Hp24.out) | (with_reducible exact heap_alloc_new _ _) | (with_reducible exact blk_new (by first | (simp; done) | omega)) | (with_reducible refine blk_drew ?_) | (with_reducible refine blk_drewNr ?_) | (with_reducible refine blk_old ?_) | (refine blk_grown hgrow0 (NE0p.out) ?_) | (refine blk_grown hgrow1 (NE1p.out) ?_) | (refine blk_grown hgrow2 (NE2p.out) ?_)))
                · (repeat' (first | (with_reducible exact HB24.out) | (with_reducible refine Below.alloc ?_ (by have h0 := HB24.out.size; first | (simp; omega) | (have h9 := hgrow0.size; simp at h9 ⊢; omega) | (have h9 := hgrow0.size; have h8 := hgrow1.size; simp at h9 h8 ⊢; omega)) _) | (refine Below.grown ?_ hgrow0 (by have h0 := HB24.out.size; first | (simp; omega) | (have h9 := hgrow0.size; simp at h9 ⊢; omega) | (have h9 := hgrow0.size; have h8 := hgrow1.size; simp at h9 h8 ⊢; omega)) GE0.out) | (refine Below.grown ?_ hgrow1 (by have h0 := HB24.out.size; first | (simp; omega) | (have h9 := hgrow0.size; simp at h9 ⊢; omega) | (have h9 := hgrow0.size; have h8 := hgrow1.size; simp at h9 h8 ⊢; omega)) GE1.out) | (refine Below.grown ?_ hgrow2 (by have h0 := HB24.out.size; first | (simp; omega) | (have h9 := hgrow0.size; simp at h9 ⊢; omega) | (have h9 := hgrow0.size; have h8 := hgrow1.size; simp at h9 h8 ⊢; omega)) GE2.out)))
              case measure => simp [intOf] <;> omega
          · rcases cbs with cb_ | cb_
            · go_upto_region 21 with (fail)
              refine wp_genc ?_
              intro v23 hv23
              have Xo : v23.heap[Bo]? = some (.cells #[.int .u64 r, .int .u64 n, .int .u64 f, .int .u64 oa2, .int .u64 ob2] 64 (0, 0)) := by
                rw [hv23]
                (repeat' (first | (with_reducible exact Ho23.out) | (with_reducible exact heap_alloc_new _ _) | (with_reducible exact blk_new (by first | (simp; done) | omega)) | (with_reducible refine blk_drew ?_) | (with_reducible apply put5_0) | (with_reducible apply put5_1) | (with_reducible apply put5_2) | (with_reducible apply put5_3) | (with_reducible apply put5_4) | (with_reducible refine blk_else (by omega) ?_) | (with_reducible refine blk_old ?_)))
              have Xp : v23.heap[Bp]? = some (.cells #[.int .u64 r, .int .u64 q, .int .u64 n, .int .u64 f, .int .u64 ta2, .int .u64 tb2] 68 (0, 0)) := by
                rw [hv23]
                (repeat' (first | (with_reducible exact Hp23.out) | (with_reducible exact heap_alloc_new _ _) | (with_reducible exact blk_new (by first | (simp; done) | omega)) | (with_reducible refine blk_drew ?_) | (with_reducible apply put6_0) | (with_reducible apply put6_1) | (with_reducible apply put6_2) | (with_reducible apply put6_3) | (with_reducible apply put6_4) | (with_reducible apply put6_5) | (with_reducible refine blk_else (by omega) ?_) | (with_reducible refine blk_old ?_)))
              have Xe : v23.heap[Be]? = some (.cells #[.int .u64 ad, .int .u64 an, .int .i64 ac] 73 (0, 0)) := by
                rw [hv23]
                (repeat' (first | (with_reducible exact He23.out) | (with_reducible exact heap_alloc_new _ _) | (with_reducible exact blk_new (by first | (simp; done) | omega)) | (with_reducible refine blk_drew ?_) | (with_reducible apply put3_0) | (with_reducible apply put3_1) | (with_reducible apply put3_2) | (with_reducible refine blk_else (by omega) ?_) | (with_reducible refine blk_old ?_)))
              have XR0 : NR .u64 41 v23 w.heap.size (.slice a0 j c0) g := by
                rw [hv23]
                (repeat' (first | (with_reducible exact HR0_23.out) | (with_reducible refine NR.drew ?_) | (with_reducible refine NR.drewN ?_) | (with_reducible refine NR.put ?_ (by assumption) _) | (with_reducible refine NR.alloc ?_ _)))
              have XR1 : NR .u64 41 v23 w.heap.size (.slice a1 j c1) h := by
                rw [hv23]
                (repeat' (first | (with_reducible exact HR1_23.out) | (with_reducible refine NR.drew ?_) | (with_reducible refine NR.drewN ?_) | (with_reducible refine NR.put ?_ (by assumption) _) | (with_reducible refine NR.alloc ?_ _)))
              have XR2 : NR .u64 41 v23 w.heap.size (.slice a2 j c2) d := by
                rw [hv23]
                (repeat' (first | (with_reducible exact HR2_23.out) | (with_reducible refine NR.drew ?_) | (with_reducible refine NR.drewN ?_) | (with_reducible refine NR.put ?_ (by assumption) _) | (with_reducible refine NR.alloc ?_ _)))
              have XB : Below w.heap.size w v23 := by
                rw [hv23]
                (repeat' (first | (with_reducible exact HB23.out) | (with_reducible exact Below.refl _ _) | (with_reducible refine below_drewN _ ?_) | (with_reducible refine Below.drew ?_) | (with_reducible refine Below.setCell ?_ (by first | (simp; done) | omega) _) | (with_reducible refine Below.alloc ?_ (by have := HB23.out.size; simp; omega) _)))
              clear o0_ o1_ o2_ o3_ o4_ of0_ of1_ of2_ of3_ of4_ on_ om_ ol_ p0_ p1_ p2_ p3_ p4_ p5_ pf0_ pf1_ pf2_ pf3_ pf4_ pf5_ pn_ pm_ pl_ e0_ e1_ e2_ ef0_ ef1_ ef2_ en_ em_ el_
              clear hv23 Ho23 Hp23 He23 HB23
              clear HR0_23 HR1_23 HR2_23
              have HR0_24 := Lib.hid XR0
              have HR1_24 := Lib.hid XR1
              have HR2_24 := Lib.hid XR2
              clear XR0 XR1 XR2
              have Ho24 := Lib.hid Xo
              have Hp24 := Lib.hid Xp
              have He24 := Lib.hid Xe
              have HB24 := Lib.hid XB
              clear Xo Xp Xe XB
              obtain ⟨o0_, o1_, o2_, o3_, o4_, of0_, of1_, of2_, of3_, of4_⟩ := at5 Ho24.out
              have on_ := ne_blk Ho24.out
              have om_ := Ne.symm (a := Bo) on_
              have ol_ := lt_blk Ho24.out
              obtain ⟨p0_, p1_, p2_, p3_, p4_, p5_, pf0_, pf1_, pf2_, pf3_, pf4_, pf5_⟩ := at6 Hp24.out
              have pn_ := ne_blk Hp24.out
              have pm_ := Ne.symm (a := Bp) pn_
              have pl_ := lt_blk Hp24.out
              obtain ⟨e0_, e1_, e2_, ef0_, ef1_, ef2_⟩ := at3 He24.out
              have en_ := ne_blk He24.out
              have em_ := Ne.symm (a := Be) en_
              have el_ := lt_blk He24.out
              have O0 := Lib.hid (show v23.ownsRow w.heap.size 41 1 (.slice a0 j c0) j (g.map (Value.int .u64)) from by have h_ := HR0_24.out; unfold NR at h_; rw [HL0.out] at h_; exact h_)
              have L0 := Lib.hid (fun g_ h_ => (HR0_24.out.lt g_ h_).2)
              have NE0o := Lib.hid n0o
              have NE0p := Lib.hid n0p
              have tok0 : True := trivial
              have O1 := Lib.hid (show v23.ownsRow w.heap.size 41 1 (.slice a1 j c1) j (h.map (Value.int .u64)) from by have h_ := HR1_24.out; unfold NR at h_; rw [HL1.out] at h_; exact h_)
              have L1 := Lib.hid (fun g_ h_ => (HR1_24.out.lt g_ h_).2)
              have NE1o := Lib.hid n1o
              have NE1p := Lib.hid n1p
              have tok1 : True := trivial
              have O2 := Lib.hid (show v23.ownsRow w.heap.size 41 1 (.slice a2 j c2) j (d.map (Value.int .u64)) from by have h_ := HR2_24.out; unfold NR at h_; rw [HL2.out] at h_; exact h_)
              have L2 := Lib.hid (fun g_ h_ => (HR2_24.out.lt g_ h_).2)
              have NE2o := Lib.hid n2o
              have NE2p := Lib.hid n2p
              have tok2 : True := trivial
              have OC0 := Lib.hid (show ∀ u ∈ ([.int .u64 0] : List Value), u.oneCell' = true from fun u hu => by rw [List.mem_singleton.1 hu]; rfl)
              have OC1 := Lib.hid (show ∀ u ∈ ([.int .u64 an] : List Value), u.oneCell' = true from fun u hu => by rw [List.mem_singleton.1 hu]; rfl)
              have OC2 := Lib.hid (show ∀ u ∈ ([.int .u64 tt] : List Value), u.oneCell' = true from fun u hu => by rw [List.mem_singleton.1 hu]; rfl)
              have m63 : j + 1 ≤ maxLen := by unfold maxLen; omega
              have mby : (j + 1) * 8 ≤ 140737488355328 := by omega
              obtain ⟨u1_, u2_, u3_, u4_⟩ := HU.out
              have KN2 := Lib.hid (HKN.out.snoc HGO.out HGT.out (x := 0) (y := an) (z := tt) (by rcases u3_ with ⟨z1, z2⟩ | ⟨z1, z2⟩ <;> simp at ca_ <;> omega) (by rcases u3_ with ⟨z1, z2⟩ | ⟨z1, z2⟩ <;> simp at ca_ <;> omega) (by rcases u4_ with ⟨z1, z2⟩ | ⟨z1, z2⟩ <;> simp at cb_ <;> omega) (by rcases u4_ with ⟨z1, z2⟩ | ⟨z1, z2⟩ <;> simp at cb_ <;> omega) (by omega) (by omega) (by omega) (by omega) (by omega) (by omega) : KG r q n f (j + 1) oa2 ob2 ta2 tb2 (g ++ [0]) (h ++ [an]) (d ++ [tt]))
              clear u1_ u2_ u3_ u4_ HU HKN
              clear o0_ o1_ o2_ o3_ o4_ of0_ of1_ of2_ of3_ of4_ on_ om_ ol_ p0_ p1_ p2_ p3_ p4_ p5_ pf0_ pf1_ pf2_ pf3_ pf4_ pf5_ pn_ pm_ pl_ e0_ e1_ e2_ ef0_ ef1_ ef2_ en_ em_ el_
              go_wp2_with (first
                | (at_builtin; have _t := tok0; refine wpList_append_lies _ rfl _ _ 89 rfl w.heap.size 41 i0 (.int .u64 0) 1 8 Try.underlying89 hi hz0 hz1 hz2 rfl (by decide) (.slice a0 j c0) j (g.map (Value.int .u64)) (by rfl) (by (repeat' (first | (with_reducible exact O0.out) | (with_reducible refine World.ownsRow.alloc ?_ _)))) _ 1 1 [.int .u64 0] (by rfl) (by rfl) (by exact World.news_of_block (cs := #[.int .u64 0]) (by (repeat' (first | (with_reducible exact heap_alloc_new _ _) | (with_reducible exact blk_new (by first | (simp; done) | omega)) | (with_reducible refine blk_drew ?_) | (with_reducible refine blk_drewNr ?_) | (with_reducible refine blk_old ?_))))) OC0.out (by decide) m63 mby (by have h0 := HB24.out.size; first | (simp; omega) | (have h9 := hgrow0.size; simp at h9 ⊢; omega) | (have h9 := hgrow0.size; have h8 := hgrow1.size; simp at h9 h8 ⊢; omega)) _ rfl ?_; intro g0 cap0 W0 hown0 hgrow0 hat0 hlt0; clear tok0)
                | (at_builtin; have _t := tok1; refine wpList_append_lies _ rfl _ _ 89 rfl w.heap.size 41 i0 (.int .u64 0) 1 8 Try.underlying89 hi hz0 hz1 hz2 rfl (by decide) (.slice a1 j c1) j (h.map (Value.int .u64)) (by rfl) (by (repeat' (first | (with_reducible exact O1.out) | (with_reducible refine World.ownsRow.alloc ?_ _) | (refine own_grown hgrow0 Q10.out ?_)))) _ 1 1 [.int .u64 an] (by rfl) (by rfl) (by exact World.news_of_block (cs := #[.int .u64 an]) (by (repeat' (first | (with_reducible exact heap_alloc_new _ _) | (with_reducible exact blk_new (by first | (simp; done) | omega)) | (with_reducible refine blk_drew ?_) | (with_reducible refine blk_drewNr ?_) | (with_reducible refine blk_old ?_))))) OC1.out (by decide) m63 mby (by have h0 := HB24.out.size; first | (simp; omega) | (have h9 := hgrow0.size; simp at h9 ⊢; omega) | (have h9 := hgrow0.size; have h8 := hgrow1.size; simp at h9 h8 ⊢; omega)) _ rfl ?_; intro g1 cap1 W1 hown1 hgrow1 hat1 hlt1; clear tok1)
                | (at_builtin; have _t := tok2; refine wpList_append_lies _ rfl _ _ 89 rfl w.heap.size 41 i0 (.int .u64 0) 1 8 Try.underlying89 hi hz0 hz1 hz2 rfl (by decide) (.slice a2 j c2) j (d.map (Value.int .u64)) (by rfl) (by (repeat' (first | (with_reducible exact O2.out) | (with_reducible refine World.ownsRow.alloc ?_ _) | (refine own_grown hgrow0 Q20.out ?_) | (refine own_grown hgrow1 Q21.out ?_)))) _ 1 1 [.int .u64 tt] (by rfl) (by rfl) (by exact World.news_of_block (cs := #[.int .u64 tt]) (by (repeat' (first | (with_reducible exact heap_alloc_new _ _) | (with_reducible exact blk_new (by first | (simp; done) | omega)) | (with_reducible refine blk_drew ?_) | (with_reducible refine blk_drewNr ?_) | (with_reducible refine blk_old ?_))))) OC2.out (by decide) m63 mby (by have h0 := HB24.out.size; first | (simp; omega) | (have h9 := hgrow0.size; simp at h9 ⊢; omega) | (have h9 := hgrow0.size; have h8 := hgrow1.size; simp at h9 h8 ⊢; omega)) _ rfl ?_; intro g2 cap2 W2 hown2 hgrow2 hat2 hlt2; clear tok2))
              go_roundw
              case rel =>
                refine ⟨j + 1, oa2, ob2, ta2, tb2, _, _, _, by go_num, by omega, KN2.out, ?_, ?_, ?_, ?_, ?_, ?_, ?_, ?_, ?_⟩
                · (refine NR.snoc (n := _) HL0.out ?_; repeat' (first | (with_reducible exact hown0) | (with_reducible refine World.ownsRow.alloc ?_ _) | (refine own_new hgrow1 Q01.out L1.out hat0 (by first | (simp; done) | (simp; omega) | omega | (have h9 := hgrow0.size; simp at h9 ⊢; omega) | (have h8 := hgrow1.size; simp at h8 ⊢; omega) | (have h9 := hgrow0.size; have h8 := hgrow1.size; simp at h9 h8 ⊢; omega)) ?_) | (refine own_new hgrow2 Q02.out L2.out hat0 (by first | (simp; done) | (simp; omega) | omega | (have h9 := hgrow0.size; simp at h9 ⊢; omega) | (have h8 := hgrow1.size; simp at h8 ⊢; omega) | (have h9 := hgrow0.size; have h8 := hgrow1.size; simp at h9 h8 ⊢; omega)) ?_)))
                · (refine NR.snoc (n := _) HL1.out ?_; repeat' (first | (with_reducible exact hown1) | (with_reducible refine World.ownsRow.alloc ?_ _) | (refine own_new hgrow2 Q12.out L2.out hat1 (by first | (simp; done) | (simp; omega) | omega | (have h9 := hgrow0.size; simp at h9 ⊢; omega) | (have h8 := hgrow1.size; simp at h8 ⊢; omega) | (have h9 := hgrow0.size; have h8 := hgrow1.size; simp at h9 h8 ⊢; omega)) ?_)))
                · (refine NR.snoc (n := _) HL2.out ?_; repeat' (first | (with_reducible exact hown2) | (with_reducible refine World.ownsRow.alloc ?_ _)))
                · (refine apt ?_; exact apart2 Q01.out L0.out L1.out hat0 (by first | (simp; done) | (simp; omega) | omega | (have h9 := hgrow0.size; simp at h9 ⊢; omega) | (have h8 := hgrow1.size; simp at h8 ⊢; omega) | (have h9 := hgrow0.size; have h8 := hgrow1.size; simp at h9 h8 ⊢; omega)) hlt0 hat1 (by first | (simp; done) | (simp; omega) | omega | (have h9 := hgrow0.size; simp at h9 ⊢; omega) | (have h8 := hgrow1.size; simp at h8 ⊢; omega) | (have h9 := hgrow0.size; have h8 := hgrow1.size; simp at h9 h8 ⊢; omega)))
                · (refine apt ?_; exact apart2 Q02.out L0.out L2.out hat0 (by first | (simp; done) | (simp; omega) | omega | (have h9 := hgrow0.size; simp at h9 ⊢; omega) | (have h8 := hgrow1.size; simp at h8 ⊢; omega) | (have h9 := hgrow0.size; have h8 := hgrow1.size; simp at h9 h8 ⊢; omega)) hlt0 hat2 (by first | (simp; done) | (simp; omega) | omega | (have h9 := hgrow0.size; simp at h9 ⊢; omega) | (have h8 := hgrow1.size; simp at h8 ⊢; omega) | (have h9 := hgrow0.size; have h8 := hgrow1.size; simp at h9 h8 ⊢; omega)))
                · (refine apt ?_; exact apart2 Q12.out L1.out L2.out hat1 (by first | (simp; done) | (simp; omega) | omega | (have h9 := hgrow0.size; simp at h9 ⊢; omega) | (have h8 := hgrow1.size; simp at h8 ⊢; omega) | (have h9 := hgrow0.size; have h8 := hgrow1.size; simp at h9 h8 ⊢; omega)) hlt1 hat2 (by first | (simp; done) | (simp; omega) | omega | (have h9 := hgrow0.size; simp at h9 ⊢; omega) | (have h8 := hgrow1.size; simp at h8 ⊢; omega) | (have h9 := hgrow0.size; have h8 := hgrow1.size; simp at h9 h8 ⊢; omega)))
                · (repeat' (first | (with_reducible exact Ho24.out) | (with_reducible exact heap_alloc_new _ _) | (with_reducible exact blk_new (by first | (simp; done) | omega)) | (with_reducible refine blk_drew ?_) | (with_reducible refine blk_drewNr ?_) | (with_reducible refine blk_old ?_) | (refine blk_grown hgrow0 (NE0o.out) ?_) | (refine blk_grown hgrow1 (NE1o.out) ?_) | (refine blk_grown hgrow2 (NE2o.out) ?_)))
                · (repeat' (first | (with_reducible exact Hp24.out) | (with_reducible exact heap_alloc_new _ _) | (with_reducible exact blk_new (by first | (simp; done) | omega)) | (with_reducible refine blk_drew ?_) | (with_reducible refine blk_drewNr ?_) | (with_reducible refine blk_old ?_) | (refine blk_grown hgrow0 (NE0p.out) ?_) | (refine blk_grown hgrow1 (NE1p.out) ?_) | (refine blk_grown hgrow2 (NE2p.out) ?_)))
                · (repeat' (first | (with_reducible exact HB24.out) | (with_reducible refine Below.alloc ?_ (by have h0 := HB24.out.size; first | (simp; omega) | (have h9 := hgrow0.size; simp at h9 ⊢; omega) | (have h9 := hgrow0.size; have h8 := hgrow1.size; simp at h9 h8 ⊢; omega)) _) | (refine Below.grown ?_ hgrow0 (by have h0 := HB24.out.size; first | (simp; omega) | (have h9 := hgrow0.size; simp at h9 ⊢; omega) | (have h9 := hgrow0.size; have h8 := hgrow1.size; simp at h9 h8 ⊢; omega)) GE0.out) | (refine Below.grown ?_ hgrow1 (by have h0 := HB24.out.size; first | (simp; omega) | (have h9 := hgrow0.size; simp at h9 ⊢; omega) | (have h9 := hgrow0.size; have h8 := hgrow1.size; simp at h9 h8 ⊢; omega)) GE1.out) | (refine Below.grown ?_ hgrow2 (by have h0 := HB24.out.size; first | (simp; omega) | (have h9 := hgrow0.size; simp at h9 ⊢; omega) | (have h9 := hgrow0.size; have h8 := hgrow1.size; simp at h9 h8 ⊢; omega)) GE2.out)))
              case measure => simp [intOf] <;> omega
            · go_upto_region 21 with (fail)
              refine wp_genc ?_
              intro v23 hv23
              have Xo : v23.heap[Bo]? = some (.cells #[.int .u64 r, .int .u64 n, .int .u64 f, .int .u64 oa2, .int .u64 ob2] 64 (0, 0)) := by
                rw [hv23]
                (repeat' (first | (with_reducible exact Ho23.out) | (with_reducible exact heap_alloc_new _ _) | (with_reducible exact blk_new (by first | (simp; done) | omega)) | (with_reducible refine blk_drew ?_) | (with_reducible apply put5_0) | (with_reducible apply put5_1) | (with_reducible apply put5_2) | (with_reducible apply put5_3) | (with_reducible apply put5_4) | (with_reducible refine blk_else (by omega) ?_) | (with_reducible refine blk_old ?_)))
              have Xp : v23.heap[Bp]? = some (.cells #[.int .u64 r, .int .u64 q, .int .u64 n, .int .u64 f, .int .u64 ta2, .int .u64 tb2] 68 (0, 0)) := by
                rw [hv23]
                (repeat' (first | (with_reducible exact Hp23.out) | (with_reducible exact heap_alloc_new _ _) | (with_reducible exact blk_new (by first | (simp; done) | omega)) | (with_reducible refine blk_drew ?_) | (with_reducible apply put6_0) | (with_reducible apply put6_1) | (with_reducible apply put6_2) | (with_reducible apply put6_3) | (with_reducible apply put6_4) | (with_reducible apply put6_5) | (with_reducible refine blk_else (by omega) ?_) | (with_reducible refine blk_old ?_)))
              have Xe : v23.heap[Be]? = some (.cells #[.int .u64 ad, .int .u64 an, .int .i64 ac] 73 (0, 0)) := by
                rw [hv23]
                (repeat' (first | (with_reducible exact He23.out) | (with_reducible exact heap_alloc_new _ _) | (with_reducible exact blk_new (by first | (simp; done) | omega)) | (with_reducible refine blk_drew ?_) | (with_reducible apply put3_0) | (with_reducible apply put3_1) | (with_reducible apply put3_2) | (with_reducible refine blk_else (by omega) ?_) | (with_reducible refine blk_old ?_)))
              have XR0 : NR .u64 41 v23 w.heap.size (.slice a0 j c0) g := by
                rw [hv23]
                (repeat' (first | (with_reducible exact HR0_23.out) | (with_reducible refine NR.drew ?_) | (with_reducible refine NR.drewN ?_) | (with_reducible refine NR.put ?_ (by assumption) _) | (with_reducible refine NR.alloc ?_ _)))
              have XR1 : NR .u64 41 v23 w.heap.size (.slice a1 j c1) h := by
                rw [hv23]
                (repeat' (first | (with_reducible exact HR1_23.out) | (with_reducible refine NR.drew ?_) | (with_reducible refine NR.drewN ?_) | (with_reducible refine NR.put ?_ (by assumption) _) | (with_reducible refine NR.alloc ?_ _)))
              have XR2 : NR .u64 41 v23 w.heap.size (.slice a2 j c2) d := by
                rw [hv23]
                (repeat' (first | (with_reducible exact HR2_23.out) | (with_reducible refine NR.drew ?_) | (with_reducible refine NR.drewN ?_) | (with_reducible refine NR.put ?_ (by assumption) _) | (with_reducible refine NR.alloc ?_ _)))
              have XB : Below w.heap.size w v23 := by
                rw [hv23]
                (repeat' (first | (with_reducible exact HB23.out) | (with_reducible exact Below.refl _ _) | (with_reducible refine below_drewN _ ?_) | (with_reducible refine Below.drew ?_) | (with_reducible refine Below.setCell ?_ (by first | (simp; done) | omega) _) | (with_reducible refine Below.alloc ?_ (by have := HB23.out.size; simp; omega) _)))
              clear o0_ o1_ o2_ o3_ o4_ of0_ of1_ of2_ of3_ of4_ on_ om_ ol_ p0_ p1_ p2_ p3_ p4_ p5_ pf0_ pf1_ pf2_ pf3_ pf4_ pf5_ pn_ pm_ pl_ e0_ e1_ e2_ ef0_ ef1_ ef2_ en_ em_ el_
              clear hv23 Ho23 Hp23 He23 HB23
              clear HR0_23 HR1_23 HR2_23
              have HR0_24 := Lib.hid XR0
              have HR1_24 := Lib.hid XR1
              have HR2_24 := Lib.hid XR2
              clear XR0 XR1 XR2
              have Ho24 := Lib.hid Xo
              have Hp24 := Lib.hid Xp
              have He24 := Lib.hid Xe
              have HB24 := Lib.hid XB
              clear Xo Xp Xe XB
              obtain ⟨o0_, o1_, o2_, o3_, o4_, of0_, of1_, of2_, of3_, of4_⟩ := at5 Ho24.out
              have on_ := ne_blk Ho24.out
              have om_ := Ne.symm (a := Bo) on_
              have ol_ := lt_blk Ho24.out
              obtain ⟨p0_, p1_, p2_, p3_, p4_, p5_, pf0_, pf1_, pf2_, pf3_, pf4_, pf5_⟩ := at6 Hp24.out
              have pn_ := ne_blk Hp24.out
              have pm_ := Ne.symm (a := Bp) pn_
              have pl_ := lt_blk Hp24.out
              obtain ⟨e0_, e1_, e2_, ef0_, ef1_, ef2_⟩ := at3 He24.out
              have en_ := ne_blk He24.out
              have em_ := Ne.symm (a := Be) en_
              have el_ := lt_blk He24.out
              have O0 := Lib.hid (show v23.ownsRow w.heap.size 41 1 (.slice a0 j c0) j (g.map (Value.int .u64)) from by have h_ := HR0_24.out; unfold NR at h_; rw [HL0.out] at h_; exact h_)
              have L0 := Lib.hid (fun g_ h_ => (HR0_24.out.lt g_ h_).2)
              have NE0o := Lib.hid n0o
              have NE0p := Lib.hid n0p
              have tok0 : True := trivial
              have O1 := Lib.hid (show v23.ownsRow w.heap.size 41 1 (.slice a1 j c1) j (h.map (Value.int .u64)) from by have h_ := HR1_24.out; unfold NR at h_; rw [HL1.out] at h_; exact h_)
              have L1 := Lib.hid (fun g_ h_ => (HR1_24.out.lt g_ h_).2)
              have NE1o := Lib.hid n1o
              have NE1p := Lib.hid n1p
              have tok1 : True := trivial
              have O2 := Lib.hid (show v23.ownsRow w.heap.size 41 1 (.slice a2 j c2) j (d.map (Value.int .u64)) from by have h_ := HR2_24.out; unfold NR at h_; rw [HL2.out] at h_; exact h_)
              have L2 := Lib.hid (fun g_ h_ => (HR2_24.out.lt g_ h_).2)
              have NE2o := Lib.hid n2o
              have NE2p := Lib.hid n2p
              have tok2 : True := trivial
              have OC0 := Lib.hid (show ∀ u ∈ ([.int .u64 0] : List Value), u.oneCell' = true from fun u hu => by rw [List.mem_singleton.1 hu]; rfl)
              have OC1 := Lib.hid (show ∀ u ∈ ([.int .u64 0] : List Value), u.oneCell' = true from fun u hu => by rw [List.mem_singleton.1 hu]; rfl)
              have OC2 := Lib.hid (show ∀ u ∈ ([.int .u64 tt] : List Value), u.oneCell' = true from fun u hu => by rw [List.mem_singleton.1 hu]; rfl)
              have m63 : j + 1 ≤ maxLen := by unfold maxLen; omega
              have mby : (j + 1) * 8 ≤ 140737488355328 := by omega
              obtain ⟨u1_, u2_, u3_, u4_⟩ := HU.out
              have KN2 := Lib.hid (HKN.out.snoc HGO.out HGT.out (x := 0) (y := 0) (z := tt) (by rcases u3_ with ⟨z1, z2⟩ | ⟨z1, z2⟩ <;> simp at ca_ <;> omega) (by rcases u3_ with ⟨z1, z2⟩ | ⟨z1, z2⟩ <;> simp at ca_ <;> omega) (by rcases u4_ with ⟨z1, z2⟩ | ⟨z1, z2⟩ <;> simp at cb_ <;> omega) (by rcases u4_ with ⟨z1, z2⟩ | ⟨z1, z2⟩ <;> simp at cb_ <;> omega) (by omega) (by omega) (by omega) (by omega) (by omega) (by omega) : KG r q n f (j + 1) oa2 ob2 ta2 tb2 (g ++ [0]) (h ++ [0]) (d ++ [tt]))
              clear u1_ u2_ u3_ u4_ HU HKN
              clear o0_ o1_ o2_ o3_ o4_ of0_ of1_ of2_ of3_ of4_ on_ om_ ol_ p0_ p1_ p2_ p3_ p4_ p5_ pf0_ pf1_ pf2_ pf3_ pf4_ pf5_ pn_ pm_ pl_ e0_ e1_ e2_ ef0_ ef1_ ef2_ en_ em_ el_
              go_wp2_with (first
                | (at_builtin; have _t := tok0; refine wpList_append_lies _ rfl _ _ 89 rfl w.heap.size 41 i0 (.int .u64 0) 1 8 Try.underlying89 hi hz0 hz1 hz2 rfl (by decide) (.slice a0 j c0) j (g.map (Value.int .u64)) (by rfl) (by (repeat' (first | (with_reducible exact O0.out) | (with_reducible refine World.ownsRow.alloc ?_ _)))) _ 1 1 [.int .u64 0] (by rfl) (by rfl) (by exact World.news_of_block (cs := #[.int .u64 0]) (by (repeat' (first | (with_reducible exact heap_alloc_new _ _) | (with_reducible exact blk_new (by first | (simp; done) | omega)) | (with_reducible refine blk_drew ?_) | (with_reducible refine blk_drewNr ?_) | (with_reducible refine blk_old ?_))))) OC0.out (by decide) m63 mby (by have h0 := HB24.out.size; first | (simp; omega) | (have h9 := hgrow0.size; simp at h9 ⊢; omega) | (have h9 := hgrow0.size; have h8 := hgrow1.size; simp at h9 h8 ⊢; omega)) _ rfl ?_; intro g0 cap0 W0 hown0 hgrow0 hat0 hlt0; clear tok0)
                | (at_builtin; have _t := tok1; refine wpList_append_lies _ rfl _ _ 89 rfl w.heap.size 41 i0 (.int .u64 0) 1 8 Try.underlying89 hi hz0 hz1 hz2 rfl (by decide) (.slice a1 j c1) j (h.map (Value.int .u64)) (by rfl) (by (repeat' (first | (with_reducible exact O1.out) | (with_reducible refine World.ownsRow.alloc ?_ _) | (refine own_grown hgrow0 Q10.out ?_)))) _ 1 1 [.int .u64 0] (by rfl) (by rfl) (by exact World.news_of_block (cs := #[.int .u64 0]) (by (repeat' (first | (with_reducible exact heap_alloc_new _ _) | (with_reducible exact blk_new (by first | (simp; done) | omega)) | (with_reducible refine blk_drew ?_) | (with_reducible refine blk_drewNr ?_) | (with_reducible refine blk_old ?_))))) OC1.out (by decide) m63 mby (by have h0 := HB24.out.size; first | (simp; omega) | (have h9 := hgrow0.size; simp at h9 ⊢; omega) | (have h9 := hgrow0.size; have h8 := hgrow1.size; simp at h9 h8 ⊢; omega)) _ rfl ?_; intro g1 cap1 W1 hown1 hgrow1 hat1 hlt1; clear tok1)
                | (at_builtin; have _t := tok2; refine wpList_append_lies _ rfl _ _ 89 rfl w.heap.size 41 i0 (.int .u64 0) 1 8 Try.underlying89 hi hz0 hz1 hz2 rfl (by decide) (.slice a2 j c2) j (d.map (Value.int .u64)) (by rfl) (by (repeat' (first | (with_reducible exact O2.out) | (with_reducible refine World.ownsRow.alloc ?_ _) | (refine own_grown hgrow0 Q20.out ?_) | (refine own_grown hgrow1 Q21.out ?_)))) _ 1 1 [.int .u64 tt] (by rfl) (by rfl) (by exact World.news_of_block (cs := #[.int .u64 tt]) (by (repeat' (first | (with_reducible exact heap_alloc_new _ _) | (with_reducible exact blk_new (by first | (simp; done) | omega)) | (with_reducible refine blk_drew ?_) | (with_reducible refine blk_drewNr ?_) | (with_reducible refine blk_old ?_))))) OC2.out (by decide) m63 mby (by have h0 := HB24.out.size; first | (simp; omega) | (have h9 := hgrow0.size; simp at h9 ⊢; omega) | (have h9 := hgrow0.size; have h8 := hgrow1.size; simp at h9 h8 ⊢; omega)) _ rfl ?_; intro g2 cap2 W2 hown2 hgrow2 hat2 hlt2; clear tok2))
              go_roundw
              case rel =>
                refine ⟨j + 1, oa2, ob2, ta2, tb2, _, _, _, by go_num, by omega, KN2.out, ?_, ?_, ?_, ?_, ?_, ?_, ?_, ?_, ?_⟩
                · (refine NR.snoc (n := _) HL0.out ?_; repeat' (first | (with_reducible exact hown0) | (with_reducible refine World.ownsRow.alloc ?_ _) | (refine own_new hgrow1 Q01.out L1.out hat0 (by first | (simp; done) | (simp; omega) | omega | (have h9 := hgrow0.size; simp at h9 ⊢; omega) | (have h8 := hgrow1.size; simp at h8 ⊢; omega) | (have h9 := hgrow0.size; have h8 := hgrow1.size; simp at h9 h8 ⊢; omega)) ?_) | (refine own_new hgrow2 Q02.out L2.out hat0 (by first | (simp; done) | (simp; omega) | omega | (have h9 := hgrow0.size; simp at h9 ⊢; omega) | (have h8 := hgrow1.size; simp at h8 ⊢; omega) | (have h9 := hgrow0.size; have h8 := hgrow1.size; simp at h9 h8 ⊢; omega)) ?_)))
                · (refine NR.snoc (n := _) HL1.out ?_; repeat' (first | (with_reducible exact hown1) | (with_reducible refine World.ownsRow.alloc ?_ _) | (refine own_new hgrow2 Q12.out L2.out hat1 (by first | (simp; done) | (simp; omega) | omega | (have h9 := hgrow0.size; simp at h9 ⊢; omega) | (have h8 := hgrow1.size; simp at h8 ⊢; omega) | (have h9 := hgrow0.size; have h8 := hgrow1.size; simp at h9 h8 ⊢; omega)) ?_)))
                · (refine NR.snoc (n := _) HL2.out ?_; repeat' (first | (with_reducible exact hown2) | (with_reducible refine World.ownsRow.alloc ?_ _)))
                · (refine apt ?_; exact apart2 Q01.out L0.out L1.out hat0 (by first | (simp; done) | (simp; omega) | omega | (have h9 := hgrow0.size; simp at h9 ⊢; omega) | (have h8 := hgrow1.size; simp at h8 ⊢; omega) | (have h9 := hgrow0.size; have h8 := hgrow1.size; simp at h9 h8 ⊢; omega)) hlt0 hat1 (by first | (simp; done) | (simp; omega) | omega | (have h9 := hgrow0.size; simp at h9 ⊢; omega) | (have h8 := hgrow1.size; simp at h8 ⊢; omega) | (have h9 := hgrow0.size; have h8 := hgrow1.size; simp at h9 h8 ⊢; omega)))
                · (refine apt ?_; exact apart2 Q02.out L0.out L2.out hat0 (by first | (simp; done) | (simp; omega) | omega | (have h9 := hgrow0.size; simp at h9 ⊢; omega) | (have h8 := hgrow1.size; simp at h8 ⊢; omega) | (have h9 := hgrow0.size; have h8 := hgrow1.size; simp at h9 h8 ⊢; omega)) hlt0 hat2 (by first | (simp; done) | (simp; omega) | omega | (have h9 := hgrow0.size; simp at h9 ⊢; omega) | (have h8 := hgrow1.size; simp at h8 ⊢; omega) | (have h9 := hgrow0.size; have h8 := hgrow1.size; simp at h9 h8 ⊢; omega)))
                · (refine apt ?_; exact apart2 Q12.out L1.out L2.out hat1 (by first | (simp; done) | (simp; omega) | omega | (have h9 := hgrow0.size; simp at h9 ⊢; omega) | (have h8 := hgrow1.size; simp at h8 ⊢; omega) | (have h9 := hgrow0.size; have h8 := hgrow1.size; simp at h9 h8 ⊢; omega)) hlt1 hat2 (by first | (simp; done) | (simp; omega) | omega | (have h9 := hgrow0.size; simp at h9 ⊢; omega) | (have h8 := hgrow1.size; simp at h8 ⊢; omega) | (have h9 := hgrow0.size; have h8 := hgrow1.size; simp at h9 h8 ⊢; omega)))
                · (repeat' (first | (with_reducible exact Ho24.out) | (with_reducible exact heap_alloc_new _ _) | (with_reducible exact blk_new (by first | (simp; done) | omega)) | (with_reducible refine blk_drew ?_) | (with_reducible refine blk_drewNr ?_) | (with_reducible refine blk_old ?_) | (refine blk_grown hgrow0 (NE0o.out) ?_) | (refine blk_grown hgrow1 (NE1o.out) ?_) | (refine blk_grown hgrow2 (NE2o.out) ?_)))
                · (repeat' (first | (with_reducible exact Hp24.out) | (with_reducible exact heap_alloc_new _ _) | (with_reducible exact blk_new (by first | (simp; done) | omega)) | (with_reducible refine blk_drew ?_) | (with_reducible refine blk_drewNr ?_) | (with_reducible refine blk_old ?_) | (refine blk_grown hgrow0 (NE0p.out) ?_) | (refine blk_grown hgrow1 (NE1p.out) ?_) | (refine blk_grown hgrow2 (NE2p.out) ?_)))
                · (repeat' (first | (with_reducible exact HB24.out) | (with_reducible refine Below.alloc ?_ (by have h0 := HB24.out.size; first | (simp; omega) | (have h9 := hgrow0.size; simp at h9 ⊢; omega) | (have h9 := hgrow0.size; have h8 := hgrow1.size; simp at h9 h8 ⊢; omega)) _) | (refine Below.grown ?_ hgrow0 (by have h0 := HB24.out.size; first | (simp; omega) | (have h9 := hgrow0.size; simp at h9 ⊢; omega) | (have h9 := hgrow0.size; have h8 := hgrow1.size; simp at h9 h8 ⊢; omega)) GE0.out) | (refine Below.grown ?_ hgrow1 (by have h0 := HB24.out.size; first | (simp; omega) | (have h9 := hgrow0.size; simp at h9 ⊢; omega) | (have h9 := hgrow0.size; have h8 := hgrow1.size; simp at h9 h8 ⊢; omega)) GE1.out) | (refine Below.grown ?_ hgrow2 (by have h0 := HB24.out.size; first | (simp; omega) | (have h9 := hgrow0.size; simp at h9 ⊢; omega) | (have h9 := hgrow0.size; have h8 := hgrow1.size; simp at h9 h8 ⊢; omega)) GE2.out)))
              case measure => simp [intOf] <;> omega
      · have hjn : j = N := by omega
        subst hjn
        obtain ⟨W0, rfl⟩ : ∃ x, x = wr := ⟨_, rfl⟩
        have HCG := Lib.hid KN0.cg
        have HCH := Lib.hid KN0.ch
        have HBG := Lib.hid KN0.bg
        have HBH := Lib.hid KN0.bh
        have HBD := Lib.hid KN0.bd
        have C0 := Lib.hid cell0
        have C1 := Lib.hid cell1
        have C2 := Lib.hid cell2
        have HL0 := Lib.hid hlg
        have HL1 := Lib.hid hlh
        have hmj : (j : Int) ≤ 60 := by omega
        have OF0 := Lib.hid (fun W => of_belm 0 (by decide) (by decide) W)
        have OFN := Lib.hid (fun W => of_belm n n0 n1 W)
        clear KN0 NG NH ND P01 P02 P12 cell0 cell1 cell2 hc0 hc1 hc2 hlg hlh hld hlt xb xo xt Ho9 Hp9
        go_wp2
        go_loopw [128] (fun e wq => ∃ i : Nat, e = .int .i64 i ∧ i ≤ j ∧ Below W0.heap.size W0 wq) (fun e _ => j - (intOf e).toNat)
        case atStart => exact ⟨0, rfl, Nat.zero_le _, Below.refl _ _⟩
        case round =>
          obtain ⟨i, rfl, hij, hb⟩ := hrel
          obtain ⟨W1, rfl⟩ : ∃ x, x = wr := ⟨_, rfl⟩
          by_cases hlt2 : i < j
          · have HB9b := Lib.hid hb
            clear hb
            go_wp2_with fail
            refine cl_gen ?_
            intro v9 hv9
            have XB : Below W0.heap.size W0 v9 := by
              rw [hv9]
              (repeat' (first | (with_reducible exact HB9b.out) | (with_reducible exact Below.refl _ _) | (with_reducible refine below_drewN _ ?_) | (with_reducible refine Below.drew ?_) | (with_reducible refine Below.setCell ?_ (by first | (simp; done) | omega) _) | (with_reducible refine Below.alloc ?_ (by have := HB9b.out.size; simp; omega) _)))
            clear hv9 HB9b
            refine (OF0.out _).mono ?_
            rintro e w10 ⟨pA, pB, rfl, hws, bb⟩
            have HB10 := Lib.hid (bel_onto XB bb XB.size)
            clear XB bb
            go_wp2_with fail
            refine cl_gen ?_
            intro v10 hv10
            have XB : Below W0.heap.size W0 v10 := by
              rw [hv10]
              (repeat' (first | (with_reducible exact HB10.out) | (with_reducible exact Below.refl _ _) | (with_reducible refine below_drewN _ ?_) | (with_reducible refine Below.drew ?_) | (with_reducible refine Below.setCell ?_ (by first | (simp; done) | omega) _) | (with_reducible refine Below.alloc ?_ (by have := HB10.out.size; simp; omega) _)))
            clear hv10 HB10
            refine (OF0.out _).mono ?_
            rintro e w11 ⟨qA, qB, rfl, hwz, bb⟩
            have HB11 := Lib.hid (bel_onto XB bb XB.size)
            clear XB bb
            go_wp2_with fail
            refine cl_gen ?_
            intro v11 hv11
            have XB : Below W0.heap.size W0 v11 := by
              rw [hv11]
              (repeat' (first | (with_reducible exact HB11.out) | (with_reducible exact Below.refl _ _) | (with_reducible refine below_drewN _ ?_) | (with_reducible refine Below.drew ?_) | (with_reducible refine Below.setCell ?_ (by first | (simp; done) | omega) _) | (with_reducible refine Below.alloc ?_ (by have := HB11.out.size; simp; omega) _)))
            clear hv11 HB11
            refine (OFN.out _).mono ?_
            rintro e w12 ⟨bA, bB, rfl, hwm, bb⟩
            have HB12 := Lib.hid (bel_onto XB bb XB.size)
            clear XB bb
            go_wp2
            refine wp_genc ?_
            intro v12 hv12
            have XB : Below W0.heap.size W0 v12 := by
              rw [hv12]
              (repeat' (first | (with_reducible exact HB12.out) | (with_reducible exact Below.refl _ _) | (with_reducible refine below_drewN _ ?_) | (with_reducible refine Below.drew ?_) | (with_reducible refine Below.setCell ?_ (by first | (simp; done) | omega) _) | (with_reducible refine Below.alloc ?_ (by have := HB12.out.size; simp; omega) _)))
            have Xs : v12.heap[w12.heap.size]? = some (.cells #[.int .u64 pA, .int .u64 pB, .int .u64 0, .int .u64 0] 93 (0, 0)) := by
              rw [hv12]
              (repeat' (first | (with_reducible exact heap_alloc_new _ _) | (with_reducible exact blk_new (by first | (simp; done) | omega)) | (with_reducible refine blk_drew ?_) | (with_reducible apply put4_0) | (with_reducible apply put4_1) | (with_reducible apply put4_2) | (with_reducible apply put4_3) | (with_reducible refine blk_else (by omega) ?_) | (with_reducible refine blk_old ?_)))
            have Xz : v12.heap[w12.heap.size + 1]? = some (.cells #[.int .u64 qA, .int .u64 qB, .int .u64 0, .int .u64 0] 93 (0, 0)) := by
              rw [hv12]
              (repeat' (first | (with_reducible exact heap_alloc_new _ _) | (with_reducible exact blk_new (by first | (simp; done) | omega)) | (with_reducible refine blk_drew ?_) | (with_reducible apply put4_0) | (with_reducible apply put4_1) | (with_reducible apply put4_2) | (with_reducible apply put4_3) | (with_reducible refine blk_else (by omega) ?_) | (with_reducible refine blk_old ?_)))
            have Xm : v12.heap[w12.heap.size + 1 + 1]? = some (.cells #[.int .u64 bA, .int .u64 bB, .int .u64 0, .int .u64 0] 93 (0, 0)) := by
              rw [hv12]
              (repeat' (first | (with_reducible exact heap_alloc_new _ _) | (with_reducible exact blk_new (by first | (simp; done) | omega)) | (with_reducible refine blk_drew ?_) | (with_reducible apply put4_0) | (with_reducible apply put4_1) | (with_reducible apply put4_2) | (with_reducible apply put4_3) | (with_reducible refine blk_else (by omega) ?_) | (with_reducible refine blk_old ?_)))
            obtain ⟨Bm, hBm⟩ : ∃ x, x = w12.heap.size + 1 + 1 := ⟨_, rfl⟩
            rw [← hBm] at Xm
            try rw [← hBm]
            have lem : W0.heap.size ≤ Bm := by have := HB12.out.size; omega
            obtain ⟨Bz, hBz⟩ : ∃ x, x = w12.heap.size + 1 := ⟨_, rfl⟩
            rw [← hBz] at Xz
            try rw [← hBz]
            have nzm : ¬ Bz = Bm := by omega
            have nmz : ¬ Bm = Bz := fun h => nzm h.symm
            have lez : W0.heap.size ≤ Bz := by have := HB12.out.size; omega
            obtain ⟨Bs, hBs⟩ : ∃ x, x = w12.heap.size := ⟨_, rfl⟩
            rw [← hBs] at Xs
            try rw [← hBs]
            have nsm : ¬ Bs = Bm := by omega
            have nms : ¬ Bm = Bs := fun h => nsm h.symm
            have nsz : ¬ Bs = Bz := by omega
            have nzs : ¬ Bz = Bs := fun h => nsz h.symm
            have les : W0.heap.size ≤ Bs := by have := HB12.out.size; omega
            clear hBs hBz hBm
            clear hv12 HB12
            have Hm13 := Lib.hid Xm
            have Hz13 := Lib.hid Xz
            have Hs13 := Lib.hid Xs
            have HB13 := Lib.hid XB
            clear Xm Xz Xs XB
            obtain ⟨m0_, m1_, m2_, m3_, mf0_, mf1_, mf2_, mf3_⟩ := at4 Hm13.out
            have mn_ := ne_blk Hm13.out
            have mm_ := Ne.symm (a := Bm) mn_
            have ml_ := lt_blk Hm13.out
            obtain ⟨z0_, z1_, z2_, z3_, zf0_, zf1_, zf2_, zf3_⟩ := at4 Hz13.out
            have zn_ := ne_blk Hz13.out
            have zm_ := Ne.symm (a := Bz) zn_
            have zl_ := lt_blk Hz13.out
            obtain ⟨s0_, s1_, s2_, s3_, sf0_, sf1_, sf2_, sf3_⟩ := at4 Hs13.out
            have sn_ := ne_blk Hs13.out
            have sm_ := Ne.symm (a := Bs) sn_
            have sl_ := lt_blk Hs13.out
            clear m0_ m1_ m2_ m3_ mf0_ mf1_ mf2_ mf3_ mn_ mm_ ml_ z0_ z1_ z2_ z3_ zf0_ zf1_ zf2_ zf3_ zn_ zm_ zl_ s0_ s1_ s2_ s3_ sf0_ sf1_ sf2_ sf3_ sn_ sm_ sl_
            go_loopw [30] (fun e wu => ∃ (t K : Nat) (sA sB sC sD zA zB zC zD mA mB mC mD : Int), e = .int .i64 K ∧ K = i + t ∧ K ≤ j ∧ Wide sA sB sC sD (seg g i t) ∧ Wide zA zB zC zD (seg h i t) ∧ Wide mA mB mC mD (n + r * seg d (i + 1) (t - 1)) ∧ n + r * seg d (i + 1) (t - 1) ≤ 18446744073709551616 + t * 1208925819614629174706176 ∧ wu.heap[Bs]? = some (.cells #[.int .u64 sA, .int .u64 sB, .int .u64 sC, .int .u64 sD] 93 (0, 0)) ∧ wu.heap[Bz]? = some (.cells #[.int .u64 zA, .int .u64 zB, .int .u64 zC, .int .u64 zD] 93 (0, 0)) ∧ wu.heap[Bm]? = some (.cells #[.int .u64 mA, .int .u64 mB, .int .u64 mC, .int .u64 mD] 93 (0, 0)) ∧ Below W0.heap.size W0 wu) (fun e _ => j - (intOf e).toNat)
            case atStart =>
              refine ⟨0, i, pA, pB, 0, 0, qA, qB, 0, 0, bA, bB, 0, 0, rfl, rfl, by omega, hws, hwz, ?_, ?_, Hs13.out, Hz13.out, Hm13.out, HB13.out⟩
              · rw [show seg d (i + 1) (0 - 1) = 0 from rfl, Int.mul_zero, Int.add_zero]; exact hwm
              · rw [show seg d (i + 1) (0 - 1) = 0 from rfl, Int.mul_zero, Int.add_zero]; omega
            case round =>
              clear Hs13 Hz13 Hm13 HB13 hws hwz hwm
              obtain ⟨t, K, sA, sB, sC, sD, zA, zB, zC, zD, mA, mB, mC, mD, rfl, hK, hqj, hws, hwz, hwm, hmb, xs_, xz_, xm_, xb_⟩ := hrel
              obtain ⟨W2, rfl⟩ : ∃ x, x = wr := ⟨_, rfl⟩
              have nsz : ¬ Bs = Bz := fun e => nzs e.symm
              have nsm : ¬ Bs = Bm := fun e => nms e.symm
              have nzm : ¬ Bz = Bm := fun e => nmz e.symm
              have Hs9 := Lib.hid xs_; have Hz9 := Lib.hid xz_; have Hm9 := Lib.hid xm_; have HB9c := Lib.hid xb_
              by_cases hlt3 : K < j
              · obtain ⟨gb, rfl, hgb, hgc⟩ := C0.out K hlt3
                obtain ⟨hb_, rfl, hhb, hhc⟩ := C1.out K hlt3
                obtain ⟨db, rfl, hdb, hdc⟩ := C2.out K hlt3
                have part := HCG.out.part i t (by rw [HL0.out, ← hK]; exact hlt3)
                have parth := HCH.out.part i t (by rw [HL1.out, ← hK]; exact hlt3)
                obtain ⟨p0_, p1_⟩ := seg_bounds HBG.out (by decide) i t
                obtain ⟨p2_, p3_⟩ := seg_bounds HBH.out (by decide) i t
                obtain ⟨p4_, p5_⟩ := getD_all (P := fun x => 0 ≤ x ∧ x ≤ 18446744073709551615) HBG.out (by decide) K
                obtain ⟨p6_, p7_⟩ := getD_all (P := fun x => 0 ≤ x ∧ x ≤ 18446744073709551615) HBH.out (by decide) K
                obtain ⟨p8_, p9_⟩ := getD_all (P := fun x => 0 ≤ x ∧ x ≤ 281474976710655) HBD.out (by decide) K
                have q80 : (t : Int) ≤ 60 := by omega
                have iK : (i : Int) ≤ K := by omega
                have p1' : seg g i t ≤ 60 * 18446744073709551615 := by omega
                have p3' : seg h i t ≤ 60 * 18446744073709551615 := by omega
                have E1_ := seg_succ g i t
                have F1_ := seg_succ h i t
                rw [← hK] at E1_ F1_
                have E1 := Lib.hid E1_
                have F1 := Lib.hid F1_
                have HK := Lib.hid hK
                obtain ⟨gk, hgk⟩ : ∃ x, g.getD K 0 = x := ⟨_, rfl⟩
                obtain ⟨hk_, hhk⟩ : ∃ x, h.getD K 0 = x := ⟨_, rfl⟩
                obtain ⟨dk, hdk⟩ : ∃ x, d.getD K 0 = x := ⟨_, rfl⟩
                rw [hgk] at hgc p4_ p5_ E1
                rw [hhk] at hhc p6_ p7_ F1
                rw [hdk] at hdc p8_ p9_
                rw [E1.out, Int.add_zero] at part
                rw [F1.out, Int.add_zero] at parth
                have HGC := Lib.hid hgc
                have HHC := Lib.hid hhc
                have HDC := Lib.hid hdc
                have kg_ := (xb_.cell (p := ⟨gb, K, none⟩) hgb).trans hgc
                have kh_ := (xb_.cell (p := ⟨hb_, K, none⟩) hhb).trans hhc
                have hhb' : hb_ < W2.heap.size := Nat.lt_of_lt_of_le hhb xb_.size
                have OFG := Lib.hid (fun W => of_belm gk p4_ p5_ W)
                have OFH0 := Lib.hid (fun W => of_belm hk_ p6_ p7_ W)
                have TM := Lib.hid (fun W => times_any r dk (by omega) (by omega) p8_ (by omega) W)
                obtain ⟨SG, hSG⟩ : ∃ x, seg g i t = x := ⟨_, rfl⟩
                obtain ⟨SH, hSH⟩ : ∃ x, seg h i t = x := ⟨_, rfl⟩
                rw [hSG] at hws part p0_ p1' E1
                rw [hSH] at hwz parth p2_ p3' F1
                have HPT := Lib.hid (And.intro part parth)
                have HDK := Lib.hid hdk
                clear E1_ F1_ hK p1_ p3_ hgc hhc hdc xs_ xz_ xm_ xb_ hgk hhk hdk hSG hSH part parth
                obtain ⟨s0_, s1_, s2_, s3_, sf0_, sf1_, sf2_, sf3_⟩ := at4 Hs9.out
                have sn_ := ne_blk Hs9.out
                have sm_ := Ne.symm (a := Bs) sn_
                have sl_ := lt_blk Hs9.out
                obtain ⟨z0_, z1_, z2_, z3_, zf0_, zf1_, zf2_, zf3_⟩ := at4 Hz9.out
                have zn_ := ne_blk Hz9.out
                have zm_ := Ne.symm (a := Bz) zn_
                have zl_ := lt_blk Hz9.out
                obtain ⟨m0_, m1_, m2_, m3_, mf0_, mf1_, mf2_, mf3_⟩ := at4 Hm9.out
                have mn_ := ne_blk Hm9.out
                have mm_ := Ne.symm (a := Bm) mn_
                have ml_ := lt_blk Hm9.out
                go_upto_region 30 with (fail)
                have KTS := Lib.hid (fun (W : World) (a_ b_ c_ d_ : Value) (hS : W.cell? ⟨gb, K, none⟩ = some (.int .u64 gk) ∧ W.cell? ⟨hb_, K, none⟩ = some (.int .u64 hk_)) =>
                  have ng : ∀ k, (⟨Bs, k, none⟩ : Addr) ≠ ⟨gb, K, none⟩ := fun k e => by injection e with e1 e2 e3; omega
                  have nh : ∀ k, (⟨Bs, k, none⟩ : Addr) ≠ ⟨hb_, K, none⟩ := fun k e => by injection e with e1 e2 e3; omega
                  (⟨(World.cell?_setCell_other _ ⟨Bs, 3, none⟩ ⟨gb, K, none⟩ d_ (ng 3)).trans ((World.cell?_setCell_other _ ⟨Bs, 2, none⟩ ⟨gb, K, none⟩ c_ (ng 2)).trans ((World.cell?_setCell_other _ ⟨Bs, 1, none⟩ ⟨gb, K, none⟩ b_ (ng 1)).trans ((World.cell?_setCell_other _ ⟨Bs, 0, none⟩ ⟨gb, K, none⟩ a_ (ng 0)).trans hS.1))), (World.cell?_setCell_other _ ⟨Bs, 3, none⟩ ⟨hb_, K, none⟩ d_ (nh 3)).trans ((World.cell?_setCell_other _ ⟨Bs, 2, none⟩ ⟨hb_, K, none⟩ c_ (nh 2)).trans ((World.cell?_setCell_other _ ⟨Bs, 1, none⟩ ⟨hb_, K, none⟩ b_ (nh 1)).trans ((World.cell?_setCell_other _ ⟨Bs, 0, none⟩ ⟨hb_, K, none⟩ a_ (nh 0)).trans hS.2)))⟩ : ((((W.setCell ⟨Bs, 0, none⟩ a_).setCell ⟨Bs, 1, none⟩ b_).setCell ⟨Bs, 2, none⟩ c_).setCell ⟨Bs, 3, none⟩ d_).cell? ⟨gb, K, none⟩ = some (.int .u64 gk) ∧ ((((W.setCell ⟨Bs, 0, none⟩ a_).setCell ⟨Bs, 1, none⟩ b_).setCell ⟨Bs, 2, none⟩ c_).setCell ⟨Bs, 3, none⟩ d_).cell? ⟨hb_, K, none⟩ = some (.int .u64 hk_)))
                have KTZ := Lib.hid (fun (W : World) (a_ b_ c_ d_ : Value) (hS : W.cell? ⟨gb, K, none⟩ = some (.int .u64 gk) ∧ W.cell? ⟨hb_, K, none⟩ = some (.int .u64 hk_)) =>
                  have ng : ∀ k, (⟨Bz, k, none⟩ : Addr) ≠ ⟨gb, K, none⟩ := fun k e => by injection e with e1 e2 e3; omega
                  have nh : ∀ k, (⟨Bz, k, none⟩ : Addr) ≠ ⟨hb_, K, none⟩ := fun k e => by injection e with e1 e2 e3; omega
                  (⟨(World.cell?_setCell_other _ ⟨Bz, 3, none⟩ ⟨gb, K, none⟩ d_ (ng 3)).trans ((World.cell?_setCell_other _ ⟨Bz, 2, none⟩ ⟨gb, K, none⟩ c_ (ng 2)).trans ((World.cell?_setCell_other _ ⟨Bz, 1, none⟩ ⟨gb, K, none⟩ b_ (ng 1)).trans ((World.cell?_setCell_other _ ⟨Bz, 0, none⟩ ⟨gb, K, none⟩ a_ (ng 0)).trans hS.1))), (World.cell?_setCell_other _ ⟨Bz, 3, none⟩ ⟨hb_, K, none⟩ d_ (nh 3)).trans ((World.cell?_setCell_other _ ⟨Bz, 2, none⟩ ⟨hb_, K, none⟩ c_ (nh 2)).trans ((World.cell?_setCell_other _ ⟨Bz, 1, none⟩ ⟨hb_, K, none⟩ b_ (nh 1)).trans ((World.cell?_setCell_other _ ⟨Bz, 0, none⟩ ⟨hb_, K, none⟩ a_ (nh 0)).trans hS.2)))⟩ : ((((W.setCell ⟨Bz, 0, none⟩ a_).setCell ⟨Bz, 1, none⟩ b_).setCell ⟨Bz, 2, none⟩ c_).setCell ⟨Bz, 3, none⟩ d_).cell? ⟨gb, K, none⟩ = some (.int .u64 gk) ∧ ((((W.setCell ⟨Bz, 0, none⟩ a_).setCell ⟨Bz, 1, none⟩ b_).setCell ⟨Bz, 2, none⟩ c_).setCell ⟨Bz, 3, none⟩ d_).cell? ⟨hb_, K, none⟩ = some (.int .u64 hk_)))
                go_cut [30] (fun e30 wx => ∃ (tA tB tC tD vA vB vC vD : Int), e30 = .int .i64 K ∧ Wide tA tB tC tD (SG + gk) ∧ Wide vA vB vC vD (SH + hk_) ∧ wx.heap[Bs]? = some (.cells #[.int .u64 tA, .int .u64 tB, .int .u64 tC, .int .u64 tD] 93 (0, 0)) ∧ wx.heap[Bz]? = some (.cells #[.int .u64 vA, .int .u64 vB, .int .u64 vC, .int .u64 vD] 93 (0, 0)) ∧ wx.heap[Bm]? = some (.cells #[.int .u64 mA, .int .u64 mB, .int .u64 mC, .int .u64 mD] 93 (0, 0)) ∧ Below W0.heap.size W0 wx)
                case first =>
                  skip
                  refine wp_region_noPanic ?_
                  refine wp_region_held_drew (S := (fun v => v.cell? ⟨gb, K, none⟩ = some (.int .u64 gk) ∧ v.cell? ⟨hb_, K, none⟩ = some (.int .u64 hk_))) (by kernel_rfl) ⟨kg_, kh_⟩ (fun hHeld => ?_)
                  refine take_list (i := 1) (oi := _) (v := ?_) rfl (by kernel_rfl) (by kernel_rfl) (by kernel_rfl) (fun _ _ _ h => h) (Or.inl ⟨by rfl, ?_⟩) (by assumption) ?_
                  rotate_left 1
                  · intro v hSw
                    (try dsimp only at hSw)
                    go_simp
                    try with_reducible rfl
                  try simp only [List.getElem_toArray, List.getElem_cons_succ, List.getElem_cons_zero, Act.put, List.setIfInBounds_toArray, List.set_cons_zero, List.set_cons_succ]
                  refine take_list (i := 2) (oi := _) (v := ?_) rfl (by kernel_rfl) (by kernel_rfl) (by kernel_rfl) (fun _ _ _ h => h) (Or.inl ⟨by rfl, ?_⟩) (by assumption) ?_
                  rotate_left 1
                  · intro v hSw
                    (try dsimp only at hSw)
                    go_simp
                    try with_reducible rfl
                  try simp only [List.getElem_toArray, List.getElem_cons_succ, List.getElem_cons_zero, Act.put, List.setIfInBounds_toArray, List.set_cons_zero, List.set_cons_succ]
                  refine take_list (i := 3) (oi := _) (v := ?_) rfl (by kernel_rfl) (by kernel_rfl) (by kernel_rfl) (fun _ _ _ h => h) (Or.inl ⟨by rfl, ?_⟩) (by assumption) ?_
                  rotate_left 1
                  · intro v hSw
                    (try dsimp only at hSw)
                    go_simp
                    try with_reducible rfl
                  try simp only [List.getElem_toArray, List.getElem_cons_succ, List.getElem_cons_zero, Act.put, List.setIfInBounds_toArray, List.set_cons_zero, List.set_cons_succ]
                  refine take_list (i := 4) (oi := _) (v := ?_) rfl (by kernel_rfl) (by kernel_rfl) (by kernel_rfl) (fun _ _ _ h => h) (Or.inl ⟨by rfl, ?_⟩) (by assumption) ?_
                  rotate_left 1
                  · intro v hSw
                    (try dsimp only at hSw)
                    go_simp
                    try with_reducible rfl
                  try simp only [List.getElem_toArray, List.getElem_cons_succ, List.getElem_cons_zero, Act.put, List.setIfInBounds_toArray, List.set_cons_zero, List.set_cons_succ]
                  refine take_list (i := 8) (oi := _) (v := ?_) rfl (by kernel_rfl) (by kernel_rfl) (by kernel_rfl) (fun _ _ _ h => h) (Or.inl ⟨by rfl, ?_⟩) (by assumption) ?_
                  rotate_left 1
                  · intro v hSw
                    (try dsimp only at hSw)
                    go_simp
                    try with_reducible rfl
                  try simp only [List.getElem_toArray, List.getElem_cons_succ, List.getElem_cons_zero, Act.put, List.setIfInBounds_toArray, List.set_cons_zero, List.set_cons_succ]
                  refine take_list (i := 9) (oi := _) (v := ?_) rfl (by kernel_rfl) (by kernel_rfl) (by kernel_rfl) (fun _ _ _ h => h) (Or.inl ⟨by rfl, ?_⟩) (by assumption) ?_
                  rotate_left 1
                  · intro v hSw
                    (try dsimp only at hSw)
                    go_simp
                    try with_reducible rfl
                  try simp only [List.getElem_toArray, List.getElem_cons_succ, List.getElem_cons_zero, Act.put, List.setIfInBounds_toArray, List.set_cons_zero, List.set_cons_succ]
                  refine take_list (i := 10) (oi := _) (v := ?_) rfl (by kernel_rfl) (by kernel_rfl) (by kernel_rfl) (fun _ _ _ h => h) (Or.inl ⟨by rfl, ?_⟩) (by assumption) ?_
                  rotate_left 1
                  · intro v hSw
                    (try dsimp only at hSw)
                    go_simp
                    try with_reducible rfl
                  try simp only [List.getElem_toArray, List.getElem_cons_succ, List.getElem_cons_zero, Act.put, List.setIfInBounds_toArray, List.set_cons_zero, List.set_cons_succ]
                  refine take_list (i := 11) (oi := _) (v := ?_) rfl (by kernel_rfl) (by kernel_rfl) (by kernel_rfl) (fun _ _ _ h => h) (Or.inl ⟨by rfl, ?_⟩) (by assumption) ?_
                  rotate_left 1
                  · intro v hSw
                    (try dsimp only at hSw)
                    go_simp
                    try with_reducible rfl
                  try simp only [List.getElem_toArray, List.getElem_cons_succ, List.getElem_cons_zero, Act.put, List.setIfInBounds_toArray, List.set_cons_zero, List.set_cons_succ]
                  refine wpAnyH_ready (rs := [0, 5, 7]) (by kernel_rfl) (by simp) ?_
                  refine (cons_list (o := _) rfl (fun KQ hK => ?_) (cons_list (o := _) rfl (fun KQ hK => ?_) (cons_list (o := _) rfl (fun KQ hK => ?_) AllReadyH.nil)))
                  · rw [if_pos (by rfl)]
                    go_simp
                    refine hK.out _ _ (⟨kg_, kh_⟩) (fun hHeld => ?_)
                    clear hK KQ
                    try simp only [List.getElem_toArray, List.getElem_cons_succ, List.getElem_cons_zero, Act.put, List.setIfInBounds_toArray, List.set_cons_zero, List.set_cons_succ]
                    refine wpAnyH_ready (rs := [5, 7]) (by kernel_rfl) (by simp) ?_
                    refine (cons_list (o := _) rfl (fun KQ hK => ?_) (cons_list (o := _) rfl (fun KQ hK => ?_) AllReadyH.nil))
                    · rw [if_pos (by rfl)]
                      go_wp2_with (go_at_call 37; with_reducible refine (OFG.out _).mono ?_; rintro e u1 ⟨oA, oB, rfl, hwo, hu1⟩; have Ys : u1.heap[Bs]? = some (.cells #[.int .u64 sA, .int .u64 sB, .int .u64 sC, .int .u64 sD] 93 (0, 0)) := blk_call hu1 (by first | exact Hs9.out | exact blk_drew Hs9.out); have Yz : u1.heap[Bz]? = some (.cells #[.int .u64 zA, .int .u64 zB, .int .u64 zC, .int .u64 zD] 93 (0, 0)) := blk_call hu1 (by first | exact Hz9.out | exact blk_drew Hz9.out); have Ym : u1.heap[Bm]? = some (.cells #[.int .u64 mA, .int .u64 mB, .int .u64 mC, .int .u64 mD] 93 (0, 0)) := blk_call hu1 (by first | exact Hm9.out | exact blk_drew Hm9.out); have YB : Below W0.heap.size W0 u1 := bel_call hu1 (by first | exact HB9c.out | exact HB9c.out.drew) (Nat.le_refl _); obtain ⟨s0c, s1c, s2c, s3c, sf0c, sf1c, sf2c, sf3c⟩ := at4 Ys; have slc := lt_blk Ys; obtain ⟨z0c, z1c, z2c, z3c, zf0c, zf1c, zf2c, zf3c⟩ := at4 Yz; have zlc := lt_blk Yz; have khc := (YB.cell (p := ⟨hb_, K, none⟩) hhb).trans HHC.out; have hhc' : hb_ < u1.heap.size := Nat.lt_of_lt_of_le hhb YB.size; have HS21 := Lib.hid (show u1.cell? ⟨gb, K, none⟩ = some (.int .u64 gk) ∧ u1.cell? ⟨hb_, K, none⟩ = some (.int .u64 hk_) from ⟨(YB.cell (p := ⟨gb, K, none⟩) hgb).trans HGC.out, (YB.cell (p := ⟨hb_, K, none⟩) hhb).trans HHC.out⟩); have Hs21 := Lib.hid Ys; have Hz21 := Lib.hid Yz; have Hm21 := Lib.hid Ym; have HB21 := Lib.hid YB; clear hu1 YB Ys Yz Ym; have PL1 := Lib.hid (fun W => plus_any sA sB sC sD oA oB 0 0 SG gk hws hwo (by omega) W); clear OFG hwo)
                      refine hK.out _ _ (HS21.out) (fun hHeld => ?_)
                      clear hK KQ
                      try simp only [List.getElem_toArray, List.getElem_cons_succ, List.getElem_cons_zero, Act.put, List.setIfInBounds_toArray, List.set_cons_zero, List.set_cons_succ]
                      refine wpAnyH_ready (rs := [6, 7]) (by kernel_rfl) (by simp) ?_
                      refine (cons_list (o := _) rfl (fun KQ hK => ?_) (cons_list (o := _) rfl (fun KQ hK => ?_) AllReadyH.nil))
                      · rw [if_pos (by rfl)]
                        go_wp2_with (have _t := PL1; go_at_call 38; with_reducible refine (PL1.out _).mono ?_; rintro e u2 ⟨tA, tB, tC, tD, rfl, hwt, hu2⟩; have Ys : u2.heap[Bs]? = some (.cells #[.int .u64 sA, .int .u64 sB, .int .u64 sC, .int .u64 sD] 93 (0, 0)) := blk_call hu2 (by first | exact Hs21.out | exact blk_drew Hs21.out); have Yz : u2.heap[Bz]? = some (.cells #[.int .u64 zA, .int .u64 zB, .int .u64 zC, .int .u64 zD] 93 (0, 0)) := blk_call hu2 (by first | exact Hz21.out | exact blk_drew Hz21.out); have Ym : u2.heap[Bm]? = some (.cells #[.int .u64 mA, .int .u64 mB, .int .u64 mC, .int .u64 mD] 93 (0, 0)) := blk_call hu2 (by first | exact Hm21.out | exact blk_drew Hm21.out); have YB : Below W0.heap.size W0 u2 := bel_call hu2 (by first | exact HB21.out | exact HB21.out.drew) (Nat.le_refl _); clear s0c s1c s2c s3c z0c z1c z2c z3c sf0c sf1c sf2c sf3c zf0c zf1c zf2c zf3c slc zlc khc hhc'; obtain ⟨s0c, s1c, s2c, s3c, sf0c, sf1c, sf2c, sf3c⟩ := at4 Ys; have slc := lt_blk Ys; obtain ⟨z0c, z1c, z2c, z3c, zf0c, zf1c, zf2c, zf3c⟩ := at4 Yz; have zlc := lt_blk Yz; have khc := (YB.cell (p := ⟨hb_, K, none⟩) hhb).trans HHC.out; have hhc' : hb_ < u2.heap.size := Nat.lt_of_lt_of_le hhb YB.size; have HS22 := Lib.hid (show u2.cell? ⟨gb, K, none⟩ = some (.int .u64 gk) ∧ u2.cell? ⟨hb_, K, none⟩ = some (.int .u64 hk_) from ⟨(YB.cell (p := ⟨gb, K, none⟩) hgb).trans HGC.out, (YB.cell (p := ⟨hb_, K, none⟩) hhb).trans HHC.out⟩); have Hs22 := Lib.hid Ys; have Hz22 := Lib.hid Yz; have Hm22 := Lib.hid Ym; have HB22 := Lib.hid YB; clear hu2 YB Ys Yz Ym; have OFH := OFH0; clear PL1 OFH0)
                        refine hK.out _ _ (HS22.out) (fun hHeld => ?_)
                        clear hK KQ
                        try simp only [List.getElem_toArray, List.getElem_cons_succ, List.getElem_cons_zero, Act.put, List.setIfInBounds_toArray, List.set_cons_zero, List.set_cons_succ]
                        refine wpAnyH_ready (rs := [7, 12]) (by kernel_rfl) (by simp) ?_
                        refine (cons_list (o := _) rfl (fun KQ hK => ?_) (cons_list (o := _) rfl (fun KQ hK => ?_) AllReadyH.nil))
                        · rw [if_pos (by rfl)]
                          go_simp
                          refine hK.out _ _ (HS22.out) (fun hHeld => ?_)
                          clear hK KQ
                          try simp only [List.getElem_toArray, List.getElem_cons_succ, List.getElem_cons_zero, Act.put, List.setIfInBounds_toArray, List.set_cons_zero, List.set_cons_succ]
                          refine wpAnyH_ready (rs := [12]) (by kernel_rfl) (by simp) ?_
                          refine (cons_list (o := _) rfl (fun KQ hK => ?_) AllReadyH.nil)
                          rw [if_pos (by rfl)]
                          go_wp2_with (have _t := OFH; go_at_call 37; with_reducible refine (OFH.out _).mono ?_; rintro e u3 ⟨rA, rB, rfl, hwo, hu3⟩; have Ys : u3.heap[Bs]? = some (.cells #[.int .u64 sA, .int .u64 sB, .int .u64 sC, .int .u64 sD] 93 (0, 0)) := blk_call hu3 (by first | exact Hs22.out | exact blk_drew Hs22.out); have Yz : u3.heap[Bz]? = some (.cells #[.int .u64 zA, .int .u64 zB, .int .u64 zC, .int .u64 zD] 93 (0, 0)) := blk_call hu3 (by first | exact Hz22.out | exact blk_drew Hz22.out); have Ym : u3.heap[Bm]? = some (.cells #[.int .u64 mA, .int .u64 mB, .int .u64 mC, .int .u64 mD] 93 (0, 0)) := blk_call hu3 (by first | exact Hm22.out | exact blk_drew Hm22.out); have YB : Below W0.heap.size W0 u3 := bel_call hu3 (by first | exact HB22.out | exact HB22.out.drew) (Nat.le_refl _); clear s0c s1c s2c s3c z0c z1c z2c z3c sf0c sf1c sf2c sf3c zf0c zf1c zf2c zf3c slc zlc khc hhc'; obtain ⟨s0c, s1c, s2c, s3c, sf0c, sf1c, sf2c, sf3c⟩ := at4 Ys; have slc := lt_blk Ys; obtain ⟨z0c, z1c, z2c, z3c, zf0c, zf1c, zf2c, zf3c⟩ := at4 Yz; have zlc := lt_blk Yz; have khc := (YB.cell (p := ⟨hb_, K, none⟩) hhb).trans HHC.out; have hhc' : hb_ < u3.heap.size := Nat.lt_of_lt_of_le hhb YB.size; have HS23 := Lib.hid (show u3.cell? ⟨gb, K, none⟩ = some (.int .u64 gk) ∧ u3.cell? ⟨hb_, K, none⟩ = some (.int .u64 hk_) from ⟨(YB.cell (p := ⟨gb, K, none⟩) hgb).trans HGC.out, (YB.cell (p := ⟨hb_, K, none⟩) hhb).trans HHC.out⟩); have Hs23 := Lib.hid Ys; have Hz23 := Lib.hid Yz; have Hm23 := Lib.hid Ym; have HB23 := Lib.hid YB; clear hu3 YB Ys Yz Ym; have PL2 := Lib.hid (fun W => plus_any zA zB zC zD rA rB 0 0 SH hk_ hwz hwo (by omega) W); clear OFH hwo)
                          refine hK.out _ _ (HS23.out) (fun hHeld => ?_)
                          clear hK KQ
                          try simp only [List.getElem_toArray, List.getElem_cons_succ, List.getElem_cons_zero, Act.put, List.setIfInBounds_toArray, List.set_cons_zero, List.set_cons_succ]
                          refine wpAnyH_ready (rs := [13]) (by kernel_rfl) (by simp) ?_
                          refine (cons_list (o := _) rfl (fun KQ hK => ?_) AllReadyH.nil)
                          rw [if_pos (by rfl)]
                          go_wp2_with (have _t := PL2; go_at_call 38; with_reducible refine (PL2.out _).mono ?_; rintro e u4 ⟨vA, vB, vC, vD, rfl, hwv, hu4⟩; have Ys : u4.heap[Bs]? = some (.cells #[.int .u64 sA, .int .u64 sB, .int .u64 sC, .int .u64 sD] 93 (0, 0)) := blk_call hu4 (by first | exact Hs23.out | exact blk_drew Hs23.out); have Yz : u4.heap[Bz]? = some (.cells #[.int .u64 zA, .int .u64 zB, .int .u64 zC, .int .u64 zD] 93 (0, 0)) := blk_call hu4 (by first | exact Hz23.out | exact blk_drew Hz23.out); have Ym : u4.heap[Bm]? = some (.cells #[.int .u64 mA, .int .u64 mB, .int .u64 mC, .int .u64 mD] 93 (0, 0)) := blk_call hu4 (by first | exact Hm23.out | exact blk_drew Hm23.out); have YB : Below W0.heap.size W0 u4 := bel_call hu4 (by first | exact HB23.out | exact HB23.out.drew) (Nat.le_refl _); clear s0c s1c s2c s3c z0c z1c z2c z3c sf0c sf1c sf2c sf3c zf0c zf1c zf2c zf3c slc zlc khc hhc'; obtain ⟨s0c, s1c, s2c, s3c, sf0c, sf1c, sf2c, sf3c⟩ := at4 Ys; have slc := lt_blk Ys; obtain ⟨z0c, z1c, z2c, z3c, zf0c, zf1c, zf2c, zf3c⟩ := at4 Yz; have zlc := lt_blk Yz; have khc := (YB.cell (p := ⟨hb_, K, none⟩) hhb).trans HHC.out; have hhc' : hb_ < u4.heap.size := Nat.lt_of_lt_of_le hhb YB.size; have HS24 := Lib.hid (show u4.cell? ⟨gb, K, none⟩ = some (.int .u64 gk) ∧ u4.cell? ⟨hb_, K, none⟩ = some (.int .u64 hk_) from ⟨(YB.cell (p := ⟨gb, K, none⟩) hgb).trans HGC.out, (YB.cell (p := ⟨hb_, K, none⟩) hhb).trans HHC.out⟩); have Hs24 := Lib.hid Ys; have Hz24 := Lib.hid Yz; have Hm24 := Lib.hid Ym; have HB24 := Lib.hid YB; clear hu4 YB Ys Yz Ym; clear PL2)
                          refine hK.out _ _ (HS24.out) (fun hHeld => ?_)
                          clear hK KQ
                          try simp only [List.getElem_toArray, List.getElem_cons_succ, List.getElem_cons_zero, Act.put, List.setIfInBounds_toArray, List.set_cons_zero, List.set_cons_succ]
                          refine wpAnyH_ready (rs := [14]) (by kernel_rfl) (by simp) ?_
                          refine (cons_list (o := _) rfl (fun KQ hK => ?_) AllReadyH.nil)
                          rw [if_pos (by rfl)]
                          go_simp
                          refine hK.out _ _ (KTS.out _ _ _ _ _ HS24.out) (fun hHeld => ?_)
                          clear hK KQ
                          try simp only [List.getElem_toArray, List.getElem_cons_succ, List.getElem_cons_zero, Act.put, List.setIfInBounds_toArray, List.set_cons_zero, List.set_cons_succ]
                          refine wpAnyH_ready (rs := [15]) (by kernel_rfl) (by simp) ?_
                          refine (cons_list (o := _) rfl (fun KQ hK => ?_) AllReadyH.nil)
                          rw [if_pos (by rfl)]
                          go_simp
                          refine hK.out _ _ (KTZ.out _ _ _ _ _ (KTS.out _ _ _ _ _ HS24.out)) (fun hHeld => ?_)
                          clear hK KQ
                          try simp only [List.getElem_toArray, List.getElem_cons_succ, List.getElem_cons_zero, Act.put, List.setIfInBounds_toArray, List.set_cons_zero, List.set_cons_succ]
                          refine wpAnyH_done (by kernel_rfl) ?_ _
                          refine NoPanic.normal ?_
                          go_wp2
                          go_meet
                          refine ⟨tA, tB, tC, tD, vA, vB, vC, vD, by first | rfl | (simp; done), hwt, hwv, ?_, ?_, ?_, ?_⟩
                          · (repeat' (first | (with_reducible exact Hs24.out) | (with_reducible exact heap_alloc_new _ _) | (with_reducible exact blk_new (by first | (simp; done) | omega)) | (with_reducible refine blk_drew ?_) | (with_reducible apply put4_0) | (with_reducible apply put4_1) | (with_reducible apply put4_2) | (with_reducible apply put4_3) | (with_reducible refine blk_else (by omega) ?_) | (with_reducible refine blk_old ?_)))
                          · (repeat' (first | (with_reducible exact Hz24.out) | (with_reducible exact heap_alloc_new _ _) | (with_reducible exact blk_new (by first | (simp; done) | omega)) | (with_reducible refine blk_drew ?_) | (with_reducible apply put4_0) | (with_reducible apply put4_1) | (with_reducible apply put4_2) | (with_reducible apply put4_3) | (with_reducible refine blk_else (by omega) ?_) | (with_reducible refine blk_old ?_)))
                          · (repeat' (first | (with_reducible exact Hm24.out) | (with_reducible exact heap_alloc_new _ _) | (with_reducible exact blk_new (by first | (simp; done) | omega)) | (with_reducible refine blk_drew ?_) | (with_reducible apply put4_0) | (with_reducible apply put4_1) | (with_reducible apply put4_2) | (with_reducible apply put4_3) | (with_reducible refine blk_else (by omega) ?_) | (with_reducible refine blk_old ?_)))
                          · (repeat' (first | (with_reducible exact HB24.out) | (with_reducible exact Below.refl _ _) | (with_reducible refine below_drewN _ ?_) | (with_reducible refine Below.drew ?_) | (with_reducible refine Below.setCell ?_ (by first | (simp; done) | omega) _) | (with_reducible refine Below.alloc ?_ (by have := HB24.out.size; simp; omega) _)))
                        · rw [if_pos (by rfl)]
                          go_wp2_with (have _t := OFH; go_at_call 37; with_reducible refine (OFH.out _).mono ?_; rintro e u3 ⟨rA, rB, rfl, hwo, hu3⟩; have Ys : u3.heap[Bs]? = some (.cells #[.int .u64 sA, .int .u64 sB, .int .u64 sC, .int .u64 sD] 93 (0, 0)) := blk_call hu3 (by first | exact Hs22.out | exact blk_drew Hs22.out); have Yz : u3.heap[Bz]? = some (.cells #[.int .u64 zA, .int .u64 zB, .int .u64 zC, .int .u64 zD] 93 (0, 0)) := blk_call hu3 (by first | exact Hz22.out | exact blk_drew Hz22.out); have Ym : u3.heap[Bm]? = some (.cells #[.int .u64 mA, .int .u64 mB, .int .u64 mC, .int .u64 mD] 93 (0, 0)) := blk_call hu3 (by first | exact Hm22.out | exact blk_drew Hm22.out); have YB : Below W0.heap.size W0 u3 := bel_call hu3 (by first | exact HB22.out | exact HB22.out.drew) (Nat.le_refl _); clear s0c s1c s2c s3c z0c z1c z2c z3c sf0c sf1c sf2c sf3c zf0c zf1c zf2c zf3c slc zlc khc hhc'; obtain ⟨s0c, s1c, s2c, s3c, sf0c, sf1c, sf2c, sf3c⟩ := at4 Ys; have slc := lt_blk Ys; obtain ⟨z0c, z1c, z2c, z3c, zf0c, zf1c, zf2c, zf3c⟩ := at4 Yz; have zlc := lt_blk Yz; have khc := (YB.cell (p := ⟨hb_, K, none⟩) hhb).trans HHC.out; have hhc' : hb_ < u3.heap.size := Nat.lt_of_lt_of_le hhb YB.size; have HS23 := Lib.hid (show u3.cell? ⟨gb, K, none⟩ = some (.int .u64 gk) ∧ u3.cell? ⟨hb_, K, none⟩ = some (.int .u64 hk_) from ⟨(YB.cell (p := ⟨gb, K, none⟩) hgb).trans HGC.out, (YB.cell (p := ⟨hb_, K, none⟩) hhb).trans HHC.out⟩); have Hs23 := Lib.hid Ys; have Hz23 := Lib.hid Yz; have Hm23 := Lib.hid Ym; have HB23 := Lib.hid YB; clear hu3 YB Ys Yz Ym; have PL2 := Lib.hid (fun W => plus_any zA zB zC zD rA rB 0 0 SH hk_ hwz hwo (by omega) W); clear OFH hwo)
                          refine hK.out _ _ (HS23.out) (fun hHeld => ?_)
                          clear hK KQ
                          try simp only [List.getElem_toArray, List.getElem_cons_succ, List.getElem_cons_zero, Act.put, List.setIfInBounds_toArray, List.set_cons_zero, List.set_cons_succ]
                          refine wpAnyH_ready (rs := [7]) (by kernel_rfl) (by simp) ?_
                          refine (cons_list (o := _) rfl (fun KQ hK => ?_) AllReadyH.nil)
                          rw [if_pos (by rfl)]
                          go_simp
                          refine hK.out _ _ (HS23.out) (fun hHeld => ?_)
                          clear hK KQ
                          try simp only [List.getElem_toArray, List.getElem_cons_succ, List.getElem_cons_zero, Act.put, List.setIfInBounds_toArray, List.set_cons_zero, List.set_cons_succ]
                          refine wpAnyH_ready (rs := [13]) (by kernel_rfl) (by simp) ?_
                          refine (cons_list (o := _) rfl (fun KQ hK => ?_) AllReadyH.nil)
                          rw [if_pos (by rfl)]
                          go_wp2_with (have _t := PL2; go_at_call 38; with_reducible refine (PL2.out _).mono ?_; rintro e u4 ⟨vA, vB, vC, vD, rfl, hwv, hu4⟩; have Ys : u4.heap[Bs]? = some (.cells #[.int .u64 sA, .int .u64 sB, .int .u64 sC, .int .u64 sD] 93 (0, 0)) := blk_call hu4 (by first | exact Hs23.out | exact blk_drew Hs23.out); have Yz : u4.heap[Bz]? = some (.cells #[.int .u64 zA, .int .u64 zB, .int .u64 zC, .int .u64 zD] 93 (0, 0)) := blk_call hu4 (by first | exact Hz23.out | exact blk_drew Hz23.out); have Ym : u4.heap[Bm]? = some (.cells #[.int .u64 mA, .int .u64 mB, .int .u64 mC, .int .u64 mD] 93 (0, 0)) := blk_call hu4 (by first | exact Hm23.out | exact blk_drew Hm23.out); have YB : Below W0.heap.size W0 u4 := bel_call hu4 (by first | exact HB23.out | exact HB23.out.drew) (Nat.le_refl _); clear s0c s1c s2c s3c z0c z1c z2c z3c sf0c sf1c sf2c sf3c zf0c zf1c zf2c zf3c slc zlc khc hhc'; obtain ⟨s0c, s1c, s2c, s3c, sf0c, sf1c, sf2c, sf3c⟩ := at4 Ys; have slc := lt_blk Ys; obtain ⟨z0c, z1c, z2c, z3c, zf0c, zf1c, zf2c, zf3c⟩ := at4 Yz; have zlc := lt_blk Yz; have khc := (YB.cell (p := ⟨hb_, K, none⟩) hhb).trans HHC.out; have hhc' : hb_ < u4.heap.size := Nat.lt_of_lt_of_le hhb YB.size; have HS24 := Lib.hid (show u4.cell? ⟨gb, K, none⟩ = some (.int .u64 gk) ∧ u4.cell? ⟨hb_, K, none⟩ = some (.int .u64 hk_) from ⟨(YB.cell (p := ⟨gb, K, none⟩) hgb).trans HGC.out, (YB.cell (p := ⟨hb_, K, none⟩) hhb).trans HHC.out⟩); have Hs24 := Lib.hid Ys; have Hz24 := Lib.hid Yz; have Hm24 := Lib.hid Ym; have HB24 := Lib.hid YB; clear hu4 YB Ys Yz Ym; clear PL2)
                          refine hK.out _ _ (HS24.out) (fun hHeld => ?_)
                          clear hK KQ
                          try simp only [List.getElem_toArray, List.getElem_cons_succ, List.getElem_cons_zero, Act.put, List.setIfInBounds_toArray, List.set_cons_zero, List.set_cons_succ]
                          refine wpAnyH_ready (rs := [14]) (by kernel_rfl) (by simp) ?_
                          refine (cons_list (o := _) rfl (fun KQ hK => ?_) AllReadyH.nil)
                          rw [if_pos (by rfl)]
                          go_simp
                          refine hK.out _ _ (KTS.out _ _ _ _ _ HS24.out) (fun hHeld => ?_)
                          clear hK KQ
                          try simp only [List.getElem_toArray, List.getElem_cons_succ, List.getElem_cons_zero, Act.put, List.setIfInBounds_toArray, List.set_cons_zero, List.set_cons_succ]
                          refine wpAnyH_ready (rs := [15]) (by kernel_rfl) (by simp) ?_
                          refine (cons_list (o := _) rfl (fun KQ hK => ?_) AllReadyH.nil)
                          rw [if_pos (by rfl)]
                          go_simp
                          refine hK.out _ _ (KTZ.out _ _ _ _ _ (KTS.out _ _ _ _ _ HS24.out)) (fun hHeld => ?_)
                          clear hK KQ
                          try simp only [List.getElem_toArray, List.getElem_cons_succ, List.getElem_cons_zero, Act.put, List.setIfInBounds_toArray, List.set_cons_zero, List.set_cons_succ]
                          refine wpAnyH_done (by kernel_rfl) ?_ _
                          refine NoPanic.normal ?_
                          go_wp2
                          go_meet
                          refine ⟨tA, tB, tC, tD, vA, vB, vC, vD, by first | rfl | (simp; done), hwt, hwv, ?_, ?_, ?_, ?_⟩
                          · (repeat' (first | (with_reducible exact Hs24.out) | (with_reducible exact heap_alloc_new _ _) | (with_reducible exact blk_new (by first | (simp; done) | omega)) | (with_reducible refine blk_drew ?_) | (with_reducible apply put4_0) | (with_reducible apply put4_1) | (with_reducible apply put4_2) | (with_reducible apply put4_3) | (with_reducible refine blk_else (by omega) ?_) | (with_reducible refine blk_old ?_)))
                          · (repeat' (first | (with_reducible exact Hz24.out) | (with_reducible exact heap_alloc_new _ _) | (with_reducible exact blk_new (by first | (simp; done) | omega)) | (with_reducible refine blk_drew ?_) | (with_reducible apply put4_0) | (with_reducible apply put4_1) | (with_reducible apply put4_2) | (with_reducible apply put4_3) | (with_reducible refine blk_else (by omega) ?_) | (with_reducible refine blk_old ?_)))
                          · (repeat' (first | (with_reducible exact Hm24.out) | (with_reducible exact heap_alloc_new _ _) | (with_reducible exact blk_new (by first | (simp; done) | omega)) | (with_reducible refine blk_drew ?_) | (with_reducible apply put4_0) | (with_reducible apply put4_1) | (with_reducible apply put4_2) | (with_reducible apply put4_3) | (with_reducible refine blk_else (by omega) ?_) | (with_reducible refine blk_old ?_)))
                          · (repeat' (first | (with_reducible exact HB24.out) | (with_reducible exact Below.refl _ _) | (with_reducible refine below_drewN _ ?_) | (with_reducible refine Below.drew ?_) | (with_reducible refine Below.setCell ?_ (by first | (simp; done) | omega) _) | (with_reducible refine Below.alloc ?_ (by have := HB24.out.size; simp; omega) _)))
                      · rw [if_pos (by rfl)]
                        go_simp
                        refine hK.out _ _ (HS21.out) (fun hHeld => ?_)
                        clear hK KQ
                        try simp only [List.getElem_toArray, List.getElem_cons_succ, List.getElem_cons_zero, Act.put, List.setIfInBounds_toArray, List.set_cons_zero, List.set_cons_succ]
                        refine wpAnyH_ready (rs := [6]) (by kernel_rfl) (by simp) ?_
                        refine (cons_list (o := _) rfl (fun KQ hK => ?_) AllReadyH.nil)
                        rw [if_pos (by rfl)]
                        go_wp2_with (have _t := PL1; go_at_call 38; with_reducible refine (PL1.out _).mono ?_; rintro e u2 ⟨tA, tB, tC, tD, rfl, hwt, hu2⟩; have Ys : u2.heap[Bs]? = some (.cells #[.int .u64 sA, .int .u64 sB, .int .u64 sC, .int .u64 sD] 93 (0, 0)) := blk_call hu2 (by first | exact Hs21.out | exact blk_drew Hs21.out); have Yz : u2.heap[Bz]? = some (.cells #[.int .u64 zA, .int .u64 zB, .int .u64 zC, .int .u64 zD] 93 (0, 0)) := blk_call hu2 (by first | exact Hz21.out | exact blk_drew Hz21.out); have Ym : u2.heap[Bm]? = some (.cells #[.int .u64 mA, .int .u64 mB, .int .u64 mC, .int .u64 mD] 93 (0, 0)) := blk_call hu2 (by first | exact Hm21.out | exact blk_drew Hm21.out); have YB : Below W0.heap.size W0 u2 := bel_call hu2 (by first | exact HB21.out | exact HB21.out.drew) (Nat.le_refl _); clear s0c s1c s2c s3c z0c z1c z2c z3c sf0c sf1c sf2c sf3c zf0c zf1c zf2c zf3c slc zlc khc hhc'; obtain ⟨s0c, s1c, s2c, s3c, sf0c, sf1c, sf2c, sf3c⟩ := at4 Ys; have slc := lt_blk Ys; obtain ⟨z0c, z1c, z2c, z3c, zf0c, zf1c, zf2c, zf3c⟩ := at4 Yz; have zlc := lt_blk Yz; have khc := (YB.cell (p := ⟨hb_, K, none⟩) hhb).trans HHC.out; have hhc' : hb_ < u2.heap.size := Nat.lt_of_lt_of_le hhb YB.size; have HS22 := Lib.hid (show u2.cell? ⟨gb, K, none⟩ = some (.int .u64 gk) ∧ u2.cell? ⟨hb_, K, none⟩ = some (.int .u64 hk_) from ⟨(YB.cell (p := ⟨gb, K, none⟩) hgb).trans HGC.out, (YB.cell (p := ⟨hb_, K, none⟩) hhb).trans HHC.out⟩); have Hs22 := Lib.hid Ys; have Hz22 := Lib.hid Yz; have Hm22 := Lib.hid Ym; have HB22 := Lib.hid YB; clear hu2 YB Ys Yz Ym; have OFH := OFH0; clear PL1 OFH0)
                        refine hK.out _ _ (HS22.out) (fun hHeld => ?_)
                        clear hK KQ
                        try simp only [List.getElem_toArray, List.getElem_cons_succ, List.getElem_cons_zero, Act.put, List.setIfInBounds_toArray, List.set_cons_zero, List.set_cons_succ]
                        refine wpAnyH_ready (rs := [12]) (by kernel_rfl) (by simp) ?_
                        refine (cons_list (o := _) rfl (fun KQ hK => ?_) AllReadyH.nil)
                        rw [if_pos (by rfl)]
                        go_wp2_with (have _t := OFH; go_at_call 37; with_reducible refine (OFH.out _).mono ?_; rintro e u3 ⟨rA, rB, rfl, hwo, hu3⟩; have Ys : u3.heap[Bs]? = some (.cells #[.int .u64 sA, .int .u64 sB, .int .u64 sC, .int .u64 sD] 93 (0, 0)) := blk_call hu3 (by first | exact Hs22.out | exact blk_drew Hs22.out); have Yz : u3.heap[Bz]? = some (.cells #[.int .u64 zA, .int .u64 zB, .int .u64 zC, .int .u64 zD] 93 (0, 0)) := blk_call hu3 (by first | exact Hz22.out | exact blk_drew Hz22.out); have Ym : u3.heap[Bm]? = some (.cells #[.int .u64 mA, .int .u64 mB, .int .u64 mC, .int .u64 mD] 93 (0, 0)) := blk_call hu3 (by first | exact Hm22.out | exact blk_drew Hm22.out); have YB : Below W0.heap.size W0 u3 := bel_call hu3 (by first | exact HB22.out | exact HB22.out.drew) (Nat.le_refl _); clear s0c s1c s2c s3c z0c z1c z2c z3c sf0c sf1c sf2c sf3c zf0c zf1c zf2c zf3c slc zlc khc hhc'; obtain ⟨s0c, s1c, s2c, s3c, sf0c, sf1c, sf2c, sf3c⟩ := at4 Ys; have slc := lt_blk Ys; obtain ⟨z0c, z1c, z2c, z3c, zf0c, zf1c, zf2c, zf3c⟩ := at4 Yz; have zlc := lt_blk Yz; have khc := (YB.cell (p := ⟨hb_, K, none⟩) hhb).trans HHC.out; have hhc' : hb_ < u3.heap.size := Nat.lt_of_lt_of_le hhb YB.size; have HS23 := Lib.hid (show u3.cell? ⟨gb, K, none⟩ = some (.int .u64 gk) ∧ u3.cell? ⟨hb_, K, none⟩ = some (.int .u64 hk_) from ⟨(YB.cell (p := ⟨gb, K, none⟩) hgb).trans HGC.out, (YB.cell (p := ⟨hb_, K, none⟩) hhb).trans HHC.out⟩); have Hs23 := Lib.hid Ys; have Hz23 := Lib.hid Yz; have Hm23 := Lib.hid Ym; have HB23 := Lib.hid YB; clear hu3 YB Ys Yz Ym; have PL2 := Lib.hid (fun W => plus_any zA zB zC zD rA rB 0 0 SH hk_ hwz hwo (by omega) W); clear OFH hwo)
                        refine hK.out _ _ (HS23.out) (fun hHeld => ?_)
                        clear hK KQ
                        try simp only [List.getElem_toArray, List.getElem_cons_succ, List.getElem_cons_zero, Act.put, List.setIfInBounds_toArray, List.set_cons_zero, List.set_cons_succ]
                        refine wpAnyH_ready (rs := [13]) (by kernel_rfl) (by simp) ?_
                        refine (cons_list (o := _) rfl (fun KQ hK => ?_) AllReadyH.nil)
                        rw [if_pos (by rfl)]
                        go_wp2_with (have _t := PL2; go_at_call 38; with_reducible refine (PL2.out _).mono ?_; rintro e u4 ⟨vA, vB, vC, vD, rfl, hwv, hu4⟩; have Ys : u4.heap[Bs]? = some (.cells #[.int .u64 sA, .int .u64 sB, .int .u64 sC, .int .u64 sD] 93 (0, 0)) := blk_call hu4 (by first | exact Hs23.out | exact blk_drew Hs23.out); have Yz : u4.heap[Bz]? = some (.cells #[.int .u64 zA, .int .u64 zB, .int .u64 zC, .int .u64 zD] 93 (0, 0)) := blk_call hu4 (by first | exact Hz23.out | exact blk_drew Hz23.out); have Ym : u4.heap[Bm]? = some (.cells #[.int .u64 mA, .int .u64 mB, .int .u64 mC, .int .u64 mD] 93 (0, 0)) := blk_call hu4 (by first | exact Hm23.out | exact blk_drew Hm23.out); have YB : Below W0.heap.size W0 u4 := bel_call hu4 (by first | exact HB23.out | exact HB23.out.drew) (Nat.le_refl _); clear s0c s1c s2c s3c z0c z1c z2c z3c sf0c sf1c sf2c sf3c zf0c zf1c zf2c zf3c slc zlc khc hhc'; obtain ⟨s0c, s1c, s2c, s3c, sf0c, sf1c, sf2c, sf3c⟩ := at4 Ys; have slc := lt_blk Ys; obtain ⟨z0c, z1c, z2c, z3c, zf0c, zf1c, zf2c, zf3c⟩ := at4 Yz; have zlc := lt_blk Yz; have khc := (YB.cell (p := ⟨hb_, K, none⟩) hhb).trans HHC.out; have hhc' : hb_ < u4.heap.size := Nat.lt_of_lt_of_le hhb YB.size; have HS24 := Lib.hid (show u4.cell? ⟨gb, K, none⟩ = some (.int .u64 gk) ∧ u4.cell? ⟨hb_, K, none⟩ = some (.int .u64 hk_) from ⟨(YB.cell (p := ⟨gb, K, none⟩) hgb).trans HGC.out, (YB.cell (p := ⟨hb_, K, none⟩) hhb).trans HHC.out⟩); have Hs24 := Lib.hid Ys; have Hz24 := Lib.hid Yz; have Hm24 := Lib.hid Ym; have HB24 := Lib.hid YB; clear hu4 YB Ys Yz Ym; clear PL2)
                        refine hK.out _ _ (HS24.out) (fun hHeld => ?_)
                        clear hK KQ
                        try simp only [List.getElem_toArray, List.getElem_cons_succ, List.getElem_cons_zero, Act.put, List.setIfInBounds_toArray, List.set_cons_zero, List.set_cons_succ]
                        refine wpAnyH_ready (rs := [14]) (by kernel_rfl) (by simp) ?_
                        refine (cons_list (o := _) rfl (fun KQ hK => ?_) AllReadyH.nil)
                        rw [if_pos (by rfl)]
                        go_simp
                        refine hK.out _ _ (KTS.out _ _ _ _ _ HS24.out) (fun hHeld => ?_)
                        clear hK KQ
                        try simp only [List.getElem_toArray, List.getElem_cons_succ, List.getElem_cons_zero, Act.put, List.setIfInBounds_toArray, List.set_cons_zero, List.set_cons_succ]
                        refine wpAnyH_ready (rs := [15]) (by kernel_rfl) (by simp) ?_
                        refine (cons_list (o := _) rfl (fun KQ hK => ?_) AllReadyH.nil)
                        rw [if_pos (by rfl)]
                        go_simp
                        refine hK.out _ _ (KTZ.out _ _ _ _ _ (KTS.out _ _ _ _ _ HS24.out)) (fun hHeld => ?_)
                        clear hK KQ
                        try simp only [List.getElem_toArray, List.getElem_cons_succ, List.getElem_cons_zero, Act.put, List.setIfInBounds_toArray, List.set_cons_zero, List.set_cons_succ]
                        refine wpAnyH_done (by kernel_rfl) ?_ _
                        refine NoPanic.normal ?_
                        go_wp2
                        go_meet
                        refine ⟨tA, tB, tC, tD, vA, vB, vC, vD, by first | rfl | (simp; done), hwt, hwv, ?_, ?_, ?_, ?_⟩
                        · (repeat' (first | (with_reducible exact Hs24.out) | (with_reducible exact heap_alloc_new _ _) | (with_reducible exact blk_new (by first | (simp; done) | omega)) | (with_reducible refine blk_drew ?_) | (with_reducible apply put4_0) | (with_reducible apply put4_1) | (with_reducible apply put4_2) | (with_reducible apply put4_3) | (with_reducible refine blk_else (by omega) ?_) | (with_reducible refine blk_old ?_)))
                        · (repeat' (first | (with_reducible exact Hz24.out) | (with_reducible exact heap_alloc_new _ _) | (with_reducible exact blk_new (by first | (simp; done) | omega)) | (with_reducible refine blk_drew ?_) | (with_reducible apply put4_0) | (with_reducible apply put4_1) | (with_reducible apply put4_2) | (with_reducible apply put4_3) | (with_reducible refine blk_else (by omega) ?_) | (with_reducible refine blk_old ?_)))
                        · (repeat' (first | (with_reducible exact Hm24.out) | (with_reducible exact heap_alloc_new _ _) | (with_reducible exact blk_new (by first | (simp; done) | omega)) | (with_reducible refine blk_drew ?_) | (with_reducible apply put4_0) | (with_reducible apply put4_1) | (with_reducible apply put4_2) | (with_reducible apply put4_3) | (with_reducible refine blk_else (by omega) ?_) | (with_reducible refine blk_old ?_)))
                        · (repeat' (first | (with_reducible exact HB24.out) | (with_reducible exact Below.refl _ _) | (with_reducible refine below_drewN _ ?_) | (with_reducible refine Below.drew ?_) | (with_reducible refine Below.setCell ?_ (by first | (simp; done) | omega) _) | (with_reducible refine Below.alloc ?_ (by have := HB24.out.size; simp; omega) _)))
                    · rw [if_pos (by rfl)]
                      go_simp
                      refine hK.out _ _ (⟨kg_, kh_⟩) (fun hHeld => ?_)
                      clear hK KQ
                      try simp only [List.getElem_toArray, List.getElem_cons_succ, List.getElem_cons_zero, Act.put, List.setIfInBounds_toArray, List.set_cons_zero, List.set_cons_succ]
                      refine wpAnyH_ready (rs := [5]) (by kernel_rfl) (by simp) ?_
                      refine (cons_list (o := _) rfl (fun KQ hK => ?_) AllReadyH.nil)
                      rw [if_pos (by rfl)]
                      go_wp2_with (go_at_call 37; with_reducible refine (OFG.out _).mono ?_; rintro e u1 ⟨oA, oB, rfl, hwo, hu1⟩; have Ys : u1.heap[Bs]? = some (.cells #[.int .u64 sA, .int .u64 sB, .int .u64 sC, .int .u64 sD] 93 (0, 0)) := blk_call hu1 (by first | exact Hs9.out | exact blk_drew Hs9.out); have Yz : u1.heap[Bz]? = some (.cells #[.int .u64 zA, .int .u64 zB, .int .u64 zC, .int .u64 zD] 93 (0, 0)) := blk_call hu1 (by first | exact Hz9.out | exact blk_drew Hz9.out); have Ym : u1.heap[Bm]? = some (.cells #[.int .u64 mA, .int .u64 mB, .int .u64 mC, .int .u64 mD] 93 (0, 0)) := blk_call hu1 (by first | exact Hm9.out | exact blk_drew Hm9.out); have YB : Below W0.heap.size W0 u1 := bel_call hu1 (by first | exact HB9c.out | exact HB9c.out.drew) (Nat.le_refl _); obtain ⟨s0c, s1c, s2c, s3c, sf0c, sf1c, sf2c, sf3c⟩ := at4 Ys; have slc := lt_blk Ys; obtain ⟨z0c, z1c, z2c, z3c, zf0c, zf1c, zf2c, zf3c⟩ := at4 Yz; have zlc := lt_blk Yz; have khc := (YB.cell (p := ⟨hb_, K, none⟩) hhb).trans HHC.out; have hhc' : hb_ < u1.heap.size := Nat.lt_of_lt_of_le hhb YB.size; have HS21 := Lib.hid (show u1.cell? ⟨gb, K, none⟩ = some (.int .u64 gk) ∧ u1.cell? ⟨hb_, K, none⟩ = some (.int .u64 hk_) from ⟨(YB.cell (p := ⟨gb, K, none⟩) hgb).trans HGC.out, (YB.cell (p := ⟨hb_, K, none⟩) hhb).trans HHC.out⟩); have Hs21 := Lib.hid Ys; have Hz21 := Lib.hid Yz; have Hm21 := Lib.hid Ym; have HB21 := Lib.hid YB; clear hu1 YB Ys Yz Ym; have PL1 := Lib.hid (fun W => plus_any sA sB sC sD oA oB 0 0 SG gk hws hwo (by omega) W); clear OFG hwo)
                      refine hK.out _ _ (HS21.out) (fun hHeld => ?_)
                      clear hK KQ
                      try simp only [List.getElem_toArray, List.getElem_cons_succ, List.getElem_cons_zero, Act.put, List.setIfInBounds_toArray, List.set_cons_zero, List.set_cons_succ]
                      refine wpAnyH_ready (rs := [6]) (by kernel_rfl) (by simp) ?_
                      refine (cons_list (o := _) rfl (fun KQ hK => ?_) AllReadyH.nil)
                      rw [if_pos (by rfl)]
                      go_wp2_with (have _t := PL1; go_at_call 38; with_reducible refine (PL1.out _).mono ?_; rintro e u2 ⟨tA, tB, tC, tD, rfl, hwt, hu2⟩; have Ys : u2.heap[Bs]? = some (.cells #[.int .u64 sA, .int .u64 sB, .int .u64 sC, .int .u64 sD] 93 (0, 0)) := blk_call hu2 (by first | exact Hs21.out | exact blk_drew Hs21.out); have Yz : u2.heap[Bz]? = some (.cells #[.int .u64 zA, .int .u64 zB, .int .u64 zC, .int .u64 zD] 93 (0, 0)) := blk_call hu2 (by first | exact Hz21.out | exact blk_drew Hz21.out); have Ym : u2.heap[Bm]? = some (.cells #[.int .u64 mA, .int .u64 mB, .int .u64 mC, .int .u64 mD] 93 (0, 0)) := blk_call hu2 (by first | exact Hm21.out | exact blk_drew Hm21.out); have YB : Below W0.heap.size W0 u2 := bel_call hu2 (by first | exact HB21.out | exact HB21.out.drew) (Nat.le_refl _); clear s0c s1c s2c s3c z0c z1c z2c z3c sf0c sf1c sf2c sf3c zf0c zf1c zf2c zf3c slc zlc khc hhc'; obtain ⟨s0c, s1c, s2c, s3c, sf0c, sf1c, sf2c, sf3c⟩ := at4 Ys; have slc := lt_blk Ys; obtain ⟨z0c, z1c, z2c, z3c, zf0c, zf1c, zf2c, zf3c⟩ := at4 Yz; have zlc := lt_blk Yz; have khc := (YB.cell (p := ⟨hb_, K, none⟩) hhb).trans HHC.out; have hhc' : hb_ < u2.heap.size := Nat.lt_of_lt_of_le hhb YB.size; have HS22 := Lib.hid (show u2.cell? ⟨gb, K, none⟩ = some (.int .u64 gk) ∧ u2.cell? ⟨hb_, K, none⟩ = some (.int .u64 hk_) from ⟨(YB.cell (p := ⟨gb, K, none⟩) hgb).trans HGC.out, (YB.cell (p := ⟨hb_, K, none⟩) hhb).trans HHC.out⟩); have Hs22 := Lib.hid Ys; have Hz22 := Lib.hid Yz; have Hm22 := Lib.hid Ym; have HB22 := Lib.hid YB; clear hu2 YB Ys Yz Ym; have OFH := OFH0; clear PL1 OFH0)
                      refine hK.out _ _ (HS22.out) (fun hHeld => ?_)
                      clear hK KQ
                      try simp only [List.getElem_toArray, List.getElem_cons_succ, List.getElem_cons_zero, Act.put, List.setIfInBounds_toArray, List.set_cons_zero, List.set_cons_succ]
                      refine wpAnyH_ready (rs := [12]) (by kernel_rfl) (by simp) ?_
                      refine (cons_list (o := _) rfl (fun KQ hK => ?_) AllReadyH.nil)
                      rw [if_pos (by rfl)]
                      go_wp2_with (have _t := OFH; go_at_call 37; with_reducible refine (OFH.out _).mono ?_; rintro e u3 ⟨rA, rB, rfl, hwo, hu3⟩; have Ys : u3.heap[Bs]? = some (.cells #[.int .u64 sA, .int .u64 sB, .int .u64 sC, .int .u64 sD] 93 (0, 0)) := blk_call hu3 (by first | exact Hs22.out | exact blk_drew Hs22.out); have Yz : u3.heap[Bz]? = some (.cells #[.int .u64 zA, .int .u64 zB, .int .u64 zC, .int .u64 zD] 93 (0, 0)) := blk_call hu3 (by first | exact Hz22.out | exact blk_drew Hz22.out); have Ym : u3.heap[Bm]? = some (.cells #[.int .u64 mA, .int .u64 mB, .int .u64 mC, .int .u64 mD] 93 (0, 0)) := blk_call hu3 (by first | exact Hm22.out | exact blk_drew Hm22.out); have YB : Below W0.heap.size W0 u3 := bel_call hu3 (by first | exact HB22.out | exact HB22.out.drew) (Nat.le_refl _); clear s0c s1c s2c s3c z0c z1c z2c z3c sf0c sf1c sf2c sf3c zf0c zf1c zf2c zf3c slc zlc khc hhc'; obtain ⟨s0c, s1c, s2c, s3c, sf0c, sf1c, sf2c, sf3c⟩ := at4 Ys; have slc := lt_blk Ys; obtain ⟨z0c, z1c, z2c, z3c, zf0c, zf1c, zf2c, zf3c⟩ := at4 Yz; have zlc := lt_blk Yz; have khc := (YB.cell (p := ⟨hb_, K, none⟩) hhb).trans HHC.out; have hhc' : hb_ < u3.heap.size := Nat.lt_of_lt_of_le hhb YB.size; have HS23 := Lib.hid (show u3.cell? ⟨gb, K, none⟩ = some (.int .u64 gk) ∧ u3.cell? ⟨hb_, K, none⟩ = some (.int .u64 hk_) from ⟨(YB.cell (p := ⟨gb, K, none⟩) hgb).trans HGC.out, (YB.cell (p := ⟨hb_, K, none⟩) hhb).trans HHC.out⟩); have Hs23 := Lib.hid Ys; have Hz23 := Lib.hid Yz; have Hm23 := Lib.hid Ym; have HB23 := Lib.hid YB; clear hu3 YB Ys Yz Ym; have PL2 := Lib.hid (fun W => plus_any zA zB zC zD rA rB 0 0 SH hk_ hwz hwo (by omega) W); clear OFH hwo)
                      refine hK.out _ _ (HS23.out) (fun hHeld => ?_)
                      clear hK KQ
                      try simp only [List.getElem_toArray, List.getElem_cons_succ, List.getElem_cons_zero, Act.put, List.setIfInBounds_toArray, List.set_cons_zero, List.set_cons_succ]
                      refine wpAnyH_ready (rs := [13]) (by kernel_rfl) (by simp) ?_
                      refine (cons_list (o := _) rfl (fun KQ hK => ?_) AllReadyH.nil)
                      rw [if_pos (by rfl)]
                      go_wp2_with (have _t := PL2; go_at_call 38; with_reducible refine (PL2.out _).mono ?_; rintro e u4 ⟨vA, vB, vC, vD, rfl, hwv, hu4⟩; have Ys : u4.heap[Bs]? = some (.cells #[.int .u64 sA, .int .u64 sB, .int .u64 sC, .int .u64 sD] 93 (0, 0)) := blk_call hu4 (by first | exact Hs23.out | exact blk_drew Hs23.out); have Yz : u4.heap[Bz]? = some (.cells #[.int .u64 zA, .int .u64 zB, .int .u64 zC, .int .u64 zD] 93 (0, 0)) := blk_call hu4 (by first | exact Hz23.out | exact blk_drew Hz23.out); have Ym : u4.heap[Bm]? = some (.cells #[.int .u64 mA, .int .u64 mB, .int .u64 mC, .int .u64 mD] 93 (0, 0)) := blk_call hu4 (by first | exact Hm23.out | exact blk_drew Hm23.out); have YB : Below W0.heap.size W0 u4 := bel_call hu4 (by first | exact HB23.out | exact HB23.out.drew) (Nat.le_refl _); clear s0c s1c s2c s3c z0c z1c z2c z3c sf0c sf1c sf2c sf3c zf0c zf1c zf2c zf3c slc zlc khc hhc'; obtain ⟨s0c, s1c, s2c, s3c, sf0c, sf1c, sf2c, sf3c⟩ := at4 Ys; have slc := lt_blk Ys; obtain ⟨z0c, z1c, z2c, z3c, zf0c, zf1c, zf2c, zf3c⟩ := at4 Yz; have zlc := lt_blk Yz; have khc := (YB.cell (p := ⟨hb_, K, none⟩) hhb).trans HHC.out; have hhc' : hb_ < u4.heap.size := Nat.lt_of_lt_of_le hhb YB.size; have HS24 := Lib.hid (show u4.cell? ⟨gb, K, none⟩ = some (.int .u64 gk) ∧ u4.cell? ⟨hb_, K, none⟩ = some (.int .u64 hk_) from ⟨(YB.cell (p := ⟨gb, K, none⟩) hgb).trans HGC.out, (YB.cell (p := ⟨hb_, K, none⟩) hhb).trans HHC.out⟩); have Hs24 := Lib.hid Ys; have Hz24 := Lib.hid Yz; have Hm24 := Lib.hid Ym; have HB24 := Lib.hid YB; clear hu4 YB Ys Yz Ym; clear PL2)
                      refine hK.out _ _ (HS24.out) (fun hHeld => ?_)
                      clear hK KQ
                      try simp only [List.getElem_toArray, List.getElem_cons_succ, List.getElem_cons_zero, Act.put, List.setIfInBounds_toArray, List.set_cons_zero, List.set_cons_succ]
                      refine wpAnyH_ready (rs := [14]) (by kernel_rfl) (by simp) ?_
                      refine (cons_list (o := _) rfl (fun KQ hK => ?_) AllReadyH.nil)
                      rw [if_pos (by rfl)]
                      go_simp
                      refine hK.out _ _ (KTS.out _ _ _ _ _ HS24.out) (fun hHeld => ?_)
                      clear hK KQ
                      try simp only [List.getElem_toArray, List.getElem_cons_succ, List.getElem_cons_zero, Act.put, List.setIfInBounds_toArray, List.set_cons_zero, List.set_cons_succ]
                      refine wpAnyH_ready (rs := [15]) (by kernel_rfl) (by simp) ?_
                      refine (cons_list (o := _) rfl (fun KQ hK => ?_) AllReadyH.nil)
                      rw [if_pos (by rfl)]
                      go_simp
                      refine hK.out _ _ (KTZ.out _ _ _ _ _ (KTS.out _ _ _ _ _ HS24.out)) (fun hHeld => ?_)
                      clear hK KQ
                      try simp only [List.getElem_toArray, List.getElem_cons_succ, List.getElem_cons_zero, Act.put, List.setIfInBounds_toArray, List.set_cons_zero, List.set_cons_succ]
                      refine wpAnyH_done (by kernel_rfl) ?_ _
                      refine NoPanic.normal ?_
                      go_wp2
                      go_meet
                      refine ⟨tA, tB, tC, tD, vA, vB, vC, vD, by first | rfl | (simp; done), hwt, hwv, ?_, ?_, ?_, ?_⟩
                      · (repeat' (first | (with_reducible exact Hs24.out) | (with_reducible exact heap_alloc_new _ _) | (with_reducible exact blk_new (by first | (simp; done) | omega)) | (with_reducible refine blk_drew ?_) | (with_reducible apply put4_0) | (with_reducible apply put4_1) | (with_reducible apply put4_2) | (with_reducible apply put4_3) | (with_reducible refine blk_else (by omega) ?_) | (with_reducible refine blk_old ?_)))
                      · (repeat' (first | (with_reducible exact Hz24.out) | (with_reducible exact heap_alloc_new _ _) | (with_reducible exact blk_new (by first | (simp; done) | omega)) | (with_reducible refine blk_drew ?_) | (with_reducible apply put4_0) | (with_reducible apply put4_1) | (with_reducible apply put4_2) | (with_reducible apply put4_3) | (with_reducible refine blk_else (by omega) ?_) | (with_reducible refine blk_old ?_)))
                      · (repeat' (first | (with_reducible exact Hm24.out) | (with_reducible exact heap_alloc_new _ _) | (with_reducible exact blk_new (by first | (simp; done) | omega)) | (with_reducible refine blk_drew ?_) | (with_reducible apply put4_0) | (with_reducible apply put4_1) | (with_reducible apply put4_2) | (with_reducible apply put4_3) | (with_reducible refine blk_else (by omega) ?_) | (with_reducible refine blk_old ?_)))
                      · (repeat' (first | (with_reducible exact HB24.out) | (with_reducible exact Below.refl _ _) | (with_reducible refine below_drewN _ ?_) | (with_reducible refine Below.drew ?_) | (with_reducible refine Below.setCell ?_ (by first | (simp; done) | omega) _) | (with_reducible refine Below.alloc ?_ (by have := HB24.out.size; simp; omega) _)))
                  · rw [if_pos (by rfl)]
                    go_wp2_with (go_at_call 37; with_reducible refine (OFG.out _).mono ?_; rintro e u1 ⟨oA, oB, rfl, hwo, hu1⟩; have Ys : u1.heap[Bs]? = some (.cells #[.int .u64 sA, .int .u64 sB, .int .u64 sC, .int .u64 sD] 93 (0, 0)) := blk_call hu1 (by first | exact Hs9.out | exact blk_drew Hs9.out); have Yz : u1.heap[Bz]? = some (.cells #[.int .u64 zA, .int .u64 zB, .int .u64 zC, .int .u64 zD] 93 (0, 0)) := blk_call hu1 (by first | exact Hz9.out | exact blk_drew Hz9.out); have Ym : u1.heap[Bm]? = some (.cells #[.int .u64 mA, .int .u64 mB, .int .u64 mC, .int .u64 mD] 93 (0, 0)) := blk_call hu1 (by first | exact Hm9.out | exact blk_drew Hm9.out); have YB : Below W0.heap.size W0 u1 := bel_call hu1 (by first | exact HB9c.out | exact HB9c.out.drew) (Nat.le_refl _); obtain ⟨s0c, s1c, s2c, s3c, sf0c, sf1c, sf2c, sf3c⟩ := at4 Ys; have slc := lt_blk Ys; obtain ⟨z0c, z1c, z2c, z3c, zf0c, zf1c, zf2c, zf3c⟩ := at4 Yz; have zlc := lt_blk Yz; have khc := (YB.cell (p := ⟨hb_, K, none⟩) hhb).trans HHC.out; have hhc' : hb_ < u1.heap.size := Nat.lt_of_lt_of_le hhb YB.size; have HS21 := Lib.hid (show u1.cell? ⟨gb, K, none⟩ = some (.int .u64 gk) ∧ u1.cell? ⟨hb_, K, none⟩ = some (.int .u64 hk_) from ⟨(YB.cell (p := ⟨gb, K, none⟩) hgb).trans HGC.out, (YB.cell (p := ⟨hb_, K, none⟩) hhb).trans HHC.out⟩); have Hs21 := Lib.hid Ys; have Hz21 := Lib.hid Yz; have Hm21 := Lib.hid Ym; have HB21 := Lib.hid YB; clear hu1 YB Ys Yz Ym; have PL1 := Lib.hid (fun W => plus_any sA sB sC sD oA oB 0 0 SG gk hws hwo (by omega) W); clear OFG hwo)
                    refine hK.out _ _ (HS21.out) (fun hHeld => ?_)
                    clear hK KQ
                    try simp only [List.getElem_toArray, List.getElem_cons_succ, List.getElem_cons_zero, Act.put, List.setIfInBounds_toArray, List.set_cons_zero, List.set_cons_succ]
                    refine wpAnyH_ready (rs := [0, 7]) (by kernel_rfl) (by simp) ?_
                    refine (cons_list (o := _) rfl (fun KQ hK => ?_) (cons_list (o := _) rfl (fun KQ hK => ?_) AllReadyH.nil))
                    · rw [if_pos (by rfl)]
                      go_simp
                      refine hK.out _ _ (HS21.out) (fun hHeld => ?_)
                      clear hK KQ
                      try simp only [List.getElem_toArray, List.getElem_cons_succ, List.getElem_cons_zero, Act.put, List.setIfInBounds_toArray, List.set_cons_zero, List.set_cons_succ]
                      refine wpAnyH_ready (rs := [6, 7]) (by kernel_rfl) (by simp) ?_
                      refine (cons_list (o := _) rfl (fun KQ hK => ?_) (cons_list (o := _) rfl (fun KQ hK => ?_) AllReadyH.nil))
                      · rw [if_pos (by rfl)]
                        go_wp2_with (have _t := PL1; go_at_call 38; with_reducible refine (PL1.out _).mono ?_; rintro e u2 ⟨tA, tB, tC, tD, rfl, hwt, hu2⟩; have Ys : u2.heap[Bs]? = some (.cells #[.int .u64 sA, .int .u64 sB, .int .u64 sC, .int .u64 sD] 93 (0, 0)) := blk_call hu2 (by first | exact Hs21.out | exact blk_drew Hs21.out); have Yz : u2.heap[Bz]? = some (.cells #[.int .u64 zA, .int .u64 zB, .int .u64 zC, .int .u64 zD] 93 (0, 0)) := blk_call hu2 (by first | exact Hz21.out | exact blk_drew Hz21.out); have Ym : u2.heap[Bm]? = some (.cells #[.int .u64 mA, .int .u64 mB, .int .u64 mC, .int .u64 mD] 93 (0, 0)) := blk_call hu2 (by first | exact Hm21.out | exact blk_drew Hm21.out); have YB : Below W0.heap.size W0 u2 := bel_call hu2 (by first | exact HB21.out | exact HB21.out.drew) (Nat.le_refl _); clear s0c s1c s2c s3c z0c z1c z2c z3c sf0c sf1c sf2c sf3c zf0c zf1c zf2c zf3c slc zlc khc hhc'; obtain ⟨s0c, s1c, s2c, s3c, sf0c, sf1c, sf2c, sf3c⟩ := at4 Ys; have slc := lt_blk Ys; obtain ⟨z0c, z1c, z2c, z3c, zf0c, zf1c, zf2c, zf3c⟩ := at4 Yz; have zlc := lt_blk Yz; have khc := (YB.cell (p := ⟨hb_, K, none⟩) hhb).trans HHC.out; have hhc' : hb_ < u2.heap.size := Nat.lt_of_lt_of_le hhb YB.size; have HS22 := Lib.hid (show u2.cell? ⟨gb, K, none⟩ = some (.int .u64 gk) ∧ u2.cell? ⟨hb_, K, none⟩ = some (.int .u64 hk_) from ⟨(YB.cell (p := ⟨gb, K, none⟩) hgb).trans HGC.out, (YB.cell (p := ⟨hb_, K, none⟩) hhb).trans HHC.out⟩); have Hs22 := Lib.hid Ys; have Hz22 := Lib.hid Yz; have Hm22 := Lib.hid Ym; have HB22 := Lib.hid YB; clear hu2 YB Ys Yz Ym; have OFH := OFH0; clear PL1 OFH0)
                        refine hK.out _ _ (HS22.out) (fun hHeld => ?_)
                        clear hK KQ
                        try simp only [List.getElem_toArray, List.getElem_cons_succ, List.getElem_cons_zero, Act.put, List.setIfInBounds_toArray, List.set_cons_zero, List.set_cons_succ]
                        refine wpAnyH_ready (rs := [7, 12]) (by kernel_rfl) (by simp) ?_
                        refine (cons_list (o := _) rfl (fun KQ hK => ?_) (cons_list (o := _) rfl (fun KQ hK => ?_) AllReadyH.nil))
                        · rw [if_pos (by rfl)]
                          go_simp
                          refine hK.out _ _ (HS22.out) (fun hHeld => ?_)
                          clear hK KQ
                          try simp only [List.getElem_toArray, List.getElem_cons_succ, List.getElem_cons_zero, Act.put, List.setIfInBounds_toArray, List.set_cons_zero, List.set_cons_succ]
                          refine wpAnyH_ready (rs := [12]) (by kernel_rfl) (by simp) ?_
                          refine (cons_list (o := _) rfl (fun KQ hK => ?_) AllReadyH.nil)
                          rw [if_pos (by rfl)]
                          go_wp2_with (have _t := OFH; go_at_call 37; with_reducible refine (OFH.out _).mono ?_; rintro e u3 ⟨rA, rB, rfl, hwo, hu3⟩; have Ys : u3.heap[Bs]? = some (.cells #[.int .u64 sA, .int .u64 sB, .int .u64 sC, .int .u64 sD] 93 (0, 0)) := blk_call hu3 (by first | exact Hs22.out | exact blk_drew Hs22.out); have Yz : u3.heap[Bz]? = some (.cells #[.int .u64 zA, .int .u64 zB, .int .u64 zC, .int .u64 zD] 93 (0, 0)) := blk_call hu3 (by first | exact Hz22.out | exact blk_drew Hz22.out); have Ym : u3.heap[Bm]? = some (.cells #[.int .u64 mA, .int .u64 mB, .int .u64 mC, .int .u64 mD] 93 (0, 0)) := blk_call hu3 (by first | exact Hm22.out | exact blk_drew Hm22.out); have YB : Below W0.heap.size W0 u3 := bel_call hu3 (by first | exact HB22.out | exact HB22.out.drew) (Nat.le_refl _); clear s0c s1c s2c s3c z0c z1c z2c z3c sf0c sf1c sf2c sf3c zf0c zf1c zf2c zf3c slc zlc khc hhc'; obtain ⟨s0c, s1c, s2c, s3c, sf0c, sf1c, sf2c, sf3c⟩ := at4 Ys; have slc := lt_blk Ys; obtain ⟨z0c, z1c, z2c, z3c, zf0c, zf1c, zf2c, zf3c⟩ := at4 Yz; have zlc := lt_blk Yz; have khc := (YB.cell (p := ⟨hb_, K, none⟩) hhb).trans HHC.out; have hhc' : hb_ < u3.heap.size := Nat.lt_of_lt_of_le hhb YB.size; have HS23 := Lib.hid (show u3.cell? ⟨gb, K, none⟩ = some (.int .u64 gk) ∧ u3.cell? ⟨hb_, K, none⟩ = some (.int .u64 hk_) from ⟨(YB.cell (p := ⟨gb, K, none⟩) hgb).trans HGC.out, (YB.cell (p := ⟨hb_, K, none⟩) hhb).trans HHC.out⟩); have Hs23 := Lib.hid Ys; have Hz23 := Lib.hid Yz; have Hm23 := Lib.hid Ym; have HB23 := Lib.hid YB; clear hu3 YB Ys Yz Ym; have PL2 := Lib.hid (fun W => plus_any zA zB zC zD rA rB 0 0 SH hk_ hwz hwo (by omega) W); clear OFH hwo)
                          refine hK.out _ _ (HS23.out) (fun hHeld => ?_)
                          clear hK KQ
                          try simp only [List.getElem_toArray, List.getElem_cons_succ, List.getElem_cons_zero, Act.put, List.setIfInBounds_toArray, List.set_cons_zero, List.set_cons_succ]
                          refine wpAnyH_ready (rs := [13]) (by kernel_rfl) (by simp) ?_
                          refine (cons_list (o := _) rfl (fun KQ hK => ?_) AllReadyH.nil)
                          rw [if_pos (by rfl)]
                          go_wp2_with (have _t := PL2; go_at_call 38; with_reducible refine (PL2.out _).mono ?_; rintro e u4 ⟨vA, vB, vC, vD, rfl, hwv, hu4⟩; have Ys : u4.heap[Bs]? = some (.cells #[.int .u64 sA, .int .u64 sB, .int .u64 sC, .int .u64 sD] 93 (0, 0)) := blk_call hu4 (by first | exact Hs23.out | exact blk_drew Hs23.out); have Yz : u4.heap[Bz]? = some (.cells #[.int .u64 zA, .int .u64 zB, .int .u64 zC, .int .u64 zD] 93 (0, 0)) := blk_call hu4 (by first | exact Hz23.out | exact blk_drew Hz23.out); have Ym : u4.heap[Bm]? = some (.cells #[.int .u64 mA, .int .u64 mB, .int .u64 mC, .int .u64 mD] 93 (0, 0)) := blk_call hu4 (by first | exact Hm23.out | exact blk_drew Hm23.out); have YB : Below W0.heap.size W0 u4 := bel_call hu4 (by first | exact HB23.out | exact HB23.out.drew) (Nat.le_refl _); clear s0c s1c s2c s3c z0c z1c z2c z3c sf0c sf1c sf2c sf3c zf0c zf1c zf2c zf3c slc zlc khc hhc'; obtain ⟨s0c, s1c, s2c, s3c, sf0c, sf1c, sf2c, sf3c⟩ := at4 Ys; have slc := lt_blk Ys; obtain ⟨z0c, z1c, z2c, z3c, zf0c, zf1c, zf2c, zf3c⟩ := at4 Yz; have zlc := lt_blk Yz; have khc := (YB.cell (p := ⟨hb_, K, none⟩) hhb).trans HHC.out; have hhc' : hb_ < u4.heap.size := Nat.lt_of_lt_of_le hhb YB.size; have HS24 := Lib.hid (show u4.cell? ⟨gb, K, none⟩ = some (.int .u64 gk) ∧ u4.cell? ⟨hb_, K, none⟩ = some (.int .u64 hk_) from ⟨(YB.cell (p := ⟨gb, K, none⟩) hgb).trans HGC.out, (YB.cell (p := ⟨hb_, K, none⟩) hhb).trans HHC.out⟩); have Hs24 := Lib.hid Ys; have Hz24 := Lib.hid Yz; have Hm24 := Lib.hid Ym; have HB24 := Lib.hid YB; clear hu4 YB Ys Yz Ym; clear PL2)
                          refine hK.out _ _ (HS24.out) (fun hHeld => ?_)
                          clear hK KQ
                          try simp only [List.getElem_toArray, List.getElem_cons_succ, List.getElem_cons_zero, Act.put, List.setIfInBounds_toArray, List.set_cons_zero, List.set_cons_succ]
                          refine wpAnyH_ready (rs := [14]) (by kernel_rfl) (by simp) ?_
                          refine (cons_list (o := _) rfl (fun KQ hK => ?_) AllReadyH.nil)
                          rw [if_pos (by rfl)]
                          go_simp
                          refine hK.out _ _ (KTS.out _ _ _ _ _ HS24.out) (fun hHeld => ?_)
                          clear hK KQ
                          try simp only [List.getElem_toArray, List.getElem_cons_succ, List.getElem_cons_zero, Act.put, List.setIfInBounds_toArray, List.set_cons_zero, List.set_cons_succ]
                          refine wpAnyH_ready (rs := [15]) (by kernel_rfl) (by simp) ?_
                          refine (cons_list (o := _) rfl (fun KQ hK => ?_) AllReadyH.nil)
                          rw [if_pos (by rfl)]
                          go_simp
                          refine hK.out _ _ (KTZ.out _ _ _ _ _ (KTS.out _ _ _ _ _ HS24.out)) (fun hHeld => ?_)
                          clear hK KQ
                          try simp only [List.getElem_toArray, List.getElem_cons_succ, List.getElem_cons_zero, Act.put, List.setIfInBounds_toArray, List.set_cons_zero, List.set_cons_succ]
                          refine wpAnyH_done (by kernel_rfl) ?_ _
                          refine NoPanic.normal ?_
                          go_wp2
                          go_meet
                          refine ⟨tA, tB, tC, tD, vA, vB, vC, vD, by first | rfl | (simp; done), hwt, hwv, ?_, ?_, ?_, ?_⟩
                          · (repeat' (first | (with_reducible exact Hs24.out) | (with_reducible exact heap_alloc_new _ _) | (with_reducible exact blk_new (by first | (simp; done) | omega)) | (with_reducible refine blk_drew ?_) | (with_reducible apply put4_0) | (with_reducible apply put4_1) | (with_reducible apply put4_2) | (with_reducible apply put4_3) | (with_reducible refine blk_else (by omega) ?_) | (with_reducible refine blk_old ?_)))
                          · (repeat' (first | (with_reducible exact Hz24.out) | (with_reducible exact heap_alloc_new _ _) | (with_reducible exact blk_new (by first | (simp; done) | omega)) | (with_reducible refine blk_drew ?_) | (with_reducible apply put4_0) | (with_reducible apply put4_1) | (with_reducible apply put4_2) | (with_reducible apply put4_3) | (with_reducible refine blk_else (by omega) ?_) | (with_reducible refine blk_old ?_)))
                          · (repeat' (first | (with_reducible exact Hm24.out) | (with_reducible exact heap_alloc_new _ _) | (with_reducible exact blk_new (by first | (simp; done) | omega)) | (with_reducible refine blk_drew ?_) | (with_reducible apply put4_0) | (with_reducible apply put4_1) | (with_reducible apply put4_2) | (with_reducible apply put4_3) | (with_reducible refine blk_else (by omega) ?_) | (with_reducible refine blk_old ?_)))
                          · (repeat' (first | (with_reducible exact HB24.out) | (with_reducible exact Below.refl _ _) | (with_reducible refine below_drewN _ ?_) | (with_reducible refine Below.drew ?_) | (with_reducible refine Below.setCell ?_ (by first | (simp; done) | omega) _) | (with_reducible refine Below.alloc ?_ (by have := HB24.out.size; simp; omega) _)))
                        · rw [if_pos (by rfl)]
                          go_wp2_with (have _t := OFH; go_at_call 37; with_reducible refine (OFH.out _).mono ?_; rintro e u3 ⟨rA, rB, rfl, hwo, hu3⟩; have Ys : u3.heap[Bs]? = some (.cells #[.int .u64 sA, .int .u64 sB, .int .u64 sC, .int .u64 sD] 93 (0, 0)) := blk_call hu3 (by first | exact Hs22.out | exact blk_drew Hs22.out); have Yz : u3.heap[Bz]? = some (.cells #[.int .u64 zA, .int .u64 zB, .int .u64 zC, .int .u64 zD] 93 (0, 0)) := blk_call hu3 (by first | exact Hz22.out | exact blk_drew Hz22.out); have Ym : u3.heap[Bm]? = some (.cells #[.int .u64 mA, .int .u64 mB, .int .u64 mC, .int .u64 mD] 93 (0, 0)) := blk_call hu3 (by first | exact Hm22.out | exact blk_drew Hm22.out); have YB : Below W0.heap.size W0 u3 := bel_call hu3 (by first | exact HB22.out | exact HB22.out.drew) (Nat.le_refl _); clear s0c s1c s2c s3c z0c z1c z2c z3c sf0c sf1c sf2c sf3c zf0c zf1c zf2c zf3c slc zlc khc hhc'; obtain ⟨s0c, s1c, s2c, s3c, sf0c, sf1c, sf2c, sf3c⟩ := at4 Ys; have slc := lt_blk Ys; obtain ⟨z0c, z1c, z2c, z3c, zf0c, zf1c, zf2c, zf3c⟩ := at4 Yz; have zlc := lt_blk Yz; have khc := (YB.cell (p := ⟨hb_, K, none⟩) hhb).trans HHC.out; have hhc' : hb_ < u3.heap.size := Nat.lt_of_lt_of_le hhb YB.size; have HS23 := Lib.hid (show u3.cell? ⟨gb, K, none⟩ = some (.int .u64 gk) ∧ u3.cell? ⟨hb_, K, none⟩ = some (.int .u64 hk_) from ⟨(YB.cell (p := ⟨gb, K, none⟩) hgb).trans HGC.out, (YB.cell (p := ⟨hb_, K, none⟩) hhb).trans HHC.out⟩); have Hs23 := Lib.hid Ys; have Hz23 := Lib.hid Yz; have Hm23 := Lib.hid Ym; have HB23 := Lib.hid YB; clear hu3 YB Ys Yz Ym; have PL2 := Lib.hid (fun W => plus_any zA zB zC zD rA rB 0 0 SH hk_ hwz hwo (by omega) W); clear OFH hwo)
                          refine hK.out _ _ (HS23.out) (fun hHeld => ?_)
                          clear hK KQ
                          try simp only [List.getElem_toArray, List.getElem_cons_succ, List.getElem_cons_zero, Act.put, List.setIfInBounds_toArray, List.set_cons_zero, List.set_cons_succ]
                          refine wpAnyH_ready (rs := [7]) (by kernel_rfl) (by simp) ?_
                          refine (cons_list (o := _) rfl (fun KQ hK => ?_) AllReadyH.nil)
                          rw [if_pos (by rfl)]
                          go_simp
                          refine hK.out _ _ (HS23.out) (fun hHeld => ?_)
                          clear hK KQ
                          try simp only [List.getElem_toArray, List.getElem_cons_succ, List.getElem_cons_zero, Act.put, List.setIfInBounds_toArray, List.set_cons_zero, List.set_cons_succ]
                          refine wpAnyH_ready (rs := [13]) (by kernel_rfl) (by simp) ?_
                          refine (cons_list (o := _) rfl (fun KQ hK => ?_) AllReadyH.nil)
                          rw [if_pos (by rfl)]
                          go_wp2_with (have _t := PL2; go_at_call 38; with_reducible refine (PL2.out _).mono ?_; rintro e u4 ⟨vA, vB, vC, vD, rfl, hwv, hu4⟩; have Ys : u4.heap[Bs]? = some (.cells #[.int .u64 sA, .int .u64 sB, .int .u64 sC, .int .u64 sD] 93 (0, 0)) := blk_call hu4 (by first | exact Hs23.out | exact blk_drew Hs23.out); have Yz : u4.heap[Bz]? = some (.cells #[.int .u64 zA, .int .u64 zB, .int .u64 zC, .int .u64 zD] 93 (0, 0)) := blk_call hu4 (by first | exact Hz23.out | exact blk_drew Hz23.out); have Ym : u4.heap[Bm]? = some (.cells #[.int .u64 mA, .int .u64 mB, .int .u64 mC, .int .u64 mD] 93 (0, 0)) := blk_call hu4 (by first | exact Hm23.out | exact blk_drew Hm23.out); have YB : Below W0.heap.size W0 u4 := bel_call hu4 (by first | exact HB23.out | exact HB23.out.drew) (Nat.le_refl _); clear s0c s1c s2c s3c z0c z1c z2c z3c sf0c sf1c sf2c sf3c zf0c zf1c zf2c zf3c slc zlc khc hhc'; obtain ⟨s0c, s1c, s2c, s3c, sf0c, sf1c, sf2c, sf3c⟩ := at4 Ys; have slc := lt_blk Ys; obtain ⟨z0c, z1c, z2c, z3c, zf0c, zf1c, zf2c, zf3c⟩ := at4 Yz; have zlc := lt_blk Yz; have khc := (YB.cell (p := ⟨hb_, K, none⟩) hhb).trans HHC.out; have hhc' : hb_ < u4.heap.size := Nat.lt_of_lt_of_le hhb YB.size; have HS24 := Lib.hid (show u4.cell? ⟨gb, K, none⟩ = some (.int .u64 gk) ∧ u4.cell? ⟨hb_, K, none⟩ = some (.int .u64 hk_) from ⟨(YB.cell (p := ⟨gb, K, none⟩) hgb).trans HGC.out, (YB.cell (p := ⟨hb_, K, none⟩) hhb).trans HHC.out⟩); have Hs24 := Lib.hid Ys; have Hz24 := Lib.hid Yz; have Hm24 := Lib.hid Ym; have HB24 := Lib.hid YB; clear hu4 YB Ys Yz Ym; clear PL2)
                          refine hK.out _ _ (HS24.out) (fun hHeld => ?_)
                          clear hK KQ
                          try simp only [List.getElem_toArray, List.getElem_cons_succ, List.getElem_cons_zero, Act.put, List.setIfInBounds_toArray, List.set_cons_zero, List.set_cons_succ]
                          refine wpAnyH_ready (rs := [14]) (by kernel_rfl) (by simp) ?_
                          refine (cons_list (o := _) rfl (fun KQ hK => ?_) AllReadyH.nil)
                          rw [if_pos (by rfl)]
                          go_simp
                          refine hK.out _ _ (KTS.out _ _ _ _ _ HS24.out) (fun hHeld => ?_)
                          clear hK KQ
                          try simp only [List.getElem_toArray, List.getElem_cons_succ, List.getElem_cons_zero, Act.put, List.setIfInBounds_toArray, List.set_cons_zero, List.set_cons_succ]
                          refine wpAnyH_ready (rs := [15]) (by kernel_rfl) (by simp) ?_
                          refine (cons_list (o := _) rfl (fun KQ hK => ?_) AllReadyH.nil)
                          rw [if_pos (by rfl)]
                          go_simp
                          refine hK.out _ _ (KTZ.out _ _ _ _ _ (KTS.out _ _ _ _ _ HS24.out)) (fun hHeld => ?_)
                          clear hK KQ
                          try simp only [List.getElem_toArray, List.getElem_cons_succ, List.getElem_cons_zero, Act.put, List.setIfInBounds_toArray, List.set_cons_zero, List.set_cons_succ]
                          refine wpAnyH_done (by kernel_rfl) ?_ _
                          refine NoPanic.normal ?_
                          go_wp2
                          go_meet
                          refine ⟨tA, tB, tC, tD, vA, vB, vC, vD, by first | rfl | (simp; done), hwt, hwv, ?_, ?_, ?_, ?_⟩
                          · (repeat' (first | (with_reducible exact Hs24.out) | (with_reducible exact heap_alloc_new _ _) | (with_reducible exact blk_new (by first | (simp; done) | omega)) | (with_reducible refine blk_drew ?_) | (with_reducible apply put4_0) | (with_reducible apply put4_1) | (with_reducible apply put4_2) | (with_reducible apply put4_3) | (with_reducible refine blk_else (by omega) ?_) | (with_reducible refine blk_old ?_)))
                          · (repeat' (first | (with_reducible exact Hz24.out) | (with_reducible exact heap_alloc_new _ _) | (with_reducible exact blk_new (by first | (simp; done) | omega)) | (with_reducible refine blk_drew ?_) | (with_reducible apply put4_0) | (with_reducible apply put4_1) | (with_reducible apply put4_2) | (with_reducible apply put4_3) | (with_reducible refine blk_else (by omega) ?_) | (with_reducible refine blk_old ?_)))
                          · (repeat' (first | (with_reducible exact Hm24.out) | (with_reducible exact heap_alloc_new _ _) | (with_reducible exact blk_new (by first | (simp; done) | omega)) | (with_reducible refine blk_drew ?_) | (with_reducible apply put4_0) | (with_reducible apply put4_1) | (with_reducible apply put4_2) | (with_reducible apply put4_3) | (with_reducible refine blk_else (by omega) ?_) | (with_reducible refine blk_old ?_)))
                          · (repeat' (first | (with_reducible exact HB24.out) | (with_reducible exact Below.refl _ _) | (with_reducible refine below_drewN _ ?_) | (with_reducible refine Below.drew ?_) | (with_reducible refine Below.setCell ?_ (by first | (simp; done) | omega) _) | (with_reducible refine Below.alloc ?_ (by have := HB24.out.size; simp; omega) _)))
                      · rw [if_pos (by rfl)]
                        go_simp
                        refine hK.out _ _ (HS21.out) (fun hHeld => ?_)
                        clear hK KQ
                        try simp only [List.getElem_toArray, List.getElem_cons_succ, List.getElem_cons_zero, Act.put, List.setIfInBounds_toArray, List.set_cons_zero, List.set_cons_succ]
                        refine wpAnyH_ready (rs := [6]) (by kernel_rfl) (by simp) ?_
                        refine (cons_list (o := _) rfl (fun KQ hK => ?_) AllReadyH.nil)
                        rw [if_pos (by rfl)]
                        go_wp2_with (have _t := PL1; go_at_call 38; with_reducible refine (PL1.out _).mono ?_; rintro e u2 ⟨tA, tB, tC, tD, rfl, hwt, hu2⟩; have Ys : u2.heap[Bs]? = some (.cells #[.int .u64 sA, .int .u64 sB, .int .u64 sC, .int .u64 sD] 93 (0, 0)) := blk_call hu2 (by first | exact Hs21.out | exact blk_drew Hs21.out); have Yz : u2.heap[Bz]? = some (.cells #[.int .u64 zA, .int .u64 zB, .int .u64 zC, .int .u64 zD] 93 (0, 0)) := blk_call hu2 (by first | exact Hz21.out | exact blk_drew Hz21.out); have Ym : u2.heap[Bm]? = some (.cells #[.int .u64 mA, .int .u64 mB, .int .u64 mC, .int .u64 mD] 93 (0, 0)) := blk_call hu2 (by first | exact Hm21.out | exact blk_drew Hm21.out); have YB : Below W0.heap.size W0 u2 := bel_call hu2 (by first | exact HB21.out | exact HB21.out.drew) (Nat.le_refl _); clear s0c s1c s2c s3c z0c z1c z2c z3c sf0c sf1c sf2c sf3c zf0c zf1c zf2c zf3c slc zlc khc hhc'; obtain ⟨s0c, s1c, s2c, s3c, sf0c, sf1c, sf2c, sf3c⟩ := at4 Ys; have slc := lt_blk Ys; obtain ⟨z0c, z1c, z2c, z3c, zf0c, zf1c, zf2c, zf3c⟩ := at4 Yz; have zlc := lt_blk Yz; have khc := (YB.cell (p := ⟨hb_, K, none⟩) hhb).trans HHC.out; have hhc' : hb_ < u2.heap.size := Nat.lt_of_lt_of_le hhb YB.size; have HS22 := Lib.hid (show u2.cell? ⟨gb, K, none⟩ = some (.int .u64 gk) ∧ u2.cell? ⟨hb_, K, none⟩ = some (.int .u64 hk_) from ⟨(YB.cell (p := ⟨gb, K, none⟩) hgb).trans HGC.out, (YB.cell (p := ⟨hb_, K, none⟩) hhb).trans HHC.out⟩); have Hs22 := Lib.hid Ys; have Hz22 := Lib.hid Yz; have Hm22 := Lib.hid Ym; have HB22 := Lib.hid YB; clear hu2 YB Ys Yz Ym; have OFH := OFH0; clear PL1 OFH0)
                        refine hK.out _ _ (HS22.out) (fun hHeld => ?_)
                        clear hK KQ
                        try simp only [List.getElem_toArray, List.getElem_cons_succ, List.getElem_cons_zero, Act.put, List.setIfInBounds_toArray, List.set_cons_zero, List.set_cons_succ]
                        refine wpAnyH_ready (rs := [12]) (by kernel_rfl) (by simp) ?_
                        refine (cons_list (o := _) rfl (fun KQ hK => ?_) AllReadyH.nil)
                        rw [if_pos (by rfl)]
                        go_wp2_with (have _t := OFH; go_at_call 37; with_reducible refine (OFH.out _).mono ?_; rintro e u3 ⟨rA, rB, rfl, hwo, hu3⟩; have Ys : u3.heap[Bs]? = some (.cells #[.int .u64 sA, .int .u64 sB, .int .u64 sC, .int .u64 sD] 93 (0, 0)) := blk_call hu3 (by first | exact Hs22.out | exact blk_drew Hs22.out); have Yz : u3.heap[Bz]? = some (.cells #[.int .u64 zA, .int .u64 zB, .int .u64 zC, .int .u64 zD] 93 (0, 0)) := blk_call hu3 (by first | exact Hz22.out | exact blk_drew Hz22.out); have Ym : u3.heap[Bm]? = some (.cells #[.int .u64 mA, .int .u64 mB, .int .u64 mC, .int .u64 mD] 93 (0, 0)) := blk_call hu3 (by first | exact Hm22.out | exact blk_drew Hm22.out); have YB : Below W0.heap.size W0 u3 := bel_call hu3 (by first | exact HB22.out | exact HB22.out.drew) (Nat.le_refl _); clear s0c s1c s2c s3c z0c z1c z2c z3c sf0c sf1c sf2c sf3c zf0c zf1c zf2c zf3c slc zlc khc hhc'; obtain ⟨s0c, s1c, s2c, s3c, sf0c, sf1c, sf2c, sf3c⟩ := at4 Ys; have slc := lt_blk Ys; obtain ⟨z0c, z1c, z2c, z3c, zf0c, zf1c, zf2c, zf3c⟩ := at4 Yz; have zlc := lt_blk Yz; have khc := (YB.cell (p := ⟨hb_, K, none⟩) hhb).trans HHC.out; have hhc' : hb_ < u3.heap.size := Nat.lt_of_lt_of_le hhb YB.size; have HS23 := Lib.hid (show u3.cell? ⟨gb, K, none⟩ = some (.int .u64 gk) ∧ u3.cell? ⟨hb_, K, none⟩ = some (.int .u64 hk_) from ⟨(YB.cell (p := ⟨gb, K, none⟩) hgb).trans HGC.out, (YB.cell (p := ⟨hb_, K, none⟩) hhb).trans HHC.out⟩); have Hs23 := Lib.hid Ys; have Hz23 := Lib.hid Yz; have Hm23 := Lib.hid Ym; have HB23 := Lib.hid YB; clear hu3 YB Ys Yz Ym; have PL2 := Lib.hid (fun W => plus_any zA zB zC zD rA rB 0 0 SH hk_ hwz hwo (by omega) W); clear OFH hwo)
                        refine hK.out _ _ (HS23.out) (fun hHeld => ?_)
                        clear hK KQ
                        try simp only [List.getElem_toArray, List.getElem_cons_succ, List.getElem_cons_zero, Act.put, List.setIfInBounds_toArray, List.set_cons_zero, List.set_cons_succ]
                        refine wpAnyH_ready (rs := [13]) (by kernel_rfl) (by simp) ?_
                        refine (cons_list (o := _) rfl (fun KQ hK => ?_) AllReadyH.nil)
                        rw [if_pos (by rfl)]
                        go_wp2_with (have _t := PL2; go_at_call 38; with_reducible refine (PL2.out _).mono ?_; rintro e u4 ⟨vA, vB, vC, vD, rfl, hwv, hu4⟩; have Ys : u4.heap[Bs]? = some (.cells #[.int .u64 sA, .int .u64 sB, .int .u64 sC, .int .u64 sD] 93 (0, 0)) := blk_call hu4 (by first | exact Hs23.out | exact blk_drew Hs23.out); have Yz : u4.heap[Bz]? = some (.cells #[.int .u64 zA, .int .u64 zB, .int .u64 zC, .int .u64 zD] 93 (0, 0)) := blk_call hu4 (by first | exact Hz23.out | exact blk_drew Hz23.out); have Ym : u4.heap[Bm]? = some (.cells #[.int .u64 mA, .int .u64 mB, .int .u64 mC, .int .u64 mD] 93 (0, 0)) := blk_call hu4 (by first | exact Hm23.out | exact blk_drew Hm23.out); have YB : Below W0.heap.size W0 u4 := bel_call hu4 (by first | exact HB23.out | exact HB23.out.drew) (Nat.le_refl _); clear s0c s1c s2c s3c z0c z1c z2c z3c sf0c sf1c sf2c sf3c zf0c zf1c zf2c zf3c slc zlc khc hhc'; obtain ⟨s0c, s1c, s2c, s3c, sf0c, sf1c, sf2c, sf3c⟩ := at4 Ys; have slc := lt_blk Ys; obtain ⟨z0c, z1c, z2c, z3c, zf0c, zf1c, zf2c, zf3c⟩ := at4 Yz; have zlc := lt_blk Yz; have khc := (YB.cell (p := ⟨hb_, K, none⟩) hhb).trans HHC.out; have hhc' : hb_ < u4.heap.size := Nat.lt_of_lt_of_le hhb YB.size; have HS24 := Lib.hid (show u4.cell? ⟨gb, K, none⟩ = some (.int .u64 gk) ∧ u4.cell? ⟨hb_, K, none⟩ = some (.int .u64 hk_) from ⟨(YB.cell (p := ⟨gb, K, none⟩) hgb).trans HGC.out, (YB.cell (p := ⟨hb_, K, none⟩) hhb).trans HHC.out⟩); have Hs24 := Lib.hid Ys; have Hz24 := Lib.hid Yz; have Hm24 := Lib.hid Ym; have HB24 := Lib.hid YB; clear hu4 YB Ys Yz Ym; clear PL2)
                        refine hK.out _ _ (HS24.out) (fun hHeld => ?_)
                        clear hK KQ
                        try simp only [List.getElem_toArray, List.getElem_cons_succ, List.getElem_cons_zero, Act.put, List.setIfInBounds_toArray, List.set_cons_zero, List.set_cons_succ]
                        refine wpAnyH_ready (rs := [14]) (by kernel_rfl) (by simp) ?_
                        refine (cons_list (o := _) rfl (fun KQ hK => ?_) AllReadyH.nil)
                        rw [if_pos (by rfl)]
                        go_simp
                        refine hK.out _ _ (KTS.out _ _ _ _ _ HS24.out) (fun hHeld => ?_)
                        clear hK KQ
                        try simp only [List.getElem_toArray, List.getElem_cons_succ, List.getElem_cons_zero, Act.put, List.setIfInBounds_toArray, List.set_cons_zero, List.set_cons_succ]
                        refine wpAnyH_ready (rs := [15]) (by kernel_rfl) (by simp) ?_
                        refine (cons_list (o := _) rfl (fun KQ hK => ?_) AllReadyH.nil)
                        rw [if_pos (by rfl)]
                        go_simp
                        refine hK.out _ _ (KTZ.out _ _ _ _ _ (KTS.out _ _ _ _ _ HS24.out)) (fun hHeld => ?_)
                        clear hK KQ
                        try simp only [List.getElem_toArray, List.getElem_cons_succ, List.getElem_cons_zero, Act.put, List.setIfInBounds_toArray, List.set_cons_zero, List.set_cons_succ]
                        refine wpAnyH_done (by kernel_rfl) ?_ _
                        refine NoPanic.normal ?_
                        go_wp2
                        go_meet
                        refine ⟨tA, tB, tC, tD, vA, vB, vC, vD, by first | rfl | (simp; done), hwt, hwv, ?_, ?_, ?_, ?_⟩
                        · (repeat' (first | (with_reducible exact Hs24.out) | (with_reducible exact heap_alloc_new _ _) | (with_reducible exact blk_new (by first | (simp; done) | omega)) | (with_reducible refine blk_drew ?_) | (with_reducible apply put4_0) | (with_reducible apply put4_1) | (with_reducible apply put4_2) | (with_reducible apply put4_3) | (with_reducible refine blk_else (by omega) ?_) | (with_reducible refine blk_old ?_)))
                        · (repeat' (first | (with_reducible exact Hz24.out) | (with_reducible exact heap_alloc_new _ _) | (with_reducible exact blk_new (by first | (simp; done) | omega)) | (with_reducible refine blk_drew ?_) | (with_reducible apply put4_0) | (with_reducible apply put4_1) | (with_reducible apply put4_2) | (with_reducible apply put4_3) | (with_reducible refine blk_else (by omega) ?_) | (with_reducible refine blk_old ?_)))
                        · (repeat' (first | (with_reducible exact Hm24.out) | (with_reducible exact heap_alloc_new _ _) | (with_reducible exact blk_new (by first | (simp; done) | omega)) | (with_reducible refine blk_drew ?_) | (with_reducible apply put4_0) | (with_reducible apply put4_1) | (with_reducible apply put4_2) | (with_reducible apply put4_3) | (with_reducible refine blk_else (by omega) ?_) | (with_reducible refine blk_old ?_)))
                        · (repeat' (first | (with_reducible exact HB24.out) | (with_reducible exact Below.refl _ _) | (with_reducible refine below_drewN _ ?_) | (with_reducible refine Below.drew ?_) | (with_reducible refine Below.setCell ?_ (by first | (simp; done) | omega) _) | (with_reducible refine Below.alloc ?_ (by have := HB24.out.size; simp; omega) _)))
                    · rw [if_pos (by rfl)]
                      go_simp
                      refine hK.out _ _ (HS21.out) (fun hHeld => ?_)
                      clear hK KQ
                      try simp only [List.getElem_toArray, List.getElem_cons_succ, List.getElem_cons_zero, Act.put, List.setIfInBounds_toArray, List.set_cons_zero, List.set_cons_succ]
                      refine wpAnyH_ready (rs := [0]) (by kernel_rfl) (by simp) ?_
                      refine (cons_list (o := _) rfl (fun KQ hK => ?_) AllReadyH.nil)
                      rw [if_pos (by rfl)]
                      go_simp
                      refine hK.out _ _ (HS21.out) (fun hHeld => ?_)
                      clear hK KQ
                      try simp only [List.getElem_toArray, List.getElem_cons_succ, List.getElem_cons_zero, Act.put, List.setIfInBounds_toArray, List.set_cons_zero, List.set_cons_succ]
                      refine wpAnyH_ready (rs := [6]) (by kernel_rfl) (by simp) ?_
                      refine (cons_list (o := _) rfl (fun KQ hK => ?_) AllReadyH.nil)
                      rw [if_pos (by rfl)]
                      go_wp2_with (have _t := PL1; go_at_call 38; with_reducible refine (PL1.out _).mono ?_; rintro e u2 ⟨tA, tB, tC, tD, rfl, hwt, hu2⟩; have Ys : u2.heap[Bs]? = some (.cells #[.int .u64 sA, .int .u64 sB, .int .u64 sC, .int .u64 sD] 93 (0, 0)) := blk_call hu2 (by first | exact Hs21.out | exact blk_drew Hs21.out); have Yz : u2.heap[Bz]? = some (.cells #[.int .u64 zA, .int .u64 zB, .int .u64 zC, .int .u64 zD] 93 (0, 0)) := blk_call hu2 (by first | exact Hz21.out | exact blk_drew Hz21.out); have Ym : u2.heap[Bm]? = some (.cells #[.int .u64 mA, .int .u64 mB, .int .u64 mC, .int .u64 mD] 93 (0, 0)) := blk_call hu2 (by first | exact Hm21.out | exact blk_drew Hm21.out); have YB : Below W0.heap.size W0 u2 := bel_call hu2 (by first | exact HB21.out | exact HB21.out.drew) (Nat.le_refl _); clear s0c s1c s2c s3c z0c z1c z2c z3c sf0c sf1c sf2c sf3c zf0c zf1c zf2c zf3c slc zlc khc hhc'; obtain ⟨s0c, s1c, s2c, s3c, sf0c, sf1c, sf2c, sf3c⟩ := at4 Ys; have slc := lt_blk Ys; obtain ⟨z0c, z1c, z2c, z3c, zf0c, zf1c, zf2c, zf3c⟩ := at4 Yz; have zlc := lt_blk Yz; have khc := (YB.cell (p := ⟨hb_, K, none⟩) hhb).trans HHC.out; have hhc' : hb_ < u2.heap.size := Nat.lt_of_lt_of_le hhb YB.size; have HS22 := Lib.hid (show u2.cell? ⟨gb, K, none⟩ = some (.int .u64 gk) ∧ u2.cell? ⟨hb_, K, none⟩ = some (.int .u64 hk_) from ⟨(YB.cell (p := ⟨gb, K, none⟩) hgb).trans HGC.out, (YB.cell (p := ⟨hb_, K, none⟩) hhb).trans HHC.out⟩); have Hs22 := Lib.hid Ys; have Hz22 := Lib.hid Yz; have Hm22 := Lib.hid Ym; have HB22 := Lib.hid YB; clear hu2 YB Ys Yz Ym; have OFH := OFH0; clear PL1 OFH0)
                      refine hK.out _ _ (HS22.out) (fun hHeld => ?_)
                      clear hK KQ
                      try simp only [List.getElem_toArray, List.getElem_cons_succ, List.getElem_cons_zero, Act.put, List.setIfInBounds_toArray, List.set_cons_zero, List.set_cons_succ]
                      refine wpAnyH_ready (rs := [12]) (by kernel_rfl) (by simp) ?_
                      refine (cons_list (o := _) rfl (fun KQ hK => ?_) AllReadyH.nil)
                      rw [if_pos (by rfl)]
                      go_wp2_with (have _t := OFH; go_at_call 37; with_reducible refine (OFH.out _).mono ?_; rintro e u3 ⟨rA, rB, rfl, hwo, hu3⟩; have Ys : u3.heap[Bs]? = some (.cells #[.int .u64 sA, .int .u64 sB, .int .u64 sC, .int .u64 sD] 93 (0, 0)) := blk_call hu3 (by first | exact Hs22.out | exact blk_drew Hs22.out); have Yz : u3.heap[Bz]? = some (.cells #[.int .u64 zA, .int .u64 zB, .int .u64 zC, .int .u64 zD] 93 (0, 0)) := blk_call hu3 (by first | exact Hz22.out | exact blk_drew Hz22.out); have Ym : u3.heap[Bm]? = some (.cells #[.int .u64 mA, .int .u64 mB, .int .u64 mC, .int .u64 mD] 93 (0, 0)) := blk_call hu3 (by first | exact Hm22.out | exact blk_drew Hm22.out); have YB : Below W0.heap.size W0 u3 := bel_call hu3 (by first | exact HB22.out | exact HB22.out.drew) (Nat.le_refl _); clear s0c s1c s2c s3c z0c z1c z2c z3c sf0c sf1c sf2c sf3c zf0c zf1c zf2c zf3c slc zlc khc hhc'; obtain ⟨s0c, s1c, s2c, s3c, sf0c, sf1c, sf2c, sf3c⟩ := at4 Ys; have slc := lt_blk Ys; obtain ⟨z0c, z1c, z2c, z3c, zf0c, zf1c, zf2c, zf3c⟩ := at4 Yz; have zlc := lt_blk Yz; have khc := (YB.cell (p := ⟨hb_, K, none⟩) hhb).trans HHC.out; have hhc' : hb_ < u3.heap.size := Nat.lt_of_lt_of_le hhb YB.size; have HS23 := Lib.hid (show u3.cell? ⟨gb, K, none⟩ = some (.int .u64 gk) ∧ u3.cell? ⟨hb_, K, none⟩ = some (.int .u64 hk_) from ⟨(YB.cell (p := ⟨gb, K, none⟩) hgb).trans HGC.out, (YB.cell (p := ⟨hb_, K, none⟩) hhb).trans HHC.out⟩); have Hs23 := Lib.hid Ys; have Hz23 := Lib.hid Yz; have Hm23 := Lib.hid Ym; have HB23 := Lib.hid YB; clear hu3 YB Ys Yz Ym; have PL2 := Lib.hid (fun W => plus_any zA zB zC zD rA rB 0 0 SH hk_ hwz hwo (by omega) W); clear OFH hwo)
                      refine hK.out _ _ (HS23.out) (fun hHeld => ?_)
                      clear hK KQ
                      try simp only [List.getElem_toArray, List.getElem_cons_succ, List.getElem_cons_zero, Act.put, List.setIfInBounds_toArray, List.set_cons_zero, List.set_cons_succ]
                      refine wpAnyH_ready (rs := [13]) (by kernel_rfl) (by simp) ?_
                      refine (cons_list (o := _) rfl (fun KQ hK => ?_) AllReadyH.nil)
                      rw [if_pos (by rfl)]
                      go_wp2_with (have _t := PL2; go_at_call 38; with_reducible refine (PL2.out _).mono ?_; rintro e u4 ⟨vA, vB, vC, vD, rfl, hwv, hu4⟩; have Ys : u4.heap[Bs]? = some (.cells #[.int .u64 sA, .int .u64 sB, .int .u64 sC, .int .u64 sD] 93 (0, 0)) := blk_call hu4 (by first | exact Hs23.out | exact blk_drew Hs23.out); have Yz : u4.heap[Bz]? = some (.cells #[.int .u64 zA, .int .u64 zB, .int .u64 zC, .int .u64 zD] 93 (0, 0)) := blk_call hu4 (by first | exact Hz23.out | exact blk_drew Hz23.out); have Ym : u4.heap[Bm]? = some (.cells #[.int .u64 mA, .int .u64 mB, .int .u64 mC, .int .u64 mD] 93 (0, 0)) := blk_call hu4 (by first | exact Hm23.out | exact blk_drew Hm23.out); have YB : Below W0.heap.size W0 u4 := bel_call hu4 (by first | exact HB23.out | exact HB23.out.drew) (Nat.le_refl _); clear s0c s1c s2c s3c z0c z1c z2c z3c sf0c sf1c sf2c sf3c zf0c zf1c zf2c zf3c slc zlc khc hhc'; obtain ⟨s0c, s1c, s2c, s3c, sf0c, sf1c, sf2c, sf3c⟩ := at4 Ys; have slc := lt_blk Ys; obtain ⟨z0c, z1c, z2c, z3c, zf0c, zf1c, zf2c, zf3c⟩ := at4 Yz; have zlc := lt_blk Yz; have khc := (YB.cell (p := ⟨hb_, K, none⟩) hhb).trans HHC.out; have hhc' : hb_ < u4.heap.size := Nat.lt_of_lt_of_le hhb YB.size; have HS24 := Lib.hid (show u4.cell? ⟨gb, K, none⟩ = some (.int .u64 gk) ∧ u4.cell? ⟨hb_, K, none⟩ = some (.int .u64 hk_) from ⟨(YB.cell (p := ⟨gb, K, none⟩) hgb).trans HGC.out, (YB.cell (p := ⟨hb_, K, none⟩) hhb).trans HHC.out⟩); have Hs24 := Lib.hid Ys; have Hz24 := Lib.hid Yz; have Hm24 := Lib.hid Ym; have HB24 := Lib.hid YB; clear hu4 YB Ys Yz Ym; clear PL2)
                      refine hK.out _ _ (HS24.out) (fun hHeld => ?_)
                      clear hK KQ
                      try simp only [List.getElem_toArray, List.getElem_cons_succ, List.getElem_cons_zero, Act.put, List.setIfInBounds_toArray, List.set_cons_zero, List.set_cons_succ]
                      refine wpAnyH_ready (rs := [14]) (by kernel_rfl) (by simp) ?_
                      refine (cons_list (o := _) rfl (fun KQ hK => ?_) AllReadyH.nil)
                      rw [if_pos (by rfl)]
                      go_simp
                      refine hK.out _ _ (KTS.out _ _ _ _ _ HS24.out) (fun hHeld => ?_)
                      clear hK KQ
                      try simp only [List.getElem_toArray, List.getElem_cons_succ, List.getElem_cons_zero, Act.put, List.setIfInBounds_toArray, List.set_cons_zero, List.set_cons_succ]
                      refine wpAnyH_ready (rs := [15]) (by kernel_rfl) (by simp) ?_
                      refine (cons_list (o := _) rfl (fun KQ hK => ?_) AllReadyH.nil)
                      rw [if_pos (by rfl)]
                      go_simp
                      refine hK.out _ _ (KTZ.out _ _ _ _ _ (KTS.out _ _ _ _ _ HS24.out)) (fun hHeld => ?_)
                      clear hK KQ
                      try simp only [List.getElem_toArray, List.getElem_cons_succ, List.getElem_cons_zero, Act.put, List.setIfInBounds_toArray, List.set_cons_zero, List.set_cons_succ]
                      refine wpAnyH_done (by kernel_rfl) ?_ _
                      refine NoPanic.normal ?_
                      go_wp2
                      go_meet
                      refine ⟨tA, tB, tC, tD, vA, vB, vC, vD, by first | rfl | (simp; done), hwt, hwv, ?_, ?_, ?_, ?_⟩
                      · (repeat' (first | (with_reducible exact Hs24.out) | (with_reducible exact heap_alloc_new _ _) | (with_reducible exact blk_new (by first | (simp; done) | omega)) | (with_reducible refine blk_drew ?_) | (with_reducible apply put4_0) | (with_reducible apply put4_1) | (with_reducible apply put4_2) | (with_reducible apply put4_3) | (with_reducible refine blk_else (by omega) ?_) | (with_reducible refine blk_old ?_)))
                      · (repeat' (first | (with_reducible exact Hz24.out) | (with_reducible exact heap_alloc_new _ _) | (with_reducible exact blk_new (by first | (simp; done) | omega)) | (with_reducible refine blk_drew ?_) | (with_reducible apply put4_0) | (with_reducible apply put4_1) | (with_reducible apply put4_2) | (with_reducible apply put4_3) | (with_reducible refine blk_else (by omega) ?_) | (with_reducible refine blk_old ?_)))
                      · (repeat' (first | (with_reducible exact Hm24.out) | (with_reducible exact heap_alloc_new _ _) | (with_reducible exact blk_new (by first | (simp; done) | omega)) | (with_reducible refine blk_drew ?_) | (with_reducible apply put4_0) | (with_reducible apply put4_1) | (with_reducible apply put4_2) | (with_reducible apply put4_3) | (with_reducible refine blk_else (by omega) ?_) | (with_reducible refine blk_old ?_)))
                      · (repeat' (first | (with_reducible exact HB24.out) | (with_reducible exact Below.refl _ _) | (with_reducible refine below_drewN _ ?_) | (with_reducible refine Below.drew ?_) | (with_reducible refine Below.setCell ?_ (by first | (simp; done) | omega) _) | (with_reducible refine Below.alloc ?_ (by have := HB24.out.size; simp; omega) _)))
                  · rw [if_pos (by rfl)]
                    go_simp
                    refine hK.out _ _ (⟨kg_, kh_⟩) (fun hHeld => ?_)
                    clear hK KQ
                    try simp only [List.getElem_toArray, List.getElem_cons_succ, List.getElem_cons_zero, Act.put, List.setIfInBounds_toArray, List.set_cons_zero, List.set_cons_succ]
                    refine wpAnyH_ready (rs := [0, 5]) (by kernel_rfl) (by simp) ?_
                    refine (cons_list (o := _) rfl (fun KQ hK => ?_) (cons_list (o := _) rfl (fun KQ hK => ?_) AllReadyH.nil))
                    · rw [if_pos (by rfl)]
                      go_simp
                      refine hK.out _ _ (⟨kg_, kh_⟩) (fun hHeld => ?_)
                      clear hK KQ
                      try simp only [List.getElem_toArray, List.getElem_cons_succ, List.getElem_cons_zero, Act.put, List.setIfInBounds_toArray, List.set_cons_zero, List.set_cons_succ]
                      refine wpAnyH_ready (rs := [5]) (by kernel_rfl) (by simp) ?_
                      refine (cons_list (o := _) rfl (fun KQ hK => ?_) AllReadyH.nil)
                      rw [if_pos (by rfl)]
                      go_wp2_with (go_at_call 37; with_reducible refine (OFG.out _).mono ?_; rintro e u1 ⟨oA, oB, rfl, hwo, hu1⟩; have Ys : u1.heap[Bs]? = some (.cells #[.int .u64 sA, .int .u64 sB, .int .u64 sC, .int .u64 sD] 93 (0, 0)) := blk_call hu1 (by first | exact Hs9.out | exact blk_drew Hs9.out); have Yz : u1.heap[Bz]? = some (.cells #[.int .u64 zA, .int .u64 zB, .int .u64 zC, .int .u64 zD] 93 (0, 0)) := blk_call hu1 (by first | exact Hz9.out | exact blk_drew Hz9.out); have Ym : u1.heap[Bm]? = some (.cells #[.int .u64 mA, .int .u64 mB, .int .u64 mC, .int .u64 mD] 93 (0, 0)) := blk_call hu1 (by first | exact Hm9.out | exact blk_drew Hm9.out); have YB : Below W0.heap.size W0 u1 := bel_call hu1 (by first | exact HB9c.out | exact HB9c.out.drew) (Nat.le_refl _); obtain ⟨s0c, s1c, s2c, s3c, sf0c, sf1c, sf2c, sf3c⟩ := at4 Ys; have slc := lt_blk Ys; obtain ⟨z0c, z1c, z2c, z3c, zf0c, zf1c, zf2c, zf3c⟩ := at4 Yz; have zlc := lt_blk Yz; have khc := (YB.cell (p := ⟨hb_, K, none⟩) hhb).trans HHC.out; have hhc' : hb_ < u1.heap.size := Nat.lt_of_lt_of_le hhb YB.size; have HS21 := Lib.hid (show u1.cell? ⟨gb, K, none⟩ = some (.int .u64 gk) ∧ u1.cell? ⟨hb_, K, none⟩ = some (.int .u64 hk_) from ⟨(YB.cell (p := ⟨gb, K, none⟩) hgb).trans HGC.out, (YB.cell (p := ⟨hb_, K, none⟩) hhb).trans HHC.out⟩); have Hs21 := Lib.hid Ys; have Hz21 := Lib.hid Yz; have Hm21 := Lib.hid Ym; have HB21 := Lib.hid YB; clear hu1 YB Ys Yz Ym; have PL1 := Lib.hid (fun W => plus_any sA sB sC sD oA oB 0 0 SG gk hws hwo (by omega) W); clear OFG hwo)
                      refine hK.out _ _ (HS21.out) (fun hHeld => ?_)
                      clear hK KQ
                      try simp only [List.getElem_toArray, List.getElem_cons_succ, List.getElem_cons_zero, Act.put, List.setIfInBounds_toArray, List.set_cons_zero, List.set_cons_succ]
                      refine wpAnyH_ready (rs := [6]) (by kernel_rfl) (by simp) ?_
                      refine (cons_list (o := _) rfl (fun KQ hK => ?_) AllReadyH.nil)
                      rw [if_pos (by rfl)]
                      go_wp2_with (have _t := PL1; go_at_call 38; with_reducible refine (PL1.out _).mono ?_; rintro e u2 ⟨tA, tB, tC, tD, rfl, hwt, hu2⟩; have Ys : u2.heap[Bs]? = some (.cells #[.int .u64 sA, .int .u64 sB, .int .u64 sC, .int .u64 sD] 93 (0, 0)) := blk_call hu2 (by first | exact Hs21.out | exact blk_drew Hs21.out); have Yz : u2.heap[Bz]? = some (.cells #[.int .u64 zA, .int .u64 zB, .int .u64 zC, .int .u64 zD] 93 (0, 0)) := blk_call hu2 (by first | exact Hz21.out | exact blk_drew Hz21.out); have Ym : u2.heap[Bm]? = some (.cells #[.int .u64 mA, .int .u64 mB, .int .u64 mC, .int .u64 mD] 93 (0, 0)) := blk_call hu2 (by first | exact Hm21.out | exact blk_drew Hm21.out); have YB : Below W0.heap.size W0 u2 := bel_call hu2 (by first | exact HB21.out | exact HB21.out.drew) (Nat.le_refl _); clear s0c s1c s2c s3c z0c z1c z2c z3c sf0c sf1c sf2c sf3c zf0c zf1c zf2c zf3c slc zlc khc hhc'; obtain ⟨s0c, s1c, s2c, s3c, sf0c, sf1c, sf2c, sf3c⟩ := at4 Ys; have slc := lt_blk Ys; obtain ⟨z0c, z1c, z2c, z3c, zf0c, zf1c, zf2c, zf3c⟩ := at4 Yz; have zlc := lt_blk Yz; have khc := (YB.cell (p := ⟨hb_, K, none⟩) hhb).trans HHC.out; have hhc' : hb_ < u2.heap.size := Nat.lt_of_lt_of_le hhb YB.size; have HS22 := Lib.hid (show u2.cell? ⟨gb, K, none⟩ = some (.int .u64 gk) ∧ u2.cell? ⟨hb_, K, none⟩ = some (.int .u64 hk_) from ⟨(YB.cell (p := ⟨gb, K, none⟩) hgb).trans HGC.out, (YB.cell (p := ⟨hb_, K, none⟩) hhb).trans HHC.out⟩); have Hs22 := Lib.hid Ys; have Hz22 := Lib.hid Yz; have Hm22 := Lib.hid Ym; have HB22 := Lib.hid YB; clear hu2 YB Ys Yz Ym; have OFH := OFH0; clear PL1 OFH0)
                      refine hK.out _ _ (HS22.out) (fun hHeld => ?_)
                      clear hK KQ
                      try simp only [List.getElem_toArray, List.getElem_cons_succ, List.getElem_cons_zero, Act.put, List.setIfInBounds_toArray, List.set_cons_zero, List.set_cons_succ]
                      refine wpAnyH_ready (rs := [12]) (by kernel_rfl) (by simp) ?_
                      refine (cons_list (o := _) rfl (fun KQ hK => ?_) AllReadyH.nil)
                      rw [if_pos (by rfl)]
                      go_wp2_with (have _t := OFH; go_at_call 37; with_reducible refine (OFH.out _).mono ?_; rintro e u3 ⟨rA, rB, rfl, hwo, hu3⟩; have Ys : u3.heap[Bs]? = some (.cells #[.int .u64 sA, .int .u64 sB, .int .u64 sC, .int .u64 sD] 93 (0, 0)) := blk_call hu3 (by first | exact Hs22.out | exact blk_drew Hs22.out); have Yz : u3.heap[Bz]? = some (.cells #[.int .u64 zA, .int .u64 zB, .int .u64 zC, .int .u64 zD] 93 (0, 0)) := blk_call hu3 (by first | exact Hz22.out | exact blk_drew Hz22.out); have Ym : u3.heap[Bm]? = some (.cells #[.int .u64 mA, .int .u64 mB, .int .u64 mC, .int .u64 mD] 93 (0, 0)) := blk_call hu3 (by first | exact Hm22.out | exact blk_drew Hm22.out); have YB : Below W0.heap.size W0 u3 := bel_call hu3 (by first | exact HB22.out | exact HB22.out.drew) (Nat.le_refl _); clear s0c s1c s2c s3c z0c z1c z2c z3c sf0c sf1c sf2c sf3c zf0c zf1c zf2c zf3c slc zlc khc hhc'; obtain ⟨s0c, s1c, s2c, s3c, sf0c, sf1c, sf2c, sf3c⟩ := at4 Ys; have slc := lt_blk Ys; obtain ⟨z0c, z1c, z2c, z3c, zf0c, zf1c, zf2c, zf3c⟩ := at4 Yz; have zlc := lt_blk Yz; have khc := (YB.cell (p := ⟨hb_, K, none⟩) hhb).trans HHC.out; have hhc' : hb_ < u3.heap.size := Nat.lt_of_lt_of_le hhb YB.size; have HS23 := Lib.hid (show u3.cell? ⟨gb, K, none⟩ = some (.int .u64 gk) ∧ u3.cell? ⟨hb_, K, none⟩ = some (.int .u64 hk_) from ⟨(YB.cell (p := ⟨gb, K, none⟩) hgb).trans HGC.out, (YB.cell (p := ⟨hb_, K, none⟩) hhb).trans HHC.out⟩); have Hs23 := Lib.hid Ys; have Hz23 := Lib.hid Yz; have Hm23 := Lib.hid Ym; have HB23 := Lib.hid YB; clear hu3 YB Ys Yz Ym; have PL2 := Lib.hid (fun W => plus_any zA zB zC zD rA rB 0 0 SH hk_ hwz hwo (by omega) W); clear OFH hwo)
                      refine hK.out _ _ (HS23.out) (fun hHeld => ?_)
                      clear hK KQ
                      try simp only [List.getElem_toArray, List.getElem_cons_succ, List.getElem_cons_zero, Act.put, List.setIfInBounds_toArray, List.set_cons_zero, List.set_cons_succ]
                      refine wpAnyH_ready (rs := [13]) (by kernel_rfl) (by simp) ?_
                      refine (cons_list (o := _) rfl (fun KQ hK => ?_) AllReadyH.nil)
                      rw [if_pos (by rfl)]
                      go_wp2_with (have _t := PL2; go_at_call 38; with_reducible refine (PL2.out _).mono ?_; rintro e u4 ⟨vA, vB, vC, vD, rfl, hwv, hu4⟩; have Ys : u4.heap[Bs]? = some (.cells #[.int .u64 sA, .int .u64 sB, .int .u64 sC, .int .u64 sD] 93 (0, 0)) := blk_call hu4 (by first | exact Hs23.out | exact blk_drew Hs23.out); have Yz : u4.heap[Bz]? = some (.cells #[.int .u64 zA, .int .u64 zB, .int .u64 zC, .int .u64 zD] 93 (0, 0)) := blk_call hu4 (by first | exact Hz23.out | exact blk_drew Hz23.out); have Ym : u4.heap[Bm]? = some (.cells #[.int .u64 mA, .int .u64 mB, .int .u64 mC, .int .u64 mD] 93 (0, 0)) := blk_call hu4 (by first | exact Hm23.out | exact blk_drew Hm23.out); have YB : Below W0.heap.size W0 u4 := bel_call hu4 (by first | exact HB23.out | exact HB23.out.drew) (Nat.le_refl _); clear s0c s1c s2c s3c z0c z1c z2c z3c sf0c sf1c sf2c sf3c zf0c zf1c zf2c zf3c slc zlc khc hhc'; obtain ⟨s0c, s1c, s2c, s3c, sf0c, sf1c, sf2c, sf3c⟩ := at4 Ys; have slc := lt_blk Ys; obtain ⟨z0c, z1c, z2c, z3c, zf0c, zf1c, zf2c, zf3c⟩ := at4 Yz; have zlc := lt_blk Yz; have khc := (YB.cell (p := ⟨hb_, K, none⟩) hhb).trans HHC.out; have hhc' : hb_ < u4.heap.size := Nat.lt_of_lt_of_le hhb YB.size; have HS24 := Lib.hid (show u4.cell? ⟨gb, K, none⟩ = some (.int .u64 gk) ∧ u4.cell? ⟨hb_, K, none⟩ = some (.int .u64 hk_) from ⟨(YB.cell (p := ⟨gb, K, none⟩) hgb).trans HGC.out, (YB.cell (p := ⟨hb_, K, none⟩) hhb).trans HHC.out⟩); have Hs24 := Lib.hid Ys; have Hz24 := Lib.hid Yz; have Hm24 := Lib.hid Ym; have HB24 := Lib.hid YB; clear hu4 YB Ys Yz Ym; clear PL2)
                      refine hK.out _ _ (HS24.out) (fun hHeld => ?_)
                      clear hK KQ
                      try simp only [List.getElem_toArray, List.getElem_cons_succ, List.getElem_cons_zero, Act.put, List.setIfInBounds_toArray, List.set_cons_zero, List.set_cons_succ]
                      refine wpAnyH_ready (rs := [14]) (by kernel_rfl) (by simp) ?_
                      refine (cons_list (o := _) rfl (fun KQ hK => ?_) AllReadyH.nil)
                      rw [if_pos (by rfl)]
                      go_simp
                      refine hK.out _ _ (KTS.out _ _ _ _ _ HS24.out) (fun hHeld => ?_)
                      clear hK KQ
                      try simp only [List.getElem_toArray, List.getElem_cons_succ, List.getElem_cons_zero, Act.put, List.setIfInBounds_toArray, List.set_cons_zero, List.set_cons_succ]
                      refine wpAnyH_ready (rs := [15]) (by kernel_rfl) (by simp) ?_
                      refine (cons_list (o := _) rfl (fun KQ hK => ?_) AllReadyH.nil)
                      rw [if_pos (by rfl)]
                      go_simp
                      refine hK.out _ _ (KTZ.out _ _ _ _ _ (KTS.out _ _ _ _ _ HS24.out)) (fun hHeld => ?_)
                      clear hK KQ
                      try simp only [List.getElem_toArray, List.getElem_cons_succ, List.getElem_cons_zero, Act.put, List.setIfInBounds_toArray, List.set_cons_zero, List.set_cons_succ]
                      refine wpAnyH_done (by kernel_rfl) ?_ _
                      refine NoPanic.normal ?_
                      go_wp2
                      go_meet
                      refine ⟨tA, tB, tC, tD, vA, vB, vC, vD, by first | rfl | (simp; done), hwt, hwv, ?_, ?_, ?_, ?_⟩
                      · (repeat' (first | (with_reducible exact Hs24.out) | (with_reducible exact heap_alloc_new _ _) | (with_reducible exact blk_new (by first | (simp; done) | omega)) | (with_reducible refine blk_drew ?_) | (with_reducible apply put4_0) | (with_reducible apply put4_1) | (with_reducible apply put4_2) | (with_reducible apply put4_3) | (with_reducible refine blk_else (by omega) ?_) | (with_reducible refine blk_old ?_)))
                      · (repeat' (first | (with_reducible exact Hz24.out) | (with_reducible exact heap_alloc_new _ _) | (with_reducible exact blk_new (by first | (simp; done) | omega)) | (with_reducible refine blk_drew ?_) | (with_reducible apply put4_0) | (with_reducible apply put4_1) | (with_reducible apply put4_2) | (with_reducible apply put4_3) | (with_reducible refine blk_else (by omega) ?_) | (with_reducible refine blk_old ?_)))
                      · (repeat' (first | (with_reducible exact Hm24.out) | (with_reducible exact heap_alloc_new _ _) | (with_reducible exact blk_new (by first | (simp; done) | omega)) | (with_reducible refine blk_drew ?_) | (with_reducible apply put4_0) | (with_reducible apply put4_1) | (with_reducible apply put4_2) | (with_reducible apply put4_3) | (with_reducible refine blk_else (by omega) ?_) | (with_reducible refine blk_old ?_)))
                      · (repeat' (first | (with_reducible exact HB24.out) | (with_reducible exact Below.refl _ _) | (with_reducible refine below_drewN _ ?_) | (with_reducible refine Below.drew ?_) | (with_reducible refine Below.setCell ?_ (by first | (simp; done) | omega) _) | (with_reducible refine Below.alloc ?_ (by have := HB24.out.size; simp; omega) _)))
                    · rw [if_pos (by rfl)]
                      go_wp2_with (go_at_call 37; with_reducible refine (OFG.out _).mono ?_; rintro e u1 ⟨oA, oB, rfl, hwo, hu1⟩; have Ys : u1.heap[Bs]? = some (.cells #[.int .u64 sA, .int .u64 sB, .int .u64 sC, .int .u64 sD] 93 (0, 0)) := blk_call hu1 (by first | exact Hs9.out | exact blk_drew Hs9.out); have Yz : u1.heap[Bz]? = some (.cells #[.int .u64 zA, .int .u64 zB, .int .u64 zC, .int .u64 zD] 93 (0, 0)) := blk_call hu1 (by first | exact Hz9.out | exact blk_drew Hz9.out); have Ym : u1.heap[Bm]? = some (.cells #[.int .u64 mA, .int .u64 mB, .int .u64 mC, .int .u64 mD] 93 (0, 0)) := blk_call hu1 (by first | exact Hm9.out | exact blk_drew Hm9.out); have YB : Below W0.heap.size W0 u1 := bel_call hu1 (by first | exact HB9c.out | exact HB9c.out.drew) (Nat.le_refl _); obtain ⟨s0c, s1c, s2c, s3c, sf0c, sf1c, sf2c, sf3c⟩ := at4 Ys; have slc := lt_blk Ys; obtain ⟨z0c, z1c, z2c, z3c, zf0c, zf1c, zf2c, zf3c⟩ := at4 Yz; have zlc := lt_blk Yz; have khc := (YB.cell (p := ⟨hb_, K, none⟩) hhb).trans HHC.out; have hhc' : hb_ < u1.heap.size := Nat.lt_of_lt_of_le hhb YB.size; have HS21 := Lib.hid (show u1.cell? ⟨gb, K, none⟩ = some (.int .u64 gk) ∧ u1.cell? ⟨hb_, K, none⟩ = some (.int .u64 hk_) from ⟨(YB.cell (p := ⟨gb, K, none⟩) hgb).trans HGC.out, (YB.cell (p := ⟨hb_, K, none⟩) hhb).trans HHC.out⟩); have Hs21 := Lib.hid Ys; have Hz21 := Lib.hid Yz; have Hm21 := Lib.hid Ym; have HB21 := Lib.hid YB; clear hu1 YB Ys Yz Ym; have PL1 := Lib.hid (fun W => plus_any sA sB sC sD oA oB 0 0 SG gk hws hwo (by omega) W); clear OFG hwo)
                      refine hK.out _ _ (HS21.out) (fun hHeld => ?_)
                      clear hK KQ
                      try simp only [List.getElem_toArray, List.getElem_cons_succ, List.getElem_cons_zero, Act.put, List.setIfInBounds_toArray, List.set_cons_zero, List.set_cons_succ]
                      refine wpAnyH_ready (rs := [0]) (by kernel_rfl) (by simp) ?_
                      refine (cons_list (o := _) rfl (fun KQ hK => ?_) AllReadyH.nil)
                      rw [if_pos (by rfl)]
                      go_simp
                      refine hK.out _ _ (HS21.out) (fun hHeld => ?_)
                      clear hK KQ
                      try simp only [List.getElem_toArray, List.getElem_cons_succ, List.getElem_cons_zero, Act.put, List.setIfInBounds_toArray, List.set_cons_zero, List.set_cons_succ]
                      refine wpAnyH_ready (rs := [6]) (by kernel_rfl) (by simp) ?_
                      refine (cons_list (o := _) rfl (fun KQ hK => ?_) AllReadyH.nil)
                      rw [if_pos (by rfl)]
                      go_wp2_with (have _t := PL1; go_at_call 38; with_reducible refine (PL1.out _).mono ?_; rintro e u2 ⟨tA, tB, tC, tD, rfl, hwt, hu2⟩; have Ys : u2.heap[Bs]? = some (.cells #[.int .u64 sA, .int .u64 sB, .int .u64 sC, .int .u64 sD] 93 (0, 0)) := blk_call hu2 (by first | exact Hs21.out | exact blk_drew Hs21.out); have Yz : u2.heap[Bz]? = some (.cells #[.int .u64 zA, .int .u64 zB, .int .u64 zC, .int .u64 zD] 93 (0, 0)) := blk_call hu2 (by first | exact Hz21.out | exact blk_drew Hz21.out); have Ym : u2.heap[Bm]? = some (.cells #[.int .u64 mA, .int .u64 mB, .int .u64 mC, .int .u64 mD] 93 (0, 0)) := blk_call hu2 (by first | exact Hm21.out | exact blk_drew Hm21.out); have YB : Below W0.heap.size W0 u2 := bel_call hu2 (by first | exact HB21.out | exact HB21.out.drew) (Nat.le_refl _); clear s0c s1c s2c s3c z0c z1c z2c z3c sf0c sf1c sf2c sf3c zf0c zf1c zf2c zf3c slc zlc khc hhc'; obtain ⟨s0c, s1c, s2c, s3c, sf0c, sf1c, sf2c, sf3c⟩ := at4 Ys; have slc := lt_blk Ys; obtain ⟨z0c, z1c, z2c, z3c, zf0c, zf1c, zf2c, zf3c⟩ := at4 Yz; have zlc := lt_blk Yz; have khc := (YB.cell (p := ⟨hb_, K, none⟩) hhb).trans HHC.out; have hhc' : hb_ < u2.heap.size := Nat.lt_of_lt_of_le hhb YB.size; have HS22 := Lib.hid (show u2.cell? ⟨gb, K, none⟩ = some (.int .u64 gk) ∧ u2.cell? ⟨hb_, K, none⟩ = some (.int .u64 hk_) from ⟨(YB.cell (p := ⟨gb, K, none⟩) hgb).trans HGC.out, (YB.cell (p := ⟨hb_, K, none⟩) hhb).trans HHC.out⟩); have Hs22 := Lib.hid Ys; have Hz22 := Lib.hid Yz; have Hm22 := Lib.hid Ym; have HB22 := Lib.hid YB; clear hu2 YB Ys Yz Ym; have OFH := OFH0; clear PL1 OFH0)
                      refine hK.out _ _ (HS22.out) (fun hHeld => ?_)
                      clear hK KQ
                      try simp only [List.getElem_toArray, List.getElem_cons_succ, List.getElem_cons_zero, Act.put, List.setIfInBounds_toArray, List.set_cons_zero, List.set_cons_succ]
                      refine wpAnyH_ready (rs := [12]) (by kernel_rfl) (by simp) ?_
                      refine (cons_list (o := _) rfl (fun KQ hK => ?_) AllReadyH.nil)
                      rw [if_pos (by rfl)]
                      go_wp2_with (have _t := OFH; go_at_call 37; with_reducible refine (OFH.out _).mono ?_; rintro e u3 ⟨rA, rB, rfl, hwo, hu3⟩; have Ys : u3.heap[Bs]? = some (.cells #[.int .u64 sA, .int .u64 sB, .int .u64 sC, .int .u64 sD] 93 (0, 0)) := blk_call hu3 (by first | exact Hs22.out | exact blk_drew Hs22.out); have Yz : u3.heap[Bz]? = some (.cells #[.int .u64 zA, .int .u64 zB, .int .u64 zC, .int .u64 zD] 93 (0, 0)) := blk_call hu3 (by first | exact Hz22.out | exact blk_drew Hz22.out); have Ym : u3.heap[Bm]? = some (.cells #[.int .u64 mA, .int .u64 mB, .int .u64 mC, .int .u64 mD] 93 (0, 0)) := blk_call hu3 (by first | exact Hm22.out | exact blk_drew Hm22.out); have YB : Below W0.heap.size W0 u3 := bel_call hu3 (by first | exact HB22.out | exact HB22.out.drew) (Nat.le_refl _); clear s0c s1c s2c s3c z0c z1c z2c z3c sf0c sf1c sf2c sf3c zf0c zf1c zf2c zf3c slc zlc khc hhc'; obtain ⟨s0c, s1c, s2c, s3c, sf0c, sf1c, sf2c, sf3c⟩ := at4 Ys; have slc := lt_blk Ys; obtain ⟨z0c, z1c, z2c, z3c, zf0c, zf1c, zf2c, zf3c⟩ := at4 Yz; have zlc := lt_blk Yz; have khc := (YB.cell (p := ⟨hb_, K, none⟩) hhb).trans HHC.out; have hhc' : hb_ < u3.heap.size := Nat.lt_of_lt_of_le hhb YB.size; have HS23 := Lib.hid (show u3.cell? ⟨gb, K, none⟩ = some (.int .u64 gk) ∧ u3.cell? ⟨hb_, K, none⟩ = some (.int .u64 hk_) from ⟨(YB.cell (p := ⟨gb, K, none⟩) hgb).trans HGC.out, (YB.cell (p := ⟨hb_, K, none⟩) hhb).trans HHC.out⟩); have Hs23 := Lib.hid Ys; have Hz23 := Lib.hid Yz; have Hm23 := Lib.hid Ym; have HB23 := Lib.hid YB; clear hu3 YB Ys Yz Ym; have PL2 := Lib.hid (fun W => plus_any zA zB zC zD rA rB 0 0 SH hk_ hwz hwo (by omega) W); clear OFH hwo)
                      refine hK.out _ _ (HS23.out) (fun hHeld => ?_)
                      clear hK KQ
                      try simp only [List.getElem_toArray, List.getElem_cons_succ, List.getElem_cons_zero, Act.put, List.setIfInBounds_toArray, List.set_cons_zero, List.set_cons_succ]
                      refine wpAnyH_ready (rs := [13]) (by kernel_rfl) (by simp) ?_
                      refine (cons_list (o := _) rfl (fun KQ hK => ?_) AllReadyH.nil)
                      rw [if_pos (by rfl)]
                      go_wp2_with (have _t := PL2; go_at_call 38; with_reducible refine (PL2.out _).mono ?_; rintro e u4 ⟨vA, vB, vC, vD, rfl, hwv, hu4⟩; have Ys : u4.heap[Bs]? = some (.cells #[.int .u64 sA, .int .u64 sB, .int .u64 sC, .int .u64 sD] 93 (0, 0)) := blk_call hu4 (by first | exact Hs23.out | exact blk_drew Hs23.out); have Yz : u4.heap[Bz]? = some (.cells #[.int .u64 zA, .int .u64 zB, .int .u64 zC, .int .u64 zD] 93 (0, 0)) := blk_call hu4 (by first | exact Hz23.out | exact blk_drew Hz23.out); have Ym : u4.heap[Bm]? = some (.cells #[.int .u64 mA, .int .u64 mB, .int .u64 mC, .int .u64 mD] 93 (0, 0)) := blk_call hu4 (by first | exact Hm23.out | exact blk_drew Hm23.out); have YB : Below W0.heap.size W0 u4 := bel_call hu4 (by first | exact HB23.out | exact HB23.out.drew) (Nat.le_refl _); clear s0c s1c s2c s3c z0c z1c z2c z3c sf0c sf1c sf2c sf3c zf0c zf1c zf2c zf3c slc zlc khc hhc'; obtain ⟨s0c, s1c, s2c, s3c, sf0c, sf1c, sf2c, sf3c⟩ := at4 Ys; have slc := lt_blk Ys; obtain ⟨z0c, z1c, z2c, z3c, zf0c, zf1c, zf2c, zf3c⟩ := at4 Yz; have zlc := lt_blk Yz; have khc := (YB.cell (p := ⟨hb_, K, none⟩) hhb).trans HHC.out; have hhc' : hb_ < u4.heap.size := Nat.lt_of_lt_of_le hhb YB.size; have HS24 := Lib.hid (show u4.cell? ⟨gb, K, none⟩ = some (.int .u64 gk) ∧ u4.cell? ⟨hb_, K, none⟩ = some (.int .u64 hk_) from ⟨(YB.cell (p := ⟨gb, K, none⟩) hgb).trans HGC.out, (YB.cell (p := ⟨hb_, K, none⟩) hhb).trans HHC.out⟩); have Hs24 := Lib.hid Ys; have Hz24 := Lib.hid Yz; have Hm24 := Lib.hid Ym; have HB24 := Lib.hid YB; clear hu4 YB Ys Yz Ym; clear PL2)
                      refine hK.out _ _ (HS24.out) (fun hHeld => ?_)
                      clear hK KQ
                      try simp only [List.getElem_toArray, List.getElem_cons_succ, List.getElem_cons_zero, Act.put, List.setIfInBounds_toArray, List.set_cons_zero, List.set_cons_succ]
                      refine wpAnyH_ready (rs := [14]) (by kernel_rfl) (by simp) ?_
                      refine (cons_list (o := _) rfl (fun KQ hK => ?_) AllReadyH.nil)
                      rw [if_pos (by rfl)]
                      go_simp
                      refine hK.out _ _ (KTS.out _ _ _ _ _ HS24.out) (fun hHeld => ?_)
                      clear hK KQ
                      try simp only [List.getElem_toArray, List.getElem_cons_succ, List.getElem_cons_zero, Act.put, List.setIfInBounds_toArray, List.set_cons_zero, List.set_cons_succ]
                      refine wpAnyH_ready (rs := [15]) (by kernel_rfl) (by simp) ?_
                      refine (cons_list (o := _) rfl (fun KQ hK => ?_) AllReadyH.nil)
                      rw [if_pos (by rfl)]
                      go_simp
                      refine hK.out _ _ (KTZ.out _ _ _ _ _ (KTS.out _ _ _ _ _ HS24.out)) (fun hHeld => ?_)
                      clear hK KQ
                      try simp only [List.getElem_toArray, List.getElem_cons_succ, List.getElem_cons_zero, Act.put, List.setIfInBounds_toArray, List.set_cons_zero, List.set_cons_succ]
                      refine wpAnyH_done (by kernel_rfl) ?_ _
                      refine NoPanic.normal ?_
                      go_wp2
                      go_meet
                      refine ⟨tA, tB, tC, tD, vA, vB, vC, vD, by first | rfl | (simp; done), hwt, hwv, ?_, ?_, ?_, ?_⟩
                      · (repeat' (first | (with_reducible exact Hs24.out) | (with_reducible exact heap_alloc_new _ _) | (with_reducible exact blk_new (by first | (simp; done) | omega)) | (with_reducible refine blk_drew ?_) | (with_reducible apply put4_0) | (with_reducible apply put4_1) | (with_reducible apply put4_2) | (with_reducible apply put4_3) | (with_reducible refine blk_else (by omega) ?_) | (with_reducible refine blk_old ?_)))
                      · (repeat' (first | (with_reducible exact Hz24.out) | (with_reducible exact heap_alloc_new _ _) | (with_reducible exact blk_new (by first | (simp; done) | omega)) | (with_reducible refine blk_drew ?_) | (with_reducible apply put4_0) | (with_reducible apply put4_1) | (with_reducible apply put4_2) | (with_reducible apply put4_3) | (with_reducible refine blk_else (by omega) ?_) | (with_reducible refine blk_old ?_)))
                      · (repeat' (first | (with_reducible exact Hm24.out) | (with_reducible exact heap_alloc_new _ _) | (with_reducible exact blk_new (by first | (simp; done) | omega)) | (with_reducible refine blk_drew ?_) | (with_reducible apply put4_0) | (with_reducible apply put4_1) | (with_reducible apply put4_2) | (with_reducible apply put4_3) | (with_reducible refine blk_else (by omega) ?_) | (with_reducible refine blk_old ?_)))
                      · (repeat' (first | (with_reducible exact HB24.out) | (with_reducible exact Below.refl _ _) | (with_reducible refine below_drewN _ ?_) | (with_reducible refine Below.drew ?_) | (with_reducible refine Below.setCell ?_ (by first | (simp; done) | omega) _) | (with_reducible refine Below.alloc ?_ (by have := HB24.out.size; simp; omega) _)))
                obtain ⟨tA, tB, tC, tD, vA, vB, vC, vD, rfl, hwt, hwv, xs_, xz_, xm_, xb_⟩ := hcut
                generalize wc = W3 at *
                clear Hs9 Hz9 Hm9 HB9c KTS KTZ OFG OFH0 s0_ s1_ s2_ s3_ sf0_ sf1_ sf2_ sf3_ sn_ sm_ sl_ z0_ z1_ z2_ z3_ zf0_ zf1_ zf2_ zf3_ zn_ zm_ zl_ m0_ m1_ m2_ m3_ mf0_ mf1_ mf2_ mf3_ mn_ mm_ ml_ kg_ kh_ hhb'
                have Hs30 := Lib.hid xs_; have Hz30 := Lib.hid xz_; have Hm30 := Lib.hid xm_; have HB30 := Lib.hid xb_
                have kd_ := (xb_.cell (p := ⟨db, K, none⟩) hdb).trans HDC.out
                clear xs_ xz_ xm_ xb_
                by_cases ht0 : t = 0
                · subst ht0
                  have hKi : K = i := by have := HK.out; omega
                  have gq : decide ((i : Int) < (K : Int)) = false := decide_eq_false (by omega)
                  obtain ⟨pt1, pt2⟩ := HPT.out
                  rw [show seg d (i + 1) 0 = 0 from rfl] at pt1 pt2
                  rw [show seg d (i + 1) (0 - 1) = 0 from rfl] at hwm hmb
                  generalize hM : n + r * 0 = M at *
                  have hMn : n + r * seg d (i + 1) (0 + 1 - 1) = M := hM
                  have HM := Lib.hid hMn
                  clear hM hMn kd_
                  obtain ⟨s0_, s1_, s2_, s3_, sf0_, sf1_, sf2_, sf3_⟩ := at4 Hs30.out
                  have sn_ := ne_blk Hs30.out
                  have sm_ := Ne.symm (a := Bs) sn_
                  have sl_ := lt_blk Hs30.out
                  obtain ⟨z0_, z1_, z2_, z3_, zf0_, zf1_, zf2_, zf3_⟩ := at4 Hz30.out
                  have zn_ := ne_blk Hz30.out
                  have zm_ := Ne.symm (a := Bz) zn_
                  have zl_ := lt_blk Hz30.out
                  obtain ⟨m0_, m1_, m2_, m3_, mf0_, mf1_, mf2_, mf3_⟩ := at4 Hm30.out
                  have mn_ := ne_blk Hm30.out
                  have mm_ := Ne.symm (a := Bm) mn_
                  have ml_ := lt_blk Hm30.out
                  have LS1 := Lib.hid (fun W => less_any mA mB mC mD tA tB tC tD M (SG + gk) hwm hwt W)
                  rw [show decide (M < SG + gk) = false from decide_eq_false (by omega)] at LS1
                  have LS2 := Lib.hid (fun W => less_any mA mB mC mD vA vB vC vD M (SH + hk_) hwm hwv W)
                  rw [show decide (M < SH + hk_) = false from decide_eq_false (by omega)] at LS2
                  clear pt1 pt2
                  go_wp2_with fail
                  refine cl_gen ?_
                  intro v30 hv30
                  have Xs : v30.heap[Bs]? = some (.cells #[.int .u64 tA, .int .u64 tB, .int .u64 tC, .int .u64 tD] 93 (0, 0)) := by
                    rw [hv30]
                    (repeat' (first | (with_reducible exact Hs30.out) | (with_reducible exact heap_alloc_new _ _) | (with_reducible exact blk_new (by first | (simp; done) | omega)) | (with_reducible refine blk_drew ?_) | (with_reducible apply put4_0) | (with_reducible apply put4_1) | (with_reducible apply put4_2) | (with_reducible apply put4_3) | (with_reducible refine blk_else (by omega) ?_) | (with_reducible refine blk_old ?_)))
                  have Xz : v30.heap[Bz]? = some (.cells #[.int .u64 vA, .int .u64 vB, .int .u64 vC, .int .u64 vD] 93 (0, 0)) := by
                    rw [hv30]
                    (repeat' (first | (with_reducible exact Hz30.out) | (with_reducible exact heap_alloc_new _ _) | (with_reducible exact blk_new (by first | (simp; done) | omega)) | (with_reducible refine blk_drew ?_) | (with_reducible apply put4_0) | (with_reducible apply put4_1) | (with_reducible apply put4_2) | (with_reducible apply put4_3) | (with_reducible refine blk_else (by omega) ?_) | (with_reducible refine blk_old ?_)))
                  have Xm : v30.heap[Bm]? = some (.cells #[.int .u64 mA, .int .u64 mB, .int .u64 mC, .int .u64 mD] 93 (0, 0)) := by
                    rw [hv30]
                    (repeat' (first | (with_reducible exact Hm30.out) | (with_reducible exact heap_alloc_new _ _) | (with_reducible exact blk_new (by first | (simp; done) | omega)) | (with_reducible refine blk_drew ?_) | (with_reducible apply put4_0) | (with_reducible apply put4_1) | (with_reducible apply put4_2) | (with_reducible apply put4_3) | (with_reducible refine blk_else (by omega) ?_) | (with_reducible refine blk_old ?_)))
                  have XB : Below W0.heap.size W0 v30 := by
                    rw [hv30]
                    (repeat' (first | (with_reducible exact HB30.out) | (with_reducible exact Below.refl _ _) | (with_reducible refine below_drewN _ ?_) | (with_reducible refine Below.drew ?_) | (with_reducible refine Below.setCell ?_ (by first | (simp; done) | omega) _) | (with_reducible refine Below.alloc ?_ (by have := HB30.out.size; simp; omega) _)))
                  clear s0_ s1_ s2_ s3_ sf0_ sf1_ sf2_ sf3_ sn_ sm_ sl_ z0_ z1_ z2_ z3_ zf0_ zf1_ zf2_ zf3_ zn_ zm_ zl_ m0_ m1_ m2_ m3_ mf0_ mf1_ mf2_ mf3_ mn_ mm_ ml_
                  clear hv30 Hs30 Hz30 Hm30 HB30
                  refine (LS1.out _).mono ?_
                  rintro e w31 ⟨rfl, bb⟩
                  have Hs31 := Lib.hid (blk_call bb Xs)
                  have Hz31 := Lib.hid (blk_call bb Xz)
                  have Hm31 := Lib.hid (blk_call bb Xm)
                  have HB31 := Lib.hid (bel_onto XB bb XB.size)
                  clear Xs Xz Xm XB bb
                  obtain ⟨s0_, s1_, s2_, s3_, sf0_, sf1_, sf2_, sf3_⟩ := at4 Hs31.out
                  have sn_ := ne_blk Hs31.out
                  have sm_ := Ne.symm (a := Bs) sn_
                  have sl_ := lt_blk Hs31.out
                  obtain ⟨z0_, z1_, z2_, z3_, zf0_, zf1_, zf2_, zf3_⟩ := at4 Hz31.out
                  have zn_ := ne_blk Hz31.out
                  have zm_ := Ne.symm (a := Bz) zn_
                  have zl_ := lt_blk Hz31.out
                  obtain ⟨m0_, m1_, m2_, m3_, mf0_, mf1_, mf2_, mf3_⟩ := at4 Hm31.out
                  have mn_ := ne_blk Hm31.out
                  have mm_ := Ne.symm (a := Bm) mn_
                  have ml_ := lt_blk Hm31.out
                  go_wp2_with fail
                  refine cl_gen ?_
                  intro v31 hv31
                  have Xs : v31.heap[Bs]? = some (.cells #[.int .u64 tA, .int .u64 tB, .int .u64 tC, .int .u64 tD] 93 (0, 0)) := by
                    rw [hv31]
                    (repeat' (first | (with_reducible exact Hs31.out) | (with_reducible exact heap_alloc_new _ _) | (with_reducible exact blk_new (by first | (simp; done) | omega)) | (with_reducible refine blk_drew ?_) | (with_reducible apply put4_0) | (with_reducible apply put4_1) | (with_reducible apply put4_2) | (with_reducible apply put4_3) | (with_reducible refine blk_else (by omega) ?_) | (with_reducible refine blk_old ?_)))
                  have Xz : v31.heap[Bz]? = some (.cells #[.int .u64 vA, .int .u64 vB, .int .u64 vC, .int .u64 vD] 93 (0, 0)) := by
                    rw [hv31]
                    (repeat' (first | (with_reducible exact Hz31.out) | (with_reducible exact heap_alloc_new _ _) | (with_reducible exact blk_new (by first | (simp; done) | omega)) | (with_reducible refine blk_drew ?_) | (with_reducible apply put4_0) | (with_reducible apply put4_1) | (with_reducible apply put4_2) | (with_reducible apply put4_3) | (with_reducible refine blk_else (by omega) ?_) | (with_reducible refine blk_old ?_)))
                  have Xm : v31.heap[Bm]? = some (.cells #[.int .u64 mA, .int .u64 mB, .int .u64 mC, .int .u64 mD] 93 (0, 0)) := by
                    rw [hv31]
                    (repeat' (first | (with_reducible exact Hm31.out) | (with_reducible exact heap_alloc_new _ _) | (with_reducible exact blk_new (by first | (simp; done) | omega)) | (with_reducible refine blk_drew ?_) | (with_reducible apply put4_0) | (with_reducible apply put4_1) | (with_reducible apply put4_2) | (with_reducible apply put4_3) | (with_reducible refine blk_else (by omega) ?_) | (with_reducible refine blk_old ?_)))
                  have XB : Below W0.heap.size W0 v31 := by
                    rw [hv31]
                    (repeat' (first | (with_reducible exact HB31.out) | (with_reducible exact Below.refl _ _) | (with_reducible refine below_drewN _ ?_) | (with_reducible refine Below.drew ?_) | (with_reducible refine Below.setCell ?_ (by first | (simp; done) | omega) _) | (with_reducible refine Below.alloc ?_ (by have := HB31.out.size; simp; omega) _)))
                  clear s0_ s1_ s2_ s3_ sf0_ sf1_ sf2_ sf3_ sn_ sm_ sl_ z0_ z1_ z2_ z3_ zf0_ zf1_ zf2_ zf3_ zn_ zm_ zl_ m0_ m1_ m2_ m3_ mf0_ mf1_ mf2_ mf3_ mn_ mm_ ml_
                  clear hv31 Hs31 Hz31 Hm31 HB31
                  refine (LS2.out _).mono ?_
                  rintro e w32 ⟨rfl, bb⟩
                  have Hs32 := Lib.hid (blk_call bb Xs)
                  have Hz32 := Lib.hid (blk_call bb Xz)
                  have Hm32 := Lib.hid (blk_call bb Xm)
                  have HB32 := Lib.hid (bel_onto XB bb XB.size)
                  clear Xs Xz Xm XB bb
                  obtain ⟨s0_, s1_, s2_, s3_, sf0_, sf1_, sf2_, sf3_⟩ := at4 Hs32.out
                  have sn_ := ne_blk Hs32.out
                  have sm_ := Ne.symm (a := Bs) sn_
                  have sl_ := lt_blk Hs32.out
                  obtain ⟨z0_, z1_, z2_, z3_, zf0_, zf1_, zf2_, zf3_⟩ := at4 Hz32.out
                  have zn_ := ne_blk Hz32.out
                  have zm_ := Ne.symm (a := Bz) zn_
                  have zl_ := lt_blk Hz32.out
                  obtain ⟨m0_, m1_, m2_, m3_, mf0_, mf1_, mf2_, mf3_⟩ := at4 Hm32.out
                  have mn_ := ne_blk Hm32.out
                  have mm_ := Ne.symm (a := Bm) mn_
                  have ml_ := lt_blk Hm32.out
                  go_wp2
                  go_roundw
                  case rel =>
                    refine ⟨0 + 1, K + 1, tA, tB, tC, tD, vA, vB, vC, vD, mA, mB, mC, mD, by go_num, by have := HK.out; omega, by omega, by rw [E1.out]; exact hwt, by rw [F1.out]; exact hwv, by rw [HM.out]; exact hwm, by rw [HM.out]; omega, ?_, ?_, ?_, ?_⟩
                    · (repeat' (first | (with_reducible exact Hs32.out) | (with_reducible exact heap_alloc_new _ _) | (with_reducible exact blk_new (by first | (simp; done) | omega)) | (with_reducible refine blk_drew ?_) | (with_reducible apply put4_0) | (with_reducible apply put4_1) | (with_reducible apply put4_2) | (with_reducible apply put4_3) | (with_reducible refine blk_else (by omega) ?_) | (with_reducible refine blk_old ?_)))
                    · (repeat' (first | (with_reducible exact Hz32.out) | (with_reducible exact heap_alloc_new _ _) | (with_reducible exact blk_new (by first | (simp; done) | omega)) | (with_reducible refine blk_drew ?_) | (with_reducible apply put4_0) | (with_reducible apply put4_1) | (with_reducible apply put4_2) | (with_reducible apply put4_3) | (with_reducible refine blk_else (by omega) ?_) | (with_reducible refine blk_old ?_)))
                    · (repeat' (first | (with_reducible exact Hm32.out) | (with_reducible exact heap_alloc_new _ _) | (with_reducible exact blk_new (by first | (simp; done) | omega)) | (with_reducible refine blk_drew ?_) | (with_reducible apply put4_0) | (with_reducible apply put4_1) | (with_reducible apply put4_2) | (with_reducible apply put4_3) | (with_reducible refine blk_else (by omega) ?_) | (with_reducible refine blk_old ?_)))
                    · (repeat' (first | (with_reducible exact HB32.out) | (with_reducible exact Below.refl _ _) | (with_reducible refine below_drewN _ ?_) | (with_reducible refine Below.drew ?_) | (with_reducible refine Below.setCell ?_ (by first | (simp; done) | omega) _) | (with_reducible refine Below.alloc ?_ (by have := HB32.out.size; simp; omega) _)))
                  case measure => simp [intOf] <;> omega
                · obtain ⟨u, rfl⟩ : ∃ u, t = u + 1 := ⟨t - 1, by omega⟩
                  have hKi : K = i + (u + 1) := HK.out
                  have gq : decide ((i : Int) < (K : Int)) = true := decide_eq_true (by omega)
                  have gq2 : (i : Int) < (K : Int) := by omega
                  have gq3 : i < K := by omega
                  have E2 := Lib.hid (show n + r * seg d (i + 1) (u + 1 + 1 - 1) = n + r * seg d (i + 1) (u + 1 - 1) + r * dk by
                    rw [show u + 1 + 1 - 1 = u + 1 by omega, show u + 1 - 1 = u by omega, seg_succ, show i + 1 + u = K by omega, HDK.out, Int.mul_add]
                    omega)
                  obtain ⟨pt1, pt2⟩ := HPT.out
                  have e9 := E2.out
                  rw [show u + 1 + 1 - 1 = u + 1 by omega] at e9
                  rw [e9] at pt1 pt2
                  clear e9 hKi
                  generalize n + r * seg d (i + 1) (u + 1 - 1) = M at *
                  obtain ⟨X, hX⟩ : ∃ x, r * dk = x := ⟨_, rfl⟩
                  have X0 : 0 ≤ X := by rw [← hX]; exact Int.mul_nonneg (by omega) p8_
                  have X1 : X ≤ 4294967296 * 281474976710655 := by rw [← hX]; exact Int.mul_le_mul r9.2 p9_ p8_ (by omega)
                  rw [hX] at TM pt1 pt2 E2
                  clear hX
                  obtain ⟨s0_, s1_, s2_, s3_, sf0_, sf1_, sf2_, sf3_⟩ := at4 Hs30.out
                  have sn_ := ne_blk Hs30.out
                  have sm_ := Ne.symm (a := Bs) sn_
                  have sl_ := lt_blk Hs30.out
                  obtain ⟨z0_, z1_, z2_, z3_, zf0_, zf1_, zf2_, zf3_⟩ := at4 Hz30.out
                  have zn_ := ne_blk Hz30.out
                  have zm_ := Ne.symm (a := Bz) zn_
                  have zl_ := lt_blk Hz30.out
                  obtain ⟨m0_, m1_, m2_, m3_, mf0_, mf1_, mf2_, mf3_⟩ := at4 Hm30.out
                  have mn_ := ne_blk Hm30.out
                  have mm_ := Ne.symm (a := Bm) mn_
                  have ml_ := lt_blk Hm30.out
                  go_upto_region 32 with (fail)
                  go_region_with (first
                    | (go_at_call 39; with_reducible refine (TM.out _).mono ?_; rintro e u1 ⟨xA, xB, xC, xD, rfl, hwx, hu1⟩; have Ys : u1.heap[Bs]? = some (.cells #[.int .u64 tA, .int .u64 tB, .int .u64 tC, .int .u64 tD] 93 (0, 0)) := blk_call hu1 (by (repeat' (first | (with_reducible exact Hs30.out) | (with_reducible exact heap_alloc_new _ _) | (with_reducible exact blk_new (by first | (simp; done) | omega)) | (with_reducible refine blk_drew ?_) | (with_reducible apply put4_0) | (with_reducible apply put4_1) | (with_reducible apply put4_2) | (with_reducible apply put4_3) | (with_reducible refine blk_else (by omega) ?_) | (with_reducible refine blk_old ?_)))); have Yz : u1.heap[Bz]? = some (.cells #[.int .u64 vA, .int .u64 vB, .int .u64 vC, .int .u64 vD] 93 (0, 0)) := blk_call hu1 (by (repeat' (first | (with_reducible exact Hz30.out) | (with_reducible exact heap_alloc_new _ _) | (with_reducible exact blk_new (by first | (simp; done) | omega)) | (with_reducible refine blk_drew ?_) | (with_reducible apply put4_0) | (with_reducible apply put4_1) | (with_reducible apply put4_2) | (with_reducible apply put4_3) | (with_reducible refine blk_else (by omega) ?_) | (with_reducible refine blk_old ?_)))); have Ym : u1.heap[Bm]? = some (.cells #[.int .u64 mA, .int .u64 mB, .int .u64 mC, .int .u64 mD] 93 (0, 0)) := blk_call hu1 (by (repeat' (first | (with_reducible exact Hm30.out) | (with_reducible exact heap_alloc_new _ _) | (with_reducible exact blk_new (by first | (simp; done) | omega)) | (with_reducible refine blk_drew ?_) | (with_reducible apply put4_0) | (with_reducible apply put4_1) | (with_reducible apply put4_2) | (with_reducible apply put4_3) | (with_reducible refine blk_else (by omega) ?_) | (with_reducible refine blk_old ?_)))); have YB : Below W0.heap.size W0 u1 := bel_call hu1 (by (repeat' (first | (with_reducible exact HB30.out) | (with_reducible refine below_drewN _ ?_) | (with_reducible refine Below.drew ?_)))) (Nat.le_refl _); obtain ⟨m0c, m1c, m2c, m3c, mf0c, mf1c, mf2c, mf3c⟩ := at4 Ym; have mlc := lt_blk Ym; have Hs31 := Lib.hid Ys; have Hz31 := Lib.hid Yz; have Hm31 := Lib.hid Ym; have HB31 := Lib.hid YB; clear hu1 YB Ys Yz Ym; have PM := Lib.hid (fun W => plus_any mA mB mC mD xA xB xC xD M X hwm hwx (by omega) W))
                    | (have _t := PM; go_at_call 38; with_reducible refine (PM.out _).mono ?_; rintro e u2 ⟨yA, yB, yC, yD, rfl, hwy, hu2⟩; have Ys : u2.heap[Bs]? = some (.cells #[.int .u64 tA, .int .u64 tB, .int .u64 tC, .int .u64 tD] 93 (0, 0)) := blk_call hu2 (by (repeat' (first | (with_reducible exact Hs31.out) | (with_reducible exact heap_alloc_new _ _) | (with_reducible exact blk_new (by first | (simp; done) | omega)) | (with_reducible refine blk_drew ?_) | (with_reducible apply put4_0) | (with_reducible apply put4_1) | (with_reducible apply put4_2) | (with_reducible apply put4_3) | (with_reducible refine blk_else (by omega) ?_) | (with_reducible refine blk_old ?_)))); have Yz : u2.heap[Bz]? = some (.cells #[.int .u64 vA, .int .u64 vB, .int .u64 vC, .int .u64 vD] 93 (0, 0)) := blk_call hu2 (by (repeat' (first | (with_reducible exact Hz31.out) | (with_reducible exact heap_alloc_new _ _) | (with_reducible exact blk_new (by first | (simp; done) | omega)) | (with_reducible refine blk_drew ?_) | (with_reducible apply put4_0) | (with_reducible apply put4_1) | (with_reducible apply put4_2) | (with_reducible apply put4_3) | (with_reducible refine blk_else (by omega) ?_) | (with_reducible refine blk_old ?_)))); have Ym : u2.heap[Bm]? = some (.cells #[.int .u64 mA, .int .u64 mB, .int .u64 mC, .int .u64 mD] 93 (0, 0)) := blk_call hu2 (by (repeat' (first | (with_reducible exact Hm31.out) | (with_reducible exact heap_alloc_new _ _) | (with_reducible exact blk_new (by first | (simp; done) | omega)) | (with_reducible refine blk_drew ?_) | (with_reducible apply put4_0) | (with_reducible apply put4_1) | (with_reducible apply put4_2) | (with_reducible apply put4_3) | (with_reducible refine blk_else (by omega) ?_) | (with_reducible refine blk_old ?_)))); have YB : Below W0.heap.size W0 u2 := bel_call hu2 (by (repeat' (first | (with_reducible exact HB31.out) | (with_reducible refine below_drewN _ ?_) | (with_reducible refine Below.drew ?_)))) (Nat.le_refl _); clear m0c m1c m2c m3c mf0c mf1c mf2c mf3c mlc; obtain ⟨m0c, m1c, m2c, m3c, mf0c, mf1c, mf2c, mf3c⟩ := at4 Ym; have mlc := lt_blk Ym; have Hs40 := Lib.hid Ys; have Hz40 := Lib.hid Yz; have Hm40 := Lib.hid Ym; have HB40 := Lib.hid YB; clear hu2 YB Ys Yz Ym; clear PM)
                    | fail)
                  all_goals
                    clear Hs30 Hz30 Hm30 HB30 s0_ s1_ s2_ s3_ sf0_ sf1_ sf2_ sf3_ sn_ sm_ sl_ z0_ z1_ z2_ z3_ zf0_ zf1_ zf2_ zf3_ zn_ zm_ zl_ m0_ m1_ m2_ m3_ mf0_ mf1_ mf2_ mf3_ mn_ mm_ ml_
                    go_upto_region 33 with (fail)
                    refine wp_genc ?_
                    intro v40 hv40
                    have Xs : v40.heap[Bs]? = some (.cells #[.int .u64 tA, .int .u64 tB, .int .u64 tC, .int .u64 tD] 93 (0, 0)) := by
                      rw [hv40]
                      (repeat' (first | (with_reducible exact Hs40.out) | (with_reducible exact heap_alloc_new _ _) | (with_reducible exact blk_new (by first | (simp; done) | omega)) | (with_reducible refine blk_drew ?_) | (with_reducible apply put4_0) | (with_reducible apply put4_1) | (with_reducible apply put4_2) | (with_reducible apply put4_3) | (with_reducible refine blk_else (by omega) ?_) | (with_reducible refine blk_old ?_)))
                    have Xz : v40.heap[Bz]? = some (.cells #[.int .u64 vA, .int .u64 vB, .int .u64 vC, .int .u64 vD] 93 (0, 0)) := by
                      rw [hv40]
                      (repeat' (first | (with_reducible exact Hz40.out) | (with_reducible exact heap_alloc_new _ _) | (with_reducible exact blk_new (by first | (simp; done) | omega)) | (with_reducible refine blk_drew ?_) | (with_reducible apply put4_0) | (with_reducible apply put4_1) | (with_reducible apply put4_2) | (with_reducible apply put4_3) | (with_reducible refine blk_else (by omega) ?_) | (with_reducible refine blk_old ?_)))
                    have Xm : v40.heap[Bm]? = some (.cells #[.int .u64 yA, .int .u64 yB, .int .u64 yC, .int .u64 yD] 93 (0, 0)) := by
                      rw [hv40]
                      (repeat' (first | (with_reducible exact Hm40.out) | (with_reducible exact heap_alloc_new _ _) | (with_reducible exact blk_new (by first | (simp; done) | omega)) | (with_reducible refine blk_drew ?_) | (with_reducible apply put4_0) | (with_reducible apply put4_1) | (with_reducible apply put4_2) | (with_reducible apply put4_3) | (with_reducible refine blk_else (by omega) ?_) | (with_reducible refine blk_old ?_)))
                    have XB : Below W0.heap.size W0 v40 := by
                      rw [hv40]
                      (repeat' (first | (with_reducible exact HB40.out) | (with_reducible exact Below.refl _ _) | (with_reducible refine below_drewN _ ?_) | (with_reducible refine Below.drew ?_) | (with_reducible refine Below.setCell ?_ (by first | (simp; done) | omega) _) | (with_reducible refine Below.alloc ?_ (by have := HB40.out.size; simp; omega) _)))
                    clear hv40 Hs40 Hz40 Hm40 HB40
                    have Hs41 := Lib.hid Xs
                    have Hz41 := Lib.hid Xz
                    have Hm41 := Lib.hid Xm
                    have HB41 := Lib.hid XB
                    clear Xs Xz Xm XB
                    obtain ⟨s0_, s1_, s2_, s3_, sf0_, sf1_, sf2_, sf3_⟩ := at4 Hs41.out
                    have sn_ := ne_blk Hs41.out
                    have sm_ := Ne.symm (a := Bs) sn_
                    have sl_ := lt_blk Hs41.out
                    obtain ⟨z0_, z1_, z2_, z3_, zf0_, zf1_, zf2_, zf3_⟩ := at4 Hz41.out
                    have zn_ := ne_blk Hz41.out
                    have zm_ := Ne.symm (a := Bz) zn_
                    have zl_ := lt_blk Hz41.out
                    obtain ⟨m0_, m1_, m2_, m3_, mf0_, mf1_, mf2_, mf3_⟩ := at4 Hm41.out
                    have mn_ := ne_blk Hm41.out
                    have mm_ := Ne.symm (a := Bm) mn_
                    have ml_ := lt_blk Hm41.out
                    clear m0c m1c m2c m3c mf0c mf1c mf2c mf3c mlc
                    have LS1 := Lib.hid (fun W => less_any yA yB yC yD tA tB tC tD (M + X) (SG + gk) hwy hwt W)
                    rw [show decide (M + X < SG + gk) = false from decide_eq_false (by omega)] at LS1
                    have LS2 := Lib.hid (fun W => less_any yA yB yC yD vA vB vC vD (M + X) (SH + hk_) hwy hwv W)
                    rw [show decide (M + X < SH + hk_) = false from decide_eq_false (by omega)] at LS2
                    go_wp2_with fail
                    refine cl_gen ?_
                    intro v41 hv41
                    have Xs : v41.heap[Bs]? = some (.cells #[.int .u64 tA, .int .u64 tB, .int .u64 tC, .int .u64 tD] 93 (0, 0)) := by
                      rw [hv41]
                      (repeat' (first | (with_reducible exact Hs41.out) | (with_reducible exact heap_alloc_new _ _) | (with_reducible exact blk_new (by first | (simp; done) | omega)) | (with_reducible refine blk_drew ?_) | (with_reducible apply put4_0) | (with_reducible apply put4_1) | (with_reducible apply put4_2) | (with_reducible apply put4_3) | (with_reducible refine blk_else (by omega) ?_) | (with_reducible refine blk_old ?_)))
                    have Xz : v41.heap[Bz]? = some (.cells #[.int .u64 vA, .int .u64 vB, .int .u64 vC, .int .u64 vD] 93 (0, 0)) := by
                      rw [hv41]
                      (repeat' (first | (with_reducible exact Hz41.out) | (with_reducible exact heap_alloc_new _ _) | (with_reducible exact blk_new (by first | (simp; done) | omega)) | (with_reducible refine blk_drew ?_) | (with_reducible apply put4_0) | (with_reducible apply put4_1) | (with_reducible apply put4_2) | (with_reducible apply put4_3) | (with_reducible refine blk_else (by omega) ?_) | (with_reducible refine blk_old ?_)))
                    have Xm : v41.heap[Bm]? = some (.cells #[.int .u64 yA, .int .u64 yB, .int .u64 yC, .int .u64 yD] 93 (0, 0)) := by
                      rw [hv41]
                      (repeat' (first | (with_reducible exact Hm41.out) | (with_reducible exact heap_alloc_new _ _) | (with_reducible exact blk_new (by first | (simp; done) | omega)) | (with_reducible refine blk_drew ?_) | (with_reducible apply put4_0) | (with_reducible apply put4_1) | (with_reducible apply put4_2) | (with_reducible apply put4_3) | (with_reducible refine blk_else (by omega) ?_) | (with_reducible refine blk_old ?_)))
                    have XB : Below W0.heap.size W0 v41 := by
                      rw [hv41]
                      (repeat' (first | (with_reducible exact HB41.out) | (with_reducible exact Below.refl _ _) | (with_reducible refine below_drewN _ ?_) | (with_reducible refine Below.drew ?_) | (with_reducible refine Below.setCell ?_ (by first | (simp; done) | omega) _) | (with_reducible refine Below.alloc ?_ (by have := HB41.out.size; simp; omega) _)))
                    clear s0_ s1_ s2_ s3_ sf0_ sf1_ sf2_ sf3_ sn_ sm_ sl_ z0_ z1_ z2_ z3_ zf0_ zf1_ zf2_ zf3_ zn_ zm_ zl_ m0_ m1_ m2_ m3_ mf0_ mf1_ mf2_ mf3_ mn_ mm_ ml_
                    clear hv41 Hs41 Hz41 Hm41 HB41
                    refine (LS1.out _).mono ?_
                    rintro e w42 ⟨rfl, bb⟩
                    have Hs42 := Lib.hid (blk_call bb Xs)
                    have Hz42 := Lib.hid (blk_call bb Xz)
                    have Hm42 := Lib.hid (blk_call bb Xm)
                    have HB42 := Lib.hid (bel_onto XB bb XB.size)
                    clear Xs Xz Xm XB bb
                    obtain ⟨s0_, s1_, s2_, s3_, sf0_, sf1_, sf2_, sf3_⟩ := at4 Hs42.out
                    have sn_ := ne_blk Hs42.out
                    have sm_ := Ne.symm (a := Bs) sn_
                    have sl_ := lt_blk Hs42.out
                    obtain ⟨z0_, z1_, z2_, z3_, zf0_, zf1_, zf2_, zf3_⟩ := at4 Hz42.out
                    have zn_ := ne_blk Hz42.out
                    have zm_ := Ne.symm (a := Bz) zn_
                    have zl_ := lt_blk Hz42.out
                    obtain ⟨m0_, m1_, m2_, m3_, mf0_, mf1_, mf2_, mf3_⟩ := at4 Hm42.out
                    have mn_ := ne_blk Hm42.out
                    have mm_ := Ne.symm (a := Bm) mn_
                    have ml_ := lt_blk Hm42.out
                    go_wp2_with fail
                    refine cl_gen ?_
                    intro v42 hv42
                    have Xs : v42.heap[Bs]? = some (.cells #[.int .u64 tA, .int .u64 tB, .int .u64 tC, .int .u64 tD] 93 (0, 0)) := by
                      rw [hv42]
                      (repeat' (first | (with_reducible exact Hs42.out) | (with_reducible exact heap_alloc_new _ _) | (with_reducible exact blk_new (by first | (simp; done) | omega)) | (with_reducible refine blk_drew ?_) | (with_reducible apply put4_0) | (with_reducible apply put4_1) | (with_reducible apply put4_2) | (with_reducible apply put4_3) | (with_reducible refine blk_else (by omega) ?_) | (with_reducible refine blk_old ?_)))
                    have Xz : v42.heap[Bz]? = some (.cells #[.int .u64 vA, .int .u64 vB, .int .u64 vC, .int .u64 vD] 93 (0, 0)) := by
                      rw [hv42]
                      (repeat' (first | (with_reducible exact Hz42.out) | (with_reducible exact heap_alloc_new _ _) | (with_reducible exact blk_new (by first | (simp; done) | omega)) | (with_reducible refine blk_drew ?_) | (with_reducible apply put4_0) | (with_reducible apply put4_1) | (with_reducible apply put4_2) | (with_reducible apply put4_3) | (with_reducible refine blk_else (by omega) ?_) | (with_reducible refine blk_old ?_)))
                    have Xm : v42.heap[Bm]? = some (.cells #[.int .u64 yA, .int .u64 yB, .int .u64 yC, .int .u64 yD] 93 (0, 0)) := by
                      rw [hv42]
                      (repeat' (first | (with_reducible exact Hm42.out) | (with_reducible exact heap_alloc_new _ _) | (with_reducible exact blk_new (by first | (simp; done) | omega)) | (with_reducible refine blk_drew ?_) | (with_reducible apply put4_0) | (with_reducible apply put4_1) | (with_reducible apply put4_2) | (with_reducible apply put4_3) | (with_reducible refine blk_else (by omega) ?_) | (with_reducible refine blk_old ?_)))
                    have XB : Below W0.heap.size W0 v42 := by
                      rw [hv42]
                      (repeat' (first | (with_reducible exact HB42.out) | (with_reducible exact Below.refl _ _) | (with_reducible refine below_drewN _ ?_) | (with_reducible refine Below.drew ?_) | (with_reducible refine Below.setCell ?_ (by first | (simp; done) | omega) _) | (with_reducible refine Below.alloc ?_ (by have := HB42.out.size; simp; omega) _)))
                    clear s0_ s1_ s2_ s3_ sf0_ sf1_ sf2_ sf3_ sn_ sm_ sl_ z0_ z1_ z2_ z3_ zf0_ zf1_ zf2_ zf3_ zn_ zm_ zl_ m0_ m1_ m2_ m3_ mf0_ mf1_ mf2_ mf3_ mn_ mm_ ml_
                    clear hv42 Hs42 Hz42 Hm42 HB42
                    refine (LS2.out _).mono ?_
                    rintro e w43 ⟨rfl, bb⟩
                    have Hs43 := Lib.hid (blk_call bb Xs)
                    have Hz43 := Lib.hid (blk_call bb Xz)
                    have Hm43 := Lib.hid (blk_call bb Xm)
                    have HB43 := Lib.hid (bel_onto XB bb XB.size)
                    clear Xs Xz Xm XB bb
                    obtain ⟨s0_, s1_, s2_, s3_, sf0_, sf1_, sf2_, sf3_⟩ := at4 Hs43.out
                    have sn_ := ne_blk Hs43.out
                    have sm_ := Ne.symm (a := Bs) sn_
                    have sl_ := lt_blk Hs43.out
                    obtain ⟨z0_, z1_, z2_, z3_, zf0_, zf1_, zf2_, zf3_⟩ := at4 Hz43.out
                    have zn_ := ne_blk Hz43.out
                    have zm_ := Ne.symm (a := Bz) zn_
                    have zl_ := lt_blk Hz43.out
                    obtain ⟨m0_, m1_, m2_, m3_, mf0_, mf1_, mf2_, mf3_⟩ := at4 Hm43.out
                    have mn_ := ne_blk Hm43.out
                    have mm_ := Ne.symm (a := Bm) mn_
                    have ml_ := lt_blk Hm43.out
                    go_wp2
                    go_roundw
                    case rel =>
                      refine ⟨u + 1 + 1, K + 1, tA, tB, tC, tD, vA, vB, vC, vD, yA, yB, yC, yD, by go_num, by have := HK.out; omega, by omega, by rw [E1.out]; exact hwt, by rw [F1.out]; exact hwv, by rw [E2.out]; exact hwy, by rw [E2.out]; omega, ?_, ?_, ?_, ?_⟩
                      · (repeat' (first | (with_reducible exact Hs43.out) | (with_reducible exact heap_alloc_new _ _) | (with_reducible exact blk_new (by first | (simp; done) | omega)) | (with_reducible refine blk_drew ?_) | (with_reducible apply put4_0) | (with_reducible apply put4_1) | (with_reducible apply put4_2) | (with_reducible apply put4_3) | (with_reducible refine blk_else (by omega) ?_) | (with_reducible refine blk_old ?_)))
                      · (repeat' (first | (with_reducible exact Hz43.out) | (with_reducible exact heap_alloc_new _ _) | (with_reducible exact blk_new (by first | (simp; done) | omega)) | (with_reducible refine blk_drew ?_) | (with_reducible apply put4_0) | (with_reducible apply put4_1) | (with_reducible apply put4_2) | (with_reducible apply put4_3) | (with_reducible refine blk_else (by omega) ?_) | (with_reducible refine blk_old ?_)))
                      · (repeat' (first | (with_reducible exact Hm43.out) | (with_reducible exact heap_alloc_new _ _) | (with_reducible exact blk_new (by first | (simp; done) | omega)) | (with_reducible refine blk_drew ?_) | (with_reducible apply put4_0) | (with_reducible apply put4_1) | (with_reducible apply put4_2) | (with_reducible apply put4_3) | (with_reducible refine blk_else (by omega) ?_) | (with_reducible refine blk_old ?_)))
                      · (repeat' (first | (with_reducible exact HB43.out) | (with_reducible exact Below.refl _ _) | (with_reducible refine below_drewN _ ?_) | (with_reducible refine Below.drew ?_) | (with_reducible refine Below.setCell ?_ (by first | (simp; done) | omega) _) | (with_reducible refine Below.alloc ?_ (by have := HB43.out.size; simp; omega) _)))
                    case measure => simp [intOf] <;> omega
              · go_wp2
                go_roundw
                case rel => exact ⟨i + 1, by go_num, by omega, xb_⟩
                case measure => simp [intOf] <;> omega
          · obtain rfl : i = j := by omega
            have HB9 := Lib.hid (bel_onto HB9.out hb HB9.out.size)
            clear hb
            go_wp2_with fail
            refine cl_gen ?_
            intro v9 hv9
            have XB : Below w.heap.size w v9 := by
              rw [hv9]
              (repeat' (first | (with_reducible exact HB9.out) | (with_reducible exact Below.refl _ _) | (with_reducible refine below_drewN _ ?_) | (with_reducible refine Below.drew ?_) | (with_reducible refine Below.setCell ?_ (by first | (simp; done) | omega) _) | (with_reducible refine Below.alloc ?_ (by have := HB9.out.size; simp; omega) _)))
            clear hv9 HB9
            refine (LV.out _).mono ?_
            rintro e w10 ⟨rfl, bb⟩
            have HB10 := Lib.hid (bel_onto XB bb XB.size)
            clear XB bb
            go_wp2
            go_ret
            exact ⟨rfl, HB10.out⟩
  · obtain ⟨o0, o1, o2, o3, o4, ho⟩ : ∃ o0 o1 o2 o3 o4 : Int, (if moe r n f = 0 then Value.agg #[.int .u64 r, .int .u64 n, .int .u64 f, .int .u64 n, .int .u64 f] else Value.agg #[.int .u64 0, .int .u64 0, .int .u64 0, .int .u64 0, .int .u64 0]) = Value.agg #[.int .u64 o0, .int .u64 o1, .int .u64 o2, .int .u64 o3, .int .u64 o4] := by
      split
      · exact ⟨_, _, _, _, _, rfl⟩
      · exact ⟨_, _, _, _, _, rfl⟩
    obtain ⟨t0, t1, t2, t3, t4, t5, ht⟩ : ∃ t0 t1 t2 t3 t4 t5 : Int, (if mte r q n f = 0 then Value.agg #[.int .u64 r, .int .u64 q, .int .u64 n, .int .u64 f, .int .u64 n, .int .u64 f] else Value.agg #[.int .u64 0, .int .u64 0, .int .u64 0, .int .u64 0, .int .u64 0, .int .u64 0]) = Value.agg #[.int .u64 t0, .int .u64 t1, .int .u64 t2, .int .u64 t3, .int .u64 t4, .int .u64 t5] := by
      split
      · exact ⟨_, _, _, _, _, _, rfl⟩
      · exact ⟨_, _, _, _, _, _, rfl⟩
    rw [ho] at NW1
    rw [ht] at NW2
    generalize moe r n f = e1 at *
    generalize mte r q n f = e2 at *
    have hcase : (decide ((60 : Int) < N) = true) ∨ (decide ((60 : Int) < N) = false ∧ (e1 != 0) = true) ∨ (decide ((60 : Int) < N) = false ∧ (e1 != 0) = false ∧ (e2 != 0) = true) := by
      by_cases h1 : 60 < N
      · exact Or.inl (decide_eq_true (by omega))
      · by_cases h2 : e1 = 0
        · exact Or.inr (Or.inr ⟨decide_eq_false (by omega), by simp [h2], by simp; intro h3; exact hboth ⟨h2, h3, by omega⟩⟩)
        · exact Or.inr (Or.inl ⟨decide_eq_false (by omega), by simp [h2]⟩)
    clear ho ht hboth hr
    rcases hcase with gA | ⟨gA, gB⟩ | ⟨gA, gB, gC⟩
    · go_enter Try.func6, Try.ntmps6
      go_wp2
      refine wp_genc ?_
      intro v0 hv0
      have XB : Below w.heap.size w v0 := by
        rw [hv0]
        (repeat' (first | (with_reducible exact Below.refl _ _) | (with_reducible assumption) | (with_reducible refine below_drewN _ ?_) | (with_reducible refine Below.drew ?_) | (with_reducible refine Below.setCell ?_ (by simp) _) | (with_reducible refine Below.alloc ?_ (by simp; try omega) _)))
      have Xu : v0.heap[w.heap.size]? = some (.cells #[.int .u32 x, .int .u32 y] 87 (0, 0)) := by
        rw [hv0]
        (repeat' (first | (with_reducible exact heap_alloc_new _ _) | (with_reducible exact blk_new (by first | (simp; done) | omega)) | (with_reducible refine blk_drew ?_) | (with_reducible apply put2_0) | (with_reducible apply put2_1) | (with_reducible refine blk_else (by omega) ?_) | (with_reducible refine blk_old ?_)))
      have Xv : v0.heap[w.heap.size + 1]? = some (.cells #[.int .u64 n, .int .u64 f] 88 (0, 0)) := by
        rw [hv0]
        (repeat' (first | (with_reducible exact heap_alloc_new _ _) | (with_reducible exact blk_new (by first | (simp; done) | omega)) | (with_reducible refine blk_drew ?_) | (with_reducible apply put2_0) | (with_reducible apply put2_1) | (with_reducible refine blk_else (by omega) ?_) | (with_reducible refine blk_old ?_)))
      obtain ⟨Bv, hBv⟩ : ∃ x, x = w.heap.size + 1 := ⟨_, rfl⟩
      rw [← hBv] at Xv
      try rw [← hBv]
      have lev : w.heap.size ≤ Bv := by omega
      obtain ⟨Bu, hBu⟩ : ∃ x, x = w.heap.size := ⟨_, rfl⟩
      rw [← hBu] at Xu
      try rw [← hBu]
      have nuv : ¬ Bu = Bv := by omega
      have nvu : ¬ Bv = Bu := fun h => nuv h.symm
      have leu : w.heap.size ≤ Bu := by omega
      clear hBu hBv
      clear hv0
      have Hv1 := Lib.hid Xv
      have Hu1 := Lib.hid Xu
      have HB1 := Lib.hid XB
      clear Xv Xu XB
      obtain ⟨v0_, v1_, vf0_, vf1_⟩ := at2 Hv1.out
      have vn_ := ne_blk Hv1.out
      have vm_ := Ne.symm (a := Bv) vn_
      have vl_ := lt_blk Hv1.out
      obtain ⟨u0_, u1_, uf0_, uf1_⟩ := at2 Hu1.out
      have un_ := ne_blk Hu1.out
      have um_ := Ne.symm (a := Bu) un_
      have ul_ := lt_blk Hu1.out
      go_quiet (fail)
      go_wp2_with fail
      refine cl_gen ?_
      intro v1 hv1
      have XB : Below w.heap.size w v1 := by
        rw [hv1]
        (repeat' (first | (with_reducible exact HB1.out) | (with_reducible exact Below.refl _ _) | (with_reducible refine below_drewN _ ?_) | (with_reducible refine Below.drew ?_) | (with_reducible refine Below.setCell ?_ (by first | (simp; done) | omega) _) | (with_reducible refine Below.alloc ?_ (by have := HB1.out.size; simp; omega) _)))
      clear v0_ v1_ vf0_ vf1_ vn_ vm_ vl_ u0_ u1_ uf0_ uf1_ un_ um_ ul_
      clear hv1 Hu1 Hv1 HB1
      refine (NW1.out _).mono ?_
      rintro e w2 ⟨rfl, bb⟩
      have HB2 := Lib.hid (bel_onto XB bb XB.size)
      clear XB bb
      go_wp2_with fail
      refine cl_gen ?_
      intro v2 hv2
      have XB : Below w.heap.size w v2 := by
        rw [hv2]
        (repeat' (first | (with_reducible exact HB2.out) | (with_reducible exact Below.refl _ _) | (with_reducible refine below_drewN _ ?_) | (with_reducible refine Below.drew ?_) | (with_reducible refine Below.setCell ?_ (by first | (simp; done) | omega) _) | (with_reducible refine Below.alloc ?_ (by have := HB2.out.size; simp; omega) _)))
      have Xo : v2.heap[w2.heap.size]? = some (.cells #[.int .u64 o0, .int .u64 o1, .int .u64 o2, .int .u64 o3, .int .u64 o4] 64 (0, 0)) := by
        rw [hv2]
        (repeat' (first | (with_reducible exact heap_alloc_new _ _) | (with_reducible exact blk_new (by first | (simp; done) | omega)) | (with_reducible refine blk_drew ?_) | (with_reducible apply put5_0) | (with_reducible apply put5_1) | (with_reducible apply put5_2) | (with_reducible apply put5_3) | (with_reducible apply put5_4) | (with_reducible refine blk_else (by omega) ?_) | (with_reducible refine blk_old ?_)))
      obtain ⟨Bo, hBo⟩ : ∃ x, x = w2.heap.size := ⟨_, rfl⟩
      rw [← hBo] at Xo
      try rw [← hBo]
      have leo : w.heap.size ≤ Bo := by have := HB2.out.size; omega
      clear hBo
      clear hv2 HB2
      refine (NW2.out _).mono ?_
      rintro e w3 ⟨rfl, bb⟩
      have Ho3 := Lib.hid (blk_call bb Xo)
      have HB3 := Lib.hid (bel_onto XB bb XB.size)
      clear Xo XB bb
      obtain ⟨o0_, o1_, o2_, o3_, o4_, of0_, of1_, of2_, of3_, of4_⟩ := at5 Ho3.out
      have on_ := ne_blk Ho3.out
      have om_ := Ne.symm (a := Bo) on_
      have ol_ := lt_blk Ho3.out
      go_wp2_with fail
      refine cl_gen ?_
      intro v3 hv3
      have Xo : v3.heap[Bo]? = some (.cells #[.int .u64 o0, .int .u64 o1, .int .u64 o2, .int .u64 o3, .int .u64 o4] 64 (0, 0)) := by
        rw [hv3]
        (repeat' (first | (with_reducible exact Ho3.out) | (with_reducible exact heap_alloc_new _ _) | (with_reducible exact blk_new (by first | (simp; done) | omega)) | (with_reducible refine blk_drew ?_) | (with_reducible apply put5_0) | (with_reducible apply put5_1) | (with_reducible apply put5_2) | (with_reducible apply put5_3) | (with_reducible apply put5_4) | (with_reducible refine blk_else (by omega) ?_) | (with_reducible refine blk_old ?_)))
      have XB : Below w.heap.size w v3 := by
        rw [hv3]
        (repeat' (first | (with_reducible exact HB3.out) | (with_reducible exact Below.refl _ _) | (with_reducible refine below_drewN _ ?_) | (with_reducible refine Below.drew ?_) | (with_reducible refine Below.setCell ?_ (by first | (simp; done) | omega) _) | (with_reducible refine Below.alloc ?_ (by have := HB3.out.size; simp; omega) _)))
      clear o0_ o1_ o2_ o3_ o4_ of0_ of1_ of2_ of3_ of4_ on_ om_ ol_
      clear hv3 Ho3 HB3
      refine (LV.out _).mono ?_
      rintro e w4 ⟨rfl, bb⟩
      have Ho4 := Lib.hid (blk_call bb Xo)
      have HB4 := Lib.hid (bel_onto XB bb XB.size)
      clear Xo XB bb
      obtain ⟨o0_, o1_, o2_, o3_, o4_, of0_, of1_, of2_, of3_, of4_⟩ := at5 Ho4.out
      have on_ := ne_blk Ho4.out
      have om_ := Ne.symm (a := Bo) on_
      have ol_ := lt_blk Ho4.out
      clear o0_ o1_ o2_ o3_ o4_ of0_ of1_ of2_ of3_ of4_ on_ om_ ol_
      go_wp2
      go_ret
      exact ⟨rfl, HB4.out⟩
    · go_enter Try.func6, Try.ntmps6
      go_wp2
      refine wp_genc ?_
      intro v0 hv0
      have XB : Below w.heap.size w v0 := by
        rw [hv0]
        (repeat' (first | (with_reducible exact Below.refl _ _) | (with_reducible assumption) | (with_reducible refine below_drewN _ ?_) | (with_reducible refine Below.drew ?_) | (with_reducible refine Below.setCell ?_ (by simp) _) | (with_reducible refine Below.alloc ?_ (by simp; try omega) _)))
      have Xu : v0.heap[w.heap.size]? = some (.cells #[.int .u32 x, .int .u32 y] 87 (0, 0)) := by
        rw [hv0]
        (repeat' (first | (with_reducible exact heap_alloc_new _ _) | (with_reducible exact blk_new (by first | (simp; done) | omega)) | (with_reducible refine blk_drew ?_) | (with_reducible apply put2_0) | (with_reducible apply put2_1) | (with_reducible refine blk_else (by omega) ?_) | (with_reducible refine blk_old ?_)))
      have Xv : v0.heap[w.heap.size + 1]? = some (.cells #[.int .u64 n, .int .u64 f] 88 (0, 0)) := by
        rw [hv0]
        (repeat' (first | (with_reducible exact heap_alloc_new _ _) | (with_reducible exact blk_new (by first | (simp; done) | omega)) | (with_reducible refine blk_drew ?_) | (with_reducible apply put2_0) | (with_reducible apply put2_1) | (with_reducible refine blk_else (by omega) ?_) | (with_reducible refine blk_old ?_)))
      obtain ⟨Bv, hBv⟩ : ∃ x, x = w.heap.size + 1 := ⟨_, rfl⟩
      rw [← hBv] at Xv
      try rw [← hBv]
      have lev : w.heap.size ≤ Bv := by omega
      obtain ⟨Bu, hBu⟩ : ∃ x, x = w.heap.size := ⟨_, rfl⟩
      rw [← hBu] at Xu
      try rw [← hBu]
      have nuv : ¬ Bu = Bv := by omega
      have nvu : ¬ Bv = Bu := fun h => nuv h.symm
      have leu : w.heap.size ≤ Bu := by omega
      clear hBu hBv
      clear hv0
      have Hv1 := Lib.hid Xv
      have Hu1 := Lib.hid Xu
      have HB1 := Lib.hid XB
      clear Xv Xu XB
      obtain ⟨v0_, v1_, vf0_, vf1_⟩ := at2 Hv1.out
      have vn_ := ne_blk Hv1.out
      have vm_ := Ne.symm (a := Bv) vn_
      have vl_ := lt_blk Hv1.out
      obtain ⟨u0_, u1_, uf0_, uf1_⟩ := at2 Hu1.out
      have un_ := ne_blk Hu1.out
      have um_ := Ne.symm (a := Bu) un_
      have ul_ := lt_blk Hu1.out
      go_quiet (fail)
      go_wp2_with fail
      refine cl_gen ?_
      intro v1 hv1
      have XB : Below w.heap.size w v1 := by
        rw [hv1]
        (repeat' (first | (with_reducible exact HB1.out) | (with_reducible exact Below.refl _ _) | (with_reducible refine below_drewN _ ?_) | (with_reducible refine Below.drew ?_) | (with_reducible refine Below.setCell ?_ (by first | (simp; done) | omega) _) | (with_reducible refine Below.alloc ?_ (by have := HB1.out.size; simp; omega) _)))
      clear v0_ v1_ vf0_ vf1_ vn_ vm_ vl_ u0_ u1_ uf0_ uf1_ un_ um_ ul_
      clear hv1 Hu1 Hv1 HB1
      refine (NW1.out _).mono ?_
      rintro e w2 ⟨rfl, bb⟩
      have HB2 := Lib.hid (bel_onto XB bb XB.size)
      clear XB bb
      go_wp2_with fail
      refine cl_gen ?_
      intro v2 hv2
      have XB : Below w.heap.size w v2 := by
        rw [hv2]
        (repeat' (first | (with_reducible exact HB2.out) | (with_reducible exact Below.refl _ _) | (with_reducible refine below_drewN _ ?_) | (with_reducible refine Below.drew ?_) | (with_reducible refine Below.setCell ?_ (by first | (simp; done) | omega) _) | (with_reducible refine Below.alloc ?_ (by have := HB2.out.size; simp; omega) _)))
      have Xo : v2.heap[w2.heap.size]? = some (.cells #[.int .u64 o0, .int .u64 o1, .int .u64 o2, .int .u64 o3, .int .u64 o4] 64 (0, 0)) := by
        rw [hv2]
        (repeat' (first | (with_reducible exact heap_alloc_new _ _) | (with_reducible exact blk_new (by first | (simp; done) | omega)) | (with_reducible refine blk_drew ?_) | (with_reducible apply put5_0) | (with_reducible apply put5_1) | (with_reducible apply put5_2) | (with_reducible apply put5_3) | (with_reducible apply put5_4) | (with_reducible refine blk_else (by omega) ?_) | (with_reducible refine blk_old ?_)))
      obtain ⟨Bo, hBo⟩ : ∃ x, x = w2.heap.size := ⟨_, rfl⟩
      rw [← hBo] at Xo
      try rw [← hBo]
      have leo : w.heap.size ≤ Bo := by have := HB2.out.size; omega
      clear hBo
      clear hv2 HB2
      refine (NW2.out _).mono ?_
      rintro e w3 ⟨rfl, bb⟩
      have Ho3 := Lib.hid (blk_call bb Xo)
      have HB3 := Lib.hid (bel_onto XB bb XB.size)
      clear Xo XB bb
      obtain ⟨o0_, o1_, o2_, o3_, o4_, of0_, of1_, of2_, of3_, of4_⟩ := at5 Ho3.out
      have on_ := ne_blk Ho3.out
      have om_ := Ne.symm (a := Bo) on_
      have ol_ := lt_blk Ho3.out
      go_wp2_with fail
      refine cl_gen ?_
      intro v3 hv3
      have Xo : v3.heap[Bo]? = some (.cells #[.int .u64 o0, .int .u64 o1, .int .u64 o2, .int .u64 o3, .int .u64 o4] 64 (0, 0)) := by
        rw [hv3]
        (repeat' (first | (with_reducible exact Ho3.out) | (with_reducible exact heap_alloc_new _ _) | (with_reducible exact blk_new (by first | (simp; done) | omega)) | (with_reducible refine blk_drew ?_) | (with_reducible apply put5_0) | (with_reducible apply put5_1) | (with_reducible apply put5_2) | (with_reducible apply put5_3) | (with_reducible apply put5_4) | (with_reducible refine blk_else (by omega) ?_) | (with_reducible refine blk_old ?_)))
      have XB : Below w.heap.size w v3 := by
        rw [hv3]
        (repeat' (first | (with_reducible exact HB3.out) | (with_reducible exact Below.refl _ _) | (with_reducible refine below_drewN _ ?_) | (with_reducible refine Below.drew ?_) | (with_reducible refine Below.setCell ?_ (by first | (simp; done) | omega) _) | (with_reducible refine Below.alloc ?_ (by have := HB3.out.size; simp; omega) _)))
      clear o0_ o1_ o2_ o3_ o4_ of0_ of1_ of2_ of3_ of4_ on_ om_ ol_
      clear hv3 Ho3 HB3
      refine (LV.out _).mono ?_
      rintro e w4 ⟨rfl, bb⟩
      have Ho4 := Lib.hid (blk_call bb Xo)
      have HB4 := Lib.hid (bel_onto XB bb XB.size)
      clear Xo XB bb
      obtain ⟨o0_, o1_, o2_, o3_, o4_, of0_, of1_, of2_, of3_, of4_⟩ := at5 Ho4.out
      have on_ := ne_blk Ho4.out
      have om_ := Ne.symm (a := Bo) on_
      have ol_ := lt_blk Ho4.out
      clear o0_ o1_ o2_ o3_ o4_ of0_ of1_ of2_ of3_ of4_ on_ om_ ol_
      go_wp2
      go_ret
      exact ⟨rfl, HB4.out⟩
    · go_enter Try.func6, Try.ntmps6
      go_wp2
      refine wp_genc ?_
      intro v0 hv0
      have XB : Below w.heap.size w v0 := by
        rw [hv0]
        (repeat' (first | (with_reducible exact Below.refl _ _) | (with_reducible assumption) | (with_reducible refine below_drewN _ ?_) | (with_reducible refine Below.drew ?_) | (with_reducible refine Below.setCell ?_ (by simp) _) | (with_reducible refine Below.alloc ?_ (by simp; try omega) _)))
      have Xu : v0.heap[w.heap.size]? = some (.cells #[.int .u32 x, .int .u32 y] 87 (0, 0)) := by
        rw [hv0]
        (repeat' (first | (with_reducible exact heap_alloc_new _ _) | (with_reducible exact blk_new (by first | (simp; done) | omega)) | (with_reducible refine blk_drew ?_) | (with_reducible apply put2_0) | (with_reducible apply put2_1) | (with_reducible refine blk_else (by omega) ?_) | (with_reducible refine blk_old ?_)))
      have Xv : v0.heap[w.heap.size + 1]? = some (.cells #[.int .u64 n, .int .u64 f] 88 (0, 0)) := by
        rw [hv0]
        (repeat' (first | (with_reducible exact heap_alloc_new _ _) | (with_reducible exact blk_new (by first | (simp; done) | omega)) | (with_reducible refine blk_drew ?_) | (with_reducible apply put2_0) | (with_reducible apply put2_1) | (with_reducible refine blk_else (by omega) ?_) | (with_reducible refine blk_old ?_)))
      obtain ⟨Bv, hBv⟩ : ∃ x, x = w.heap.size + 1 := ⟨_, rfl⟩
      rw [← hBv] at Xv
      try rw [← hBv]
      have lev : w.heap.size ≤ Bv := by omega
      obtain ⟨Bu, hBu⟩ : ∃ x, x = w.heap.size := ⟨_, rfl⟩
      rw [← hBu] at Xu
      try rw [← hBu]
      have nuv : ¬ Bu = Bv := by omega
      have nvu : ¬ Bv = Bu := fun h => nuv h.symm
      have leu : w.heap.size ≤ Bu := by omega
      clear hBu hBv
      clear hv0
      have Hv1 := Lib.hid Xv
      have Hu1 := Lib.hid Xu
      have HB1 := Lib.hid XB
      clear Xv Xu XB
      obtain ⟨v0_, v1_, vf0_, vf1_⟩ := at2 Hv1.out
      have vn_ := ne_blk Hv1.out
      have vm_ := Ne.symm (a := Bv) vn_
      have vl_ := lt_blk Hv1.out
      obtain ⟨u0_, u1_, uf0_, uf1_⟩ := at2 Hu1.out
      have un_ := ne_blk Hu1.out
      have um_ := Ne.symm (a := Bu) un_
      have ul_ := lt_blk Hu1.out
      go_quiet (fail)
      go_wp2_with fail
      refine cl_gen ?_
      intro v1 hv1
      have XB : Below w.heap.size w v1 := by
        rw [hv1]
        (repeat' (first | (with_reducible exact HB1.out) | (with_reducible exact Below.refl _ _) | (with_reducible refine below_drewN _ ?_) | (with_reducible refine Below.drew ?_) | (with_reducible refine Below.setCell ?_ (by first | (simp; done) | omega) _) | (with_reducible refine Below.alloc ?_ (by have := HB1.out.size; simp; omega) _)))
      clear v0_ v1_ vf0_ vf1_ vn_ vm_ vl_ u0_ u1_ uf0_ uf1_ un_ um_ ul_
      clear hv1 Hu1 Hv1 HB1
      refine (NW1.out _).mono ?_
      rintro e w2 ⟨rfl, bb⟩
      have HB2 := Lib.hid (bel_onto XB bb XB.size)
      clear XB bb
      go_wp2_with fail
      refine cl_gen ?_
      intro v2 hv2
      have XB : Below w.heap.size w v2 := by
        rw [hv2]
        (repeat' (first | (with_reducible exact HB2.out) | (with_reducible exact Below.refl _ _) | (with_reducible refine below_drewN _ ?_) | (with_reducible refine Below.drew ?_) | (with_reducible refine Below.setCell ?_ (by first | (simp; done) | omega) _) | (with_reducible refine Below.alloc ?_ (by have := HB2.out.size; simp; omega) _)))
      have Xo : v2.heap[w2.heap.size]? = some (.cells #[.int .u64 o0, .int .u64 o1, .int .u64 o2, .int .u64 o3, .int .u64 o4] 64 (0, 0)) := by
        rw [hv2]
        (repeat' (first | (with_reducible exact heap_alloc_new _ _) | (with_reducible exact blk_new (by first | (simp; done) | omega)) | (with_reducible refine blk_drew ?_) | (with_reducible apply put5_0) | (with_reducible apply put5_1) | (with_reducible apply put5_2) | (with_reducible apply put5_3) | (with_reducible apply put5_4) | (with_reducible refine blk_else (by omega) ?_) | (with_reducible refine blk_old ?_)))
      obtain ⟨Bo, hBo⟩ : ∃ x, x = w2.heap.size := ⟨_, rfl⟩
      rw [← hBo] at Xo
      try rw [← hBo]
      have leo : w.heap.size ≤ Bo := by have := HB2.out.size; omega
      clear hBo
      clear hv2 HB2
      refine (NW2.out _).mono ?_
      rintro e w3 ⟨rfl, bb⟩
      have Ho3 := Lib.hid (blk_call bb Xo)
      have HB3 := Lib.hid (bel_onto XB bb XB.size)
      clear Xo XB bb
      obtain ⟨o0_, o1_, o2_, o3_, o4_, of0_, of1_, of2_, of3_, of4_⟩ := at5 Ho3.out
      have on_ := ne_blk Ho3.out
      have om_ := Ne.symm (a := Bo) on_
      have ol_ := lt_blk Ho3.out
      go_wp2_with fail
      refine cl_gen ?_
      intro v3 hv3
      have Xo : v3.heap[Bo]? = some (.cells #[.int .u64 o0, .int .u64 o1, .int .u64 o2, .int .u64 o3, .int .u64 o4] 64 (0, 0)) := by
        rw [hv3]
        (repeat' (first | (with_reducible exact Ho3.out) | (with_reducible exact heap_alloc_new _ _) | (with_reducible exact blk_new (by first | (simp; done) | omega)) | (with_reducible refine blk_drew ?_) | (with_reducible apply put5_0) | (with_reducible apply put5_1) | (with_reducible apply put5_2) | (with_reducible apply put5_3) | (with_reducible apply put5_4) | (with_reducible refine blk_else (by omega) ?_) | (with_reducible refine blk_old ?_)))
      have XB : Below w.heap.size w v3 := by
        rw [hv3]
        (repeat' (first | (with_reducible exact HB3.out) | (with_reducible exact Below.refl _ _) | (with_reducible refine below_drewN _ ?_) | (with_reducible refine Below.drew ?_) | (with_reducible refine Below.setCell ?_ (by first | (simp; done) | omega) _) | (with_reducible refine Below.alloc ?_ (by have := HB3.out.size; simp; omega) _)))
      clear o0_ o1_ o2_ o3_ o4_ of0_ of1_ of2_ of3_ of4_ on_ om_ ol_
      clear hv3 Ho3 HB3
      refine (LV.out _).mono ?_
      rintro e w4 ⟨rfl, bb⟩
      have Ho4 := Lib.hid (blk_call bb Xo)
      have HB4 := Lib.hid (bel_onto XB bb XB.size)
      clear Xo XB bb
      obtain ⟨o0_, o1_, o2_, o3_, o4_, of0_, of1_, of2_, of3_, of4_⟩ := at5 Ho4.out
      have on_ := ne_blk Ho4.out
      have om_ := Ne.symm (a := Bo) on_
      have ol_ := lt_blk Ho4.out
      clear o0_ o1_ o2_ o3_ o4_ of0_ of1_ of2_ of3_ of4_ on_ om_ ol_
      go_wp2
      go_ret
      exact ⟨rfl, HB4.out⟩
end Go.Proofs.Ytcieggckmpabnaa
