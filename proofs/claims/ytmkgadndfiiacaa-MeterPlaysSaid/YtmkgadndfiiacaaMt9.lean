/-
  What the document's answer of layer 21 makes of a meter of two rates as time goes by. No condition but that numbers are words.
-/
import Derived.Test.YtmkgadndfiiacaaMt7
import Derived.Deep.CutBlock
import Derived.Deep.DeepCutAuto
import Derived.Deep.DeepMust
namespace Go.Proofs.Ytmkgadndfiiacaa
set_option linter.unusedVariables false
set_option linter.unusedSimpArgs false
open Go.ChangeShapes Go.WideShapes Go.ChangeAt Go.RowKit
attribute [local go_sem] alloc_drewN setCell_drewN

theorem wpAnyH_norm {P : Program} {md : Region.Mode} {ops : Array Oper} {Q : Exit → Act → World → Prop} {S : World → Prop} {fuel n : Nat} {listed l : Array Bool} {a : Act} {w : World} (hn : fuel = n) (hl : listed = l) (h : wpAnyH P md ops Q S n l a w) : wpAnyH P md ops Q S fuel listed a w := by
  subst hn hl
  exact h
theorem take_list {P : Program} {md : Region.Mode} {ops : Array Oper} {Q : Exit → Act → World → Prop} {S : World → Prop} {i : Nat} {oi : Oper} {v : Value} {fuel : Nat} {listed : Array Bool} {a : Act} {w : World} (hi : ops.toList[i]? = some oi)
    (hs : Region.noSelect ops = true) (hf : Region.free md ops listed i = true) (hr : (Region.ready md ops listed).contains i = true)
    (hQ : ∀ c a w, Q (.panic c) (a.put oi.dst v) w → Q (.panic c) a w) (hy : YieldsIf P ops S oi v a) (hS : S w)
    (h : wpAnyH P md ops Q S fuel (listed.setIfInBounds i true) (a.put oi.dst v) w) : wpAnyH P md ops Q S (fuel + 1) listed a w :=
  wpAnyH_take (by rw [← hi]; simp) hs hf hr hQ hy hS h
theorem cons_list {P : Program} {md : Region.Mode} {ops : Array Oper} {Q : Exit → Act → World → Prop} {S : World → Prop} {fuel : Nat} {listed : Array Bool} {a : Act} {w : World} {i : Nat} {rs : List Nat} {o : Oper} (ho : ops.toList[i]? = some o) 
    (h : ∀ K' : Act → World → Prop, Shut (∀ a w, S w → (S w → wpAnyH P md ops Q S fuel (listed.setIfInBounds i true) a w) → K' a w) → if Region.wanted o (yielded ops a.tmps) = true then Oper.wp P o a w K' Q else K' (a.put o.dst undef) w)
    (hs : AllReadyH P md ops Q S fuel listed a w rs) : AllReadyH P md ops Q S fuel listed a w (i :: rs) :=
  AllReadyH.cons (by rw [← ho]; simp) h hs
set_option maxRecDepth 100000 in
set_option maxHeartbeats 4000000 in
theorem mt_rtick (m : MT) (hm : m.wd) (x : Int) (x0 : 0 ≤ x) (x1 : x ≤ 18446744073709551615) (w : World) :
    Calls Try.prog 19 #[m.val, .int .u64 x] w fun e w' => e = .returned (m.tick x).val ∧ Below w.heap.size w w' := by
  obtain ⟨⟨s0, s1⟩, ⟨q0, q1⟩, ⟨n0, n1⟩, ⟨f0, f1⟩, ⟨a0, a1⟩, b0, b1⟩ := hm
  obtain ⟨s, q, n, f, a, b⟩ := m
  dsimp only at s0 s1 q0 q1 n0 n1 f0 f1 a0 a1 b0 b1
  have MY := Lib.hid (fun (W : World) => ((mt_rmay s q n f a b W).mono (by rintro e w' ⟨rfl, rfl⟩; exact ⟨rfl, (Below.refl _ W).alloc (Nat.le_refl _) _⟩) : Calls Try.prog 15 #[.agg #[.int .u64 s, .int .u64 q, .int .u64 n, .int .u64 f, .int .u64 a, .int .u64 b]] W fun e w' => e = .returned (.int .i64 (mtr s q n f a b)) ∧ Below W.heap.size W w'))
  by_cases hok : MT.ok ⟨s, q, n, f, a, b⟩
  · rw [show MT.tick ⟨s, q, n, f, a, b⟩ x = ⟨s, q, n, f, min (a + s * x) n, min (b + q * x) f⟩ from if_pos hok]
    rw [mtr_ok.2 hok] at MY
    simp only [mt_val]
    obtain ⟨-, k1, k2⟩ := hok
    dsimp only at k1 k2
    have e1 : min (a + s * x) n = a + min (s * x) (n - a) := by omega
    have e2 : min (b + q * x) f = b + min (q * x) (f - b) := by omega
    rw [e1, e2]
    obtain ⟨p0, p1⟩ := wd_mul s x s0 s1 x0 x1
    obtain ⟨p2, p3⟩ := wd_mul q x q0 q1 x0 x1
    have TA := Lib.hid (fun W => times_any s x s0 s1 x0 x1 W)
    have TB := Lib.hid (fun W => times_any q x q0 q1 x0 x1 W)
    generalize s * x = P at *
    generalize q * x = Q at *
    have LA := Lib.hid (fun (a0 a1 a2 a3 : Int) (h : Wide a0 a1 a2 a3 P) (W : World) => least_any a0 a1 a2 a3 P (n - a) h (by omega) (by omega) W)
    have LB := Lib.hid (fun (a0 a1 a2 a3 : Int) (h : Wide a0 a1 a2 a3 Q) (W : World) => least_any a0 a1 a2 a3 Q (f - b) h (by omega) (by omega) W)
    obtain ⟨tA, hA⟩ : ∃ q, q = min P (n - a) := ⟨_, rfl⟩
    obtain ⟨tB, hB⟩ : ∃ q, q = min Q (f - b) := ⟨_, rfl⟩
    rw [← hA] at LA ⊢
    rw [← hB] at LB ⊢
    have wna_ : IntKind.u64.wrap (n - a) = n - a := by rw [IntKind.wrap_u64]; omega
    have wfb_ : IntKind.u64.wrap (f - b) = f - b := by rw [IntKind.wrap_u64]; omega
    have waa_ : IntKind.u64.wrap (a + tA) = a + tA := by rw [IntKind.wrap_u64]; omega
    have wbb_ : IntKind.u64.wrap (b + tB) = b + tB := by rw [IntKind.wrap_u64]; omega
    have t0_ : 0 ≤ a + tA := by omega
    have t1_ : a + tA ≤ 18446744073709551615 := by omega
    clear hA hB p0 p1 p2 p3 e1 e2
    go_enter Try.func19, Try.ntmps19
    go_wp2_with fail
    refine cl_gen ?_
    intro v0 hv0
    have XB : Below w.heap.size w v0 := by
      rw [hv0]
      (repeat' (first | (with_reducible exact Below.refl _ _) | (with_reducible assumption) | (with_reducible refine below_drewN _ ?_) | (with_reducible refine Below.drew ?_) | (with_reducible refine Below.setCell ?_ (by simp) _) | (with_reducible refine Below.alloc ?_ (by simp; try omega) _)))
    have Xa : v0.heap[w.heap.size]? = some (.cells #[.int .u64 s, .int .u64 q, .int .u64 n, .int .u64 f, .int .u64 a, .int .u64 b] 26 (0, 0)) := by
      rw [hv0]
      (repeat' (first | (with_reducible exact heap_alloc_new _ _) | (with_reducible exact blk_new (by first | (simp; done) | omega)) | (with_reducible refine blk_drew ?_) | (with_reducible apply put6_0) | (with_reducible apply put6_1) | (with_reducible apply put6_2) | (with_reducible apply put6_3) | (with_reducible apply put6_4) | (with_reducible apply put6_5) | (with_reducible refine blk_else (by omega) ?_) | (with_reducible refine blk_old ?_)))
    have Xz : v0.heap[w.heap.size + 1]? = some (.cells #[.int .u64 0, .int .u64 0, .int .u64 0, .int .u64 0, .int .u64 0, .int .u64 0] 26 (0, 0)) := by
      rw [hv0]
      (repeat' (first | (with_reducible exact heap_alloc_new _ _) | (with_reducible exact blk_new (by first | (simp; done) | omega)) | (with_reducible refine blk_drew ?_) | (with_reducible apply put6_0) | (with_reducible apply put6_1) | (with_reducible apply put6_2) | (with_reducible apply put6_3) | (with_reducible apply put6_4) | (with_reducible apply put6_5) | (with_reducible refine blk_else (by omega) ?_) | (with_reducible refine blk_old ?_)))
    obtain ⟨Bz, hBz⟩ : ∃ x, x = w.heap.size + 1 := ⟨_, rfl⟩
    rw [← hBz] at Xz
    try rw [← hBz]
    have lez : w.heap.size ≤ Bz := by omega
    obtain ⟨Ba, hBa⟩ : ∃ x, x = w.heap.size := ⟨_, rfl⟩
    rw [← hBa] at Xa
    try rw [← hBa]
    have naz : ¬ Ba = Bz := by omega
    have nza : ¬ Bz = Ba := fun h => naz h.symm
    have lea : w.heap.size ≤ Ba := by omega
    clear hBa hBz
    clear hv0
    refine (MY.out _).mono ?_
    rintro e w1 ⟨rfl, bb⟩
    have Hz1 := Lib.hid (blk_call bb Xz)
    have Ha1 := Lib.hid (blk_call bb Xa)
    have HB1 := Lib.hid (bel_onto XB bb XB.size)
    clear Xz Xa XB bb
    obtain ⟨z0_, z1_, z2_, z3_, z4_, z5_, zf0_, zf1_, zf2_, zf3_, zf4_, zf5_⟩ := at6 Hz1.out
    have zn_ := ne_blk Hz1.out
    have zm_ := Ne.symm (a := Bz) zn_
    have zl_ := lt_blk Hz1.out
    obtain ⟨a0_, a1_, a2_, a3_, a4_, a5_, af0_, af1_, af2_, af3_, af4_, af5_⟩ := at6 Ha1.out
    have an_ := ne_blk Ha1.out
    have am_ := Ne.symm (a := Ba) an_
    have al_ := lt_blk Ha1.out
    go_upto_region 3 with (fail)
    refine wp_genc ?_
    intro v1 hv1
    have Xz : v1.heap[Bz]? = some (.cells #[.int .u64 0, .int .u64 0, .int .u64 0, .int .u64 0, .int .u64 0, .int .u64 0] 26 (0, 0)) := by
      rw [hv1]
      (repeat' (first | (with_reducible exact Hz1.out) | (with_reducible exact heap_alloc_new _ _) | (with_reducible exact blk_new (by first | (simp; done) | omega)) | (with_reducible refine blk_drew ?_) | (with_reducible apply put6_0) | (with_reducible apply put6_1) | (with_reducible apply put6_2) | (with_reducible apply put6_3) | (with_reducible apply put6_4) | (with_reducible apply put6_5) | (with_reducible refine blk_else (by omega) ?_) | (with_reducible refine blk_old ?_)))
    have Xa : v1.heap[Ba]? = some (.cells #[.int .u64 s, .int .u64 q, .int .u64 n, .int .u64 f, .int .u64 a, .int .u64 b] 26 (0, 0)) := by
      rw [hv1]
      (repeat' (first | (with_reducible exact Ha1.out) | (with_reducible exact heap_alloc_new _ _) | (with_reducible exact blk_new (by first | (simp; done) | omega)) | (with_reducible refine blk_drew ?_) | (with_reducible apply put6_0) | (with_reducible apply put6_1) | (with_reducible apply put6_2) | (with_reducible apply put6_3) | (with_reducible apply put6_4) | (with_reducible apply put6_5) | (with_reducible refine blk_else (by omega) ?_) | (with_reducible refine blk_old ?_)))
    have XB : Below w.heap.size w v1 := by
      rw [hv1]
      (repeat' (first | (with_reducible exact HB1.out) | (with_reducible exact Below.refl _ _) | (with_reducible refine below_drewN _ ?_) | (with_reducible refine Below.drew ?_) | (with_reducible refine Below.setCell ?_ (by first | (simp; done) | omega) _) | (with_reducible refine Below.alloc ?_ (by have := HB1.out.size; simp; omega) _)))
    clear z0_ z1_ z2_ z3_ z4_ z5_ zf0_ zf1_ zf2_ zf3_ zf4_ zf5_ zn_ zm_ zl_ a0_ a1_ a2_ a3_ a4_ a5_ af0_ af1_ af2_ af3_ af4_ af5_ an_ am_ al_
    clear hv1 Hz1 Ha1 HB1
    have Hz2 := Lib.hid Xz
    have Ha2 := Lib.hid Xa
    have HB2 := Lib.hid XB
    clear Xz Xa XB
    obtain ⟨z0_, z1_, z2_, z3_, z4_, z5_, zf0_, zf1_, zf2_, zf3_, zf4_, zf5_⟩ := at6 Hz2.out
    have zn_ := ne_blk Hz2.out
    have zm_ := Ne.symm (a := Bz) zn_
    have zl_ := lt_blk Hz2.out
    obtain ⟨a0_, a1_, a2_, a3_, a4_, a5_, af0_, af1_, af2_, af3_, af4_, af5_⟩ := at6 Ha2.out
    have an_ := ne_blk Ha2.out
    have am_ := Ne.symm (a := Ba) an_
    have al_ := lt_blk Ha2.out
    go_cut [21] (fun e_ wx => wx.heap[Ba]? = some (.cells #[.int .u64 s, .int .u64 q, .int .u64 n, .int .u64 f, .int .u64 (a + tA), .int .u64 b] 26 (0, 0)) ∧ wx.heap[Bz]? = some (.cells #[.int .u64 0, .int .u64 0, .int .u64 0, .int .u64 0, .int .u64 0, .int .u64 0] 26 (0, 0)) ∧ Below w.heap.size w wx)
    case first =>
      have KT := Lib.hid (fun (W : World) (y : Value) (hS : W.cell? ⟨Ba, 0, none⟩ = some (.int .u64 s) ∧ W.cell? ⟨Ba, 2, none⟩ = some (.int .u64 n)) => (⟨(World.cell?_setCell_other _ ⟨Ba, 4, none⟩ ⟨Ba, 0, none⟩ y (by simp)).trans hS.1, (World.cell?_setCell_other _ ⟨Ba, 4, none⟩ ⟨Ba, 2, none⟩ y (by simp)).trans hS.2⟩ : (W.setCell ⟨Ba, 4, none⟩ y).cell? ⟨Ba, 0, none⟩ = some (.int .u64 s) ∧ (W.setCell ⟨Ba, 4, none⟩ y).cell? ⟨Ba, 2, none⟩ = some (.int .u64 n)))
      refine wp_region_noPanic ?_
      refine wp_region_held_drew (S := fun v => v.cell? ⟨Ba, 0, none⟩ = some (.int .u64 s) ∧ v.cell? ⟨Ba, 2, none⟩ = some (.int .u64 n)) (by kernel_rfl) ⟨a0_, a2_⟩ (fun hHeld => ?_)
      refine take_list (i := 0) (oi := _) (v := ?_) rfl (by kernel_rfl) (by kernel_rfl) (by kernel_rfl) (fun _ _ _ h => h) (Or.inl ⟨by rfl, ?_⟩) (by assumption) ?_
      rotate_left 1
      · intro v hSw
        (try dsimp only at hSw)
        go_simp
        try with_reducible rfl
      try simp only [List.getElem_toArray, List.getElem_cons_succ, List.getElem_cons_zero, Act.put, List.setIfInBounds_toArray, List.set_cons_zero, List.set_cons_succ]
      refine take_list (i := 2) (oi := _) (v := ?_) rfl (by kernel_rfl) (by kernel_rfl) (by kernel_rfl) (fun _ _ _ h => h) (Or.inl ⟨by rfl, ?_⟩) (by assumption) ?_
      rotate_left 1
      · intro v hSw
        (try dsimp only at hSw)
        go_simp
        try with_reducible rfl
      try simp only [List.getElem_toArray, List.getElem_cons_succ, List.getElem_cons_zero, Act.put, List.setIfInBounds_toArray, List.set_cons_zero, List.set_cons_succ]
      refine take_list (i := 3) (oi := _) (v := ?_) rfl (by kernel_rfl) (by kernel_rfl) (by kernel_rfl) (fun _ _ _ h => h) (Or.inl ⟨by rfl, ?_⟩) (by assumption) ?_
      rotate_left 1
      · intro v hSw
        (try dsimp only at hSw)
        go_simp
        try with_reducible rfl
      try simp only [List.getElem_toArray, List.getElem_cons_succ, List.getElem_cons_zero, Act.put, List.setIfInBounds_toArray, List.set_cons_zero, List.set_cons_succ]
      refine take_list (i := 4) (oi := _) (v := ?_) rfl (by kernel_rfl) (by kernel_rfl) (by kernel_rfl) (fun _ _ _ h => h) (Or.inl ⟨by rfl, ?_⟩) (by assumption) ?_
      rotate_left 1
      · intro v hSw
        (try dsimp only at hSw)
        go_simp
        try with_reducible rfl
      try simp only [List.getElem_toArray, List.getElem_cons_succ, List.getElem_cons_zero, Act.put, List.setIfInBounds_toArray, List.set_cons_zero, List.set_cons_succ]
      refine take_list (i := 6) (oi := _) (v := ?_) rfl (by kernel_rfl) (by kernel_rfl) (by kernel_rfl) (fun _ _ _ h => h) (Or.inl ⟨by rfl, ?_⟩) (by assumption) ?_
      rotate_left 1
      · intro v hSw
        (try dsimp only at hSw)
        go_simp
        try with_reducible rfl
      try simp only [List.getElem_toArray, List.getElem_cons_succ, List.getElem_cons_zero, Act.put, List.setIfInBounds_toArray, List.set_cons_zero, List.set_cons_succ]
      refine take_list (i := 7) (oi := _) (v := ?_) rfl (by kernel_rfl) (by kernel_rfl) (by kernel_rfl) (fun _ _ _ h => h) (Or.inl ⟨by rfl, ?_⟩) (by assumption) ?_
      rotate_left 1
      · intro v hSw
        (try dsimp only at hSw)
        go_simp
        try with_reducible rfl
      try simp only [List.getElem_toArray, List.getElem_cons_succ, List.getElem_cons_zero, Act.put, List.setIfInBounds_toArray, List.set_cons_zero, List.set_cons_succ]
      refine take_list (i := 8) (oi := _) (v := ?_) rfl (by kernel_rfl) (by kernel_rfl) (by kernel_rfl) (fun _ _ _ h => h) (Or.inl ⟨by rfl, ?_⟩) (by assumption) ?_
      rotate_left 1
      · intro v hSw
        (try dsimp only at hSw)
        go_simp
        try with_reducible rfl
      try simp only [List.getElem_toArray, List.getElem_cons_succ, List.getElem_cons_zero, Act.put, List.setIfInBounds_toArray, List.set_cons_zero, List.set_cons_succ]
      refine wpAnyH_norm (n := 8) (l := #[true, false, true, true, true, false, true, true, true, false, false, false, false, false, false]) (by kernel_rfl) (by kernel_rfl) ?_
      refine wpAnyH_ready (rs := [1, 5, 9]) (by kernel_rfl) (by simp) ?_
      refine (cons_list (o := _) rfl (fun KQ hK => ?_) (cons_list (o := _) rfl (fun KQ hK => ?_) (cons_list (o := _) rfl (fun KQ hK => ?_) AllReadyH.nil)))
      · rw [if_pos (by rfl)]
        go_simp
        refine hK.out _ _ (⟨a0_, a2_⟩) (fun hHeld => ?_)
        clear hK KQ
        try simp only [List.getElem_toArray, List.getElem_cons_succ, List.getElem_cons_zero, Act.put, List.setIfInBounds_toArray, List.set_cons_zero, List.set_cons_succ]
        refine wpAnyH_norm (n := 7) (l := #[true, true, true, true, true, false, true, true, true, false, false, false, false, false, false]) (by kernel_rfl) (by kernel_rfl) ?_
        refine wpAnyH_ready (rs := [5, 9]) (by kernel_rfl) (by simp) ?_
        refine (cons_list (o := _) rfl (fun KQ hK => ?_) (cons_list (o := _) rfl (fun KQ hK => ?_) AllReadyH.nil))
        · rw [if_pos (by rfl)]
          go_wp2_with (go_at_call 83; (with_reducible refine (TA.out _).mono ?_); rintro e u1 ⟨y0, y1, y2, y3, rfl, hy, hu1⟩; have Ya : u1.heap[Ba]? = some (.cells #[.int .u64 s, .int .u64 q, .int .u64 n, .int .u64 f, .int .u64 a, .int .u64 b] 26 (0, 0)) := blk_call hu1 (by first | (with_reducible exact Ha2.out) | (with_reducible exact blk_drew Ha2.out)); have Yz : u1.heap[Bz]? = some (.cells #[.int .u64 0, .int .u64 0, .int .u64 0, .int .u64 0, .int .u64 0, .int .u64 0] 26 (0, 0)) := blk_call hu1 (by first | (with_reducible exact Hz2.out) | (with_reducible exact blk_drew Hz2.out)); have YB := bel_call hu1 (show Below w.heap.size w _ by first | (with_reducible exact HB2.out) | (with_reducible exact HB2.out.drew)) (by have := HB2.out.size; first | omega | (simp; omega)); obtain ⟨a0q, a1q, a2q, a3q, a4q, a5q, af0q, af1q, af2q, af3q, af4q, af5q⟩ := at6 Ya; have alq := lt_blk Ya; have HS31 := Lib.hid (show u1.cell? ⟨Ba, 0, none⟩ = some (.int .u64 s) ∧ u1.cell? ⟨Ba, 2, none⟩ = some (.int .u64 n) from ⟨cell_blk Ya 0 rfl, cell_blk Ya 2 rfl⟩); have Ha31 := Lib.hid Ya; have Hz31 := Lib.hid Yz; have HB31 := Lib.hid YB; clear hu1 YB Ya Yz)
          refine hK.out _ _ (HS31.out) (fun hHeld => ?_)
          clear hK KQ
          try simp only [List.getElem_toArray, List.getElem_cons_succ, List.getElem_cons_zero, Act.put, List.setIfInBounds_toArray, List.set_cons_zero, List.set_cons_succ]
          refine wpAnyH_norm (n := 6) (l := #[true, true, true, true, true, true, true, true, true, false, false, false, false, false, false]) (by kernel_rfl) (by kernel_rfl) ?_
          refine wpAnyH_ready (rs := [9]) (by kernel_rfl) (by simp) ?_
          refine (cons_list (o := _) rfl (fun KQ hK => ?_) AllReadyH.nil)
          rw [if_pos (by rfl)]
          go_simp
          refine hK.out _ _ (HS31.out) (fun hHeld => ?_)
          clear hK KQ
          try simp only [List.getElem_toArray, List.getElem_cons_succ, List.getElem_cons_zero, Act.put, List.setIfInBounds_toArray, List.set_cons_zero, List.set_cons_succ]
          refine wpAnyH_norm (n := 5) (l := #[true, true, true, true, true, true, true, true, true, true, false, false, false, false, false]) (by kernel_rfl) (by kernel_rfl) ?_
          refine take_list (i := 10) (oi := _) (v := ?_) rfl (by kernel_rfl) (by kernel_rfl) (by kernel_rfl) (fun _ _ _ h => h) (Or.inl ⟨by rfl, ?_⟩) (by assumption) ?_
          rotate_left 1
          · intro v hSw
            (try dsimp only at hSw)
            go_simp
            try with_reducible rfl
          try simp only [List.getElem_toArray, List.getElem_cons_succ, List.getElem_cons_zero, Act.put, List.setIfInBounds_toArray, List.set_cons_zero, List.set_cons_succ]
          refine wpAnyH_norm (n := 4) (l := #[true, true, true, true, true, true, true, true, true, true, true, false, false, false, false]) (by kernel_rfl) (by kernel_rfl) ?_
          refine wpAnyH_ready (rs := [11]) (by kernel_rfl) (by simp) ?_
          refine (cons_list (o := _) rfl (fun KQ hK => ?_) AllReadyH.nil)
          rw [if_pos (by rfl)]
          go_wp2_with (go_at_call 84; (with_reducible refine (LA.out _ _ _ _ hy _).mono ?_); rintro e u2 ⟨rfl, hu2⟩; have Ya : u2.heap[Ba]? = some (.cells #[.int .u64 s, .int .u64 q, .int .u64 n, .int .u64 f, .int .u64 a, .int .u64 b] 26 (0, 0)) := blk_call hu2 (by first | (with_reducible exact Ha31.out) | (with_reducible exact blk_drew Ha31.out)); have Yz : u2.heap[Bz]? = some (.cells #[.int .u64 0, .int .u64 0, .int .u64 0, .int .u64 0, .int .u64 0, .int .u64 0] 26 (0, 0)) := blk_call hu2 (by first | (with_reducible exact Hz31.out) | (with_reducible exact blk_drew Hz31.out)); have YB := bel_call hu2 (show Below w.heap.size w _ by first | (with_reducible exact HB31.out) | (with_reducible exact HB31.out.drew)) (by have := HB31.out.size; first | omega | (simp; omega)); clear a0q a1q a2q a3q a4q a5q af0q af1q af2q af3q af4q af5q alq; obtain ⟨a0q, a1q, a2q, a3q, a4q, a5q, af0q, af1q, af2q, af3q, af4q, af5q⟩ := at6 Ya; have alq := lt_blk Ya; have HS32 := Lib.hid (show u2.cell? ⟨Ba, 0, none⟩ = some (.int .u64 s) ∧ u2.cell? ⟨Ba, 2, none⟩ = some (.int .u64 n) from ⟨cell_blk Ya 0 rfl, cell_blk Ya 2 rfl⟩); have Ha32 := Lib.hid Ya; have Hz32 := Lib.hid Yz; have HB32 := Lib.hid YB; clear hu2 YB Ya Yz)
          refine hK.out _ _ (HS32.out) (fun hHeld => ?_)
          clear hK KQ
          try simp only [List.getElem_toArray, List.getElem_cons_succ, List.getElem_cons_zero, Act.put, List.setIfInBounds_toArray, List.set_cons_zero, List.set_cons_succ]
          refine wpAnyH_norm (n := 3) (l := #[true, true, true, true, true, true, true, true, true, true, true, true, false, false, false]) (by kernel_rfl) (by kernel_rfl) ?_
          refine take_list (i := 12) (oi := _) (v := ?_) rfl (by kernel_rfl) (by kernel_rfl) (by kernel_rfl) (fun _ _ _ h => h) (Or.inl ⟨by rfl, ?_⟩) (by assumption) ?_
          rotate_left 1
          · intro v hSw
            (try dsimp only at hSw)
            go_simp
            try with_reducible rfl
          try simp only [List.getElem_toArray, List.getElem_cons_succ, List.getElem_cons_zero, Act.put, List.setIfInBounds_toArray, List.set_cons_zero, List.set_cons_succ]
          refine take_list (i := 13) (oi := _) (v := ?_) rfl (by kernel_rfl) (by kernel_rfl) (by kernel_rfl) (fun _ _ _ h => h) (Or.inl ⟨by rfl, ?_⟩) (by assumption) ?_
          rotate_left 1
          · intro v hSw
            (try dsimp only at hSw)
            go_simp
            try with_reducible rfl
          try simp only [List.getElem_toArray, List.getElem_cons_succ, List.getElem_cons_zero, Act.put, List.setIfInBounds_toArray, List.set_cons_zero, List.set_cons_succ]
          refine wpAnyH_norm (n := 1) (l := #[true, true, true, true, true, true, true, true, true, true, true, true, true, true, false]) (by kernel_rfl) (by kernel_rfl) ?_
          refine wpAnyH_ready (rs := [14]) (by kernel_rfl) (by simp) ?_
          refine (cons_list (o := _) rfl (fun KQ hK => ?_) AllReadyH.nil)
          rw [if_pos (by rfl)]
          go_simp
          refine hK.out _ _ (KT.out _ _ HS32.out) (fun hHeld => ?_)
          clear hK KQ
          try simp only [List.getElem_toArray, List.getElem_cons_succ, List.getElem_cons_zero, Act.put, List.setIfInBounds_toArray, List.set_cons_zero, List.set_cons_succ]
          refine wpAnyH_norm (n := 0) (l := #[true, true, true, true, true, true, true, true, true, true, true, true, true, true, true]) (by kernel_rfl) (by kernel_rfl) ?_
          refine wpAnyH_done (by kernel_rfl) ?_ _
          refine NoPanic.normal ?_
          go_wp2
          go_meet
          refine ⟨?_, ?_, ?_⟩
          · (repeat' (first | (with_reducible exact Ha32.out) | (with_reducible exact heap_alloc_new _ _) | (with_reducible exact blk_new (by first | (simp; done) | omega)) | (with_reducible refine blk_drew ?_) | (with_reducible apply put1_0) | (with_reducible apply put2_0) | (with_reducible apply put2_1) | (with_reducible apply put3_0) | (with_reducible apply put3_1) | (with_reducible apply put3_2) | (with_reducible apply put4_0) | (with_reducible apply put4_1) | (with_reducible apply put4_2) | (with_reducible apply put4_3) | (with_reducible apply put5_0) | (with_reducible apply put5_1) | (with_reducible apply put5_2) | (with_reducible apply put5_3) | (with_reducible apply put5_4) | (with_reducible apply put6_0) | (with_reducible apply put6_1) | (with_reducible apply put6_2) | (with_reducible apply put6_3) | (with_reducible apply put6_4) | (with_reducible apply put6_5) | (with_reducible refine blk_else (by omega) ?_) | (with_reducible refine blk_old ?_)))
          · (repeat' (first | (with_reducible exact Hz32.out) | (with_reducible exact heap_alloc_new _ _) | (with_reducible exact blk_new (by first | (simp; done) | omega)) | (with_reducible refine blk_drew ?_) | (with_reducible apply put1_0) | (with_reducible apply put2_0) | (with_reducible apply put2_1) | (with_reducible apply put3_0) | (with_reducible apply put3_1) | (with_reducible apply put3_2) | (with_reducible apply put4_0) | (with_reducible apply put4_1) | (with_reducible apply put4_2) | (with_reducible apply put4_3) | (with_reducible apply put5_0) | (with_reducible apply put5_1) | (with_reducible apply put5_2) | (with_reducible apply put5_3) | (with_reducible apply put5_4) | (with_reducible apply put6_0) | (with_reducible apply put6_1) | (with_reducible apply put6_2) | (with_reducible apply put6_3) | (with_reducible apply put6_4) | (with_reducible apply put6_5) | (with_reducible refine blk_else (by omega) ?_) | (with_reducible refine blk_old ?_)))
          · (repeat' (first | (with_reducible exact HB32.out) | (with_reducible exact Below.refl _ _) | (with_reducible refine below_drewN _ ?_) | (with_reducible refine Below.drew ?_) | (with_reducible refine Below.setCell ?_ (by first | (simp; done) | omega) _) | (with_reducible refine Below.alloc ?_ (by have := HB32.out.size; simp; omega) _)))
        · rw [if_pos (by rfl)]
          go_simp
          refine hK.out _ _ (⟨a0_, a2_⟩) (fun hHeld => ?_)
          clear hK KQ
          try simp only [List.getElem_toArray, List.getElem_cons_succ, List.getElem_cons_zero, Act.put, List.setIfInBounds_toArray, List.set_cons_zero, List.set_cons_succ]
          refine wpAnyH_norm (n := 6) (l := #[true, true, true, true, true, false, true, true, true, true, false, false, false, false, false]) (by kernel_rfl) (by kernel_rfl) ?_
          refine take_list (i := 10) (oi := _) (v := ?_) rfl (by kernel_rfl) (by kernel_rfl) (by kernel_rfl) (fun _ _ _ h => h) (Or.inl ⟨by rfl, ?_⟩) (by assumption) ?_
          rotate_left 1
          · intro v hSw
            (try dsimp only at hSw)
            go_simp
            try with_reducible rfl
          try simp only [List.getElem_toArray, List.getElem_cons_succ, List.getElem_cons_zero, Act.put, List.setIfInBounds_toArray, List.set_cons_zero, List.set_cons_succ]
          refine wpAnyH_norm (n := 5) (l := #[true, true, true, true, true, false, true, true, true, true, true, false, false, false, false]) (by kernel_rfl) (by kernel_rfl) ?_
          refine wpAnyH_ready (rs := [5]) (by kernel_rfl) (by simp) ?_
          refine (cons_list (o := _) rfl (fun KQ hK => ?_) AllReadyH.nil)
          rw [if_pos (by rfl)]
          go_wp2_with (go_at_call 83; (with_reducible refine (TA.out _).mono ?_); rintro e u1 ⟨y0, y1, y2, y3, rfl, hy, hu1⟩; have Ya : u1.heap[Ba]? = some (.cells #[.int .u64 s, .int .u64 q, .int .u64 n, .int .u64 f, .int .u64 a, .int .u64 b] 26 (0, 0)) := blk_call hu1 (by first | (with_reducible exact Ha2.out) | (with_reducible exact blk_drew Ha2.out)); have Yz : u1.heap[Bz]? = some (.cells #[.int .u64 0, .int .u64 0, .int .u64 0, .int .u64 0, .int .u64 0, .int .u64 0] 26 (0, 0)) := blk_call hu1 (by first | (with_reducible exact Hz2.out) | (with_reducible exact blk_drew Hz2.out)); have YB := bel_call hu1 (show Below w.heap.size w _ by first | (with_reducible exact HB2.out) | (with_reducible exact HB2.out.drew)) (by have := HB2.out.size; first | omega | (simp; omega)); obtain ⟨a0q, a1q, a2q, a3q, a4q, a5q, af0q, af1q, af2q, af3q, af4q, af5q⟩ := at6 Ya; have alq := lt_blk Ya; have HS31 := Lib.hid (show u1.cell? ⟨Ba, 0, none⟩ = some (.int .u64 s) ∧ u1.cell? ⟨Ba, 2, none⟩ = some (.int .u64 n) from ⟨cell_blk Ya 0 rfl, cell_blk Ya 2 rfl⟩); have Ha31 := Lib.hid Ya; have Hz31 := Lib.hid Yz; have HB31 := Lib.hid YB; clear hu1 YB Ya Yz)
          refine hK.out _ _ (HS31.out) (fun hHeld => ?_)
          clear hK KQ
          try simp only [List.getElem_toArray, List.getElem_cons_succ, List.getElem_cons_zero, Act.put, List.setIfInBounds_toArray, List.set_cons_zero, List.set_cons_succ]
          refine wpAnyH_norm (n := 4) (l := #[true, true, true, true, true, true, true, true, true, true, true, false, false, false, false]) (by kernel_rfl) (by kernel_rfl) ?_
          refine wpAnyH_ready (rs := [11]) (by kernel_rfl) (by simp) ?_
          refine (cons_list (o := _) rfl (fun KQ hK => ?_) AllReadyH.nil)
          rw [if_pos (by rfl)]
          go_wp2_with (go_at_call 84; (with_reducible refine (LA.out _ _ _ _ hy _).mono ?_); rintro e u2 ⟨rfl, hu2⟩; have Ya : u2.heap[Ba]? = some (.cells #[.int .u64 s, .int .u64 q, .int .u64 n, .int .u64 f, .int .u64 a, .int .u64 b] 26 (0, 0)) := blk_call hu2 (by first | (with_reducible exact Ha31.out) | (with_reducible exact blk_drew Ha31.out)); have Yz : u2.heap[Bz]? = some (.cells #[.int .u64 0, .int .u64 0, .int .u64 0, .int .u64 0, .int .u64 0, .int .u64 0] 26 (0, 0)) := blk_call hu2 (by first | (with_reducible exact Hz31.out) | (with_reducible exact blk_drew Hz31.out)); have YB := bel_call hu2 (show Below w.heap.size w _ by first | (with_reducible exact HB31.out) | (with_reducible exact HB31.out.drew)) (by have := HB31.out.size; first | omega | (simp; omega)); clear a0q a1q a2q a3q a4q a5q af0q af1q af2q af3q af4q af5q alq; obtain ⟨a0q, a1q, a2q, a3q, a4q, a5q, af0q, af1q, af2q, af3q, af4q, af5q⟩ := at6 Ya; have alq := lt_blk Ya; have HS32 := Lib.hid (show u2.cell? ⟨Ba, 0, none⟩ = some (.int .u64 s) ∧ u2.cell? ⟨Ba, 2, none⟩ = some (.int .u64 n) from ⟨cell_blk Ya 0 rfl, cell_blk Ya 2 rfl⟩); have Ha32 := Lib.hid Ya; have Hz32 := Lib.hid Yz; have HB32 := Lib.hid YB; clear hu2 YB Ya Yz)
          refine hK.out _ _ (HS32.out) (fun hHeld => ?_)
          clear hK KQ
          try simp only [List.getElem_toArray, List.getElem_cons_succ, List.getElem_cons_zero, Act.put, List.setIfInBounds_toArray, List.set_cons_zero, List.set_cons_succ]
          refine wpAnyH_norm (n := 3) (l := #[true, true, true, true, true, true, true, true, true, true, true, true, false, false, false]) (by kernel_rfl) (by kernel_rfl) ?_
          refine take_list (i := 12) (oi := _) (v := ?_) rfl (by kernel_rfl) (by kernel_rfl) (by kernel_rfl) (fun _ _ _ h => h) (Or.inl ⟨by rfl, ?_⟩) (by assumption) ?_
          rotate_left 1
          · intro v hSw
            (try dsimp only at hSw)
            go_simp
            try with_reducible rfl
          try simp only [List.getElem_toArray, List.getElem_cons_succ, List.getElem_cons_zero, Act.put, List.setIfInBounds_toArray, List.set_cons_zero, List.set_cons_succ]
          refine take_list (i := 13) (oi := _) (v := ?_) rfl (by kernel_rfl) (by kernel_rfl) (by kernel_rfl) (fun _ _ _ h => h) (Or.inl ⟨by rfl, ?_⟩) (by assumption) ?_
          rotate_left 1
          · intro v hSw
            (try dsimp only at hSw)
            go_simp
            try with_reducible rfl
          try simp only [List.getElem_toArray, List.getElem_cons_succ, List.getElem_cons_zero, Act.put, List.setIfInBounds_toArray, List.set_cons_zero, List.set_cons_succ]
          refine wpAnyH_norm (n := 1) (l := #[true, true, true, true, true, true, true, true, true, true, true, true, true, true, false]) (by kernel_rfl) (by kernel_rfl) ?_
          refine wpAnyH_ready (rs := [14]) (by kernel_rfl) (by simp) ?_
          refine (cons_list (o := _) rfl (fun KQ hK => ?_) AllReadyH.nil)
          rw [if_pos (by rfl)]
          go_simp
          refine hK.out _ _ (KT.out _ _ HS32.out) (fun hHeld => ?_)
          clear hK KQ
          try simp only [List.getElem_toArray, List.getElem_cons_succ, List.getElem_cons_zero, Act.put, List.setIfInBounds_toArray, List.set_cons_zero, List.set_cons_succ]
          refine wpAnyH_norm (n := 0) (l := #[true, true, true, true, true, true, true, true, true, true, true, true, true, true, true]) (by kernel_rfl) (by kernel_rfl) ?_
          refine wpAnyH_done (by kernel_rfl) ?_ _
          refine NoPanic.normal ?_
          go_wp2
          go_meet
          refine ⟨?_, ?_, ?_⟩
          · (repeat' (first | (with_reducible exact Ha32.out) | (with_reducible exact heap_alloc_new _ _) | (with_reducible exact blk_new (by first | (simp; done) | omega)) | (with_reducible refine blk_drew ?_) | (with_reducible apply put1_0) | (with_reducible apply put2_0) | (with_reducible apply put2_1) | (with_reducible apply put3_0) | (with_reducible apply put3_1) | (with_reducible apply put3_2) | (with_reducible apply put4_0) | (with_reducible apply put4_1) | (with_reducible apply put4_2) | (with_reducible apply put4_3) | (with_reducible apply put5_0) | (with_reducible apply put5_1) | (with_reducible apply put5_2) | (with_reducible apply put5_3) | (with_reducible apply put5_4) | (with_reducible apply put6_0) | (with_reducible apply put6_1) | (with_reducible apply put6_2) | (with_reducible apply put6_3) | (with_reducible apply put6_4) | (with_reducible apply put6_5) | (with_reducible refine blk_else (by omega) ?_) | (with_reducible refine blk_old ?_)))
          · (repeat' (first | (with_reducible exact Hz32.out) | (with_reducible exact heap_alloc_new _ _) | (with_reducible exact blk_new (by first | (simp; done) | omega)) | (with_reducible refine blk_drew ?_) | (with_reducible apply put1_0) | (with_reducible apply put2_0) | (with_reducible apply put2_1) | (with_reducible apply put3_0) | (with_reducible apply put3_1) | (with_reducible apply put3_2) | (with_reducible apply put4_0) | (with_reducible apply put4_1) | (with_reducible apply put4_2) | (with_reducible apply put4_3) | (with_reducible apply put5_0) | (with_reducible apply put5_1) | (with_reducible apply put5_2) | (with_reducible apply put5_3) | (with_reducible apply put5_4) | (with_reducible apply put6_0) | (with_reducible apply put6_1) | (with_reducible apply put6_2) | (with_reducible apply put6_3) | (with_reducible apply put6_4) | (with_reducible apply put6_5) | (with_reducible refine blk_else (by omega) ?_) | (with_reducible refine blk_old ?_)))
          · (repeat' (first | (with_reducible exact HB32.out) | (with_reducible exact Below.refl _ _) | (with_reducible refine below_drewN _ ?_) | (with_reducible refine Below.drew ?_) | (with_reducible refine Below.setCell ?_ (by first | (simp; done) | omega) _) | (with_reducible refine Below.alloc ?_ (by have := HB32.out.size; simp; omega) _)))
      · rw [if_pos (by rfl)]
        go_wp2_with (go_at_call 83; (with_reducible refine (TA.out _).mono ?_); rintro e u1 ⟨y0, y1, y2, y3, rfl, hy, hu1⟩; have Ya : u1.heap[Ba]? = some (.cells #[.int .u64 s, .int .u64 q, .int .u64 n, .int .u64 f, .int .u64 a, .int .u64 b] 26 (0, 0)) := blk_call hu1 (by first | (with_reducible exact Ha2.out) | (with_reducible exact blk_drew Ha2.out)); have Yz : u1.heap[Bz]? = some (.cells #[.int .u64 0, .int .u64 0, .int .u64 0, .int .u64 0, .int .u64 0, .int .u64 0] 26 (0, 0)) := blk_call hu1 (by first | (with_reducible exact Hz2.out) | (with_reducible exact blk_drew Hz2.out)); have YB := bel_call hu1 (show Below w.heap.size w _ by first | (with_reducible exact HB2.out) | (with_reducible exact HB2.out.drew)) (by have := HB2.out.size; first | omega | (simp; omega)); obtain ⟨a0q, a1q, a2q, a3q, a4q, a5q, af0q, af1q, af2q, af3q, af4q, af5q⟩ := at6 Ya; have alq := lt_blk Ya; have HS31 := Lib.hid (show u1.cell? ⟨Ba, 0, none⟩ = some (.int .u64 s) ∧ u1.cell? ⟨Ba, 2, none⟩ = some (.int .u64 n) from ⟨cell_blk Ya 0 rfl, cell_blk Ya 2 rfl⟩); have Ha31 := Lib.hid Ya; have Hz31 := Lib.hid Yz; have HB31 := Lib.hid YB; clear hu1 YB Ya Yz)
        refine hK.out _ _ (HS31.out) (fun hHeld => ?_)
        clear hK KQ
        try simp only [List.getElem_toArray, List.getElem_cons_succ, List.getElem_cons_zero, Act.put, List.setIfInBounds_toArray, List.set_cons_zero, List.set_cons_succ]
        refine wpAnyH_norm (n := 7) (l := #[true, false, true, true, true, true, true, true, true, false, false, false, false, false, false]) (by kernel_rfl) (by kernel_rfl) ?_
        refine wpAnyH_ready (rs := [1, 9]) (by kernel_rfl) (by simp) ?_
        refine (cons_list (o := _) rfl (fun KQ hK => ?_) (cons_list (o := _) rfl (fun KQ hK => ?_) AllReadyH.nil))
        · rw [if_pos (by rfl)]
          go_simp
          refine hK.out _ _ (HS31.out) (fun hHeld => ?_)
          clear hK KQ
          try simp only [List.getElem_toArray, List.getElem_cons_succ, List.getElem_cons_zero, Act.put, List.setIfInBounds_toArray, List.set_cons_zero, List.set_cons_succ]
          refine wpAnyH_norm (n := 6) (l := #[true, true, true, true, true, true, true, true, true, false, false, false, false, false, false]) (by kernel_rfl) (by kernel_rfl) ?_
          refine wpAnyH_ready (rs := [9]) (by kernel_rfl) (by simp) ?_
          refine (cons_list (o := _) rfl (fun KQ hK => ?_) AllReadyH.nil)
          rw [if_pos (by rfl)]
          go_simp
          refine hK.out _ _ (HS31.out) (fun hHeld => ?_)
          clear hK KQ
          try simp only [List.getElem_toArray, List.getElem_cons_succ, List.getElem_cons_zero, Act.put, List.setIfInBounds_toArray, List.set_cons_zero, List.set_cons_succ]
          refine wpAnyH_norm (n := 5) (l := #[true, true, true, true, true, true, true, true, true, true, false, false, false, false, false]) (by kernel_rfl) (by kernel_rfl) ?_
          refine take_list (i := 10) (oi := _) (v := ?_) rfl (by kernel_rfl) (by kernel_rfl) (by kernel_rfl) (fun _ _ _ h => h) (Or.inl ⟨by rfl, ?_⟩) (by assumption) ?_
          rotate_left 1
          · intro v hSw
            (try dsimp only at hSw)
            go_simp
            try with_reducible rfl
          try simp only [List.getElem_toArray, List.getElem_cons_succ, List.getElem_cons_zero, Act.put, List.setIfInBounds_toArray, List.set_cons_zero, List.set_cons_succ]
          refine wpAnyH_norm (n := 4) (l := #[true, true, true, true, true, true, true, true, true, true, true, false, false, false, false]) (by kernel_rfl) (by kernel_rfl) ?_
          refine wpAnyH_ready (rs := [11]) (by kernel_rfl) (by simp) ?_
          refine (cons_list (o := _) rfl (fun KQ hK => ?_) AllReadyH.nil)
          rw [if_pos (by rfl)]
          go_wp2_with (go_at_call 84; (with_reducible refine (LA.out _ _ _ _ hy _).mono ?_); rintro e u2 ⟨rfl, hu2⟩; have Ya : u2.heap[Ba]? = some (.cells #[.int .u64 s, .int .u64 q, .int .u64 n, .int .u64 f, .int .u64 a, .int .u64 b] 26 (0, 0)) := blk_call hu2 (by first | (with_reducible exact Ha31.out) | (with_reducible exact blk_drew Ha31.out)); have Yz : u2.heap[Bz]? = some (.cells #[.int .u64 0, .int .u64 0, .int .u64 0, .int .u64 0, .int .u64 0, .int .u64 0] 26 (0, 0)) := blk_call hu2 (by first | (with_reducible exact Hz31.out) | (with_reducible exact blk_drew Hz31.out)); have YB := bel_call hu2 (show Below w.heap.size w _ by first | (with_reducible exact HB31.out) | (with_reducible exact HB31.out.drew)) (by have := HB31.out.size; first | omega | (simp; omega)); clear a0q a1q a2q a3q a4q a5q af0q af1q af2q af3q af4q af5q alq; obtain ⟨a0q, a1q, a2q, a3q, a4q, a5q, af0q, af1q, af2q, af3q, af4q, af5q⟩ := at6 Ya; have alq := lt_blk Ya; have HS32 := Lib.hid (show u2.cell? ⟨Ba, 0, none⟩ = some (.int .u64 s) ∧ u2.cell? ⟨Ba, 2, none⟩ = some (.int .u64 n) from ⟨cell_blk Ya 0 rfl, cell_blk Ya 2 rfl⟩); have Ha32 := Lib.hid Ya; have Hz32 := Lib.hid Yz; have HB32 := Lib.hid YB; clear hu2 YB Ya Yz)
          refine hK.out _ _ (HS32.out) (fun hHeld => ?_)
          clear hK KQ
          try simp only [List.getElem_toArray, List.getElem_cons_succ, List.getElem_cons_zero, Act.put, List.setIfInBounds_toArray, List.set_cons_zero, List.set_cons_succ]
          refine wpAnyH_norm (n := 3) (l := #[true, true, true, true, true, true, true, true, true, true, true, true, false, false, false]) (by kernel_rfl) (by kernel_rfl) ?_
          refine take_list (i := 12) (oi := _) (v := ?_) rfl (by kernel_rfl) (by kernel_rfl) (by kernel_rfl) (fun _ _ _ h => h) (Or.inl ⟨by rfl, ?_⟩) (by assumption) ?_
          rotate_left 1
          · intro v hSw
            (try dsimp only at hSw)
            go_simp
            try with_reducible rfl
          try simp only [List.getElem_toArray, List.getElem_cons_succ, List.getElem_cons_zero, Act.put, List.setIfInBounds_toArray, List.set_cons_zero, List.set_cons_succ]
          refine take_list (i := 13) (oi := _) (v := ?_) rfl (by kernel_rfl) (by kernel_rfl) (by kernel_rfl) (fun _ _ _ h => h) (Or.inl ⟨by rfl, ?_⟩) (by assumption) ?_
          rotate_left 1
          · intro v hSw
            (try dsimp only at hSw)
            go_simp
            try with_reducible rfl
          try simp only [List.getElem_toArray, List.getElem_cons_succ, List.getElem_cons_zero, Act.put, List.setIfInBounds_toArray, List.set_cons_zero, List.set_cons_succ]
          refine wpAnyH_norm (n := 1) (l := #[true, true, true, true, true, true, true, true, true, true, true, true, true, true, false]) (by kernel_rfl) (by kernel_rfl) ?_
          refine wpAnyH_ready (rs := [14]) (by kernel_rfl) (by simp) ?_
          refine (cons_list (o := _) rfl (fun KQ hK => ?_) AllReadyH.nil)
          rw [if_pos (by rfl)]
          go_simp
          refine hK.out _ _ (KT.out _ _ HS32.out) (fun hHeld => ?_)
          clear hK KQ
          try simp only [List.getElem_toArray, List.getElem_cons_succ, List.getElem_cons_zero, Act.put, List.setIfInBounds_toArray, List.set_cons_zero, List.set_cons_succ]
          refine wpAnyH_norm (n := 0) (l := #[true, true, true, true, true, true, true, true, true, true, true, true, true, true, true]) (by kernel_rfl) (by kernel_rfl) ?_
          refine wpAnyH_done (by kernel_rfl) ?_ _
          refine NoPanic.normal ?_
          go_wp2
          go_meet
          refine ⟨?_, ?_, ?_⟩
          · (repeat' (first | (with_reducible exact Ha32.out) | (with_reducible exact heap_alloc_new _ _) | (with_reducible exact blk_new (by first | (simp; done) | omega)) | (with_reducible refine blk_drew ?_) | (with_reducible apply put1_0) | (with_reducible apply put2_0) | (with_reducible apply put2_1) | (with_reducible apply put3_0) | (with_reducible apply put3_1) | (with_reducible apply put3_2) | (with_reducible apply put4_0) | (with_reducible apply put4_1) | (with_reducible apply put4_2) | (with_reducible apply put4_3) | (with_reducible apply put5_0) | (with_reducible apply put5_1) | (with_reducible apply put5_2) | (with_reducible apply put5_3) | (with_reducible apply put5_4) | (with_reducible apply put6_0) | (with_reducible apply put6_1) | (with_reducible apply put6_2) | (with_reducible apply put6_3) | (with_reducible apply put6_4) | (with_reducible apply put6_5) | (with_reducible refine blk_else (by omega) ?_) | (with_reducible refine blk_old ?_)))
          · (repeat' (first | (with_reducible exact Hz32.out) | (with_reducible exact heap_alloc_new _ _) | (with_reducible exact blk_new (by first | (simp; done) | omega)) | (with_reducible refine blk_drew ?_) | (with_reducible apply put1_0) | (with_reducible apply put2_0) | (with_reducible apply put2_1) | (with_reducible apply put3_0) | (with_reducible apply put3_1) | (with_reducible apply put3_2) | (with_reducible apply put4_0) | (with_reducible apply put4_1) | (with_reducible apply put4_2) | (with_reducible apply put4_3) | (with_reducible apply put5_0) | (with_reducible apply put5_1) | (with_reducible apply put5_2) | (with_reducible apply put5_3) | (with_reducible apply put5_4) | (with_reducible apply put6_0) | (with_reducible apply put6_1) | (with_reducible apply put6_2) | (with_reducible apply put6_3) | (with_reducible apply put6_4) | (with_reducible apply put6_5) | (with_reducible refine blk_else (by omega) ?_) | (with_reducible refine blk_old ?_)))
          · (repeat' (first | (with_reducible exact HB32.out) | (with_reducible exact Below.refl _ _) | (with_reducible refine below_drewN _ ?_) | (with_reducible refine Below.drew ?_) | (with_reducible refine Below.setCell ?_ (by first | (simp; done) | omega) _) | (with_reducible refine Below.alloc ?_ (by have := HB32.out.size; simp; omega) _)))
        · rw [if_pos (by rfl)]
          go_simp
          refine hK.out _ _ (HS31.out) (fun hHeld => ?_)
          clear hK KQ
          try simp only [List.getElem_toArray, List.getElem_cons_succ, List.getElem_cons_zero, Act.put, List.setIfInBounds_toArray, List.set_cons_zero, List.set_cons_succ]
          refine wpAnyH_norm (n := 6) (l := #[true, false, true, true, true, true, true, true, true, true, false, false, false, false, false]) (by kernel_rfl) (by kernel_rfl) ?_
          refine take_list (i := 10) (oi := _) (v := ?_) rfl (by kernel_rfl) (by kernel_rfl) (by kernel_rfl) (fun _ _ _ h => h) (Or.inl ⟨by rfl, ?_⟩) (by assumption) ?_
          rotate_left 1
          · intro v hSw
            (try dsimp only at hSw)
            go_simp
            try with_reducible rfl
          try simp only [List.getElem_toArray, List.getElem_cons_succ, List.getElem_cons_zero, Act.put, List.setIfInBounds_toArray, List.set_cons_zero, List.set_cons_succ]
          refine wpAnyH_norm (n := 5) (l := #[true, false, true, true, true, true, true, true, true, true, true, false, false, false, false]) (by kernel_rfl) (by kernel_rfl) ?_
          refine wpAnyH_ready (rs := [1, 11]) (by kernel_rfl) (by simp) ?_
          refine (cons_list (o := _) rfl (fun KQ hK => ?_) (cons_list (o := _) rfl (fun KQ hK => ?_) AllReadyH.nil))
          · rw [if_pos (by rfl)]
            go_simp
            refine hK.out _ _ (HS31.out) (fun hHeld => ?_)
            clear hK KQ
            try simp only [List.getElem_toArray, List.getElem_cons_succ, List.getElem_cons_zero, Act.put, List.setIfInBounds_toArray, List.set_cons_zero, List.set_cons_succ]
            refine wpAnyH_norm (n := 4) (l := #[true, true, true, true, true, true, true, true, true, true, true, false, false, false, false]) (by kernel_rfl) (by kernel_rfl) ?_
            refine wpAnyH_ready (rs := [11]) (by kernel_rfl) (by simp) ?_
            refine (cons_list (o := _) rfl (fun KQ hK => ?_) AllReadyH.nil)
            rw [if_pos (by rfl)]
            go_wp2_with (go_at_call 84; (with_reducible refine (LA.out _ _ _ _ hy _).mono ?_); rintro e u2 ⟨rfl, hu2⟩; have Ya : u2.heap[Ba]? = some (.cells #[.int .u64 s, .int .u64 q, .int .u64 n, .int .u64 f, .int .u64 a, .int .u64 b] 26 (0, 0)) := blk_call hu2 (by first | (with_reducible exact Ha31.out) | (with_reducible exact blk_drew Ha31.out)); have Yz : u2.heap[Bz]? = some (.cells #[.int .u64 0, .int .u64 0, .int .u64 0, .int .u64 0, .int .u64 0, .int .u64 0] 26 (0, 0)) := blk_call hu2 (by first | (with_reducible exact Hz31.out) | (with_reducible exact blk_drew Hz31.out)); have YB := bel_call hu2 (show Below w.heap.size w _ by first | (with_reducible exact HB31.out) | (with_reducible exact HB31.out.drew)) (by have := HB31.out.size; first | omega | (simp; omega)); clear a0q a1q a2q a3q a4q a5q af0q af1q af2q af3q af4q af5q alq; obtain ⟨a0q, a1q, a2q, a3q, a4q, a5q, af0q, af1q, af2q, af3q, af4q, af5q⟩ := at6 Ya; have alq := lt_blk Ya; have HS32 := Lib.hid (show u2.cell? ⟨Ba, 0, none⟩ = some (.int .u64 s) ∧ u2.cell? ⟨Ba, 2, none⟩ = some (.int .u64 n) from ⟨cell_blk Ya 0 rfl, cell_blk Ya 2 rfl⟩); have Ha32 := Lib.hid Ya; have Hz32 := Lib.hid Yz; have HB32 := Lib.hid YB; clear hu2 YB Ya Yz)
            refine hK.out _ _ (HS32.out) (fun hHeld => ?_)
            clear hK KQ
            try simp only [List.getElem_toArray, List.getElem_cons_succ, List.getElem_cons_zero, Act.put, List.setIfInBounds_toArray, List.set_cons_zero, List.set_cons_succ]
            refine wpAnyH_norm (n := 3) (l := #[true, true, true, true, true, true, true, true, true, true, true, true, false, false, false]) (by kernel_rfl) (by kernel_rfl) ?_
            refine take_list (i := 12) (oi := _) (v := ?_) rfl (by kernel_rfl) (by kernel_rfl) (by kernel_rfl) (fun _ _ _ h => h) (Or.inl ⟨by rfl, ?_⟩) (by assumption) ?_
            rotate_left 1
            · intro v hSw
              (try dsimp only at hSw)
              go_simp
              try with_reducible rfl
            try simp only [List.getElem_toArray, List.getElem_cons_succ, List.getElem_cons_zero, Act.put, List.setIfInBounds_toArray, List.set_cons_zero, List.set_cons_succ]
            refine take_list (i := 13) (oi := _) (v := ?_) rfl (by kernel_rfl) (by kernel_rfl) (by kernel_rfl) (fun _ _ _ h => h) (Or.inl ⟨by rfl, ?_⟩) (by assumption) ?_
            rotate_left 1
            · intro v hSw
              (try dsimp only at hSw)
              go_simp
              try with_reducible rfl
            try simp only [List.getElem_toArray, List.getElem_cons_succ, List.getElem_cons_zero, Act.put, List.setIfInBounds_toArray, List.set_cons_zero, List.set_cons_succ]
            refine wpAnyH_norm (n := 1) (l := #[true, true, true, true, true, true, true, true, true, true, true, true, true, true, false]) (by kernel_rfl) (by kernel_rfl) ?_
            refine wpAnyH_ready (rs := [14]) (by kernel_rfl) (by simp) ?_
            refine (cons_list (o := _) rfl (fun KQ hK => ?_) AllReadyH.nil)
            rw [if_pos (by rfl)]
            go_simp
            refine hK.out _ _ (KT.out _ _ HS32.out) (fun hHeld => ?_)
            clear hK KQ
            try simp only [List.getElem_toArray, List.getElem_cons_succ, List.getElem_cons_zero, Act.put, List.setIfInBounds_toArray, List.set_cons_zero, List.set_cons_succ]
            refine wpAnyH_norm (n := 0) (l := #[true, true, true, true, true, true, true, true, true, true, true, true, true, true, true]) (by kernel_rfl) (by kernel_rfl) ?_
            refine wpAnyH_done (by kernel_rfl) ?_ _
            refine NoPanic.normal ?_
            go_wp2
            go_meet
            refine ⟨?_, ?_, ?_⟩
            · (repeat' (first | (with_reducible exact Ha32.out) | (with_reducible exact heap_alloc_new _ _) | (with_reducible exact blk_new (by first | (simp; done) | omega)) | (with_reducible refine blk_drew ?_) | (with_reducible apply put1_0) | (with_reducible apply put2_0) | (with_reducible apply put2_1) | (with_reducible apply put3_0) | (with_reducible apply put3_1) | (with_reducible apply put3_2) | (with_reducible apply put4_0) | (with_reducible apply put4_1) | (with_reducible apply put4_2) | (with_reducible apply put4_3) | (with_reducible apply put5_0) | (with_reducible apply put5_1) | (with_reducible apply put5_2) | (with_reducible apply put5_3) | (with_reducible apply put5_4) | (with_reducible apply put6_0) | (with_reducible apply put6_1) | (with_reducible apply put6_2) | (with_reducible apply put6_3) | (with_reducible apply put6_4) | (with_reducible apply put6_5) | (with_reducible refine blk_else (by omega) ?_) | (with_reducible refine blk_old ?_)))
            · (repeat' (first | (with_reducible exact Hz32.out) | (with_reducible exact heap_alloc_new _ _) | (with_reducible exact blk_new (by first | (simp; done) | omega)) | (with_reducible refine blk_drew ?_) | (with_reducible apply put1_0) | (with_reducible apply put2_0) | (with_reducible apply put2_1) | (with_reducible apply put3_0) | (with_reducible apply put3_1) | (with_reducible apply put3_2) | (with_reducible apply put4_0) | (with_reducible apply put4_1) | (with_reducible apply put4_2) | (with_reducible apply put4_3) | (with_reducible apply put5_0) | (with_reducible apply put5_1) | (with_reducible apply put5_2) | (with_reducible apply put5_3) | (with_reducible apply put5_4) | (with_reducible apply put6_0) | (with_reducible apply put6_1) | (with_reducible apply put6_2) | (with_reducible apply put6_3) | (with_reducible apply put6_4) | (with_reducible apply put6_5) | (with_reducible refine blk_else (by omega) ?_) | (with_reducible refine blk_old ?_)))
            · (repeat' (first | (with_reducible exact HB32.out) | (with_reducible exact Below.refl _ _) | (with_reducible refine below_drewN _ ?_) | (with_reducible refine Below.drew ?_) | (with_reducible refine Below.setCell ?_ (by first | (simp; done) | omega) _) | (with_reducible refine Below.alloc ?_ (by have := HB32.out.size; simp; omega) _)))
          · rw [if_pos (by rfl)]
            go_wp2_with (go_at_call 84; (with_reducible refine (LA.out _ _ _ _ hy _).mono ?_); rintro e u2 ⟨rfl, hu2⟩; have Ya : u2.heap[Ba]? = some (.cells #[.int .u64 s, .int .u64 q, .int .u64 n, .int .u64 f, .int .u64 a, .int .u64 b] 26 (0, 0)) := blk_call hu2 (by first | (with_reducible exact Ha31.out) | (with_reducible exact blk_drew Ha31.out)); have Yz : u2.heap[Bz]? = some (.cells #[.int .u64 0, .int .u64 0, .int .u64 0, .int .u64 0, .int .u64 0, .int .u64 0] 26 (0, 0)) := blk_call hu2 (by first | (with_reducible exact Hz31.out) | (with_reducible exact blk_drew Hz31.out)); have YB := bel_call hu2 (show Below w.heap.size w _ by first | (with_reducible exact HB31.out) | (with_reducible exact HB31.out.drew)) (by have := HB31.out.size; first | omega | (simp; omega)); clear a0q a1q a2q a3q a4q a5q af0q af1q af2q af3q af4q af5q alq; obtain ⟨a0q, a1q, a2q, a3q, a4q, a5q, af0q, af1q, af2q, af3q, af4q, af5q⟩ := at6 Ya; have alq := lt_blk Ya; have HS32 := Lib.hid (show u2.cell? ⟨Ba, 0, none⟩ = some (.int .u64 s) ∧ u2.cell? ⟨Ba, 2, none⟩ = some (.int .u64 n) from ⟨cell_blk Ya 0 rfl, cell_blk Ya 2 rfl⟩); have Ha32 := Lib.hid Ya; have Hz32 := Lib.hid Yz; have HB32 := Lib.hid YB; clear hu2 YB Ya Yz)
            refine hK.out _ _ (HS32.out) (fun hHeld => ?_)
            clear hK KQ
            try simp only [List.getElem_toArray, List.getElem_cons_succ, List.getElem_cons_zero, Act.put, List.setIfInBounds_toArray, List.set_cons_zero, List.set_cons_succ]
            refine wpAnyH_norm (n := 4) (l := #[true, false, true, true, true, true, true, true, true, true, true, true, false, false, false]) (by kernel_rfl) (by kernel_rfl) ?_
            refine wpAnyH_ready (rs := [1]) (by kernel_rfl) (by simp) ?_
            refine (cons_list (o := _) rfl (fun KQ hK => ?_) AllReadyH.nil)
            rw [if_pos (by rfl)]
            go_simp
            refine hK.out _ _ (HS32.out) (fun hHeld => ?_)
            clear hK KQ
            try simp only [List.getElem_toArray, List.getElem_cons_succ, List.getElem_cons_zero, Act.put, List.setIfInBounds_toArray, List.set_cons_zero, List.set_cons_succ]
            refine wpAnyH_norm (n := 3) (l := #[true, true, true, true, true, true, true, true, true, true, true, true, false, false, false]) (by kernel_rfl) (by kernel_rfl) ?_
            refine take_list (i := 12) (oi := _) (v := ?_) rfl (by kernel_rfl) (by kernel_rfl) (by kernel_rfl) (fun _ _ _ h => h) (Or.inl ⟨by rfl, ?_⟩) (by assumption) ?_
            rotate_left 1
            · intro v hSw
              (try dsimp only at hSw)
              go_simp
              try with_reducible rfl
            try simp only [List.getElem_toArray, List.getElem_cons_succ, List.getElem_cons_zero, Act.put, List.setIfInBounds_toArray, List.set_cons_zero, List.set_cons_succ]
            refine take_list (i := 13) (oi := _) (v := ?_) rfl (by kernel_rfl) (by kernel_rfl) (by kernel_rfl) (fun _ _ _ h => h) (Or.inl ⟨by rfl, ?_⟩) (by assumption) ?_
            rotate_left 1
            · intro v hSw
              (try dsimp only at hSw)
              go_simp
              try with_reducible rfl
            try simp only [List.getElem_toArray, List.getElem_cons_succ, List.getElem_cons_zero, Act.put, List.setIfInBounds_toArray, List.set_cons_zero, List.set_cons_succ]
            refine wpAnyH_norm (n := 1) (l := #[true, true, true, true, true, true, true, true, true, true, true, true, true, true, false]) (by kernel_rfl) (by kernel_rfl) ?_
            refine wpAnyH_ready (rs := [14]) (by kernel_rfl) (by simp) ?_
            refine (cons_list (o := _) rfl (fun KQ hK => ?_) AllReadyH.nil)
            rw [if_pos (by rfl)]
            go_simp
            refine hK.out _ _ (KT.out _ _ HS32.out) (fun hHeld => ?_)
            clear hK KQ
            try simp only [List.getElem_toArray, List.getElem_cons_succ, List.getElem_cons_zero, Act.put, List.setIfInBounds_toArray, List.set_cons_zero, List.set_cons_succ]
            refine wpAnyH_norm (n := 0) (l := #[true, true, true, true, true, true, true, true, true, true, true, true, true, true, true]) (by kernel_rfl) (by kernel_rfl) ?_
            refine wpAnyH_done (by kernel_rfl) ?_ _
            refine NoPanic.normal ?_
            go_wp2
            go_meet
            refine ⟨?_, ?_, ?_⟩
            · (repeat' (first | (with_reducible exact Ha32.out) | (with_reducible exact heap_alloc_new _ _) | (with_reducible exact blk_new (by first | (simp; done) | omega)) | (with_reducible refine blk_drew ?_) | (with_reducible apply put1_0) | (with_reducible apply put2_0) | (with_reducible apply put2_1) | (with_reducible apply put3_0) | (with_reducible apply put3_1) | (with_reducible apply put3_2) | (with_reducible apply put4_0) | (with_reducible apply put4_1) | (with_reducible apply put4_2) | (with_reducible apply put4_3) | (with_reducible apply put5_0) | (with_reducible apply put5_1) | (with_reducible apply put5_2) | (with_reducible apply put5_3) | (with_reducible apply put5_4) | (with_reducible apply put6_0) | (with_reducible apply put6_1) | (with_reducible apply put6_2) | (with_reducible apply put6_3) | (with_reducible apply put6_4) | (with_reducible apply put6_5) | (with_reducible refine blk_else (by omega) ?_) | (with_reducible refine blk_old ?_)))
            · (repeat' (first | (with_reducible exact Hz32.out) | (with_reducible exact heap_alloc_new _ _) | (with_reducible exact blk_new (by first | (simp; done) | omega)) | (with_reducible refine blk_drew ?_) | (with_reducible apply put1_0) | (with_reducible apply put2_0) | (with_reducible apply put2_1) | (with_reducible apply put3_0) | (with_reducible apply put3_1) | (with_reducible apply put3_2) | (with_reducible apply put4_0) | (with_reducible apply put4_1) | (with_reducible apply put4_2) | (with_reducible apply put4_3) | (with_reducible apply put5_0) | (with_reducible apply put5_1) | (with_reducible apply put5_2) | (with_reducible apply put5_3) | (with_reducible apply put5_4) | (with_reducible apply put6_0) | (with_reducible apply put6_1) | (with_reducible apply put6_2) | (with_reducible apply put6_3) | (with_reducible apply put6_4) | (with_reducible apply put6_5) | (with_reducible refine blk_else (by omega) ?_) | (with_reducible refine blk_old ?_)))
            · (repeat' (first | (with_reducible exact HB32.out) | (with_reducible exact Below.refl _ _) | (with_reducible refine below_drewN _ ?_) | (with_reducible refine Below.drew ?_) | (with_reducible refine Below.setCell ?_ (by first | (simp; done) | omega) _) | (with_reducible refine Below.alloc ?_ (by have := HB32.out.size; simp; omega) _)))
      · rw [if_pos (by rfl)]
        go_simp
        refine hK.out _ _ (⟨a0_, a2_⟩) (fun hHeld => ?_)
        clear hK KQ
        try simp only [List.getElem_toArray, List.getElem_cons_succ, List.getElem_cons_zero, Act.put, List.setIfInBounds_toArray, List.set_cons_zero, List.set_cons_succ]
        refine wpAnyH_norm (n := 7) (l := #[true, false, true, true, true, false, true, true, true, true, false, false, false, false, false]) (by kernel_rfl) (by kernel_rfl) ?_
        refine take_list (i := 10) (oi := _) (v := ?_) rfl (by kernel_rfl) (by kernel_rfl) (by kernel_rfl) (fun _ _ _ h => h) (Or.inl ⟨by rfl, ?_⟩) (by assumption) ?_
        rotate_left 1
        · intro v hSw
          (try dsimp only at hSw)
          go_simp
          try with_reducible rfl
        try simp only [List.getElem_toArray, List.getElem_cons_succ, List.getElem_cons_zero, Act.put, List.setIfInBounds_toArray, List.set_cons_zero, List.set_cons_succ]
        refine wpAnyH_norm (n := 6) (l := #[true, false, true, true, true, false, true, true, true, true, true, false, false, false, false]) (by kernel_rfl) (by kernel_rfl) ?_
        refine wpAnyH_ready (rs := [1, 5]) (by kernel_rfl) (by simp) ?_
        refine (cons_list (o := _) rfl (fun KQ hK => ?_) (cons_list (o := _) rfl (fun KQ hK => ?_) AllReadyH.nil))
        · rw [if_pos (by rfl)]
          go_simp
          refine hK.out _ _ (⟨a0_, a2_⟩) (fun hHeld => ?_)
          clear hK KQ
          try simp only [List.getElem_toArray, List.getElem_cons_succ, List.getElem_cons_zero, Act.put, List.setIfInBounds_toArray, List.set_cons_zero, List.set_cons_succ]
          refine wpAnyH_norm (n := 5) (l := #[true, true, true, true, true, false, true, true, true, true, true, false, false, false, false]) (by kernel_rfl) (by kernel_rfl) ?_
          refine wpAnyH_ready (rs := [5]) (by kernel_rfl) (by simp) ?_
          refine (cons_list (o := _) rfl (fun KQ hK => ?_) AllReadyH.nil)
          rw [if_pos (by rfl)]
          go_wp2_with (go_at_call 83; (with_reducible refine (TA.out _).mono ?_); rintro e u1 ⟨y0, y1, y2, y3, rfl, hy, hu1⟩; have Ya : u1.heap[Ba]? = some (.cells #[.int .u64 s, .int .u64 q, .int .u64 n, .int .u64 f, .int .u64 a, .int .u64 b] 26 (0, 0)) := blk_call hu1 (by first | (with_reducible exact Ha2.out) | (with_reducible exact blk_drew Ha2.out)); have Yz : u1.heap[Bz]? = some (.cells #[.int .u64 0, .int .u64 0, .int .u64 0, .int .u64 0, .int .u64 0, .int .u64 0] 26 (0, 0)) := blk_call hu1 (by first | (with_reducible exact Hz2.out) | (with_reducible exact blk_drew Hz2.out)); have YB := bel_call hu1 (show Below w.heap.size w _ by first | (with_reducible exact HB2.out) | (with_reducible exact HB2.out.drew)) (by have := HB2.out.size; first | omega | (simp; omega)); obtain ⟨a0q, a1q, a2q, a3q, a4q, a5q, af0q, af1q, af2q, af3q, af4q, af5q⟩ := at6 Ya; have alq := lt_blk Ya; have HS31 := Lib.hid (show u1.cell? ⟨Ba, 0, none⟩ = some (.int .u64 s) ∧ u1.cell? ⟨Ba, 2, none⟩ = some (.int .u64 n) from ⟨cell_blk Ya 0 rfl, cell_blk Ya 2 rfl⟩); have Ha31 := Lib.hid Ya; have Hz31 := Lib.hid Yz; have HB31 := Lib.hid YB; clear hu1 YB Ya Yz)
          refine hK.out _ _ (HS31.out) (fun hHeld => ?_)
          clear hK KQ
          try simp only [List.getElem_toArray, List.getElem_cons_succ, List.getElem_cons_zero, Act.put, List.setIfInBounds_toArray, List.set_cons_zero, List.set_cons_succ]
          refine wpAnyH_norm (n := 4) (l := #[true, true, true, true, true, true, true, true, true, true, true, false, false, false, false]) (by kernel_rfl) (by kernel_rfl) ?_
          refine wpAnyH_ready (rs := [11]) (by kernel_rfl) (by simp) ?_
          refine (cons_list (o := _) rfl (fun KQ hK => ?_) AllReadyH.nil)
          rw [if_pos (by rfl)]
          go_wp2_with (go_at_call 84; (with_reducible refine (LA.out _ _ _ _ hy _).mono ?_); rintro e u2 ⟨rfl, hu2⟩; have Ya : u2.heap[Ba]? = some (.cells #[.int .u64 s, .int .u64 q, .int .u64 n, .int .u64 f, .int .u64 a, .int .u64 b] 26 (0, 0)) := blk_call hu2 (by first | (with_reducible exact Ha31.out) | (with_reducible exact blk_drew Ha31.out)); have Yz : u2.heap[Bz]? = some (.cells #[.int .u64 0, .int .u64 0, .int .u64 0, .int .u64 0, .int .u64 0, .int .u64 0] 26 (0, 0)) := blk_call hu2 (by first | (with_reducible exact Hz31.out) | (with_reducible exact blk_drew Hz31.out)); have YB := bel_call hu2 (show Below w.heap.size w _ by first | (with_reducible exact HB31.out) | (with_reducible exact HB31.out.drew)) (by have := HB31.out.size; first | omega | (simp; omega)); clear a0q a1q a2q a3q a4q a5q af0q af1q af2q af3q af4q af5q alq; obtain ⟨a0q, a1q, a2q, a3q, a4q, a5q, af0q, af1q, af2q, af3q, af4q, af5q⟩ := at6 Ya; have alq := lt_blk Ya; have HS32 := Lib.hid (show u2.cell? ⟨Ba, 0, none⟩ = some (.int .u64 s) ∧ u2.cell? ⟨Ba, 2, none⟩ = some (.int .u64 n) from ⟨cell_blk Ya 0 rfl, cell_blk Ya 2 rfl⟩); have Ha32 := Lib.hid Ya; have Hz32 := Lib.hid Yz; have HB32 := Lib.hid YB; clear hu2 YB Ya Yz)
          refine hK.out _ _ (HS32.out) (fun hHeld => ?_)
          clear hK KQ
          try simp only [List.getElem_toArray, List.getElem_cons_succ, List.getElem_cons_zero, Act.put, List.setIfInBounds_toArray, List.set_cons_zero, List.set_cons_succ]
          refine wpAnyH_norm (n := 3) (l := #[true, true, true, true, true, true, true, true, true, true, true, true, false, false, false]) (by kernel_rfl) (by kernel_rfl) ?_
          refine take_list (i := 12) (oi := _) (v := ?_) rfl (by kernel_rfl) (by kernel_rfl) (by kernel_rfl) (fun _ _ _ h => h) (Or.inl ⟨by rfl, ?_⟩) (by assumption) ?_
          rotate_left 1
          · intro v hSw
            (try dsimp only at hSw)
            go_simp
            try with_reducible rfl
          try simp only [List.getElem_toArray, List.getElem_cons_succ, List.getElem_cons_zero, Act.put, List.setIfInBounds_toArray, List.set_cons_zero, List.set_cons_succ]
          refine take_list (i := 13) (oi := _) (v := ?_) rfl (by kernel_rfl) (by kernel_rfl) (by kernel_rfl) (fun _ _ _ h => h) (Or.inl ⟨by rfl, ?_⟩) (by assumption) ?_
          rotate_left 1
          · intro v hSw
            (try dsimp only at hSw)
            go_simp
            try with_reducible rfl
          try simp only [List.getElem_toArray, List.getElem_cons_succ, List.getElem_cons_zero, Act.put, List.setIfInBounds_toArray, List.set_cons_zero, List.set_cons_succ]
          refine wpAnyH_norm (n := 1) (l := #[true, true, true, true, true, true, true, true, true, true, true, true, true, true, false]) (by kernel_rfl) (by kernel_rfl) ?_
          refine wpAnyH_ready (rs := [14]) (by kernel_rfl) (by simp) ?_
          refine (cons_list (o := _) rfl (fun KQ hK => ?_) AllReadyH.nil)
          rw [if_pos (by rfl)]
          go_simp
          refine hK.out _ _ (KT.out _ _ HS32.out) (fun hHeld => ?_)
          clear hK KQ
          try simp only [List.getElem_toArray, List.getElem_cons_succ, List.getElem_cons_zero, Act.put, List.setIfInBounds_toArray, List.set_cons_zero, List.set_cons_succ]
          refine wpAnyH_norm (n := 0) (l := #[true, true, true, true, true, true, true, true, true, true, true, true, true, true, true]) (by kernel_rfl) (by kernel_rfl) ?_
          refine wpAnyH_done (by kernel_rfl) ?_ _
          refine NoPanic.normal ?_
          go_wp2
          go_meet
          refine ⟨?_, ?_, ?_⟩
          · (repeat' (first | (with_reducible exact Ha32.out) | (with_reducible exact heap_alloc_new _ _) | (with_reducible exact blk_new (by first | (simp; done) | omega)) | (with_reducible refine blk_drew ?_) | (with_reducible apply put1_0) | (with_reducible apply put2_0) | (with_reducible apply put2_1) | (with_reducible apply put3_0) | (with_reducible apply put3_1) | (with_reducible apply put3_2) | (with_reducible apply put4_0) | (with_reducible apply put4_1) | (with_reducible apply put4_2) | (with_reducible apply put4_3) | (with_reducible apply put5_0) | (with_reducible apply put5_1) | (with_reducible apply put5_2) | (with_reducible apply put5_3) | (with_reducible apply put5_4) | (with_reducible apply put6_0) | (with_reducible apply put6_1) | (with_reducible apply put6_2) | (with_reducible apply put6_3) | (with_reducible apply put6_4) | (with_reducible apply put6_5) | (with_reducible refine blk_else (by omega) ?_) | (with_reducible refine blk_old ?_)))
          · (repeat' (first | (with_reducible exact Hz32.out) | (with_reducible exact heap_alloc_new _ _) | (with_reducible exact blk_new (by first | (simp; done) | omega)) | (with_reducible refine blk_drew ?_) | (with_reducible apply put1_0) | (with_reducible apply put2_0) | (with_reducible apply put2_1) | (with_reducible apply put3_0) | (with_reducible apply put3_1) | (with_reducible apply put3_2) | (with_reducible apply put4_0) | (with_reducible apply put4_1) | (with_reducible apply put4_2) | (with_reducible apply put4_3) | (with_reducible apply put5_0) | (with_reducible apply put5_1) | (with_reducible apply put5_2) | (with_reducible apply put5_3) | (with_reducible apply put5_4) | (with_reducible apply put6_0) | (with_reducible apply put6_1) | (with_reducible apply put6_2) | (with_reducible apply put6_3) | (with_reducible apply put6_4) | (with_reducible apply put6_5) | (with_reducible refine blk_else (by omega) ?_) | (with_reducible refine blk_old ?_)))
          · (repeat' (first | (with_reducible exact HB32.out) | (with_reducible exact Below.refl _ _) | (with_reducible refine below_drewN _ ?_) | (with_reducible refine Below.drew ?_) | (with_reducible refine Below.setCell ?_ (by first | (simp; done) | omega) _) | (with_reducible refine Below.alloc ?_ (by have := HB32.out.size; simp; omega) _)))
        · rw [if_pos (by rfl)]
          go_wp2_with (go_at_call 83; (with_reducible refine (TA.out _).mono ?_); rintro e u1 ⟨y0, y1, y2, y3, rfl, hy, hu1⟩; have Ya : u1.heap[Ba]? = some (.cells #[.int .u64 s, .int .u64 q, .int .u64 n, .int .u64 f, .int .u64 a, .int .u64 b] 26 (0, 0)) := blk_call hu1 (by first | (with_reducible exact Ha2.out) | (with_reducible exact blk_drew Ha2.out)); have Yz : u1.heap[Bz]? = some (.cells #[.int .u64 0, .int .u64 0, .int .u64 0, .int .u64 0, .int .u64 0, .int .u64 0] 26 (0, 0)) := blk_call hu1 (by first | (with_reducible exact Hz2.out) | (with_reducible exact blk_drew Hz2.out)); have YB := bel_call hu1 (show Below w.heap.size w _ by first | (with_reducible exact HB2.out) | (with_reducible exact HB2.out.drew)) (by have := HB2.out.size; first | omega | (simp; omega)); obtain ⟨a0q, a1q, a2q, a3q, a4q, a5q, af0q, af1q, af2q, af3q, af4q, af5q⟩ := at6 Ya; have alq := lt_blk Ya; have HS31 := Lib.hid (show u1.cell? ⟨Ba, 0, none⟩ = some (.int .u64 s) ∧ u1.cell? ⟨Ba, 2, none⟩ = some (.int .u64 n) from ⟨cell_blk Ya 0 rfl, cell_blk Ya 2 rfl⟩); have Ha31 := Lib.hid Ya; have Hz31 := Lib.hid Yz; have HB31 := Lib.hid YB; clear hu1 YB Ya Yz)
          refine hK.out _ _ (HS31.out) (fun hHeld => ?_)
          clear hK KQ
          try simp only [List.getElem_toArray, List.getElem_cons_succ, List.getElem_cons_zero, Act.put, List.setIfInBounds_toArray, List.set_cons_zero, List.set_cons_succ]
          refine wpAnyH_norm (n := 5) (l := #[true, false, true, true, true, true, true, true, true, true, true, false, false, false, false]) (by kernel_rfl) (by kernel_rfl) ?_
          refine wpAnyH_ready (rs := [1, 11]) (by kernel_rfl) (by simp) ?_
          refine (cons_list (o := _) rfl (fun KQ hK => ?_) (cons_list (o := _) rfl (fun KQ hK => ?_) AllReadyH.nil))
          · rw [if_pos (by rfl)]
            go_simp
            refine hK.out _ _ (HS31.out) (fun hHeld => ?_)
            clear hK KQ
            try simp only [List.getElem_toArray, List.getElem_cons_succ, List.getElem_cons_zero, Act.put, List.setIfInBounds_toArray, List.set_cons_zero, List.set_cons_succ]
            refine wpAnyH_norm (n := 4) (l := #[true, true, true, true, true, true, true, true, true, true, true, false, false, false, false]) (by kernel_rfl) (by kernel_rfl) ?_
            refine wpAnyH_ready (rs := [11]) (by kernel_rfl) (by simp) ?_
            refine (cons_list (o := _) rfl (fun KQ hK => ?_) AllReadyH.nil)
            rw [if_pos (by rfl)]
            go_wp2_with (go_at_call 84; (with_reducible refine (LA.out _ _ _ _ hy _).mono ?_); rintro e u2 ⟨rfl, hu2⟩; have Ya : u2.heap[Ba]? = some (.cells #[.int .u64 s, .int .u64 q, .int .u64 n, .int .u64 f, .int .u64 a, .int .u64 b] 26 (0, 0)) := blk_call hu2 (by first | (with_reducible exact Ha31.out) | (with_reducible exact blk_drew Ha31.out)); have Yz : u2.heap[Bz]? = some (.cells #[.int .u64 0, .int .u64 0, .int .u64 0, .int .u64 0, .int .u64 0, .int .u64 0] 26 (0, 0)) := blk_call hu2 (by first | (with_reducible exact Hz31.out) | (with_reducible exact blk_drew Hz31.out)); have YB := bel_call hu2 (show Below w.heap.size w _ by first | (with_reducible exact HB31.out) | (with_reducible exact HB31.out.drew)) (by have := HB31.out.size; first | omega | (simp; omega)); clear a0q a1q a2q a3q a4q a5q af0q af1q af2q af3q af4q af5q alq; obtain ⟨a0q, a1q, a2q, a3q, a4q, a5q, af0q, af1q, af2q, af3q, af4q, af5q⟩ := at6 Ya; have alq := lt_blk Ya; have HS32 := Lib.hid (show u2.cell? ⟨Ba, 0, none⟩ = some (.int .u64 s) ∧ u2.cell? ⟨Ba, 2, none⟩ = some (.int .u64 n) from ⟨cell_blk Ya 0 rfl, cell_blk Ya 2 rfl⟩); have Ha32 := Lib.hid Ya; have Hz32 := Lib.hid Yz; have HB32 := Lib.hid YB; clear hu2 YB Ya Yz)
            refine hK.out _ _ (HS32.out) (fun hHeld => ?_)
            clear hK KQ
            try simp only [List.getElem_toArray, List.getElem_cons_succ, List.getElem_cons_zero, Act.put, List.setIfInBounds_toArray, List.set_cons_zero, List.set_cons_succ]
            refine wpAnyH_norm (n := 3) (l := #[true, true, true, true, true, true, true, true, true, true, true, true, false, false, false]) (by kernel_rfl) (by kernel_rfl) ?_
            refine take_list (i := 12) (oi := _) (v := ?_) rfl (by kernel_rfl) (by kernel_rfl) (by kernel_rfl) (fun _ _ _ h => h) (Or.inl ⟨by rfl, ?_⟩) (by assumption) ?_
            rotate_left 1
            · intro v hSw
              (try dsimp only at hSw)
              go_simp
              try with_reducible rfl
            try simp only [List.getElem_toArray, List.getElem_cons_succ, List.getElem_cons_zero, Act.put, List.setIfInBounds_toArray, List.set_cons_zero, List.set_cons_succ]
            refine take_list (i := 13) (oi := _) (v := ?_) rfl (by kernel_rfl) (by kernel_rfl) (by kernel_rfl) (fun _ _ _ h => h) (Or.inl ⟨by rfl, ?_⟩) (by assumption) ?_
            rotate_left 1
            · intro v hSw
              (try dsimp only at hSw)
              go_simp
              try with_reducible rfl
            try simp only [List.getElem_toArray, List.getElem_cons_succ, List.getElem_cons_zero, Act.put, List.setIfInBounds_toArray, List.set_cons_zero, List.set_cons_succ]
            refine wpAnyH_norm (n := 1) (l := #[true, true, true, true, true, true, true, true, true, true, true, true, true, true, false]) (by kernel_rfl) (by kernel_rfl) ?_
            refine wpAnyH_ready (rs := [14]) (by kernel_rfl) (by simp) ?_
            refine (cons_list (o := _) rfl (fun KQ hK => ?_) AllReadyH.nil)
            rw [if_pos (by rfl)]
            go_simp
            refine hK.out _ _ (KT.out _ _ HS32.out) (fun hHeld => ?_)
            clear hK KQ
            try simp only [List.getElem_toArray, List.getElem_cons_succ, List.getElem_cons_zero, Act.put, List.setIfInBounds_toArray, List.set_cons_zero, List.set_cons_succ]
            refine wpAnyH_norm (n := 0) (l := #[true, true, true, true, true, true, true, true, true, true, true, true, true, true, true]) (by kernel_rfl) (by kernel_rfl) ?_
            refine wpAnyH_done (by kernel_rfl) ?_ _
            refine NoPanic.normal ?_
            go_wp2
            go_meet
            refine ⟨?_, ?_, ?_⟩
            · (repeat' (first | (with_reducible exact Ha32.out) | (with_reducible exact heap_alloc_new _ _) | (with_reducible exact blk_new (by first | (simp; done) | omega)) | (with_reducible refine blk_drew ?_) | (with_reducible apply put1_0) | (with_reducible apply put2_0) | (with_reducible apply put2_1) | (with_reducible apply put3_0) | (with_reducible apply put3_1) | (with_reducible apply put3_2) | (with_reducible apply put4_0) | (with_reducible apply put4_1) | (with_reducible apply put4_2) | (with_reducible apply put4_3) | (with_reducible apply put5_0) | (with_reducible apply put5_1) | (with_reducible apply put5_2) | (with_reducible apply put5_3) | (with_reducible apply put5_4) | (with_reducible apply put6_0) | (with_reducible apply put6_1) | (with_reducible apply put6_2) | (with_reducible apply put6_3) | (with_reducible apply put6_4) | (with_reducible apply put6_5) | (with_reducible refine blk_else (by omega) ?_) | (with_reducible refine blk_old ?_)))
            · (repeat' (first | (with_reducible exact Hz32.out) | (with_reducible exact heap_alloc_new _ _) | (with_reducible exact blk_new (by first | (simp; done) | omega)) | (with_reducible refine blk_drew ?_) | (with_reducible apply put1_0) | (with_reducible apply put2_0) | (with_reducible apply put2_1) | (with_reducible apply put3_0) | (with_reducible apply put3_1) | (with_reducible apply put3_2) | (with_reducible apply put4_0) | (with_reducible apply put4_1) | (with_reducible apply put4_2) | (with_reducible apply put4_3) | (with_reducible apply put5_0) | (with_reducible apply put5_1) | (with_reducible apply put5_2) | (with_reducible apply put5_3) | (with_reducible apply put5_4) | (with_reducible apply put6_0) | (with_reducible apply put6_1) | (with_reducible apply put6_2) | (with_reducible apply put6_3) | (with_reducible apply put6_4) | (with_reducible apply put6_5) | (with_reducible refine blk_else (by omega) ?_) | (with_reducible refine blk_old ?_)))
            · (repeat' (first | (with_reducible exact HB32.out) | (with_reducible exact Below.refl _ _) | (with_reducible refine below_drewN _ ?_) | (with_reducible refine Below.drew ?_) | (with_reducible refine Below.setCell ?_ (by first | (simp; done) | omega) _) | (with_reducible refine Below.alloc ?_ (by have := HB32.out.size; simp; omega) _)))
          · rw [if_pos (by rfl)]
            go_wp2_with (go_at_call 84; (with_reducible refine (LA.out _ _ _ _ hy _).mono ?_); rintro e u2 ⟨rfl, hu2⟩; have Ya : u2.heap[Ba]? = some (.cells #[.int .u64 s, .int .u64 q, .int .u64 n, .int .u64 f, .int .u64 a, .int .u64 b] 26 (0, 0)) := blk_call hu2 (by first | (with_reducible exact Ha31.out) | (with_reducible exact blk_drew Ha31.out)); have Yz : u2.heap[Bz]? = some (.cells #[.int .u64 0, .int .u64 0, .int .u64 0, .int .u64 0, .int .u64 0, .int .u64 0] 26 (0, 0)) := blk_call hu2 (by first | (with_reducible exact Hz31.out) | (with_reducible exact blk_drew Hz31.out)); have YB := bel_call hu2 (show Below w.heap.size w _ by first | (with_reducible exact HB31.out) | (with_reducible exact HB31.out.drew)) (by have := HB31.out.size; first | omega | (simp; omega)); clear a0q a1q a2q a3q a4q a5q af0q af1q af2q af3q af4q af5q alq; obtain ⟨a0q, a1q, a2q, a3q, a4q, a5q, af0q, af1q, af2q, af3q, af4q, af5q⟩ := at6 Ya; have alq := lt_blk Ya; have HS32 := Lib.hid (show u2.cell? ⟨Ba, 0, none⟩ = some (.int .u64 s) ∧ u2.cell? ⟨Ba, 2, none⟩ = some (.int .u64 n) from ⟨cell_blk Ya 0 rfl, cell_blk Ya 2 rfl⟩); have Ha32 := Lib.hid Ya; have Hz32 := Lib.hid Yz; have HB32 := Lib.hid YB; clear hu2 YB Ya Yz)
            refine hK.out _ _ (HS32.out) (fun hHeld => ?_)
            clear hK KQ
            try simp only [List.getElem_toArray, List.getElem_cons_succ, List.getElem_cons_zero, Act.put, List.setIfInBounds_toArray, List.set_cons_zero, List.set_cons_succ]
            refine wpAnyH_norm (n := 4) (l := #[true, false, true, true, true, true, true, true, true, true, true, true, false, false, false]) (by kernel_rfl) (by kernel_rfl) ?_
            refine wpAnyH_ready (rs := [1]) (by kernel_rfl) (by simp) ?_
            refine (cons_list (o := _) rfl (fun KQ hK => ?_) AllReadyH.nil)
            rw [if_pos (by rfl)]
            go_simp
            refine hK.out _ _ (HS32.out) (fun hHeld => ?_)
            clear hK KQ
            try simp only [List.getElem_toArray, List.getElem_cons_succ, List.getElem_cons_zero, Act.put, List.setIfInBounds_toArray, List.set_cons_zero, List.set_cons_succ]
            refine wpAnyH_norm (n := 3) (l := #[true, true, true, true, true, true, true, true, true, true, true, true, false, false, false]) (by kernel_rfl) (by kernel_rfl) ?_
            refine take_list (i := 12) (oi := _) (v := ?_) rfl (by kernel_rfl) (by kernel_rfl) (by kernel_rfl) (fun _ _ _ h => h) (Or.inl ⟨by rfl, ?_⟩) (by assumption) ?_
            rotate_left 1
            · intro v hSw
              (try dsimp only at hSw)
              go_simp
              try with_reducible rfl
            try simp only [List.getElem_toArray, List.getElem_cons_succ, List.getElem_cons_zero, Act.put, List.setIfInBounds_toArray, List.set_cons_zero, List.set_cons_succ]
            refine take_list (i := 13) (oi := _) (v := ?_) rfl (by kernel_rfl) (by kernel_rfl) (by kernel_rfl) (fun _ _ _ h => h) (Or.inl ⟨by rfl, ?_⟩) (by assumption) ?_
            rotate_left 1
            · intro v hSw
              (try dsimp only at hSw)
              go_simp
              try with_reducible rfl
            try simp only [List.getElem_toArray, List.getElem_cons_succ, List.getElem_cons_zero, Act.put, List.setIfInBounds_toArray, List.set_cons_zero, List.set_cons_succ]
            refine wpAnyH_norm (n := 1) (l := #[true, true, true, true, true, true, true, true, true, true, true, true, true, true, false]) (by kernel_rfl) (by kernel_rfl) ?_
            refine wpAnyH_ready (rs := [14]) (by kernel_rfl) (by simp) ?_
            refine (cons_list (o := _) rfl (fun KQ hK => ?_) AllReadyH.nil)
            rw [if_pos (by rfl)]
            go_simp
            refine hK.out _ _ (KT.out _ _ HS32.out) (fun hHeld => ?_)
            clear hK KQ
            try simp only [List.getElem_toArray, List.getElem_cons_succ, List.getElem_cons_zero, Act.put, List.setIfInBounds_toArray, List.set_cons_zero, List.set_cons_succ]
            refine wpAnyH_norm (n := 0) (l := #[true, true, true, true, true, true, true, true, true, true, true, true, true, true, true]) (by kernel_rfl) (by kernel_rfl) ?_
            refine wpAnyH_done (by kernel_rfl) ?_ _
            refine NoPanic.normal ?_
            go_wp2
            go_meet
            refine ⟨?_, ?_, ?_⟩
            · (repeat' (first | (with_reducible exact Ha32.out) | (with_reducible exact heap_alloc_new _ _) | (with_reducible exact blk_new (by first | (simp; done) | omega)) | (with_reducible refine blk_drew ?_) | (with_reducible apply put1_0) | (with_reducible apply put2_0) | (with_reducible apply put2_1) | (with_reducible apply put3_0) | (with_reducible apply put3_1) | (with_reducible apply put3_2) | (with_reducible apply put4_0) | (with_reducible apply put4_1) | (with_reducible apply put4_2) | (with_reducible apply put4_3) | (with_reducible apply put5_0) | (with_reducible apply put5_1) | (with_reducible apply put5_2) | (with_reducible apply put5_3) | (with_reducible apply put5_4) | (with_reducible apply put6_0) | (with_reducible apply put6_1) | (with_reducible apply put6_2) | (with_reducible apply put6_3) | (with_reducible apply put6_4) | (with_reducible apply put6_5) | (with_reducible refine blk_else (by omega) ?_) | (with_reducible refine blk_old ?_)))
            · (repeat' (first | (with_reducible exact Hz32.out) | (with_reducible exact heap_alloc_new _ _) | (with_reducible exact blk_new (by first | (simp; done) | omega)) | (with_reducible refine blk_drew ?_) | (with_reducible apply put1_0) | (with_reducible apply put2_0) | (with_reducible apply put2_1) | (with_reducible apply put3_0) | (with_reducible apply put3_1) | (with_reducible apply put3_2) | (with_reducible apply put4_0) | (with_reducible apply put4_1) | (with_reducible apply put4_2) | (with_reducible apply put4_3) | (with_reducible apply put5_0) | (with_reducible apply put5_1) | (with_reducible apply put5_2) | (with_reducible apply put5_3) | (with_reducible apply put5_4) | (with_reducible apply put6_0) | (with_reducible apply put6_1) | (with_reducible apply put6_2) | (with_reducible apply put6_3) | (with_reducible apply put6_4) | (with_reducible apply put6_5) | (with_reducible refine blk_else (by omega) ?_) | (with_reducible refine blk_old ?_)))
            · (repeat' (first | (with_reducible exact HB32.out) | (with_reducible exact Below.refl _ _) | (with_reducible refine below_drewN _ ?_) | (with_reducible refine Below.drew ?_) | (with_reducible refine Below.setCell ?_ (by first | (simp; done) | omega) _) | (with_reducible refine Below.alloc ?_ (by have := HB32.out.size; simp; omega) _)))
    obtain ⟨xa_, xz_, xb_⟩ := hcut
    generalize wc = WA at *
    clear z0_ z1_ z2_ z3_ z4_ z5_ zf0_ zf1_ zf2_ zf3_ zf4_ zf5_ zn_ zm_ zl_ a0_ a1_ a2_ a3_ a4_ a5_ af0_ af1_ af2_ af3_ af4_ af5_ an_ am_ al_ Ha2 Hz2 HB2
    have Ha3 := Lib.hid xa_; have Hz3 := Lib.hid xz_; have HB3 := Lib.hid xb_
    clear xa_ xz_ xb_
    obtain ⟨z0_, z1_, z2_, z3_, z4_, z5_, zf0_, zf1_, zf2_, zf3_, zf4_, zf5_⟩ := at6 Hz3.out
    have zn_ := ne_blk Hz3.out
    have zm_ := Ne.symm (a := Bz) zn_
    have zl_ := lt_blk Hz3.out
    obtain ⟨a0_, a1_, a2_, a3_, a4_, a5_, af0_, af1_, af2_, af3_, af4_, af5_⟩ := at6 Ha3.out
    have an_ := ne_blk Ha3.out
    have am_ := Ne.symm (a := Ba) an_
    have al_ := lt_blk Ha3.out
    go_upto_region 4 with (fail)
    refine wp_genc ?_
    intro v3 hv3
    have Xz : v3.heap[Bz]? = some (.cells #[.int .u64 0, .int .u64 0, .int .u64 0, .int .u64 0, .int .u64 0, .int .u64 0] 26 (0, 0)) := by
      rw [hv3]
      (repeat' (first | (with_reducible exact Hz3.out) | (with_reducible exact heap_alloc_new _ _) | (with_reducible exact blk_new (by first | (simp; done) | omega)) | (with_reducible refine blk_drew ?_) | (with_reducible apply put6_0) | (with_reducible apply put6_1) | (with_reducible apply put6_2) | (with_reducible apply put6_3) | (with_reducible apply put6_4) | (with_reducible apply put6_5) | (with_reducible refine blk_else (by omega) ?_) | (with_reducible refine blk_old ?_)))
    have Xa : v3.heap[Ba]? = some (.cells #[.int .u64 s, .int .u64 q, .int .u64 n, .int .u64 f, .int .u64 (a + tA), .int .u64 b] 26 (0, 0)) := by
      rw [hv3]
      (repeat' (first | (with_reducible exact Ha3.out) | (with_reducible exact heap_alloc_new _ _) | (with_reducible exact blk_new (by first | (simp; done) | omega)) | (with_reducible refine blk_drew ?_) | (with_reducible apply put6_0) | (with_reducible apply put6_1) | (with_reducible apply put6_2) | (with_reducible apply put6_3) | (with_reducible apply put6_4) | (with_reducible apply put6_5) | (with_reducible refine blk_else (by omega) ?_) | (with_reducible refine blk_old ?_)))
    have XB : Below w.heap.size w v3 := by
      rw [hv3]
      (repeat' (first | (with_reducible exact HB3.out) | (with_reducible exact Below.refl _ _) | (with_reducible refine below_drewN _ ?_) | (with_reducible refine Below.drew ?_) | (with_reducible refine Below.setCell ?_ (by first | (simp; done) | omega) _) | (with_reducible refine Below.alloc ?_ (by have := HB3.out.size; simp; omega) _)))
    clear z0_ z1_ z2_ z3_ z4_ z5_ zf0_ zf1_ zf2_ zf3_ zf4_ zf5_ zn_ zm_ zl_ a0_ a1_ a2_ a3_ a4_ a5_ af0_ af1_ af2_ af3_ af4_ af5_ an_ am_ al_
    clear hv3 Hz3 Ha3 HB3
    have Hz4 := Lib.hid Xz
    have Ha4 := Lib.hid Xa
    have HB4 := Lib.hid XB
    clear Xz Xa XB
    obtain ⟨z0_, z1_, z2_, z3_, z4_, z5_, zf0_, zf1_, zf2_, zf3_, zf4_, zf5_⟩ := at6 Hz4.out
    have zn_ := ne_blk Hz4.out
    have zm_ := Ne.symm (a := Bz) zn_
    have zl_ := lt_blk Hz4.out
    obtain ⟨a0_, a1_, a2_, a3_, a4_, a5_, af0_, af1_, af2_, af3_, af4_, af5_⟩ := at6 Ha4.out
    have an_ := ne_blk Ha4.out
    have am_ := Ne.symm (a := Ba) an_
    have al_ := lt_blk Ha4.out
    go_cut [35] (fun e_ wx => wx.heap[Ba]? = some (.cells #[.int .u64 s, .int .u64 q, .int .u64 n, .int .u64 f, .int .u64 (a + tA), .int .u64 (b + tB)] 26 (0, 0)) ∧ wx.heap[Bz]? = some (.cells #[.int .u64 0, .int .u64 0, .int .u64 0, .int .u64 0, .int .u64 0, .int .u64 0] 26 (0, 0)) ∧ Below w.heap.size w wx)
    case first =>
      have KT := Lib.hid (fun (W : World) (y : Value) (hS : W.cell? ⟨Ba, 1, none⟩ = some (.int .u64 q) ∧ W.cell? ⟨Ba, 3, none⟩ = some (.int .u64 f)) => (⟨(World.cell?_setCell_other _ ⟨Ba, 5, none⟩ ⟨Ba, 1, none⟩ y (by simp)).trans hS.1, (World.cell?_setCell_other _ ⟨Ba, 5, none⟩ ⟨Ba, 3, none⟩ y (by simp)).trans hS.2⟩ : (W.setCell ⟨Ba, 5, none⟩ y).cell? ⟨Ba, 1, none⟩ = some (.int .u64 q) ∧ (W.setCell ⟨Ba, 5, none⟩ y).cell? ⟨Ba, 3, none⟩ = some (.int .u64 f)))
      refine wp_region_noPanic ?_
      refine wp_region_held_drew (S := fun v => v.cell? ⟨Ba, 1, none⟩ = some (.int .u64 q) ∧ v.cell? ⟨Ba, 3, none⟩ = some (.int .u64 f)) (by kernel_rfl) ⟨a1_, a3_⟩ (fun hHeld => ?_)
      refine take_list (i := 0) (oi := _) (v := ?_) rfl (by kernel_rfl) (by kernel_rfl) (by kernel_rfl) (fun _ _ _ h => h) (Or.inl ⟨by rfl, ?_⟩) (by assumption) ?_
      rotate_left 1
      · intro v hSw
        (try dsimp only at hSw)
        go_simp
        try with_reducible rfl
      try simp only [List.getElem_toArray, List.getElem_cons_succ, List.getElem_cons_zero, Act.put, List.setIfInBounds_toArray, List.set_cons_zero, List.set_cons_succ]
      refine take_list (i := 2) (oi := _) (v := ?_) rfl (by kernel_rfl) (by kernel_rfl) (by kernel_rfl) (fun _ _ _ h => h) (Or.inl ⟨by rfl, ?_⟩) (by assumption) ?_
      rotate_left 1
      · intro v hSw
        (try dsimp only at hSw)
        go_simp
        try with_reducible rfl
      try simp only [List.getElem_toArray, List.getElem_cons_succ, List.getElem_cons_zero, Act.put, List.setIfInBounds_toArray, List.set_cons_zero, List.set_cons_succ]
      refine take_list (i := 3) (oi := _) (v := ?_) rfl (by kernel_rfl) (by kernel_rfl) (by kernel_rfl) (fun _ _ _ h => h) (Or.inl ⟨by rfl, ?_⟩) (by assumption) ?_
      rotate_left 1
      · intro v hSw
        (try dsimp only at hSw)
        go_simp
        try with_reducible rfl
      try simp only [List.getElem_toArray, List.getElem_cons_succ, List.getElem_cons_zero, Act.put, List.setIfInBounds_toArray, List.set_cons_zero, List.set_cons_succ]
      refine take_list (i := 4) (oi := _) (v := ?_) rfl (by kernel_rfl) (by kernel_rfl) (by kernel_rfl) (fun _ _ _ h => h) (Or.inl ⟨by rfl, ?_⟩) (by assumption) ?_
      rotate_left 1
      · intro v hSw
        (try dsimp only at hSw)
        go_simp
        try with_reducible rfl
      try simp only [List.getElem_toArray, List.getElem_cons_succ, List.getElem_cons_zero, Act.put, List.setIfInBounds_toArray, List.set_cons_zero, List.set_cons_succ]
      refine take_list (i := 6) (oi := _) (v := ?_) rfl (by kernel_rfl) (by kernel_rfl) (by kernel_rfl) (fun _ _ _ h => h) (Or.inl ⟨by rfl, ?_⟩) (by assumption) ?_
      rotate_left 1
      · intro v hSw
        (try dsimp only at hSw)
        go_simp
        try with_reducible rfl
      try simp only [List.getElem_toArray, List.getElem_cons_succ, List.getElem_cons_zero, Act.put, List.setIfInBounds_toArray, List.set_cons_zero, List.set_cons_succ]
      refine take_list (i := 7) (oi := _) (v := ?_) rfl (by kernel_rfl) (by kernel_rfl) (by kernel_rfl) (fun _ _ _ h => h) (Or.inl ⟨by rfl, ?_⟩) (by assumption) ?_
      rotate_left 1
      · intro v hSw
        (try dsimp only at hSw)
        go_simp
        try with_reducible rfl
      try simp only [List.getElem_toArray, List.getElem_cons_succ, List.getElem_cons_zero, Act.put, List.setIfInBounds_toArray, List.set_cons_zero, List.set_cons_succ]
      refine take_list (i := 8) (oi := _) (v := ?_) rfl (by kernel_rfl) (by kernel_rfl) (by kernel_rfl) (fun _ _ _ h => h) (Or.inl ⟨by rfl, ?_⟩) (by assumption) ?_
      rotate_left 1
      · intro v hSw
        (try dsimp only at hSw)
        go_simp
        try with_reducible rfl
      try simp only [List.getElem_toArray, List.getElem_cons_succ, List.getElem_cons_zero, Act.put, List.setIfInBounds_toArray, List.set_cons_zero, List.set_cons_succ]
      refine wpAnyH_norm (n := 8) (l := #[true, false, true, true, true, false, true, true, true, false, false, false, false, false, false]) (by kernel_rfl) (by kernel_rfl) ?_
      refine wpAnyH_ready (rs := [1, 5, 9]) (by kernel_rfl) (by simp) ?_
      refine (cons_list (o := _) rfl (fun KQ hK => ?_) (cons_list (o := _) rfl (fun KQ hK => ?_) (cons_list (o := _) rfl (fun KQ hK => ?_) AllReadyH.nil)))
      · rw [if_pos (by rfl)]
        go_simp
        refine hK.out _ _ (⟨a1_, a3_⟩) (fun hHeld => ?_)
        clear hK KQ
        try simp only [List.getElem_toArray, List.getElem_cons_succ, List.getElem_cons_zero, Act.put, List.setIfInBounds_toArray, List.set_cons_zero, List.set_cons_succ]
        refine wpAnyH_norm (n := 7) (l := #[true, true, true, true, true, false, true, true, true, false, false, false, false, false, false]) (by kernel_rfl) (by kernel_rfl) ?_
        refine wpAnyH_ready (rs := [5, 9]) (by kernel_rfl) (by simp) ?_
        refine (cons_list (o := _) rfl (fun KQ hK => ?_) (cons_list (o := _) rfl (fun KQ hK => ?_) AllReadyH.nil))
        · rw [if_pos (by rfl)]
          go_wp2_with (go_at_call 83; (with_reducible refine (TB.out _).mono ?_); rintro e u1 ⟨y0, y1, y2, y3, rfl, hy, hu1⟩; have Ya : u1.heap[Ba]? = some (.cells #[.int .u64 s, .int .u64 q, .int .u64 n, .int .u64 f, .int .u64 (a + tA), .int .u64 b] 26 (0, 0)) := blk_call hu1 (by first | (with_reducible exact Ha4.out) | (with_reducible exact blk_drew Ha4.out)); have Yz : u1.heap[Bz]? = some (.cells #[.int .u64 0, .int .u64 0, .int .u64 0, .int .u64 0, .int .u64 0, .int .u64 0] 26 (0, 0)) := blk_call hu1 (by first | (with_reducible exact Hz4.out) | (with_reducible exact blk_drew Hz4.out)); have YB := bel_call hu1 (show Below w.heap.size w _ by first | (with_reducible exact HB4.out) | (with_reducible exact HB4.out.drew)) (by have := HB4.out.size; first | omega | (simp; omega)); obtain ⟨a0q, a1q, a2q, a3q, a4q, a5q, af0q, af1q, af2q, af3q, af4q, af5q⟩ := at6 Ya; have alq := lt_blk Ya; have HS41 := Lib.hid (show u1.cell? ⟨Ba, 1, none⟩ = some (.int .u64 q) ∧ u1.cell? ⟨Ba, 3, none⟩ = some (.int .u64 f) from ⟨cell_blk Ya 1 rfl, cell_blk Ya 3 rfl⟩); have Ha41 := Lib.hid Ya; have Hz41 := Lib.hid Yz; have HB41 := Lib.hid YB; clear hu1 YB Ya Yz)
          refine hK.out _ _ (HS41.out) (fun hHeld => ?_)
          clear hK KQ
          try simp only [List.getElem_toArray, List.getElem_cons_succ, List.getElem_cons_zero, Act.put, List.setIfInBounds_toArray, List.set_cons_zero, List.set_cons_succ]
          refine wpAnyH_norm (n := 6) (l := #[true, true, true, true, true, true, true, true, true, false, false, false, false, false, false]) (by kernel_rfl) (by kernel_rfl) ?_
          refine wpAnyH_ready (rs := [9]) (by kernel_rfl) (by simp) ?_
          refine (cons_list (o := _) rfl (fun KQ hK => ?_) AllReadyH.nil)
          rw [if_pos (by rfl)]
          go_simp
          refine hK.out _ _ (HS41.out) (fun hHeld => ?_)
          clear hK KQ
          try simp only [List.getElem_toArray, List.getElem_cons_succ, List.getElem_cons_zero, Act.put, List.setIfInBounds_toArray, List.set_cons_zero, List.set_cons_succ]
          refine wpAnyH_norm (n := 5) (l := #[true, true, true, true, true, true, true, true, true, true, false, false, false, false, false]) (by kernel_rfl) (by kernel_rfl) ?_
          refine take_list (i := 10) (oi := _) (v := ?_) rfl (by kernel_rfl) (by kernel_rfl) (by kernel_rfl) (fun _ _ _ h => h) (Or.inl ⟨by rfl, ?_⟩) (by assumption) ?_
          rotate_left 1
          · intro v hSw
            (try dsimp only at hSw)
            go_simp
            try with_reducible rfl
          try simp only [List.getElem_toArray, List.getElem_cons_succ, List.getElem_cons_zero, Act.put, List.setIfInBounds_toArray, List.set_cons_zero, List.set_cons_succ]
          refine wpAnyH_norm (n := 4) (l := #[true, true, true, true, true, true, true, true, true, true, true, false, false, false, false]) (by kernel_rfl) (by kernel_rfl) ?_
          refine wpAnyH_ready (rs := [11]) (by kernel_rfl) (by simp) ?_
          refine (cons_list (o := _) rfl (fun KQ hK => ?_) AllReadyH.nil)
          rw [if_pos (by rfl)]
          go_wp2_with (go_at_call 84; (with_reducible refine (LB.out _ _ _ _ hy _).mono ?_); rintro e u2 ⟨rfl, hu2⟩; have Ya : u2.heap[Ba]? = some (.cells #[.int .u64 s, .int .u64 q, .int .u64 n, .int .u64 f, .int .u64 (a + tA), .int .u64 b] 26 (0, 0)) := blk_call hu2 (by first | (with_reducible exact Ha41.out) | (with_reducible exact blk_drew Ha41.out)); have Yz : u2.heap[Bz]? = some (.cells #[.int .u64 0, .int .u64 0, .int .u64 0, .int .u64 0, .int .u64 0, .int .u64 0] 26 (0, 0)) := blk_call hu2 (by first | (with_reducible exact Hz41.out) | (with_reducible exact blk_drew Hz41.out)); have YB := bel_call hu2 (show Below w.heap.size w _ by first | (with_reducible exact HB41.out) | (with_reducible exact HB41.out.drew)) (by have := HB41.out.size; first | omega | (simp; omega)); clear a0q a1q a2q a3q a4q a5q af0q af1q af2q af3q af4q af5q alq; obtain ⟨a0q, a1q, a2q, a3q, a4q, a5q, af0q, af1q, af2q, af3q, af4q, af5q⟩ := at6 Ya; have alq := lt_blk Ya; have HS42 := Lib.hid (show u2.cell? ⟨Ba, 1, none⟩ = some (.int .u64 q) ∧ u2.cell? ⟨Ba, 3, none⟩ = some (.int .u64 f) from ⟨cell_blk Ya 1 rfl, cell_blk Ya 3 rfl⟩); have Ha42 := Lib.hid Ya; have Hz42 := Lib.hid Yz; have HB42 := Lib.hid YB; clear hu2 YB Ya Yz)
          refine hK.out _ _ (HS42.out) (fun hHeld => ?_)
          clear hK KQ
          try simp only [List.getElem_toArray, List.getElem_cons_succ, List.getElem_cons_zero, Act.put, List.setIfInBounds_toArray, List.set_cons_zero, List.set_cons_succ]
          refine wpAnyH_norm (n := 3) (l := #[true, true, true, true, true, true, true, true, true, true, true, true, false, false, false]) (by kernel_rfl) (by kernel_rfl) ?_
          refine take_list (i := 12) (oi := _) (v := ?_) rfl (by kernel_rfl) (by kernel_rfl) (by kernel_rfl) (fun _ _ _ h => h) (Or.inl ⟨by rfl, ?_⟩) (by assumption) ?_
          rotate_left 1
          · intro v hSw
            (try dsimp only at hSw)
            go_simp
            try with_reducible rfl
          try simp only [List.getElem_toArray, List.getElem_cons_succ, List.getElem_cons_zero, Act.put, List.setIfInBounds_toArray, List.set_cons_zero, List.set_cons_succ]
          refine take_list (i := 13) (oi := _) (v := ?_) rfl (by kernel_rfl) (by kernel_rfl) (by kernel_rfl) (fun _ _ _ h => h) (Or.inl ⟨by rfl, ?_⟩) (by assumption) ?_
          rotate_left 1
          · intro v hSw
            (try dsimp only at hSw)
            go_simp
            try with_reducible rfl
          try simp only [List.getElem_toArray, List.getElem_cons_succ, List.getElem_cons_zero, Act.put, List.setIfInBounds_toArray, List.set_cons_zero, List.set_cons_succ]
          refine wpAnyH_norm (n := 1) (l := #[true, true, true, true, true, true, true, true, true, true, true, true, true, true, false]) (by kernel_rfl) (by kernel_rfl) ?_
          refine wpAnyH_ready (rs := [14]) (by kernel_rfl) (by simp) ?_
          refine (cons_list (o := _) rfl (fun KQ hK => ?_) AllReadyH.nil)
          rw [if_pos (by rfl)]
          go_simp
          refine hK.out _ _ (KT.out _ _ HS42.out) (fun hHeld => ?_)
          clear hK KQ
          try simp only [List.getElem_toArray, List.getElem_cons_succ, List.getElem_cons_zero, Act.put, List.setIfInBounds_toArray, List.set_cons_zero, List.set_cons_succ]
          refine wpAnyH_norm (n := 0) (l := #[true, true, true, true, true, true, true, true, true, true, true, true, true, true, true]) (by kernel_rfl) (by kernel_rfl) ?_
          refine wpAnyH_done (by kernel_rfl) ?_ _
          refine NoPanic.normal ?_
          go_wp2
          go_meet
          refine ⟨?_, ?_, ?_⟩
          · (repeat' (first | (with_reducible exact Ha42.out) | (with_reducible exact heap_alloc_new _ _) | (with_reducible exact blk_new (by first | (simp; done) | omega)) | (with_reducible refine blk_drew ?_) | (with_reducible apply put1_0) | (with_reducible apply put2_0) | (with_reducible apply put2_1) | (with_reducible apply put3_0) | (with_reducible apply put3_1) | (with_reducible apply put3_2) | (with_reducible apply put4_0) | (with_reducible apply put4_1) | (with_reducible apply put4_2) | (with_reducible apply put4_3) | (with_reducible apply put5_0) | (with_reducible apply put5_1) | (with_reducible apply put5_2) | (with_reducible apply put5_3) | (with_reducible apply put5_4) | (with_reducible apply put6_0) | (with_reducible apply put6_1) | (with_reducible apply put6_2) | (with_reducible apply put6_3) | (with_reducible apply put6_4) | (with_reducible apply put6_5) | (with_reducible refine blk_else (by omega) ?_) | (with_reducible refine blk_old ?_)))
          · (repeat' (first | (with_reducible exact Hz42.out) | (with_reducible exact heap_alloc_new _ _) | (with_reducible exact blk_new (by first | (simp; done) | omega)) | (with_reducible refine blk_drew ?_) | (with_reducible apply put1_0) | (with_reducible apply put2_0) | (with_reducible apply put2_1) | (with_reducible apply put3_0) | (with_reducible apply put3_1) | (with_reducible apply put3_2) | (with_reducible apply put4_0) | (with_reducible apply put4_1) | (with_reducible apply put4_2) | (with_reducible apply put4_3) | (with_reducible apply put5_0) | (with_reducible apply put5_1) | (with_reducible apply put5_2) | (with_reducible apply put5_3) | (with_reducible apply put5_4) | (with_reducible apply put6_0) | (with_reducible apply put6_1) | (with_reducible apply put6_2) | (with_reducible apply put6_3) | (with_reducible apply put6_4) | (with_reducible apply put6_5) | (with_reducible refine blk_else (by omega) ?_) | (with_reducible refine blk_old ?_)))
          · (repeat' (first | (with_reducible exact HB42.out) | (with_reducible exact Below.refl _ _) | (with_reducible refine below_drewN _ ?_) | (with_reducible refine Below.drew ?_) | (with_reducible refine Below.setCell ?_ (by first | (simp; done) | omega) _) | (with_reducible refine Below.alloc ?_ (by have := HB42.out.size; simp; omega) _)))
        · rw [if_pos (by rfl)]
          go_simp
          refine hK.out _ _ (⟨a1_, a3_⟩) (fun hHeld => ?_)
          clear hK KQ
          try simp only [List.getElem_toArray, List.getElem_cons_succ, List.getElem_cons_zero, Act.put, List.setIfInBounds_toArray, List.set_cons_zero, List.set_cons_succ]
          refine wpAnyH_norm (n := 6) (l := #[true, true, true, true, true, false, true, true, true, true, false, false, false, false, false]) (by kernel_rfl) (by kernel_rfl) ?_
          refine take_list (i := 10) (oi := _) (v := ?_) rfl (by kernel_rfl) (by kernel_rfl) (by kernel_rfl) (fun _ _ _ h => h) (Or.inl ⟨by rfl, ?_⟩) (by assumption) ?_
          rotate_left 1
          · intro v hSw
            (try dsimp only at hSw)
            go_simp
            try with_reducible rfl
          try simp only [List.getElem_toArray, List.getElem_cons_succ, List.getElem_cons_zero, Act.put, List.setIfInBounds_toArray, List.set_cons_zero, List.set_cons_succ]
          refine wpAnyH_norm (n := 5) (l := #[true, true, true, true, true, false, true, true, true, true, true, false, false, false, false]) (by kernel_rfl) (by kernel_rfl) ?_
          refine wpAnyH_ready (rs := [5]) (by kernel_rfl) (by simp) ?_
          refine (cons_list (o := _) rfl (fun KQ hK => ?_) AllReadyH.nil)
          rw [if_pos (by rfl)]
          go_wp2_with (go_at_call 83; (with_reducible refine (TB.out _).mono ?_); rintro e u1 ⟨y0, y1, y2, y3, rfl, hy, hu1⟩; have Ya : u1.heap[Ba]? = some (.cells #[.int .u64 s, .int .u64 q, .int .u64 n, .int .u64 f, .int .u64 (a + tA), .int .u64 b] 26 (0, 0)) := blk_call hu1 (by first | (with_reducible exact Ha4.out) | (with_reducible exact blk_drew Ha4.out)); have Yz : u1.heap[Bz]? = some (.cells #[.int .u64 0, .int .u64 0, .int .u64 0, .int .u64 0, .int .u64 0, .int .u64 0] 26 (0, 0)) := blk_call hu1 (by first | (with_reducible exact Hz4.out) | (with_reducible exact blk_drew Hz4.out)); have YB := bel_call hu1 (show Below w.heap.size w _ by first | (with_reducible exact HB4.out) | (with_reducible exact HB4.out.drew)) (by have := HB4.out.size; first | omega | (simp; omega)); obtain ⟨a0q, a1q, a2q, a3q, a4q, a5q, af0q, af1q, af2q, af3q, af4q, af5q⟩ := at6 Ya; have alq := lt_blk Ya; have HS41 := Lib.hid (show u1.cell? ⟨Ba, 1, none⟩ = some (.int .u64 q) ∧ u1.cell? ⟨Ba, 3, none⟩ = some (.int .u64 f) from ⟨cell_blk Ya 1 rfl, cell_blk Ya 3 rfl⟩); have Ha41 := Lib.hid Ya; have Hz41 := Lib.hid Yz; have HB41 := Lib.hid YB; clear hu1 YB Ya Yz)
          refine hK.out _ _ (HS41.out) (fun hHeld => ?_)
          clear hK KQ
          try simp only [List.getElem_toArray, List.getElem_cons_succ, List.getElem_cons_zero, Act.put, List.setIfInBounds_toArray, List.set_cons_zero, List.set_cons_succ]
          refine wpAnyH_norm (n := 4) (l := #[true, true, true, true, true, true, true, true, true, true, true, false, false, false, false]) (by kernel_rfl) (by kernel_rfl) ?_
          refine wpAnyH_ready (rs := [11]) (by kernel_rfl) (by simp) ?_
          refine (cons_list (o := _) rfl (fun KQ hK => ?_) AllReadyH.nil)
          rw [if_pos (by rfl)]
          go_wp2_with (go_at_call 84; (with_reducible refine (LB.out _ _ _ _ hy _).mono ?_); rintro e u2 ⟨rfl, hu2⟩; have Ya : u2.heap[Ba]? = some (.cells #[.int .u64 s, .int .u64 q, .int .u64 n, .int .u64 f, .int .u64 (a + tA), .int .u64 b] 26 (0, 0)) := blk_call hu2 (by first | (with_reducible exact Ha41.out) | (with_reducible exact blk_drew Ha41.out)); have Yz : u2.heap[Bz]? = some (.cells #[.int .u64 0, .int .u64 0, .int .u64 0, .int .u64 0, .int .u64 0, .int .u64 0] 26 (0, 0)) := blk_call hu2 (by first | (with_reducible exact Hz41.out) | (with_reducible exact blk_drew Hz41.out)); have YB := bel_call hu2 (show Below w.heap.size w _ by first | (with_reducible exact HB41.out) | (with_reducible exact HB41.out.drew)) (by have := HB41.out.size; first | omega | (simp; omega)); clear a0q a1q a2q a3q a4q a5q af0q af1q af2q af3q af4q af5q alq; obtain ⟨a0q, a1q, a2q, a3q, a4q, a5q, af0q, af1q, af2q, af3q, af4q, af5q⟩ := at6 Ya; have alq := lt_blk Ya; have HS42 := Lib.hid (show u2.cell? ⟨Ba, 1, none⟩ = some (.int .u64 q) ∧ u2.cell? ⟨Ba, 3, none⟩ = some (.int .u64 f) from ⟨cell_blk Ya 1 rfl, cell_blk Ya 3 rfl⟩); have Ha42 := Lib.hid Ya; have Hz42 := Lib.hid Yz; have HB42 := Lib.hid YB; clear hu2 YB Ya Yz)
          refine hK.out _ _ (HS42.out) (fun hHeld => ?_)
          clear hK KQ
          try simp only [List.getElem_toArray, List.getElem_cons_succ, List.getElem_cons_zero, Act.put, List.setIfInBounds_toArray, List.set_cons_zero, List.set_cons_succ]
          refine wpAnyH_norm (n := 3) (l := #[true, true, true, true, true, true, true, true, true, true, true, true, false, false, false]) (by kernel_rfl) (by kernel_rfl) ?_
          refine take_list (i := 12) (oi := _) (v := ?_) rfl (by kernel_rfl) (by kernel_rfl) (by kernel_rfl) (fun _ _ _ h => h) (Or.inl ⟨by rfl, ?_⟩) (by assumption) ?_
          rotate_left 1
          · intro v hSw
            (try dsimp only at hSw)
            go_simp
            try with_reducible rfl
          try simp only [List.getElem_toArray, List.getElem_cons_succ, List.getElem_cons_zero, Act.put, List.setIfInBounds_toArray, List.set_cons_zero, List.set_cons_succ]
          refine take_list (i := 13) (oi := _) (v := ?_) rfl (by kernel_rfl) (by kernel_rfl) (by kernel_rfl) (fun _ _ _ h => h) (Or.inl ⟨by rfl, ?_⟩) (by assumption) ?_
          rotate_left 1
          · intro v hSw
            (try dsimp only at hSw)
            go_simp
            try with_reducible rfl
          try simp only [List.getElem_toArray, List.getElem_cons_succ, List.getElem_cons_zero, Act.put, List.setIfInBounds_toArray, List.set_cons_zero, List.set_cons_succ]
          refine wpAnyH_norm (n := 1) (l := #[true, true, true, true, true, true, true, true, true, true, true, true, true, true, false]) (by kernel_rfl) (by kernel_rfl) ?_
          refine wpAnyH_ready (rs := [14]) (by kernel_rfl) (by simp) ?_
          refine (cons_list (o := _) rfl (fun KQ hK => ?_) AllReadyH.nil)
          rw [if_pos (by rfl)]
          go_simp
          refine hK.out _ _ (KT.out _ _ HS42.out) (fun hHeld => ?_)
          clear hK KQ
          try simp only [List.getElem_toArray, List.getElem_cons_succ, List.getElem_cons_zero, Act.put, List.setIfInBounds_toArray, List.set_cons_zero, List.set_cons_succ]
          refine wpAnyH_norm (n := 0) (l := #[true, true, true, true, true, true, true, true, true, true, true, true, true, true, true]) (by kernel_rfl) (by kernel_rfl) ?_
          refine wpAnyH_done (by kernel_rfl) ?_ _
          refine NoPanic.normal ?_
          go_wp2
          go_meet
          refine ⟨?_, ?_, ?_⟩
          · (repeat' (first | (with_reducible exact Ha42.out) | (with_reducible exact heap_alloc_new _ _) | (with_reducible exact blk_new (by first | (simp; done) | omega)) | (with_reducible refine blk_drew ?_) | (with_reducible apply put1_0) | (with_reducible apply put2_0) | (with_reducible apply put2_1) | (with_reducible apply put3_0) | (with_reducible apply put3_1) | (with_reducible apply put3_2) | (with_reducible apply put4_0) | (with_reducible apply put4_1) | (with_reducible apply put4_2) | (with_reducible apply put4_3) | (with_reducible apply put5_0) | (with_reducible apply put5_1) | (with_reducible apply put5_2) | (with_reducible apply put5_3) | (with_reducible apply put5_4) | (with_reducible apply put6_0) | (with_reducible apply put6_1) | (with_reducible apply put6_2) | (with_reducible apply put6_3) | (with_reducible apply put6_4) | (with_reducible apply put6_5) | (with_reducible refine blk_else (by omega) ?_) | (with_reducible refine blk_old ?_)))
          · (repeat' (first | (with_reducible exact Hz42.out) | (with_reducible exact heap_alloc_new _ _) | (with_reducible exact blk_new (by first | (simp; done) | omega)) | (with_reducible refine blk_drew ?_) | (with_reducible apply put1_0) | (with_reducible apply put2_0) | (with_reducible apply put2_1) | (with_reducible apply put3_0) | (with_reducible apply put3_1) | (with_reducible apply put3_2) | (with_reducible apply put4_0) | (with_reducible apply put4_1) | (with_reducible apply put4_2) | (with_reducible apply put4_3) | (with_reducible apply put5_0) | (with_reducible apply put5_1) | (with_reducible apply put5_2) | (with_reducible apply put5_3) | (with_reducible apply put5_4) | (with_reducible apply put6_0) | (with_reducible apply put6_1) | (with_reducible apply put6_2) | (with_reducible apply put6_3) | (with_reducible apply put6_4) | (with_reducible apply put6_5) | (with_reducible refine blk_else (by omega) ?_) | (with_reducible refine blk_old ?_)))
          · (repeat' (first | (with_reducible exact HB42.out) | (with_reducible exact Below.refl _ _) | (with_reducible refine below_drewN _ ?_) | (with_reducible refine Below.drew ?_) | (with_reducible refine Below.setCell ?_ (by first | (simp; done) | omega) _) | (with_reducible refine Below.alloc ?_ (by have := HB42.out.size; simp; omega) _)))
      · rw [if_pos (by rfl)]
        go_wp2_with (go_at_call 83; (with_reducible refine (TB.out _).mono ?_); rintro e u1 ⟨y0, y1, y2, y3, rfl, hy, hu1⟩; have Ya : u1.heap[Ba]? = some (.cells #[.int .u64 s, .int .u64 q, .int .u64 n, .int .u64 f, .int .u64 (a + tA), .int .u64 b] 26 (0, 0)) := blk_call hu1 (by first | (with_reducible exact Ha4.out) | (with_reducible exact blk_drew Ha4.out)); have Yz : u1.heap[Bz]? = some (.cells #[.int .u64 0, .int .u64 0, .int .u64 0, .int .u64 0, .int .u64 0, .int .u64 0] 26 (0, 0)) := blk_call hu1 (by first | (with_reducible exact Hz4.out) | (with_reducible exact blk_drew Hz4.out)); have YB := bel_call hu1 (show Below w.heap.size w _ by first | (with_reducible exact HB4.out) | (with_reducible exact HB4.out.drew)) (by have := HB4.out.size; first | omega | (simp; omega)); obtain ⟨a0q, a1q, a2q, a3q, a4q, a5q, af0q, af1q, af2q, af3q, af4q, af5q⟩ := at6 Ya; have alq := lt_blk Ya; have HS41 := Lib.hid (show u1.cell? ⟨Ba, 1, none⟩ = some (.int .u64 q) ∧ u1.cell? ⟨Ba, 3, none⟩ = some (.int .u64 f) from ⟨cell_blk Ya 1 rfl, cell_blk Ya 3 rfl⟩); have Ha41 := Lib.hid Ya; have Hz41 := Lib.hid Yz; have HB41 := Lib.hid YB; clear hu1 YB Ya Yz)
        refine hK.out _ _ (HS41.out) (fun hHeld => ?_)
        clear hK KQ
        try simp only [List.getElem_toArray, List.getElem_cons_succ, List.getElem_cons_zero, Act.put, List.setIfInBounds_toArray, List.set_cons_zero, List.set_cons_succ]
        refine wpAnyH_norm (n := 7) (l := #[true, false, true, true, true, true, true, true, true, false, false, false, false, false, false]) (by kernel_rfl) (by kernel_rfl) ?_
        refine wpAnyH_ready (rs := [1, 9]) (by kernel_rfl) (by simp) ?_
        refine (cons_list (o := _) rfl (fun KQ hK => ?_) (cons_list (o := _) rfl (fun KQ hK => ?_) AllReadyH.nil))
        · rw [if_pos (by rfl)]
          go_simp
          refine hK.out _ _ (HS41.out) (fun hHeld => ?_)
          clear hK KQ
          try simp only [List.getElem_toArray, List.getElem_cons_succ, List.getElem_cons_zero, Act.put, List.setIfInBounds_toArray, List.set_cons_zero, List.set_cons_succ]
          refine wpAnyH_norm (n := 6) (l := #[true, true, true, true, true, true, true, true, true, false, false, false, false, false, false]) (by kernel_rfl) (by kernel_rfl) ?_
          refine wpAnyH_ready (rs := [9]) (by kernel_rfl) (by simp) ?_
          refine (cons_list (o := _) rfl (fun KQ hK => ?_) AllReadyH.nil)
          rw [if_pos (by rfl)]
          go_simp
          refine hK.out _ _ (HS41.out) (fun hHeld => ?_)
          clear hK KQ
          try simp only [List.getElem_toArray, List.getElem_cons_succ, List.getElem_cons_zero, Act.put, List.setIfInBounds_toArray, List.set_cons_zero, List.set_cons_succ]
          refine wpAnyH_norm (n := 5) (l := #[true, true, true, true, true, true, true, true, true, true, false, false, false, false, false]) (by kernel_rfl) (by kernel_rfl) ?_
          refine take_list (i := 10) (oi := _) (v := ?_) rfl (by kernel_rfl) (by kernel_rfl) (by kernel_rfl) (fun _ _ _ h => h) (Or.inl ⟨by rfl, ?_⟩) (by assumption) ?_
          rotate_left 1
          · intro v hSw
            (try dsimp only at hSw)
            go_simp
            try with_reducible rfl
          try simp only [List.getElem_toArray, List.getElem_cons_succ, List.getElem_cons_zero, Act.put, List.setIfInBounds_toArray, List.set_cons_zero, List.set_cons_succ]
          refine wpAnyH_norm (n := 4) (l := #[true, true, true, true, true, true, true, true, true, true, true, false, false, false, false]) (by kernel_rfl) (by kernel_rfl) ?_
          refine wpAnyH_ready (rs := [11]) (by kernel_rfl) (by simp) ?_
          refine (cons_list (o := _) rfl (fun KQ hK => ?_) AllReadyH.nil)
          rw [if_pos (by rfl)]
          go_wp2_with (go_at_call 84; (with_reducible refine (LB.out _ _ _ _ hy _).mono ?_); rintro e u2 ⟨rfl, hu2⟩; have Ya : u2.heap[Ba]? = some (.cells #[.int .u64 s, .int .u64 q, .int .u64 n, .int .u64 f, .int .u64 (a + tA), .int .u64 b] 26 (0, 0)) := blk_call hu2 (by first | (with_reducible exact Ha41.out) | (with_reducible exact blk_drew Ha41.out)); have Yz : u2.heap[Bz]? = some (.cells #[.int .u64 0, .int .u64 0, .int .u64 0, .int .u64 0, .int .u64 0, .int .u64 0] 26 (0, 0)) := blk_call hu2 (by first | (with_reducible exact Hz41.out) | (with_reducible exact blk_drew Hz41.out)); have YB := bel_call hu2 (show Below w.heap.size w _ by first | (with_reducible exact HB41.out) | (with_reducible exact HB41.out.drew)) (by have := HB41.out.size; first | omega | (simp; omega)); clear a0q a1q a2q a3q a4q a5q af0q af1q af2q af3q af4q af5q alq; obtain ⟨a0q, a1q, a2q, a3q, a4q, a5q, af0q, af1q, af2q, af3q, af4q, af5q⟩ := at6 Ya; have alq := lt_blk Ya; have HS42 := Lib.hid (show u2.cell? ⟨Ba, 1, none⟩ = some (.int .u64 q) ∧ u2.cell? ⟨Ba, 3, none⟩ = some (.int .u64 f) from ⟨cell_blk Ya 1 rfl, cell_blk Ya 3 rfl⟩); have Ha42 := Lib.hid Ya; have Hz42 := Lib.hid Yz; have HB42 := Lib.hid YB; clear hu2 YB Ya Yz)
          refine hK.out _ _ (HS42.out) (fun hHeld => ?_)
          clear hK KQ
          try simp only [List.getElem_toArray, List.getElem_cons_succ, List.getElem_cons_zero, Act.put, List.setIfInBounds_toArray, List.set_cons_zero, List.set_cons_succ]
          refine wpAnyH_norm (n := 3) (l := #[true, true, true, true, true, true, true, true, true, true, true, true, false, false, false]) (by kernel_rfl) (by kernel_rfl) ?_
          refine take_list (i := 12) (oi := _) (v := ?_) rfl (by kernel_rfl) (by kernel_rfl) (by kernel_rfl) (fun _ _ _ h => h) (Or.inl ⟨by rfl, ?_⟩) (by assumption) ?_
          rotate_left 1
          · intro v hSw
            (try dsimp only at hSw)
            go_simp
            try with_reducible rfl
          try simp only [List.getElem_toArray, List.getElem_cons_succ, List.getElem_cons_zero, Act.put, List.setIfInBounds_toArray, List.set_cons_zero, List.set_cons_succ]
          refine take_list (i := 13) (oi := _) (v := ?_) rfl (by kernel_rfl) (by kernel_rfl) (by kernel_rfl) (fun _ _ _ h => h) (Or.inl ⟨by rfl, ?_⟩) (by assumption) ?_
          rotate_left 1
          · intro v hSw
            (try dsimp only at hSw)
            go_simp
            try with_reducible rfl
          try simp only [List.getElem_toArray, List.getElem_cons_succ, List.getElem_cons_zero, Act.put, List.setIfInBounds_toArray, List.set_cons_zero, List.set_cons_succ]
          refine wpAnyH_norm (n := 1) (l := #[true, true, true, true, true, true, true, true, true, true, true, true, true, true, false]) (by kernel_rfl) (by kernel_rfl) ?_
          refine wpAnyH_ready (rs := [14]) (by kernel_rfl) (by simp) ?_
          refine (cons_list (o := _) rfl (fun KQ hK => ?_) AllReadyH.nil)
          rw [if_pos (by rfl)]
          go_simp
          refine hK.out _ _ (KT.out _ _ HS42.out) (fun hHeld => ?_)
          clear hK KQ
          try simp only [List.getElem_toArray, List.getElem_cons_succ, List.getElem_cons_zero, Act.put, List.setIfInBounds_toArray, List.set_cons_zero, List.set_cons_succ]
          refine wpAnyH_norm (n := 0) (l := #[true, true, true, true, true, true, true, true, true, true, true, true, true, true, true]) (by kernel_rfl) (by kernel_rfl) ?_
          refine wpAnyH_done (by kernel_rfl) ?_ _
          refine NoPanic.normal ?_
          go_wp2
          go_meet
          refine ⟨?_, ?_, ?_⟩
          · (repeat' (first | (with_reducible exact Ha42.out) | (with_reducible exact heap_alloc_new _ _) | (with_reducible exact blk_new (by first | (simp; done) | omega)) | (with_reducible refine blk_drew ?_) | (with_reducible apply put1_0) | (with_reducible apply put2_0) | (with_reducible apply put2_1) | (with_reducible apply put3_0) | (with_reducible apply put3_1) | (with_reducible apply put3_2) | (with_reducible apply put4_0) | (with_reducible apply put4_1) | (with_reducible apply put4_2) | (with_reducible apply put4_3) | (with_reducible apply put5_0) | (with_reducible apply put5_1) | (with_reducible apply put5_2) | (with_reducible apply put5_3) | (with_reducible apply put5_4) | (with_reducible apply put6_0) | (with_reducible apply put6_1) | (with_reducible apply put6_2) | (with_reducible apply put6_3) | (with_reducible apply put6_4) | (with_reducible apply put6_5) | (with_reducible refine blk_else (by omega) ?_) | (with_reducible refine blk_old ?_)))
          · (repeat' (first | (with_reducible exact Hz42.out) | (with_reducible exact heap_alloc_new _ _) | (with_reducible exact blk_new (by first | (simp; done) | omega)) | (with_reducible refine blk_drew ?_) | (with_reducible apply put1_0) | (with_reducible apply put2_0) | (with_reducible apply put2_1) | (with_reducible apply put3_0) | (with_reducible apply put3_1) | (with_reducible apply put3_2) | (with_reducible apply put4_0) | (with_reducible apply put4_1) | (with_reducible apply put4_2) | (with_reducible apply put4_3) | (with_reducible apply put5_0) | (with_reducible apply put5_1) | (with_reducible apply put5_2) | (with_reducible apply put5_3) | (with_reducible apply put5_4) | (with_reducible apply put6_0) | (with_reducible apply put6_1) | (with_reducible apply put6_2) | (with_reducible apply put6_3) | (with_reducible apply put6_4) | (with_reducible apply put6_5) | (with_reducible refine blk_else (by omega) ?_) | (with_reducible refine blk_old ?_)))
          · (repeat' (first | (with_reducible exact HB42.out) | (with_reducible exact Below.refl _ _) | (with_reducible refine below_drewN _ ?_) | (with_reducible refine Below.drew ?_) | (with_reducible refine Below.setCell ?_ (by first | (simp; done) | omega) _) | (with_reducible refine Below.alloc ?_ (by have := HB42.out.size; simp; omega) _)))
        · rw [if_pos (by rfl)]
          go_simp
          refine hK.out _ _ (HS41.out) (fun hHeld => ?_)
          clear hK KQ
          try simp only [List.getElem_toArray, List.getElem_cons_succ, List.getElem_cons_zero, Act.put, List.setIfInBounds_toArray, List.set_cons_zero, List.set_cons_succ]
          refine wpAnyH_norm (n := 6) (l := #[true, false, true, true, true, true, true, true, true, true, false, false, false, false, false]) (by kernel_rfl) (by kernel_rfl) ?_
          refine take_list (i := 10) (oi := _) (v := ?_) rfl (by kernel_rfl) (by kernel_rfl) (by kernel_rfl) (fun _ _ _ h => h) (Or.inl ⟨by rfl, ?_⟩) (by assumption) ?_
          rotate_left 1
          · intro v hSw
            (try dsimp only at hSw)
            go_simp
            try with_reducible rfl
          try simp only [List.getElem_toArray, List.getElem_cons_succ, List.getElem_cons_zero, Act.put, List.setIfInBounds_toArray, List.set_cons_zero, List.set_cons_succ]
          refine wpAnyH_norm (n := 5) (l := #[true, false, true, true, true, true, true, true, true, true, true, false, false, false, false]) (by kernel_rfl) (by kernel_rfl) ?_
          refine wpAnyH_ready (rs := [1, 11]) (by kernel_rfl) (by simp) ?_
          refine (cons_list (o := _) rfl (fun KQ hK => ?_) (cons_list (o := _) rfl (fun KQ hK => ?_) AllReadyH.nil))
          · rw [if_pos (by rfl)]
            go_simp
            refine hK.out _ _ (HS41.out) (fun hHeld => ?_)
            clear hK KQ
            try simp only [List.getElem_toArray, List.getElem_cons_succ, List.getElem_cons_zero, Act.put, List.setIfInBounds_toArray, List.set_cons_zero, List.set_cons_succ]
            refine wpAnyH_norm (n := 4) (l := #[true, true, true, true, true, true, true, true, true, true, true, false, false, false, false]) (by kernel_rfl) (by kernel_rfl) ?_
            refine wpAnyH_ready (rs := [11]) (by kernel_rfl) (by simp) ?_
            refine (cons_list (o := _) rfl (fun KQ hK => ?_) AllReadyH.nil)
            rw [if_pos (by rfl)]
            go_wp2_with (go_at_call 84; (with_reducible refine (LB.out _ _ _ _ hy _).mono ?_); rintro e u2 ⟨rfl, hu2⟩; have Ya : u2.heap[Ba]? = some (.cells #[.int .u64 s, .int .u64 q, .int .u64 n, .int .u64 f, .int .u64 (a + tA), .int .u64 b] 26 (0, 0)) := blk_call hu2 (by first | (with_reducible exact Ha41.out) | (with_reducible exact blk_drew Ha41.out)); have Yz : u2.heap[Bz]? = some (.cells #[.int .u64 0, .int .u64 0, .int .u64 0, .int .u64 0, .int .u64 0, .int .u64 0] 26 (0, 0)) := blk_call hu2 (by first | (with_reducible exact Hz41.out) | (with_reducible exact blk_drew Hz41.out)); have YB := bel_call hu2 (show Below w.heap.size w _ by first | (with_reducible exact HB41.out) | (with_reducible exact HB41.out.drew)) (by have := HB41.out.size; first | omega | (simp; omega)); clear a0q a1q a2q a3q a4q a5q af0q af1q af2q af3q af4q af5q alq; obtain ⟨a0q, a1q, a2q, a3q, a4q, a5q, af0q, af1q, af2q, af3q, af4q, af5q⟩ := at6 Ya; have alq := lt_blk Ya; have HS42 := Lib.hid (show u2.cell? ⟨Ba, 1, none⟩ = some (.int .u64 q) ∧ u2.cell? ⟨Ba, 3, none⟩ = some (.int .u64 f) from ⟨cell_blk Ya 1 rfl, cell_blk Ya 3 rfl⟩); have Ha42 := Lib.hid Ya; have Hz42 := Lib.hid Yz; have HB42 := Lib.hid YB; clear hu2 YB Ya Yz)
            refine hK.out _ _ (HS42.out) (fun hHeld => ?_)
            clear hK KQ
            try simp only [List.getElem_toArray, List.getElem_cons_succ, List.getElem_cons_zero, Act.put, List.setIfInBounds_toArray, List.set_cons_zero, List.set_cons_succ]
            refine wpAnyH_norm (n := 3) (l := #[true, true, true, true, true, true, true, true, true, true, true, true, false, false, false]) (by kernel_rfl) (by kernel_rfl) ?_
            refine take_list (i := 12) (oi := _) (v := ?_) rfl (by kernel_rfl) (by kernel_rfl) (by kernel_rfl) (fun _ _ _ h => h) (Or.inl ⟨by rfl, ?_⟩) (by assumption) ?_
            rotate_left 1
            · intro v hSw
              (try dsimp only at hSw)
              go_simp
              try with_reducible rfl
            try simp only [List.getElem_toArray, List.getElem_cons_succ, List.getElem_cons_zero, Act.put, List.setIfInBounds_toArray, List.set_cons_zero, List.set_cons_succ]
            refine take_list (i := 13) (oi := _) (v := ?_) rfl (by kernel_rfl) (by kernel_rfl) (by kernel_rfl) (fun _ _ _ h => h) (Or.inl ⟨by rfl, ?_⟩) (by assumption) ?_
            rotate_left 1
            · intro v hSw
              (try dsimp only at hSw)
              go_simp
              try with_reducible rfl
            try simp only [List.getElem_toArray, List.getElem_cons_succ, List.getElem_cons_zero, Act.put, List.setIfInBounds_toArray, List.set_cons_zero, List.set_cons_succ]
            refine wpAnyH_norm (n := 1) (l := #[true, true, true, true, true, true, true, true, true, true, true, true, true, true, false]) (by kernel_rfl) (by kernel_rfl) ?_
            refine wpAnyH_ready (rs := [14]) (by kernel_rfl) (by simp) ?_
            refine (cons_list (o := _) rfl (fun KQ hK => ?_) AllReadyH.nil)
            rw [if_pos (by rfl)]
            go_simp
            refine hK.out _ _ (KT.out _ _ HS42.out) (fun hHeld => ?_)
            clear hK KQ
            try simp only [List.getElem_toArray, List.getElem_cons_succ, List.getElem_cons_zero, Act.put, List.setIfInBounds_toArray, List.set_cons_zero, List.set_cons_succ]
            refine wpAnyH_norm (n := 0) (l := #[true, true, true, true, true, true, true, true, true, true, true, true, true, true, true]) (by kernel_rfl) (by kernel_rfl) ?_
            refine wpAnyH_done (by kernel_rfl) ?_ _
            refine NoPanic.normal ?_
            go_wp2
            go_meet
            refine ⟨?_, ?_, ?_⟩
            · (repeat' (first | (with_reducible exact Ha42.out) | (with_reducible exact heap_alloc_new _ _) | (with_reducible exact blk_new (by first | (simp; done) | omega)) | (with_reducible refine blk_drew ?_) | (with_reducible apply put1_0) | (with_reducible apply put2_0) | (with_reducible apply put2_1) | (with_reducible apply put3_0) | (with_reducible apply put3_1) | (with_reducible apply put3_2) | (with_reducible apply put4_0) | (with_reducible apply put4_1) | (with_reducible apply put4_2) | (with_reducible apply put4_3) | (with_reducible apply put5_0) | (with_reducible apply put5_1) | (with_reducible apply put5_2) | (with_reducible apply put5_3) | (with_reducible apply put5_4) | (with_reducible apply put6_0) | (with_reducible apply put6_1) | (with_reducible apply put6_2) | (with_reducible apply put6_3) | (with_reducible apply put6_4) | (with_reducible apply put6_5) | (with_reducible refine blk_else (by omega) ?_) | (with_reducible refine blk_old ?_)))
            · (repeat' (first | (with_reducible exact Hz42.out) | (with_reducible exact heap_alloc_new _ _) | (with_reducible exact blk_new (by first | (simp; done) | omega)) | (with_reducible refine blk_drew ?_) | (with_reducible apply put1_0) | (with_reducible apply put2_0) | (with_reducible apply put2_1) | (with_reducible apply put3_0) | (with_reducible apply put3_1) | (with_reducible apply put3_2) | (with_reducible apply put4_0) | (with_reducible apply put4_1) | (with_reducible apply put4_2) | (with_reducible apply put4_3) | (with_reducible apply put5_0) | (with_reducible apply put5_1) | (with_reducible apply put5_2) | (with_reducible apply put5_3) | (with_reducible apply put5_4) | (with_reducible apply put6_0) | (with_reducible apply put6_1) | (with_reducible apply put6_2) | (with_reducible apply put6_3) | (with_reducible apply put6_4) | (with_reducible apply put6_5) | (with_reducible refine blk_else (by omega) ?_) | (with_reducible refine blk_old ?_)))
            · (repeat' (first | (with_reducible exact HB42.out) | (with_reducible exact Below.refl _ _) | (with_reducible refine below_drewN _ ?_) | (with_reducible refine Below.drew ?_) | (with_reducible refine Below.setCell ?_ (by first | (simp; done) | omega) _) | (with_reducible refine Below.alloc ?_ (by have := HB42.out.size; simp; omega) _)))
          · rw [if_pos (by rfl)]
            go_wp2_with (go_at_call 84; (with_reducible refine (LB.out _ _ _ _ hy _).mono ?_); rintro e u2 ⟨rfl, hu2⟩; have Ya : u2.heap[Ba]? = some (.cells #[.int .u64 s, .int .u64 q, .int .u64 n, .int .u64 f, .int .u64 (a + tA), .int .u64 b] 26 (0, 0)) := blk_call hu2 (by first | (with_reducible exact Ha41.out) | (with_reducible exact blk_drew Ha41.out)); have Yz : u2.heap[Bz]? = some (.cells #[.int .u64 0, .int .u64 0, .int .u64 0, .int .u64 0, .int .u64 0, .int .u64 0] 26 (0, 0)) := blk_call hu2 (by first | (with_reducible exact Hz41.out) | (with_reducible exact blk_drew Hz41.out)); have YB := bel_call hu2 (show Below w.heap.size w _ by first | (with_reducible exact HB41.out) | (with_reducible exact HB41.out.drew)) (by have := HB41.out.size; first | omega | (simp; omega)); clear a0q a1q a2q a3q a4q a5q af0q af1q af2q af3q af4q af5q alq; obtain ⟨a0q, a1q, a2q, a3q, a4q, a5q, af0q, af1q, af2q, af3q, af4q, af5q⟩ := at6 Ya; have alq := lt_blk Ya; have HS42 := Lib.hid (show u2.cell? ⟨Ba, 1, none⟩ = some (.int .u64 q) ∧ u2.cell? ⟨Ba, 3, none⟩ = some (.int .u64 f) from ⟨cell_blk Ya 1 rfl, cell_blk Ya 3 rfl⟩); have Ha42 := Lib.hid Ya; have Hz42 := Lib.hid Yz; have HB42 := Lib.hid YB; clear hu2 YB Ya Yz)
            refine hK.out _ _ (HS42.out) (fun hHeld => ?_)
            clear hK KQ
            try simp only [List.getElem_toArray, List.getElem_cons_succ, List.getElem_cons_zero, Act.put, List.setIfInBounds_toArray, List.set_cons_zero, List.set_cons_succ]
            refine wpAnyH_norm (n := 4) (l := #[true, false, true, true, true, true, true, true, true, true, true, true, false, false, false]) (by kernel_rfl) (by kernel_rfl) ?_
            refine wpAnyH_ready (rs := [1]) (by kernel_rfl) (by simp) ?_
            refine (cons_list (o := _) rfl (fun KQ hK => ?_) AllReadyH.nil)
            rw [if_pos (by rfl)]
            go_simp
            refine hK.out _ _ (HS42.out) (fun hHeld => ?_)
            clear hK KQ
            try simp only [List.getElem_toArray, List.getElem_cons_succ, List.getElem_cons_zero, Act.put, List.setIfInBounds_toArray, List.set_cons_zero, List.set_cons_succ]
            refine wpAnyH_norm (n := 3) (l := #[true, true, true, true, true, true, true, true, true, true, true, true, false, false, false]) (by kernel_rfl) (by kernel_rfl) ?_
            refine take_list (i := 12) (oi := _) (v := ?_) rfl (by kernel_rfl) (by kernel_rfl) (by kernel_rfl) (fun _ _ _ h => h) (Or.inl ⟨by rfl, ?_⟩) (by assumption) ?_
            rotate_left 1
            · intro v hSw
              (try dsimp only at hSw)
              go_simp
              try with_reducible rfl
            try simp only [List.getElem_toArray, List.getElem_cons_succ, List.getElem_cons_zero, Act.put, List.setIfInBounds_toArray, List.set_cons_zero, List.set_cons_succ]
            refine take_list (i := 13) (oi := _) (v := ?_) rfl (by kernel_rfl) (by kernel_rfl) (by kernel_rfl) (fun _ _ _ h => h) (Or.inl ⟨by rfl, ?_⟩) (by assumption) ?_
            rotate_left 1
            · intro v hSw
              (try dsimp only at hSw)
              go_simp
              try with_reducible rfl
            try simp only [List.getElem_toArray, List.getElem_cons_succ, List.getElem_cons_zero, Act.put, List.setIfInBounds_toArray, List.set_cons_zero, List.set_cons_succ]
            refine wpAnyH_norm (n := 1) (l := #[true, true, true, true, true, true, true, true, true, true, true, true, true, true, false]) (by kernel_rfl) (by kernel_rfl) ?_
            refine wpAnyH_ready (rs := [14]) (by kernel_rfl) (by simp) ?_
            refine (cons_list (o := _) rfl (fun KQ hK => ?_) AllReadyH.nil)
            rw [if_pos (by rfl)]
            go_simp
            refine hK.out _ _ (KT.out _ _ HS42.out) (fun hHeld => ?_)
            clear hK KQ
            try simp only [List.getElem_toArray, List.getElem_cons_succ, List.getElem_cons_zero, Act.put, List.setIfInBounds_toArray, List.set_cons_zero, List.set_cons_succ]
            refine wpAnyH_norm (n := 0) (l := #[true, true, true, true, true, true, true, true, true, true, true, true, true, true, true]) (by kernel_rfl) (by kernel_rfl) ?_
            refine wpAnyH_done (by kernel_rfl) ?_ _
            refine NoPanic.normal ?_
            go_wp2
            go_meet
            refine ⟨?_, ?_, ?_⟩
            · (repeat' (first | (with_reducible exact Ha42.out) | (with_reducible exact heap_alloc_new _ _) | (with_reducible exact blk_new (by first | (simp; done) | omega)) | (with_reducible refine blk_drew ?_) | (with_reducible apply put1_0) | (with_reducible apply put2_0) | (with_reducible apply put2_1) | (with_reducible apply put3_0) | (with_reducible apply put3_1) | (with_reducible apply put3_2) | (with_reducible apply put4_0) | (with_reducible apply put4_1) | (with_reducible apply put4_2) | (with_reducible apply put4_3) | (with_reducible apply put5_0) | (with_reducible apply put5_1) | (with_reducible apply put5_2) | (with_reducible apply put5_3) | (with_reducible apply put5_4) | (with_reducible apply put6_0) | (with_reducible apply put6_1) | (with_reducible apply put6_2) | (with_reducible apply put6_3) | (with_reducible apply put6_4) | (with_reducible apply put6_5) | (with_reducible refine blk_else (by omega) ?_) | (with_reducible refine blk_old ?_)))
            · (repeat' (first | (with_reducible exact Hz42.out) | (with_reducible exact heap_alloc_new _ _) | (with_reducible exact blk_new (by first | (simp; done) | omega)) | (with_reducible refine blk_drew ?_) | (with_reducible apply put1_0) | (with_reducible apply put2_0) | (with_reducible apply put2_1) | (with_reducible apply put3_0) | (with_reducible apply put3_1) | (with_reducible apply put3_2) | (with_reducible apply put4_0) | (with_reducible apply put4_1) | (with_reducible apply put4_2) | (with_reducible apply put4_3) | (with_reducible apply put5_0) | (with_reducible apply put5_1) | (with_reducible apply put5_2) | (with_reducible apply put5_3) | (with_reducible apply put5_4) | (with_reducible apply put6_0) | (with_reducible apply put6_1) | (with_reducible apply put6_2) | (with_reducible apply put6_3) | (with_reducible apply put6_4) | (with_reducible apply put6_5) | (with_reducible refine blk_else (by omega) ?_) | (with_reducible refine blk_old ?_)))
            · (repeat' (first | (with_reducible exact HB42.out) | (with_reducible exact Below.refl _ _) | (with_reducible refine below_drewN _ ?_) | (with_reducible refine Below.drew ?_) | (with_reducible refine Below.setCell ?_ (by first | (simp; done) | omega) _) | (with_reducible refine Below.alloc ?_ (by have := HB42.out.size; simp; omega) _)))
      · rw [if_pos (by rfl)]
        go_simp
        refine hK.out _ _ (⟨a1_, a3_⟩) (fun hHeld => ?_)
        clear hK KQ
        try simp only [List.getElem_toArray, List.getElem_cons_succ, List.getElem_cons_zero, Act.put, List.setIfInBounds_toArray, List.set_cons_zero, List.set_cons_succ]
        refine wpAnyH_norm (n := 7) (l := #[true, false, true, true, true, false, true, true, true, true, false, false, false, false, false]) (by kernel_rfl) (by kernel_rfl) ?_
        refine take_list (i := 10) (oi := _) (v := ?_) rfl (by kernel_rfl) (by kernel_rfl) (by kernel_rfl) (fun _ _ _ h => h) (Or.inl ⟨by rfl, ?_⟩) (by assumption) ?_
        rotate_left 1
        · intro v hSw
          (try dsimp only at hSw)
          go_simp
          try with_reducible rfl
        try simp only [List.getElem_toArray, List.getElem_cons_succ, List.getElem_cons_zero, Act.put, List.setIfInBounds_toArray, List.set_cons_zero, List.set_cons_succ]
        refine wpAnyH_norm (n := 6) (l := #[true, false, true, true, true, false, true, true, true, true, true, false, false, false, false]) (by kernel_rfl) (by kernel_rfl) ?_
        refine wpAnyH_ready (rs := [1, 5]) (by kernel_rfl) (by simp) ?_
        refine (cons_list (o := _) rfl (fun KQ hK => ?_) (cons_list (o := _) rfl (fun KQ hK => ?_) AllReadyH.nil))
        · rw [if_pos (by rfl)]
          go_simp
          refine hK.out _ _ (⟨a1_, a3_⟩) (fun hHeld => ?_)
          clear hK KQ
          try simp only [List.getElem_toArray, List.getElem_cons_succ, List.getElem_cons_zero, Act.put, List.setIfInBounds_toArray, List.set_cons_zero, List.set_cons_succ]
          refine wpAnyH_norm (n := 5) (l := #[true, true, true, true, true, false, true, true, true, true, true, false, false, false, false]) (by kernel_rfl) (by kernel_rfl) ?_
          refine wpAnyH_ready (rs := [5]) (by kernel_rfl) (by simp) ?_
          refine (cons_list (o := _) rfl (fun KQ hK => ?_) AllReadyH.nil)
          rw [if_pos (by rfl)]
          go_wp2_with (go_at_call 83; (with_reducible refine (TB.out _).mono ?_); rintro e u1 ⟨y0, y1, y2, y3, rfl, hy, hu1⟩; have Ya : u1.heap[Ba]? = some (.cells #[.int .u64 s, .int .u64 q, .int .u64 n, .int .u64 f, .int .u64 (a + tA), .int .u64 b] 26 (0, 0)) := blk_call hu1 (by first | (with_reducible exact Ha4.out) | (with_reducible exact blk_drew Ha4.out)); have Yz : u1.heap[Bz]? = some (.cells #[.int .u64 0, .int .u64 0, .int .u64 0, .int .u64 0, .int .u64 0, .int .u64 0] 26 (0, 0)) := blk_call hu1 (by first | (with_reducible exact Hz4.out) | (with_reducible exact blk_drew Hz4.out)); have YB := bel_call hu1 (show Below w.heap.size w _ by first | (with_reducible exact HB4.out) | (with_reducible exact HB4.out.drew)) (by have := HB4.out.size; first | omega | (simp; omega)); obtain ⟨a0q, a1q, a2q, a3q, a4q, a5q, af0q, af1q, af2q, af3q, af4q, af5q⟩ := at6 Ya; have alq := lt_blk Ya; have HS41 := Lib.hid (show u1.cell? ⟨Ba, 1, none⟩ = some (.int .u64 q) ∧ u1.cell? ⟨Ba, 3, none⟩ = some (.int .u64 f) from ⟨cell_blk Ya 1 rfl, cell_blk Ya 3 rfl⟩); have Ha41 := Lib.hid Ya; have Hz41 := Lib.hid Yz; have HB41 := Lib.hid YB; clear hu1 YB Ya Yz)
          refine hK.out _ _ (HS41.out) (fun hHeld => ?_)
          clear hK KQ
          try simp only [List.getElem_toArray, List.getElem_cons_succ, List.getElem_cons_zero, Act.put, List.setIfInBounds_toArray, List.set_cons_zero, List.set_cons_succ]
          refine wpAnyH_norm (n := 4) (l := #[true, true, true, true, true, true, true, true, true, true, true, false, false, false, false]) (by kernel_rfl) (by kernel_rfl) ?_
          refine wpAnyH_ready (rs := [11]) (by kernel_rfl) (by simp) ?_
          refine (cons_list (o := _) rfl (fun KQ hK => ?_) AllReadyH.nil)
          rw [if_pos (by rfl)]
          go_wp2_with (go_at_call 84; (with_reducible refine (LB.out _ _ _ _ hy _).mono ?_); rintro e u2 ⟨rfl, hu2⟩; have Ya : u2.heap[Ba]? = some (.cells #[.int .u64 s, .int .u64 q, .int .u64 n, .int .u64 f, .int .u64 (a + tA), .int .u64 b] 26 (0, 0)) := blk_call hu2 (by first | (with_reducible exact Ha41.out) | (with_reducible exact blk_drew Ha41.out)); have Yz : u2.heap[Bz]? = some (.cells #[.int .u64 0, .int .u64 0, .int .u64 0, .int .u64 0, .int .u64 0, .int .u64 0] 26 (0, 0)) := blk_call hu2 (by first | (with_reducible exact Hz41.out) | (with_reducible exact blk_drew Hz41.out)); have YB := bel_call hu2 (show Below w.heap.size w _ by first | (with_reducible exact HB41.out) | (with_reducible exact HB41.out.drew)) (by have := HB41.out.size; first | omega | (simp; omega)); clear a0q a1q a2q a3q a4q a5q af0q af1q af2q af3q af4q af5q alq; obtain ⟨a0q, a1q, a2q, a3q, a4q, a5q, af0q, af1q, af2q, af3q, af4q, af5q⟩ := at6 Ya; have alq := lt_blk Ya; have HS42 := Lib.hid (show u2.cell? ⟨Ba, 1, none⟩ = some (.int .u64 q) ∧ u2.cell? ⟨Ba, 3, none⟩ = some (.int .u64 f) from ⟨cell_blk Ya 1 rfl, cell_blk Ya 3 rfl⟩); have Ha42 := Lib.hid Ya; have Hz42 := Lib.hid Yz; have HB42 := Lib.hid YB; clear hu2 YB Ya Yz)
          refine hK.out _ _ (HS42.out) (fun hHeld => ?_)
          clear hK KQ
          try simp only [List.getElem_toArray, List.getElem_cons_succ, List.getElem_cons_zero, Act.put, List.setIfInBounds_toArray, List.set_cons_zero, List.set_cons_succ]
          refine wpAnyH_norm (n := 3) (l := #[true, true, true, true, true, true, true, true, true, true, true, true, false, false, false]) (by kernel_rfl) (by kernel_rfl) ?_
          refine take_list (i := 12) (oi := _) (v := ?_) rfl (by kernel_rfl) (by kernel_rfl) (by kernel_rfl) (fun _ _ _ h => h) (Or.inl ⟨by rfl, ?_⟩) (by assumption) ?_
          rotate_left 1
          · intro v hSw
            (try dsimp only at hSw)
            go_simp
            try with_reducible rfl
          try simp only [List.getElem_toArray, List.getElem_cons_succ, List.getElem_cons_zero, Act.put, List.setIfInBounds_toArray, List.set_cons_zero, List.set_cons_succ]
          refine take_list (i := 13) (oi := _) (v := ?_) rfl (by kernel_rfl) (by kernel_rfl) (by kernel_rfl) (fun _ _ _ h => h) (Or.inl ⟨by rfl, ?_⟩) (by assumption) ?_
          rotate_left 1
          · intro v hSw
            (try dsimp only at hSw)
            go_simp
            try with_reducible rfl
          try simp only [List.getElem_toArray, List.getElem_cons_succ, List.getElem_cons_zero, Act.put, List.setIfInBounds_toArray, List.set_cons_zero, List.set_cons_succ]
          refine wpAnyH_norm (n := 1) (l := #[true, true, true, true, true, true, true, true, true, true, true, true, true, true, false]) (by kernel_rfl) (by kernel_rfl) ?_
          refine wpAnyH_ready (rs := [14]) (by kernel_rfl) (by simp) ?_
          refine (cons_list (o := _) rfl (fun KQ hK => ?_) AllReadyH.nil)
          rw [if_pos (by rfl)]
          go_simp
          refine hK.out _ _ (KT.out _ _ HS42.out) (fun hHeld => ?_)
          clear hK KQ
          try simp only [List.getElem_toArray, List.getElem_cons_succ, List.getElem_cons_zero, Act.put, List.setIfInBounds_toArray, List.set_cons_zero, List.set_cons_succ]
          refine wpAnyH_norm (n := 0) (l := #[true, true, true, true, true, true, true, true, true, true, true, true, true, true, true]) (by kernel_rfl) (by kernel_rfl) ?_
          refine wpAnyH_done (by kernel_rfl) ?_ _
          refine NoPanic.normal ?_
          go_wp2
          go_meet
          refine ⟨?_, ?_, ?_⟩
          · (repeat' (first | (with_reducible exact Ha42.out) | (with_reducible exact heap_alloc_new _ _) | (with_reducible exact blk_new (by first | (simp; done) | omega)) | (with_reducible refine blk_drew ?_) | (with_reducible apply put1_0) | (with_reducible apply put2_0) | (with_reducible apply put2_1) | (with_reducible apply put3_0) | (with_reducible apply put3_1) | (with_reducible apply put3_2) | (with_reducible apply put4_0) | (with_reducible apply put4_1) | (with_reducible apply put4_2) | (with_reducible apply put4_3) | (with_reducible apply put5_0) | (with_reducible apply put5_1) | (with_reducible apply put5_2) | (with_reducible apply put5_3) | (with_reducible apply put5_4) | (with_reducible apply put6_0) | (with_reducible apply put6_1) | (with_reducible apply put6_2) | (with_reducible apply put6_3) | (with_reducible apply put6_4) | (with_reducible apply put6_5) | (with_reducible refine blk_else (by omega) ?_) | (with_reducible refine blk_old ?_)))
          · (repeat' (first | (with_reducible exact Hz42.out) | (with_reducible exact heap_alloc_new _ _) | (with_reducible exact blk_new (by first | (simp; done) | omega)) | (with_reducible refine blk_drew ?_) | (with_reducible apply put1_0) | (with_reducible apply put2_0) | (with_reducible apply put2_1) | (with_reducible apply put3_0) | (with_reducible apply put3_1) | (with_reducible apply put3_2) | (with_reducible apply put4_0) | (with_reducible apply put4_1) | (with_reducible apply put4_2) | (with_reducible apply put4_3) | (with_reducible apply put5_0) | (with_reducible apply put5_1) | (with_reducible apply put5_2) | (with_reducible apply put5_3) | (with_reducible apply put5_4) | (with_reducible apply put6_0) | (with_reducible apply put6_1) | (with_reducible apply put6_2) | (with_reducible apply put6_3) | (with_reducible apply put6_4) | (with_reducible apply put6_5) | (with_reducible refine blk_else (by omega) ?_) | (with_reducible refine blk_old ?_)))
          · (repeat' (first | (with_reducible exact HB42.out) | (with_reducible exact Below.refl _ _) | (with_reducible refine below_drewN _ ?_) | (with_reducible refine Below.drew ?_) | (with_reducible refine Below.setCell ?_ (by first | (simp; done) | omega) _) | (with_reducible refine Below.alloc ?_ (by have := HB42.out.size; simp; omega) _)))
        · rw [if_pos (by rfl)]
          go_wp2_with (go_at_call 83; (with_reducible refine (TB.out _).mono ?_); rintro e u1 ⟨y0, y1, y2, y3, rfl, hy, hu1⟩; have Ya : u1.heap[Ba]? = some (.cells #[.int .u64 s, .int .u64 q, .int .u64 n, .int .u64 f, .int .u64 (a + tA), .int .u64 b] 26 (0, 0)) := blk_call hu1 (by first | (with_reducible exact Ha4.out) | (with_reducible exact blk_drew Ha4.out)); have Yz : u1.heap[Bz]? = some (.cells #[.int .u64 0, .int .u64 0, .int .u64 0, .int .u64 0, .int .u64 0, .int .u64 0] 26 (0, 0)) := blk_call hu1 (by first | (with_reducible exact Hz4.out) | (with_reducible exact blk_drew Hz4.out)); have YB := bel_call hu1 (show Below w.heap.size w _ by first | (with_reducible exact HB4.out) | (with_reducible exact HB4.out.drew)) (by have := HB4.out.size; first | omega | (simp; omega)); obtain ⟨a0q, a1q, a2q, a3q, a4q, a5q, af0q, af1q, af2q, af3q, af4q, af5q⟩ := at6 Ya; have alq := lt_blk Ya; have HS41 := Lib.hid (show u1.cell? ⟨Ba, 1, none⟩ = some (.int .u64 q) ∧ u1.cell? ⟨Ba, 3, none⟩ = some (.int .u64 f) from ⟨cell_blk Ya 1 rfl, cell_blk Ya 3 rfl⟩); have Ha41 := Lib.hid Ya; have Hz41 := Lib.hid Yz; have HB41 := Lib.hid YB; clear hu1 YB Ya Yz)
          refine hK.out _ _ (HS41.out) (fun hHeld => ?_)
          clear hK KQ
          try simp only [List.getElem_toArray, List.getElem_cons_succ, List.getElem_cons_zero, Act.put, List.setIfInBounds_toArray, List.set_cons_zero, List.set_cons_succ]
          refine wpAnyH_norm (n := 5) (l := #[true, false, true, true, true, true, true, true, true, true, true, false, false, false, false]) (by kernel_rfl) (by kernel_rfl) ?_
          refine wpAnyH_ready (rs := [1, 11]) (by kernel_rfl) (by simp) ?_
          refine (cons_list (o := _) rfl (fun KQ hK => ?_) (cons_list (o := _) rfl (fun KQ hK => ?_) AllReadyH.nil))
          · rw [if_pos (by rfl)]
            go_simp
            refine hK.out _ _ (HS41.out) (fun hHeld => ?_)
            clear hK KQ
            try simp only [List.getElem_toArray, List.getElem_cons_succ, List.getElem_cons_zero, Act.put, List.setIfInBounds_toArray, List.set_cons_zero, List.set_cons_succ]
            refine wpAnyH_norm (n := 4) (l := #[true, true, true, true, true, true, true, true, true, true, true, false, false, false, false]) (by kernel_rfl) (by kernel_rfl) ?_
            refine wpAnyH_ready (rs := [11]) (by kernel_rfl) (by simp) ?_
            refine (cons_list (o := _) rfl (fun KQ hK => ?_) AllReadyH.nil)
            rw [if_pos (by rfl)]
            go_wp2_with (go_at_call 84; (with_reducible refine (LB.out _ _ _ _ hy _).mono ?_); rintro e u2 ⟨rfl, hu2⟩; have Ya : u2.heap[Ba]? = some (.cells #[.int .u64 s, .int .u64 q, .int .u64 n, .int .u64 f, .int .u64 (a + tA), .int .u64 b] 26 (0, 0)) := blk_call hu2 (by first | (with_reducible exact Ha41.out) | (with_reducible exact blk_drew Ha41.out)); have Yz : u2.heap[Bz]? = some (.cells #[.int .u64 0, .int .u64 0, .int .u64 0, .int .u64 0, .int .u64 0, .int .u64 0] 26 (0, 0)) := blk_call hu2 (by first | (with_reducible exact Hz41.out) | (with_reducible exact blk_drew Hz41.out)); have YB := bel_call hu2 (show Below w.heap.size w _ by first | (with_reducible exact HB41.out) | (with_reducible exact HB41.out.drew)) (by have := HB41.out.size; first | omega | (simp; omega)); clear a0q a1q a2q a3q a4q a5q af0q af1q af2q af3q af4q af5q alq; obtain ⟨a0q, a1q, a2q, a3q, a4q, a5q, af0q, af1q, af2q, af3q, af4q, af5q⟩ := at6 Ya; have alq := lt_blk Ya; have HS42 := Lib.hid (show u2.cell? ⟨Ba, 1, none⟩ = some (.int .u64 q) ∧ u2.cell? ⟨Ba, 3, none⟩ = some (.int .u64 f) from ⟨cell_blk Ya 1 rfl, cell_blk Ya 3 rfl⟩); have Ha42 := Lib.hid Ya; have Hz42 := Lib.hid Yz; have HB42 := Lib.hid YB; clear hu2 YB Ya Yz)
            refine hK.out _ _ (HS42.out) (fun hHeld => ?_)
            clear hK KQ
            try simp only [List.getElem_toArray, List.getElem_cons_succ, List.getElem_cons_zero, Act.put, List.setIfInBounds_toArray, List.set_cons_zero, List.set_cons_succ]
            refine wpAnyH_norm (n := 3) (l := #[true, true, true, true, true, true, true, true, true, true, true, true, false, false, false]) (by kernel_rfl) (by kernel_rfl) ?_
            refine take_list (i := 12) (oi := _) (v := ?_) rfl (by kernel_rfl) (by kernel_rfl) (by kernel_rfl) (fun _ _ _ h => h) (Or.inl ⟨by rfl, ?_⟩) (by assumption) ?_
            rotate_left 1
            · intro v hSw
              (try dsimp only at hSw)
              go_simp
              try with_reducible rfl
            try simp only [List.getElem_toArray, List.getElem_cons_succ, List.getElem_cons_zero, Act.put, List.setIfInBounds_toArray, List.set_cons_zero, List.set_cons_succ]
            refine take_list (i := 13) (oi := _) (v := ?_) rfl (by kernel_rfl) (by kernel_rfl) (by kernel_rfl) (fun _ _ _ h => h) (Or.inl ⟨by rfl, ?_⟩) (by assumption) ?_
            rotate_left 1
            · intro v hSw
              (try dsimp only at hSw)
              go_simp
              try with_reducible rfl
            try simp only [List.getElem_toArray, List.getElem_cons_succ, List.getElem_cons_zero, Act.put, List.setIfInBounds_toArray, List.set_cons_zero, List.set_cons_succ]
            refine wpAnyH_norm (n := 1) (l := #[true, true, true, true, true, true, true, true, true, true, true, true, true, true, false]) (by kernel_rfl) (by kernel_rfl) ?_
            refine wpAnyH_ready (rs := [14]) (by kernel_rfl) (by simp) ?_
            refine (cons_list (o := _) rfl (fun KQ hK => ?_) AllReadyH.nil)
            rw [if_pos (by rfl)]
            go_simp
            refine hK.out _ _ (KT.out _ _ HS42.out) (fun hHeld => ?_)
            clear hK KQ
            try simp only [List.getElem_toArray, List.getElem_cons_succ, List.getElem_cons_zero, Act.put, List.setIfInBounds_toArray, List.set_cons_zero, List.set_cons_succ]
            refine wpAnyH_norm (n := 0) (l := #[true, true, true, true, true, true, true, true, true, true, true, true, true, true, true]) (by kernel_rfl) (by kernel_rfl) ?_
            refine wpAnyH_done (by kernel_rfl) ?_ _
            refine NoPanic.normal ?_
            go_wp2
            go_meet
            refine ⟨?_, ?_, ?_⟩
            · (repeat' (first | (with_reducible exact Ha42.out) | (with_reducible exact heap_alloc_new _ _) | (with_reducible exact blk_new (by first | (simp; done) | omega)) | (with_reducible refine blk_drew ?_) | (with_reducible apply put1_0) | (with_reducible apply put2_0) | (with_reducible apply put2_1) | (with_reducible apply put3_0) | (with_reducible apply put3_1) | (with_reducible apply put3_2) | (with_reducible apply put4_0) | (with_reducible apply put4_1) | (with_reducible apply put4_2) | (with_reducible apply put4_3) | (with_reducible apply put5_0) | (with_reducible apply put5_1) | (with_reducible apply put5_2) | (with_reducible apply put5_3) | (with_reducible apply put5_4) | (with_reducible apply put6_0) | (with_reducible apply put6_1) | (with_reducible apply put6_2) | (with_reducible apply put6_3) | (with_reducible apply put6_4) | (with_reducible apply put6_5) | (with_reducible refine blk_else (by omega) ?_) | (with_reducible refine blk_old ?_)))
            · (repeat' (first | (with_reducible exact Hz42.out) | (with_reducible exact heap_alloc_new _ _) | (with_reducible exact blk_new (by first | (simp; done) | omega)) | (with_reducible refine blk_drew ?_) | (with_reducible apply put1_0) | (with_reducible apply put2_0) | (with_reducible apply put2_1) | (with_reducible apply put3_0) | (with_reducible apply put3_1) | (with_reducible apply put3_2) | (with_reducible apply put4_0) | (with_reducible apply put4_1) | (with_reducible apply put4_2) | (with_reducible apply put4_3) | (with_reducible apply put5_0) | (with_reducible apply put5_1) | (with_reducible apply put5_2) | (with_reducible apply put5_3) | (with_reducible apply put5_4) | (with_reducible apply put6_0) | (with_reducible apply put6_1) | (with_reducible apply put6_2) | (with_reducible apply put6_3) | (with_reducible apply put6_4) | (with_reducible apply put6_5) | (with_reducible refine blk_else (by omega) ?_) | (with_reducible refine blk_old ?_)))
            · (repeat' (first | (with_reducible exact HB42.out) | (with_reducible exact Below.refl _ _) | (with_reducible refine below_drewN _ ?_) | (with_reducible refine Below.drew ?_) | (with_reducible refine Below.setCell ?_ (by first | (simp; done) | omega) _) | (with_reducible refine Below.alloc ?_ (by have := HB42.out.size; simp; omega) _)))
          · rw [if_pos (by rfl)]
            go_wp2_with (go_at_call 84; (with_reducible refine (LB.out _ _ _ _ hy _).mono ?_); rintro e u2 ⟨rfl, hu2⟩; have Ya : u2.heap[Ba]? = some (.cells #[.int .u64 s, .int .u64 q, .int .u64 n, .int .u64 f, .int .u64 (a + tA), .int .u64 b] 26 (0, 0)) := blk_call hu2 (by first | (with_reducible exact Ha41.out) | (with_reducible exact blk_drew Ha41.out)); have Yz : u2.heap[Bz]? = some (.cells #[.int .u64 0, .int .u64 0, .int .u64 0, .int .u64 0, .int .u64 0, .int .u64 0] 26 (0, 0)) := blk_call hu2 (by first | (with_reducible exact Hz41.out) | (with_reducible exact blk_drew Hz41.out)); have YB := bel_call hu2 (show Below w.heap.size w _ by first | (with_reducible exact HB41.out) | (with_reducible exact HB41.out.drew)) (by have := HB41.out.size; first | omega | (simp; omega)); clear a0q a1q a2q a3q a4q a5q af0q af1q af2q af3q af4q af5q alq; obtain ⟨a0q, a1q, a2q, a3q, a4q, a5q, af0q, af1q, af2q, af3q, af4q, af5q⟩ := at6 Ya; have alq := lt_blk Ya; have HS42 := Lib.hid (show u2.cell? ⟨Ba, 1, none⟩ = some (.int .u64 q) ∧ u2.cell? ⟨Ba, 3, none⟩ = some (.int .u64 f) from ⟨cell_blk Ya 1 rfl, cell_blk Ya 3 rfl⟩); have Ha42 := Lib.hid Ya; have Hz42 := Lib.hid Yz; have HB42 := Lib.hid YB; clear hu2 YB Ya Yz)
            refine hK.out _ _ (HS42.out) (fun hHeld => ?_)
            clear hK KQ
            try simp only [List.getElem_toArray, List.getElem_cons_succ, List.getElem_cons_zero, Act.put, List.setIfInBounds_toArray, List.set_cons_zero, List.set_cons_succ]
            refine wpAnyH_norm (n := 4) (l := #[true, false, true, true, true, true, true, true, true, true, true, true, false, false, false]) (by kernel_rfl) (by kernel_rfl) ?_
            refine wpAnyH_ready (rs := [1]) (by kernel_rfl) (by simp) ?_
            refine (cons_list (o := _) rfl (fun KQ hK => ?_) AllReadyH.nil)
            rw [if_pos (by rfl)]
            go_simp
            refine hK.out _ _ (HS42.out) (fun hHeld => ?_)
            clear hK KQ
            try simp only [List.getElem_toArray, List.getElem_cons_succ, List.getElem_cons_zero, Act.put, List.setIfInBounds_toArray, List.set_cons_zero, List.set_cons_succ]
            refine wpAnyH_norm (n := 3) (l := #[true, true, true, true, true, true, true, true, true, true, true, true, false, false, false]) (by kernel_rfl) (by kernel_rfl) ?_
            refine take_list (i := 12) (oi := _) (v := ?_) rfl (by kernel_rfl) (by kernel_rfl) (by kernel_rfl) (fun _ _ _ h => h) (Or.inl ⟨by rfl, ?_⟩) (by assumption) ?_
            rotate_left 1
            · intro v hSw
              (try dsimp only at hSw)
              go_simp
              try with_reducible rfl
            try simp only [List.getElem_toArray, List.getElem_cons_succ, List.getElem_cons_zero, Act.put, List.setIfInBounds_toArray, List.set_cons_zero, List.set_cons_succ]
            refine take_list (i := 13) (oi := _) (v := ?_) rfl (by kernel_rfl) (by kernel_rfl) (by kernel_rfl) (fun _ _ _ h => h) (Or.inl ⟨by rfl, ?_⟩) (by assumption) ?_
            rotate_left 1
            · intro v hSw
              (try dsimp only at hSw)
              go_simp
              try with_reducible rfl
            try simp only [List.getElem_toArray, List.getElem_cons_succ, List.getElem_cons_zero, Act.put, List.setIfInBounds_toArray, List.set_cons_zero, List.set_cons_succ]
            refine wpAnyH_norm (n := 1) (l := #[true, true, true, true, true, true, true, true, true, true, true, true, true, true, false]) (by kernel_rfl) (by kernel_rfl) ?_
            refine wpAnyH_ready (rs := [14]) (by kernel_rfl) (by simp) ?_
            refine (cons_list (o := _) rfl (fun KQ hK => ?_) AllReadyH.nil)
            rw [if_pos (by rfl)]
            go_simp
            refine hK.out _ _ (KT.out _ _ HS42.out) (fun hHeld => ?_)
            clear hK KQ
            try simp only [List.getElem_toArray, List.getElem_cons_succ, List.getElem_cons_zero, Act.put, List.setIfInBounds_toArray, List.set_cons_zero, List.set_cons_succ]
            refine wpAnyH_norm (n := 0) (l := #[true, true, true, true, true, true, true, true, true, true, true, true, true, true, true]) (by kernel_rfl) (by kernel_rfl) ?_
            refine wpAnyH_done (by kernel_rfl) ?_ _
            refine NoPanic.normal ?_
            go_wp2
            go_meet
            refine ⟨?_, ?_, ?_⟩
            · (repeat' (first | (with_reducible exact Ha42.out) | (with_reducible exact heap_alloc_new _ _) | (with_reducible exact blk_new (by first | (simp; done) | omega)) | (with_reducible refine blk_drew ?_) | (with_reducible apply put1_0) | (with_reducible apply put2_0) | (with_reducible apply put2_1) | (with_reducible apply put3_0) | (with_reducible apply put3_1) | (with_reducible apply put3_2) | (with_reducible apply put4_0) | (with_reducible apply put4_1) | (with_reducible apply put4_2) | (with_reducible apply put4_3) | (with_reducible apply put5_0) | (with_reducible apply put5_1) | (with_reducible apply put5_2) | (with_reducible apply put5_3) | (with_reducible apply put5_4) | (with_reducible apply put6_0) | (with_reducible apply put6_1) | (with_reducible apply put6_2) | (with_reducible apply put6_3) | (with_reducible apply put6_4) | (with_reducible apply put6_5) | (with_reducible refine blk_else (by omega) ?_) | (with_reducible refine blk_old ?_)))
            · (repeat' (first | (with_reducible exact Hz42.out) | (with_reducible exact heap_alloc_new _ _) | (with_reducible exact blk_new (by first | (simp; done) | omega)) | (with_reducible refine blk_drew ?_) | (with_reducible apply put1_0) | (with_reducible apply put2_0) | (with_reducible apply put2_1) | (with_reducible apply put3_0) | (with_reducible apply put3_1) | (with_reducible apply put3_2) | (with_reducible apply put4_0) | (with_reducible apply put4_1) | (with_reducible apply put4_2) | (with_reducible apply put4_3) | (with_reducible apply put5_0) | (with_reducible apply put5_1) | (with_reducible apply put5_2) | (with_reducible apply put5_3) | (with_reducible apply put5_4) | (with_reducible apply put6_0) | (with_reducible apply put6_1) | (with_reducible apply put6_2) | (with_reducible apply put6_3) | (with_reducible apply put6_4) | (with_reducible apply put6_5) | (with_reducible refine blk_else (by omega) ?_) | (with_reducible refine blk_old ?_)))
            · (repeat' (first | (with_reducible exact HB42.out) | (with_reducible exact Below.refl _ _) | (with_reducible refine below_drewN _ ?_) | (with_reducible refine Below.drew ?_) | (with_reducible refine Below.setCell ?_ (by first | (simp; done) | omega) _) | (with_reducible refine Below.alloc ?_ (by have := HB42.out.size; simp; omega) _)))
    obtain ⟨xa_, xz_, xb_⟩ := hcut
    generalize wc = WB at *
    clear z0_ z1_ z2_ z3_ z4_ z5_ zf0_ zf1_ zf2_ zf3_ zf4_ zf5_ zn_ zm_ zl_ a0_ a1_ a2_ a3_ a4_ a5_ af0_ af1_ af2_ af3_ af4_ af5_ an_ am_ al_ Ha4 Hz4 HB4
    have Ha5 := Lib.hid xa_; have Hz5 := Lib.hid xz_; have HB5 := Lib.hid xb_
    clear xa_ xz_ xb_
    obtain ⟨z0_, z1_, z2_, z3_, z4_, z5_, zf0_, zf1_, zf2_, zf3_, zf4_, zf5_⟩ := at6 Hz5.out
    have zn_ := ne_blk Hz5.out
    have zm_ := Ne.symm (a := Bz) zn_
    have zl_ := lt_blk Hz5.out
    obtain ⟨a0_, a1_, a2_, a3_, a4_, a5_, af0_, af1_, af2_, af3_, af4_, af5_⟩ := at6 Ha5.out
    have an_ := ne_blk Ha5.out
    have am_ := Ne.symm (a := Ba) an_
    have al_ := lt_blk Ha5.out
    go_wp2
    (try simp only [Exit.inBlock, Exit.then])
    refine bp_gen ?_
    intro v5 hv5
    have Xz : v5.heap[Bz]? = some (.cells #[.int .u64 s, .int .u64 q, .int .u64 n, .int .u64 f, .int .u64 (a + tA), .int .u64 (b + tB)] 26 (0, 0)) := by
      rw [hv5]
      (repeat' (first | (with_reducible exact Hz5.out) | (with_reducible exact heap_alloc_new _ _) | (with_reducible exact blk_new (by first | (simp; done) | omega)) | (with_reducible refine blk_drew ?_) | (with_reducible apply put6_0) | (with_reducible apply put6_1) | (with_reducible apply put6_2) | (with_reducible apply put6_3) | (with_reducible apply put6_4) | (with_reducible apply put6_5) | (with_reducible refine blk_else (by omega) ?_) | (with_reducible refine blk_old ?_)))
    have XB : Below w.heap.size w v5 := by
      rw [hv5]
      (repeat' (first | (with_reducible exact HB5.out) | (with_reducible exact Below.refl _ _) | (with_reducible refine below_drewN _ ?_) | (with_reducible refine Below.drew ?_) | (with_reducible refine Below.setCell ?_ (by first | (simp; done) | omega) _) | (with_reducible refine Below.alloc ?_ (by have := HB5.out.size; simp; omega) _)))
    clear z0_ z1_ z2_ z3_ z4_ z5_ zf0_ zf1_ zf2_ zf3_ zf4_ zf5_ zn_ zm_ zl_ a0_ a1_ a2_ a3_ a4_ a5_ af0_ af1_ af2_ af3_ af4_ af5_ an_ am_ al_
    clear hv5 Hz5 Ha5 HB5
    obtain ⟨z0_, z1_, z2_, z3_, z4_, z5_, -⟩ := at6 Xz
    refine bodyPost_ret (v := .agg #[.int .u64 s, .int .u64 q, .int .u64 n, .int .u64 f, .int .u64 (a + tA), .int .u64 (b + tB)]) (by simp [results, Try.results19, go_sem, z0_, z1_, z2_, z3_, z4_, z5_]) rfl ⟨rfl, XB⟩
  · rw [show MT.tick ⟨s, q, n, f, a, b⟩ x = ⟨0, 0, 0, 0, 0, 0⟩ from if_neg hok]
    have hne : mtr s q n f a b ≠ 0 := fun x => hok (mtr_ok.1 x)
    have gne : (mtr s q n f a b != 0) = true := by simp [hne]
    generalize mtr s q n f a b = er at *
    simp only [mt_val]
    clear hok
    go_enter Try.func19, Try.ntmps19
    go_wp2_with fail
    refine cl_gen ?_
    intro v0 hv0
    have XB : Below w.heap.size w v0 := by
      rw [hv0]
      (repeat' (first | (with_reducible exact Below.refl _ _) | (with_reducible assumption) | (with_reducible refine below_drewN _ ?_) | (with_reducible refine Below.drew ?_) | (with_reducible refine Below.setCell ?_ (by simp) _) | (with_reducible refine Below.alloc ?_ (by simp; try omega) _)))
    have Xa : v0.heap[w.heap.size]? = some (.cells #[.int .u64 s, .int .u64 q, .int .u64 n, .int .u64 f, .int .u64 a, .int .u64 b] 26 (0, 0)) := by
      rw [hv0]
      (repeat' (first | (with_reducible exact heap_alloc_new _ _) | (with_reducible exact blk_new (by first | (simp; done) | omega)) | (with_reducible refine blk_drew ?_) | (with_reducible apply put6_0) | (with_reducible apply put6_1) | (with_reducible apply put6_2) | (with_reducible apply put6_3) | (with_reducible apply put6_4) | (with_reducible apply put6_5) | (with_reducible refine blk_else (by omega) ?_) | (with_reducible refine blk_old ?_)))
    have Xz : v0.heap[w.heap.size + 1]? = some (.cells #[.int .u64 0, .int .u64 0, .int .u64 0, .int .u64 0, .int .u64 0, .int .u64 0] 26 (0, 0)) := by
      rw [hv0]
      (repeat' (first | (with_reducible exact heap_alloc_new _ _) | (with_reducible exact blk_new (by first | (simp; done) | omega)) | (with_reducible refine blk_drew ?_) | (with_reducible apply put6_0) | (with_reducible apply put6_1) | (with_reducible apply put6_2) | (with_reducible apply put6_3) | (with_reducible apply put6_4) | (with_reducible apply put6_5) | (with_reducible refine blk_else (by omega) ?_) | (with_reducible refine blk_old ?_)))
    obtain ⟨Bz, hBz⟩ : ∃ x, x = w.heap.size + 1 := ⟨_, rfl⟩
    rw [← hBz] at Xz
    try rw [← hBz]
    have lez : w.heap.size ≤ Bz := by omega
    obtain ⟨Ba, hBa⟩ : ∃ x, x = w.heap.size := ⟨_, rfl⟩
    rw [← hBa] at Xa
    try rw [← hBa]
    have naz : ¬ Ba = Bz := by omega
    have nza : ¬ Bz = Ba := fun h => naz h.symm
    have lea : w.heap.size ≤ Ba := by omega
    clear hBa hBz
    clear hv0
    refine (MY.out _).mono ?_
    rintro e w1 ⟨rfl, bb⟩
    have Hz1 := Lib.hid (blk_call bb Xz)
    have Ha1 := Lib.hid (blk_call bb Xa)
    have HB1 := Lib.hid (bel_onto XB bb XB.size)
    clear Xz Xa XB bb
    obtain ⟨z0_, z1_, z2_, z3_, z4_, z5_, zf0_, zf1_, zf2_, zf3_, zf4_, zf5_⟩ := at6 Hz1.out
    have zn_ := ne_blk Hz1.out
    have zm_ := Ne.symm (a := Bz) zn_
    have zl_ := lt_blk Hz1.out
    obtain ⟨a0_, a1_, a2_, a3_, a4_, a5_, af0_, af1_, af2_, af3_, af4_, af5_⟩ := at6 Ha1.out
    have an_ := ne_blk Ha1.out
    have am_ := Ne.symm (a := Ba) an_
    have al_ := lt_blk Ha1.out
    go_wp2
    (try simp only [Exit.inBlock, Exit.then])
    refine bp_gen ?_
    intro v1 hv1
    have Xz : v1.heap[Bz]? = some (.cells #[.int .u64 0, .int .u64 0, .int .u64 0, .int .u64 0, .int .u64 0, .int .u64 0] 26 (0, 0)) := by
      rw [hv1]
      (repeat' (first | (with_reducible exact Hz1.out) | (with_reducible exact heap_alloc_new _ _) | (with_reducible exact blk_new (by first | (simp; done) | omega)) | (with_reducible refine blk_drew ?_) | (with_reducible apply put6_0) | (with_reducible apply put6_1) | (with_reducible apply put6_2) | (with_reducible apply put6_3) | (with_reducible apply put6_4) | (with_reducible apply put6_5) | (with_reducible refine blk_else (by omega) ?_) | (with_reducible refine blk_old ?_)))
    have XB : Below w.heap.size w v1 := by
      rw [hv1]
      (repeat' (first | (with_reducible exact HB1.out) | (with_reducible exact Below.refl _ _) | (with_reducible refine below_drewN _ ?_) | (with_reducible refine Below.drew ?_) | (with_reducible refine Below.setCell ?_ (by first | (simp; done) | omega) _) | (with_reducible refine Below.alloc ?_ (by have := HB1.out.size; simp; omega) _)))
    clear z0_ z1_ z2_ z3_ z4_ z5_ zf0_ zf1_ zf2_ zf3_ zf4_ zf5_ zn_ zm_ zl_ a0_ a1_ a2_ a3_ a4_ a5_ af0_ af1_ af2_ af3_ af4_ af5_ an_ am_ al_
    clear hv1 Hz1 Ha1 HB1
    obtain ⟨z0_, z1_, z2_, z3_, z4_, z5_, -⟩ := at6 Xz
    refine bodyPost_ret (v := .agg #[.int .u64 0, .int .u64 0, .int .u64 0, .int .u64 0, .int .u64 0, .int .u64 0]) (by simp [results, Try.results19, go_sem, z0_, z1_, z2_, z3_, z4_, z5_]) rfl ⟨rfl, XB⟩
end Go.Proofs.Ytmkgadndfiiacaa
