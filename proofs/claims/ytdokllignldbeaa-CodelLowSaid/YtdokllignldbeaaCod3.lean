/-
  What codel.Step returns for any configuration, state, times and bytes. No condition but that the numbers are words.
-/
import Derived.Test.YtdokllignldbeaaCod2
namespace Go.Proofs.Ytdokllignldbeaa
set_option linter.unusedVariables false
set_option linter.unusedSimpArgs false
open Go.ChangeShapes Go.WideShapes Go.ChangeAt Go.RowKit
attribute [local go_sem] alloc_drewN setCell_drewN

/-- A state. -/
structure CS where
  f : Int
  n : Int
  c : Int
  l : Int
  d : Bool
def CS.val (s : CS) : Value := .agg #[.int .u64 s.f, .int .u64 s.n, .int .u64 s.c, .int .u64 s.l, .bool s.d]
def CS.ok (s : CS) : Prop := (0 ≤ s.f ∧ s.f ≤ 18446744073709551615) ∧ (0 ≤ s.n ∧ s.n ≤ 18446744073709551615) ∧ (0 ≤ s.c ∧ s.c ≤ 18446744073709551615) ∧ 0 ≤ s.l ∧ s.l ≤ 18446744073709551615
/-- Whether a packet is late; whether it is time. -/
def clate (tg mt wa be : Int) : Bool := decide (tg ≤ wa) && decide (mt < be)
def ctime (tg mt f now wa be : Int) : Bool := clate tg mt wa be && (!(f == 0) && decide (f ≤ now))
/-- The state behind a packet, and whether it is let go. -/
def cst (tg iv mt : Int) (s : CS) (now wa be : Int) : CS × Bool :=
  if cok iv = true then
    (if ctime tg mt s.f now wa be = true then
      (if s.d = true then
        (if s.n ≤ now then (⟨fol1 iv s.f now (clate tg mt wa be), cap (s.n + prt iv (cap (s.c + 1))), cap (s.c + 1), s.l, true⟩, true)
         else (⟨fol1 iv s.f now (clate tg mt wa be), s.n, s.c, s.l, true⟩, false))
       else (⟨fol1 iv s.f now (clate tg mt wa be), cap (now + prt iv (beg1 iv s.n s.c s.l now)), beg1 iv s.n s.c s.l now, beg1 iv s.n s.c s.l now, true⟩, true))
     else (⟨fol1 iv s.f now (clate tg mt wa be), s.n, s.c, s.l, false⟩, false))
  else (s, false)
theorem cst_ok {tg iv mt now wa be : Int} {s : CS} (hs : s.ok) (hv : 0 ≤ iv) (n0 : 0 ≤ now) : (cst tg iv mt s now wa be).1.ok := by
  obtain ⟨⟨f0, f1⟩, ⟨g0, g1⟩, ⟨c0, c1⟩, l0, l1⟩ := hs
  unfold cst
  split
  case isFalse => exact ⟨⟨f0, f1⟩, ⟨g0, g1⟩, ⟨c0, c1⟩, l0, l1⟩
  case isTrue hk =>
    obtain ⟨v0, v1⟩ := cok_iff.1 hk
    have F := fol1_wd (clate tg mt wa be) hv f0 f1 n0
    have B := beg1_wd (iv := iv) (n := s.n) (now := now) c0 c1 l0
    have K := cap_wd (show 0 ≤ s.c + 1 by omega)
    have P1 := prt_bd iv (cap (s.c + 1)) hv v1 K.1
    have P2 := prt_bd iv (beg1 iv s.n s.c s.l now) hv v1 (by omega)
    have C1 := cap_wd (show 0 ≤ s.n + prt iv (cap (s.c + 1)) by omega)
    have C2 := cap_wd (show 0 ≤ now + prt iv (beg1 iv s.n s.c s.l now) by omega)
    split
    · split
      · split
        · exact ⟨F, C1, K, l0, l1⟩
        · exact ⟨F, ⟨g0, g1⟩, ⟨c0, c1⟩, l0, l1⟩
      · exact ⟨F, C2, ⟨by show (0 : Int) ≤ beg1 _ _ _ _ _; omega, B.2⟩, by show (0 : Int) ≤ beg1 _ _ _ _ _; omega, B.2⟩
    · exact ⟨F, ⟨g0, g1⟩, ⟨c0, c1⟩, l0, l1⟩

theorem heap_put {w : World} {b : Nat} {cs : Array Value} {t : TypeId} (h : w.heap[b]? = some (.cells cs t (0, 0))) (i : Nat) (u : Value) : (w.setCell ⟨b, i, none⟩ u).heap[b]? = some (.cells (cs.setIfInBounds i u) t (0, 0)) := heap_setCell_same w b i _ _ u h
/-- A struct of five cells is put. -/
theorem five_put {w : World} {b : Nat} {v0 v1 v2 v3 v4 : Value} {t : TypeId} (h : w.heap[b]? = some (.cells #[v0, v1, v2, v3, v4] t (0, 0))) (u0 u1 u2 u3 u4 : Value) :
    (((((w.setCell ⟨b, 0, none⟩ u0).setCell ⟨b, 1, none⟩ u1).setCell ⟨b, 2, none⟩ u2).setCell ⟨b, 3, none⟩ u3).setCell ⟨b, 4, none⟩ u4).heap[b]? = some (.cells #[u0, u1, u2, u3, u4] t (0, 0)) := by
  simpa using heap_put (heap_put (heap_put (heap_put (heap_put h 0 u0) 1 u1) 2 u2) 3 u3) 4 u4
theorem five_else (w : World) (b k : Nat) (hk : k ≠ b) (u0 u1 u2 u3 u4 : Value) :
    (((((w.setCell ⟨b, 0, none⟩ u0).setCell ⟨b, 1, none⟩ u1).setCell ⟨b, 2, none⟩ u2).setCell ⟨b, 3, none⟩ u3).setCell ⟨b, 4, none⟩ u4).heap[k]? = w.heap[k]? := by
  have e := fun (w : World) i u => heap_setCell_other w ⟨b, i, none⟩ k u (fun h => hk (by simpa using h))
  rw [e, e, e, e, e]
theorem cf_at {w : World} {b : Nat} {x y z : Value} {t : TypeId} (h : w.heap[b]? = some (.cells #[x, y, z] t (0, 0))) : w.cell? ⟨b, 0, none⟩ = some x ∧ w.cell? ⟨b, 1, none⟩ = some y ∧ w.cell? ⟨b, 2, none⟩ = some z :=
  ⟨cell_of_row w b 0 _ _ (0, 0) h, cell_of_row w b 1 _ _ (0, 0) h, cell_of_row w b 2 _ _ (0, 0) h⟩
theorem cs_at {w : World} {b : Nat} {v0 v1 v2 v3 v4 : Value} {t : TypeId} (h : w.heap[b]? = some (.cells #[v0, v1, v2, v3, v4] t (0, 0))) : w.cell? ⟨b, 0, none⟩ = some v0 ∧ w.cell? ⟨b, 1, none⟩ = some v1 ∧ w.cell? ⟨b, 2, none⟩ = some v2 ∧ w.cell? ⟨b, 3, none⟩ = some v3 ∧ w.cell? ⟨b, 4, none⟩ = some v4 ∧
    w.frozen? ⟨b, 0, none⟩ = false ∧ w.frozen? ⟨b, 1, none⟩ = false ∧ w.frozen? ⟨b, 2, none⟩ = false ∧ w.frozen? ⟨b, 3, none⟩ = false ∧ w.frozen? ⟨b, 4, none⟩ = false :=
  ⟨cell_of_row w b 0 _ _ (0, 0) h, cell_of_row w b 1 _ _ (0, 0) h, cell_of_row w b 2 _ _ (0, 0) h, cell_of_row w b 3 _ _ (0, 0) h, cell_of_row w b 4 _ _ (0, 0) h, frozen_of_row w b 0 _ _ h, frozen_of_row w b 1 _ _ h, frozen_of_row w b 2 _ _ h, frozen_of_row w b 3 _ _ h, frozen_of_row w b 4 _ _ h⟩
theorem alloc_two (w : World) (X Y : Obj) : ((w.alloc X).alloc Y).heap[w.heap.size + 1]? = some Y := by
  have := heap_alloc_new (w.alloc X) Y
  simpa using this
theorem below_onto {w a b : World} {B : Nat} (h : Below B w a) (k : Below a.heap.size a b) (hB : B ≤ a.heap.size) : Below B w b := h.trans (k.mono hB)
/-- Three blocks that were made, and one more, stand behind a call. -/
theorem three_at {w w5 : World} {X Y Z U : Obj} (b : Below ((((w.alloc X).alloc Y).alloc Z).alloc U).heap.size ((((w.alloc X).alloc Y).alloc Z).alloc U) w5) :
    w5.heap[w.heap.size]? = some X ∧ w5.heap[w.heap.size + 1]? = some Y ∧ w5.heap[w.heap.size + 1 + 1]? = some Z := by
  have hz := alloc_two (w.alloc X) Y Z
  have hy := alloc_two w X Y
  have hx := heap_alloc_new w X
  rw [show (w.alloc X).heap.size = w.heap.size + 1 by simp] at hz
  refine ⟨(b.block _ (by simp; omega)).trans ?_, (b.block _ (by simp <;> omega)).trans ?_, (b.block _ (by simp)).trans ?_⟩
  · exact (heap_alloc_old _ _ (by simp; omega)).trans ((heap_alloc_old _ _ (by simp <;> omega)).trans ((heap_alloc_old _ _ (by simp)).trans hx))
  · exact (heap_alloc_old _ _ (by simp)).trans ((heap_alloc_old _ _ (by simp)).trans hy)
  · exact (heap_alloc_old _ _ (by simp)).trans hz

set_option maxRecDepth 100000 in
set_option maxHeartbeats 2000000 in
theorem cod_step (tg iv mt : Int) (t0 : 0 ≤ tg) (v0 : 0 ≤ iv) (v1 : iv ≤ 18446744073709551615) (m0 : 0 ≤ mt) (s : CS) (hs : s.ok) (now wa be : Int) (n0 : 0 ≤ now) (n1 : now ≤ 18446744073709551615) (a0 : 0 ≤ wa) (b0 : 0 ≤ be) (w : World) :
    Calls Try.prog 45 #[.agg #[.int .u64 tg, .int .u64 iv, .int .u64 mt], s.val, .int .u64 now, .int .u64 wa, .int .u64 be] w fun e w' => e = .returned (.tuple #[(cst tg iv mt s now wa be).1.val, .bool (cst tg iv mt s now wa be).2]) ∧ Below w.heap.size w w' := by
  have CK := Lib.hid (fun W => cod_check tg iv mt v0 W)
  obtain ⟨⟨f0, f1⟩, ⟨g0, g1⟩, ⟨c0, c1⟩, l0, l1⟩ := hs
  obtain ⟨f, n, c, l, d⟩ := s
  unfold CS.val
  dsimp only at f0 f1 g0 g1 c0 c1 l0 l1 ⊢
  unfold cst
  by_cases hok : cok iv = true
  · rw [if_pos hok]
    rw [if_pos hok] at CK
    obtain ⟨j0, j1⟩ := cok_iff.1 hok
    clear hok
    dsimp only
    by_cases ht : tg ≤ wa
    · by_cases hm : mt < be
      · have hl : clate tg mt wa be = true := by unfold clate; rw [decide_eq_true ht, decide_eq_true hm]; rfl
        have x1_ : decide (tg ≤ wa) = true := decide_eq_true ht
        have x2_ : decide (mt < be) = true := decide_eq_true hm
        unfold ctime
        rw [hl, Bool.true_and]
        by_cases hf : f = 0
        · have y1_ : (f == 0) = true := by simp [hf]
          have y2_ : (f != 0) = false := by simp [hf]
          rw [y1_, show (!true && decide (f ≤ now)) = false from rfl, if_neg (by decide)]
          dsimp only
          have FO := Lib.hid (fun W => cod_follow tg iv mt f n c l now d true v0 v1 n0 n1 W)
          generalize fol1 iv f now true = r at *
          clear hl
          clear hf
          go_enter Try.func45, Try.ntmps45
          go_wp2_with fail
          refine (CK.out _).mono ?_
          rintro e w' ⟨rfl, rfl⟩
          go_wp2_with fail
          refine (FO.out _).mono ?_
          rintro e w5 ⟨rfl, b5⟩
          have hx : w5.heap[w.heap.size]? = some (.cells #[.int .u64 tg, .int .u64 iv, .int .u64 mt] 77 (0, 0)) ∧ w5.heap[w.heap.size + 1]? = some (.cells #[.int .u64 f, .int .u64 n, .int .u64 c, .int .u64 l, .bool d] 78 (0, 0)) ∧ w5.heap[w.heap.size + 1 + 1]? = some (.cells #[.int .u64 0, .int .u64 0, .int .u64 0, .int .u64 0, .bool false] 78 (0, 0)) := three_at b5
          have B5 : Below w.heap.size w w5 := below_onto (by repeat' (first | exact Below.refl _ _ | (with_reducible exact HB6.out) | (with_reducible exact HB5.out) | (with_reducible assumption) | refine below_drewN _ ?_ | refine Below.drew ?_ | refine Below.setCell ?_ (by first | assumption | simp) _ | refine Below.alloc ?_ (by simp; try omega) _)) b5 (by simp; try omega)
          obtain ⟨x1, x2, x3⟩ := hx
          obtain ⟨B2, hB2⟩ : ∃ B2, B2 = w.heap.size + 1 + 1 := ⟨_, rfl⟩
          obtain ⟨B1, hB1⟩ : ∃ B1, B1 = w.heap.size + 1 := ⟨_, rfl⟩
          rw [← hB2] at x3 ⊢
          rw [← hB1] at x2 ⊢
          have n12 : ¬ B1 = B2 := by omega
          have n21 : ¬ B2 = B1 := by omega
          have n01 : ¬ w.heap.size = B1 := by omega
          have n02 : ¬ w.heap.size = B2 := by omega
          have n10 : ¬ B1 = w.heap.size := by omega
          have n20 : ¬ B2 = w.heap.size := by omega
          have s1_ : w.heap.size ≤ B1 := by omega
          have s2_ : w.heap.size ≤ B2 := by omega
          clear hB1 hB2
          have HB5 := Lib.hid B5
          clear B5
          obtain ⟨a0_, a1_, a2_⟩ := cf_at x1
          obtain ⟨e0_, e1_, e2_, e3_, e4_, k0_, k1_, k2_, k3_, k4_⟩ := cs_at x2
          obtain ⟨o0_, o1_, o2_, o3_, o4_, q0_, q1_, q2_, q3_, q4_⟩ := cs_at x3
          clear b5
          go_upto_region 8 with (fail)
          have y1 : ((((((w5.setCell ⟨B1, 0, none⟩ (.int .u64 r)).setCell ⟨B1, 1, none⟩ (.int .u64 n)).setCell ⟨B1, 2, none⟩ (.int .u64 c)).setCell ⟨B1, 3, none⟩ (.int .u64 l)).setCell ⟨B1, 4, none⟩ (.bool d)).setCell ⟨B1, 4, none⟩ (.bool false)).heap[w.heap.size]? = _ := ((heap_setCell_other _ ⟨B1, 4, none⟩ _ _ (by simp; omega)).trans (five_else w5 B1 _ (by omega) (.int .u64 r) (.int .u64 n) (.int .u64 c) (.int .u64 l) (.bool d))).trans x1
          have y2 : ((((((w5.setCell ⟨B1, 0, none⟩ (.int .u64 r)).setCell ⟨B1, 1, none⟩ (.int .u64 n)).setCell ⟨B1, 2, none⟩ (.int .u64 c)).setCell ⟨B1, 3, none⟩ (.int .u64 l)).setCell ⟨B1, 4, none⟩ (.bool d)).setCell ⟨B1, 4, none⟩ (.bool false)).heap[B1]? = some (.cells #[.int .u64 r, .int .u64 n, .int .u64 c, .int .u64 l, .bool false] 78 (0, 0)) := (by simpa using heap_put (five_put x2 (.int .u64 r) (.int .u64 n) (.int .u64 c) (.int .u64 l) (.bool d)) 4 (.bool false))
          have y3 : ((((((w5.setCell ⟨B1, 0, none⟩ (.int .u64 r)).setCell ⟨B1, 1, none⟩ (.int .u64 n)).setCell ⟨B1, 2, none⟩ (.int .u64 c)).setCell ⟨B1, 3, none⟩ (.int .u64 l)).setCell ⟨B1, 4, none⟩ (.bool d)).setCell ⟨B1, 4, none⟩ (.bool false)).heap[B2]? = _ := ((heap_setCell_other _ ⟨B1, 4, none⟩ _ _ (by simp; omega)).trans (five_else w5 B1 _ (by omega) (.int .u64 r) (.int .u64 n) (.int .u64 c) (.int .u64 l) (.bool d))).trans x3
          have yb : Below w.heap.size w ((((((w5.setCell ⟨B1, 0, none⟩ (.int .u64 r)).setCell ⟨B1, 1, none⟩ (.int .u64 n)).setCell ⟨B1, 2, none⟩ (.int .u64 c)).setCell ⟨B1, 3, none⟩ (.int .u64 l)).setCell ⟨B1, 4, none⟩ (.bool d)).setCell ⟨B1, 4, none⟩ (.bool false)) := by
            repeat' (first | (with_reducible exact HB5.out) | refine Below.setCell ?_ s1_ _)
          generalize ((((((w5.setCell ⟨B1, 0, none⟩ (.int .u64 r)).setCell ⟨B1, 1, none⟩ (.int .u64 n)).setCell ⟨B1, 2, none⟩ (.int .u64 c)).setCell ⟨B1, 3, none⟩ (.int .u64 l)).setCell ⟨B1, 4, none⟩ (.bool d)).setCell ⟨B1, 4, none⟩ (.bool false)) = w6 at y1 y2 y3 yb ⊢
          have HB6 := Lib.hid yb
          clear yb x1 x2 x3 e0_ e1_ e2_ e3_ e4_ k0_ k1_ k2_ k3_ k4_ a0_ a1_ a2_ o0_ o1_ o2_ o3_ o4_ q0_ q1_ q2_ q3_ q4_
          have x1 := y1
          have x2 := y2
          have x3 := y3
          clear y1 y2 y3
          obtain ⟨a0_, a1_, a2_⟩ := cf_at x1
          obtain ⟨e0_, e1_, e2_, e3_, e4_, k0_, k1_, k2_, k3_, k4_⟩ := cs_at x2
          obtain ⟨o0_, o1_, o2_, o3_, o4_, q0_, q1_, q2_, q3_, q4_⟩ := cs_at x3
          have X1 := Lib.hid x1; have X2 := Lib.hid x2; have X3 := Lib.hid x3
          clear x1 x2 x3
          go_wp2
          (try simp only [Exit.inBlock, Exit.then])
          have y3 := five_put X3.out (.int .u64 r) (.int .u64 n) (.int .u64 c) (.int .u64 l) (.bool false)
          have yb : Below w.heap.size w (((((w6.setCell ⟨B2, 0, none⟩ (.int .u64 r)).setCell ⟨B2, 1, none⟩ (.int .u64 n)).setCell ⟨B2, 2, none⟩ (.int .u64 c)).setCell ⟨B2, 3, none⟩ (.int .u64 l)).setCell ⟨B2, 4, none⟩ (.bool false)) := by
            repeat' (first | (with_reducible exact HB6.out) | refine Below.setCell ?_ s2_ _)
          generalize (((((w6.setCell ⟨B2, 0, none⟩ (.int .u64 r)).setCell ⟨B2, 1, none⟩ (.int .u64 n)).setCell ⟨B2, 2, none⟩ (.int .u64 c)).setCell ⟨B2, 3, none⟩ (.int .u64 l)).setCell ⟨B2, 4, none⟩ (.bool false)) = w9 at y3 yb ⊢
          obtain ⟨o0_, o1_, o2_, o3_, o4_, -⟩ := cs_at y3
          refine bodyPost_ret (v := .tuple #[.agg #[.int .u64 r, .int .u64 n, .int .u64 c, .int .u64 l, .bool false], .bool false]) (by simp [results, Try.results45, go_sem, o0_, o1_, o2_, o3_, o4_]) rfl ⟨rfl, yb⟩
        · have y1_ : (f == 0) = false := by simp [hf]
          have y2_ : (f != 0) = true := by simp [hf]
          rw [y1_, show (!false && decide (f ≤ now)) = decide (f ≤ now) from rfl]
          by_cases hn : f ≤ now
          · have z1_ : decide (f ≤ now) = true := decide_eq_true hn
            rw [z1_, if_pos rfl]
            cases d with
            | false =>
              rw [if_neg (by decide)]
              dsimp only
              have BG := Lib.hid (fun fz W => cod_begin tg iv mt fz n c l now false v0 j1 g0 g1 c0 c1 l0 l1 n0 n1 W)
              generalize cap (now + prt iv (beg1 iv n c l now)) = nx at *
              generalize beg1 iv n c l now = cx at *
              have FO := Lib.hid (fun W => cod_follow tg iv mt f n c l now false true v0 v1 n0 n1 W)
              generalize fol1 iv f now true = r at *
              clear hl
              go_enter Try.func45, Try.ntmps45
              go_wp2_with fail
              refine (CK.out _).mono ?_
              rintro e w' ⟨rfl, rfl⟩
              go_wp2_with fail
              refine (FO.out _).mono ?_
              rintro e w5 ⟨rfl, b5⟩
              have hx : w5.heap[w.heap.size]? = some (.cells #[.int .u64 tg, .int .u64 iv, .int .u64 mt] 77 (0, 0)) ∧ w5.heap[w.heap.size + 1]? = some (.cells #[.int .u64 f, .int .u64 n, .int .u64 c, .int .u64 l, .bool false] 78 (0, 0)) ∧ w5.heap[w.heap.size + 1 + 1]? = some (.cells #[.int .u64 0, .int .u64 0, .int .u64 0, .int .u64 0, .bool false] 78 (0, 0)) := three_at b5
              have B5 : Below w.heap.size w w5 := below_onto (by repeat' (first | exact Below.refl _ _ | (with_reducible exact HB6.out) | (with_reducible exact HB5.out) | (with_reducible assumption) | refine below_drewN _ ?_ | refine Below.drew ?_ | refine Below.setCell ?_ (by first | assumption | simp) _ | refine Below.alloc ?_ (by simp; try omega) _)) b5 (by simp; try omega)
              obtain ⟨x1, x2, x3⟩ := hx
              obtain ⟨B2, hB2⟩ : ∃ B2, B2 = w.heap.size + 1 + 1 := ⟨_, rfl⟩
              obtain ⟨B1, hB1⟩ : ∃ B1, B1 = w.heap.size + 1 := ⟨_, rfl⟩
              rw [← hB2] at x3 ⊢
              rw [← hB1] at x2 ⊢
              have n12 : ¬ B1 = B2 := by omega
              have n21 : ¬ B2 = B1 := by omega
              have n01 : ¬ w.heap.size = B1 := by omega
              have n02 : ¬ w.heap.size = B2 := by omega
              have n10 : ¬ B1 = w.heap.size := by omega
              have n20 : ¬ B2 = w.heap.size := by omega
              have s1_ : w.heap.size ≤ B1 := by omega
              have s2_ : w.heap.size ≤ B2 := by omega
              clear hB1 hB2
              have HB5 := Lib.hid B5
              clear B5
              obtain ⟨a0_, a1_, a2_⟩ := cf_at x1
              obtain ⟨e0_, e1_, e2_, e3_, e4_, k0_, k1_, k2_, k3_, k4_⟩ := cs_at x2
              obtain ⟨o0_, o1_, o2_, o3_, o4_, q0_, q1_, q2_, q3_, q4_⟩ := cs_at x3
              clear b5
              go_upto_region 10 with (fail)
              have y1 : (((((w5.setCell ⟨B1, 0, none⟩ (.int .u64 r)).setCell ⟨B1, 1, none⟩ (.int .u64 n)).setCell ⟨B1, 2, none⟩ (.int .u64 c)).setCell ⟨B1, 3, none⟩ (.int .u64 l)).setCell ⟨B1, 4, none⟩ (.bool false)).heap[w.heap.size]? = _ := ((five_else w5 B1 _ (by omega) (.int .u64 r) (.int .u64 n) (.int .u64 c) (.int .u64 l) (.bool false))).trans x1
              have y2 : (((((w5.setCell ⟨B1, 0, none⟩ (.int .u64 r)).setCell ⟨B1, 1, none⟩ (.int .u64 n)).setCell ⟨B1, 2, none⟩ (.int .u64 c)).setCell ⟨B1, 3, none⟩ (.int .u64 l)).setCell ⟨B1, 4, none⟩ (.bool false)).heap[B1]? = some (.cells #[.int .u64 r, .int .u64 n, .int .u64 c, .int .u64 l, .bool false] 78 (0, 0)) := (five_put x2 (.int .u64 r) (.int .u64 n) (.int .u64 c) (.int .u64 l) (.bool false))
              have y3 : (((((w5.setCell ⟨B1, 0, none⟩ (.int .u64 r)).setCell ⟨B1, 1, none⟩ (.int .u64 n)).setCell ⟨B1, 2, none⟩ (.int .u64 c)).setCell ⟨B1, 3, none⟩ (.int .u64 l)).setCell ⟨B1, 4, none⟩ (.bool false)).heap[B2]? = _ := ((five_else w5 B1 _ (by omega) (.int .u64 r) (.int .u64 n) (.int .u64 c) (.int .u64 l) (.bool false))).trans x3
              have yb : Below w.heap.size w (((((w5.setCell ⟨B1, 0, none⟩ (.int .u64 r)).setCell ⟨B1, 1, none⟩ (.int .u64 n)).setCell ⟨B1, 2, none⟩ (.int .u64 c)).setCell ⟨B1, 3, none⟩ (.int .u64 l)).setCell ⟨B1, 4, none⟩ (.bool false)) := by
                repeat' (first | (with_reducible exact HB5.out) | refine Below.setCell ?_ s1_ _)
              generalize (((((w5.setCell ⟨B1, 0, none⟩ (.int .u64 r)).setCell ⟨B1, 1, none⟩ (.int .u64 n)).setCell ⟨B1, 2, none⟩ (.int .u64 c)).setCell ⟨B1, 3, none⟩ (.int .u64 l)).setCell ⟨B1, 4, none⟩ (.bool false)) = w6 at y1 y2 y3 yb ⊢
              have HB6 := Lib.hid yb
              clear yb x1 x2 x3 e0_ e1_ e2_ e3_ e4_ k0_ k1_ k2_ k3_ k4_ a0_ a1_ a2_ o0_ o1_ o2_ o3_ o4_ q0_ q1_ q2_ q3_ q4_
              have x1 := y1
              have x2 := y2
              have x3 := y3
              clear y1 y2 y3
              obtain ⟨a0_, a1_, a2_⟩ := cf_at x1
              obtain ⟨e0_, e1_, e2_, e3_, e4_, k0_, k1_, k2_, k3_, k4_⟩ := cs_at x2
              obtain ⟨o0_, o1_, o2_, o3_, o4_, q0_, q1_, q2_, q3_, q4_⟩ := cs_at x3
              have X1 := Lib.hid x1; have X2 := Lib.hid x2; have X3 := Lib.hid x3
              clear x1 x2 x3
              go_wp2_with fail
              refine (BG.out _ _).mono ?_
              rintro e w7 ⟨rfl, b7⟩
              have HB7 := Lib.hid (below_onto HB6.out b7 HB6.out.size)
              have X3' := X3
              clear X3
              have X3 := Lib.hid ((b7.block B2 (Array.getElem?_eq_some_iff.1 X3'.out).1).trans X3'.out)
              obtain ⟨o0_, o1_, o2_, o3_, o4_, q0_, q1_, q2_, q3_, q4_⟩ := cs_at X3.out
              clear b7 X3'
              go_wp2
              (try simp only [Exit.inBlock, Exit.then])
              have y3 := five_put X3.out (.int .u64 r) (.int .u64 nx) (.int .u64 cx) (.int .u64 cx) (.bool true)
              have yb : Below w.heap.size w (((((w7.setCell ⟨B2, 0, none⟩ (.int .u64 r)).setCell ⟨B2, 1, none⟩ (.int .u64 nx)).setCell ⟨B2, 2, none⟩ (.int .u64 cx)).setCell ⟨B2, 3, none⟩ (.int .u64 cx)).setCell ⟨B2, 4, none⟩ (.bool true)) := by
                repeat' (first | (with_reducible exact HB7.out) | refine Below.setCell ?_ s2_ _)
              generalize (((((w7.setCell ⟨B2, 0, none⟩ (.int .u64 r)).setCell ⟨B2, 1, none⟩ (.int .u64 nx)).setCell ⟨B2, 2, none⟩ (.int .u64 cx)).setCell ⟨B2, 3, none⟩ (.int .u64 cx)).setCell ⟨B2, 4, none⟩ (.bool true)) = w9 at y3 yb ⊢
              obtain ⟨o0_, o1_, o2_, o3_, o4_, -⟩ := cs_at y3
              refine bodyPost_ret (v := .tuple #[.agg #[.int .u64 r, .int .u64 nx, .int .u64 cx, .int .u64 cx, .bool true], .bool true]) (by simp [results, Try.results45, go_sem, o0_, o1_, o2_, o3_, o4_]) rfl ⟨rfl, yb⟩
            | true =>
              rw [if_pos rfl]
              by_cases hx : n ≤ now
              · rw [if_pos hx]
                have u1_ : decide (n ≤ now) = true := decide_eq_true hx
                dsimp only
                have AG := Lib.hid (fun fz W => cod_again tg iv mt fz n c l true v0 j1 g0 g1 c0 c1 W)
                generalize cap (n + prt iv (cap (c + 1))) = nx at *
                generalize cap (c + 1) = cx at *
                have FO := Lib.hid (fun W => cod_follow tg iv mt f n c l now true true v0 v1 n0 n1 W)
                generalize fol1 iv f now true = r at *
                clear hl
                go_enter Try.func45, Try.ntmps45
                go_wp2_with fail
                refine (CK.out _).mono ?_
                rintro e w' ⟨rfl, rfl⟩
                go_wp2_with fail
                refine (FO.out _).mono ?_
                rintro e w5 ⟨rfl, b5⟩
                have hx : w5.heap[w.heap.size]? = some (.cells #[.int .u64 tg, .int .u64 iv, .int .u64 mt] 77 (0, 0)) ∧ w5.heap[w.heap.size + 1]? = some (.cells #[.int .u64 f, .int .u64 n, .int .u64 c, .int .u64 l, .bool true] 78 (0, 0)) ∧ w5.heap[w.heap.size + 1 + 1]? = some (.cells #[.int .u64 0, .int .u64 0, .int .u64 0, .int .u64 0, .bool false] 78 (0, 0)) := three_at b5
                have B5 : Below w.heap.size w w5 := below_onto (by repeat' (first | exact Below.refl _ _ | (with_reducible exact HB6.out) | (with_reducible exact HB5.out) | (with_reducible assumption) | refine below_drewN _ ?_ | refine Below.drew ?_ | refine Below.setCell ?_ (by first | assumption | simp) _ | refine Below.alloc ?_ (by simp; try omega) _)) b5 (by simp; try omega)
                obtain ⟨x1, x2, x3⟩ := hx
                obtain ⟨B2, hB2⟩ : ∃ B2, B2 = w.heap.size + 1 + 1 := ⟨_, rfl⟩
                obtain ⟨B1, hB1⟩ : ∃ B1, B1 = w.heap.size + 1 := ⟨_, rfl⟩
                rw [← hB2] at x3 ⊢
                rw [← hB1] at x2 ⊢
                have n12 : ¬ B1 = B2 := by omega
                have n21 : ¬ B2 = B1 := by omega
                have n01 : ¬ w.heap.size = B1 := by omega
                have n02 : ¬ w.heap.size = B2 := by omega
                have n10 : ¬ B1 = w.heap.size := by omega
                have n20 : ¬ B2 = w.heap.size := by omega
                have s1_ : w.heap.size ≤ B1 := by omega
                have s2_ : w.heap.size ≤ B2 := by omega
                clear hB1 hB2
                have HB5 := Lib.hid B5
                clear B5
                obtain ⟨a0_, a1_, a2_⟩ := cf_at x1
                obtain ⟨e0_, e1_, e2_, e3_, e4_, k0_, k1_, k2_, k3_, k4_⟩ := cs_at x2
                obtain ⟨o0_, o1_, o2_, o3_, o4_, q0_, q1_, q2_, q3_, q4_⟩ := cs_at x3
                clear b5
                go_upto_region 11 with (fail)
                have y1 : (((((w5.setCell ⟨B1, 0, none⟩ (.int .u64 r)).setCell ⟨B1, 1, none⟩ (.int .u64 n)).setCell ⟨B1, 2, none⟩ (.int .u64 c)).setCell ⟨B1, 3, none⟩ (.int .u64 l)).setCell ⟨B1, 4, none⟩ (.bool true)).heap[w.heap.size]? = _ := ((five_else w5 B1 _ (by omega) (.int .u64 r) (.int .u64 n) (.int .u64 c) (.int .u64 l) (.bool true))).trans x1
                have y2 : (((((w5.setCell ⟨B1, 0, none⟩ (.int .u64 r)).setCell ⟨B1, 1, none⟩ (.int .u64 n)).setCell ⟨B1, 2, none⟩ (.int .u64 c)).setCell ⟨B1, 3, none⟩ (.int .u64 l)).setCell ⟨B1, 4, none⟩ (.bool true)).heap[B1]? = some (.cells #[.int .u64 r, .int .u64 n, .int .u64 c, .int .u64 l, .bool true] 78 (0, 0)) := (five_put x2 (.int .u64 r) (.int .u64 n) (.int .u64 c) (.int .u64 l) (.bool true))
                have y3 : (((((w5.setCell ⟨B1, 0, none⟩ (.int .u64 r)).setCell ⟨B1, 1, none⟩ (.int .u64 n)).setCell ⟨B1, 2, none⟩ (.int .u64 c)).setCell ⟨B1, 3, none⟩ (.int .u64 l)).setCell ⟨B1, 4, none⟩ (.bool true)).heap[B2]? = _ := ((five_else w5 B1 _ (by omega) (.int .u64 r) (.int .u64 n) (.int .u64 c) (.int .u64 l) (.bool true))).trans x3
                have yb : Below w.heap.size w (((((w5.setCell ⟨B1, 0, none⟩ (.int .u64 r)).setCell ⟨B1, 1, none⟩ (.int .u64 n)).setCell ⟨B1, 2, none⟩ (.int .u64 c)).setCell ⟨B1, 3, none⟩ (.int .u64 l)).setCell ⟨B1, 4, none⟩ (.bool true)) := by
                  repeat' (first | (with_reducible exact HB5.out) | refine Below.setCell ?_ s1_ _)
                generalize (((((w5.setCell ⟨B1, 0, none⟩ (.int .u64 r)).setCell ⟨B1, 1, none⟩ (.int .u64 n)).setCell ⟨B1, 2, none⟩ (.int .u64 c)).setCell ⟨B1, 3, none⟩ (.int .u64 l)).setCell ⟨B1, 4, none⟩ (.bool true)) = w6 at y1 y2 y3 yb ⊢
                have HB6 := Lib.hid yb
                clear yb x1 x2 x3 e0_ e1_ e2_ e3_ e4_ k0_ k1_ k2_ k3_ k4_ a0_ a1_ a2_ o0_ o1_ o2_ o3_ o4_ q0_ q1_ q2_ q3_ q4_
                have x1 := y1
                have x2 := y2
                have x3 := y3
                clear y1 y2 y3
                obtain ⟨a0_, a1_, a2_⟩ := cf_at x1
                obtain ⟨e0_, e1_, e2_, e3_, e4_, k0_, k1_, k2_, k3_, k4_⟩ := cs_at x2
                obtain ⟨o0_, o1_, o2_, o3_, o4_, q0_, q1_, q2_, q3_, q4_⟩ := cs_at x3
                have X1 := Lib.hid x1; have X2 := Lib.hid x2; have X3 := Lib.hid x3
                clear x1 x2 x3
                go_wp2_with fail
                refine (AG.out _ _).mono ?_
                rintro e w7 ⟨rfl, b7⟩
                have HB7 := Lib.hid (below_onto HB6.out b7 HB6.out.size)
                have X3' := X3
                clear X3
                have X3 := Lib.hid ((b7.block B2 (Array.getElem?_eq_some_iff.1 X3'.out).1).trans X3'.out)
                obtain ⟨o0_, o1_, o2_, o3_, o4_, q0_, q1_, q2_, q3_, q4_⟩ := cs_at X3.out
                clear b7 X3'
                go_wp2
                (try simp only [Exit.inBlock, Exit.then])
                have y3 := five_put X3.out (.int .u64 r) (.int .u64 nx) (.int .u64 cx) (.int .u64 l) (.bool true)
                have yb : Below w.heap.size w (((((w7.setCell ⟨B2, 0, none⟩ (.int .u64 r)).setCell ⟨B2, 1, none⟩ (.int .u64 nx)).setCell ⟨B2, 2, none⟩ (.int .u64 cx)).setCell ⟨B2, 3, none⟩ (.int .u64 l)).setCell ⟨B2, 4, none⟩ (.bool true)) := by
                  repeat' (first | (with_reducible exact HB7.out) | refine Below.setCell ?_ s2_ _)
                generalize (((((w7.setCell ⟨B2, 0, none⟩ (.int .u64 r)).setCell ⟨B2, 1, none⟩ (.int .u64 nx)).setCell ⟨B2, 2, none⟩ (.int .u64 cx)).setCell ⟨B2, 3, none⟩ (.int .u64 l)).setCell ⟨B2, 4, none⟩ (.bool true)) = w9 at y3 yb ⊢
                obtain ⟨o0_, o1_, o2_, o3_, o4_, -⟩ := cs_at y3
                refine bodyPost_ret (v := .tuple #[.agg #[.int .u64 r, .int .u64 nx, .int .u64 cx, .int .u64 l, .bool true], .bool true]) (by simp [results, Try.results45, go_sem, o0_, o1_, o2_, o3_, o4_]) rfl ⟨rfl, yb⟩
              · rw [if_neg hx]
                have u1_ : decide (n ≤ now) = false := decide_eq_false hx
                dsimp only
                have FO := Lib.hid (fun W => cod_follow tg iv mt f n c l now true true v0 v1 n0 n1 W)
                generalize fol1 iv f now true = r at *
                clear hl
                go_enter Try.func45, Try.ntmps45
                go_wp2_with fail
                refine (CK.out _).mono ?_
                rintro e w' ⟨rfl, rfl⟩
                go_wp2_with fail
                refine (FO.out _).mono ?_
                rintro e w5 ⟨rfl, b5⟩
                have hx : w5.heap[w.heap.size]? = some (.cells #[.int .u64 tg, .int .u64 iv, .int .u64 mt] 77 (0, 0)) ∧ w5.heap[w.heap.size + 1]? = some (.cells #[.int .u64 f, .int .u64 n, .int .u64 c, .int .u64 l, .bool true] 78 (0, 0)) ∧ w5.heap[w.heap.size + 1 + 1]? = some (.cells #[.int .u64 0, .int .u64 0, .int .u64 0, .int .u64 0, .bool false] 78 (0, 0)) := three_at b5
                have B5 : Below w.heap.size w w5 := below_onto (by repeat' (first | exact Below.refl _ _ | (with_reducible exact HB6.out) | (with_reducible exact HB5.out) | (with_reducible assumption) | refine below_drewN _ ?_ | refine Below.drew ?_ | refine Below.setCell ?_ (by first | assumption | simp) _ | refine Below.alloc ?_ (by simp; try omega) _)) b5 (by simp; try omega)
                obtain ⟨x1, x2, x3⟩ := hx
                obtain ⟨B2, hB2⟩ : ∃ B2, B2 = w.heap.size + 1 + 1 := ⟨_, rfl⟩
                obtain ⟨B1, hB1⟩ : ∃ B1, B1 = w.heap.size + 1 := ⟨_, rfl⟩
                rw [← hB2] at x3 ⊢
                rw [← hB1] at x2 ⊢
                have n12 : ¬ B1 = B2 := by omega
                have n21 : ¬ B2 = B1 := by omega
                have n01 : ¬ w.heap.size = B1 := by omega
                have n02 : ¬ w.heap.size = B2 := by omega
                have n10 : ¬ B1 = w.heap.size := by omega
                have n20 : ¬ B2 = w.heap.size := by omega
                have s1_ : w.heap.size ≤ B1 := by omega
                have s2_ : w.heap.size ≤ B2 := by omega
                clear hB1 hB2
                have HB5 := Lib.hid B5
                clear B5
                obtain ⟨a0_, a1_, a2_⟩ := cf_at x1
                obtain ⟨e0_, e1_, e2_, e3_, e4_, k0_, k1_, k2_, k3_, k4_⟩ := cs_at x2
                obtain ⟨o0_, o1_, o2_, o3_, o4_, q0_, q1_, q2_, q3_, q4_⟩ := cs_at x3
                clear b5
                go_upto_region 11 with (fail)
                have y1 : (((((w5.setCell ⟨B1, 0, none⟩ (.int .u64 r)).setCell ⟨B1, 1, none⟩ (.int .u64 n)).setCell ⟨B1, 2, none⟩ (.int .u64 c)).setCell ⟨B1, 3, none⟩ (.int .u64 l)).setCell ⟨B1, 4, none⟩ (.bool true)).heap[w.heap.size]? = _ := ((five_else w5 B1 _ (by omega) (.int .u64 r) (.int .u64 n) (.int .u64 c) (.int .u64 l) (.bool true))).trans x1
                have y2 : (((((w5.setCell ⟨B1, 0, none⟩ (.int .u64 r)).setCell ⟨B1, 1, none⟩ (.int .u64 n)).setCell ⟨B1, 2, none⟩ (.int .u64 c)).setCell ⟨B1, 3, none⟩ (.int .u64 l)).setCell ⟨B1, 4, none⟩ (.bool true)).heap[B1]? = some (.cells #[.int .u64 r, .int .u64 n, .int .u64 c, .int .u64 l, .bool true] 78 (0, 0)) := (five_put x2 (.int .u64 r) (.int .u64 n) (.int .u64 c) (.int .u64 l) (.bool true))
                have y3 : (((((w5.setCell ⟨B1, 0, none⟩ (.int .u64 r)).setCell ⟨B1, 1, none⟩ (.int .u64 n)).setCell ⟨B1, 2, none⟩ (.int .u64 c)).setCell ⟨B1, 3, none⟩ (.int .u64 l)).setCell ⟨B1, 4, none⟩ (.bool true)).heap[B2]? = _ := ((five_else w5 B1 _ (by omega) (.int .u64 r) (.int .u64 n) (.int .u64 c) (.int .u64 l) (.bool true))).trans x3
                have yb : Below w.heap.size w (((((w5.setCell ⟨B1, 0, none⟩ (.int .u64 r)).setCell ⟨B1, 1, none⟩ (.int .u64 n)).setCell ⟨B1, 2, none⟩ (.int .u64 c)).setCell ⟨B1, 3, none⟩ (.int .u64 l)).setCell ⟨B1, 4, none⟩ (.bool true)) := by
                  repeat' (first | (with_reducible exact HB5.out) | refine Below.setCell ?_ s1_ _)
                generalize (((((w5.setCell ⟨B1, 0, none⟩ (.int .u64 r)).setCell ⟨B1, 1, none⟩ (.int .u64 n)).setCell ⟨B1, 2, none⟩ (.int .u64 c)).setCell ⟨B1, 3, none⟩ (.int .u64 l)).setCell ⟨B1, 4, none⟩ (.bool true)) = w6 at y1 y2 y3 yb ⊢
                have HB6 := Lib.hid yb
                clear yb x1 x2 x3 e0_ e1_ e2_ e3_ e4_ k0_ k1_ k2_ k3_ k4_ a0_ a1_ a2_ o0_ o1_ o2_ o3_ o4_ q0_ q1_ q2_ q3_ q4_
                have x1 := y1
                have x2 := y2
                have x3 := y3
                clear y1 y2 y3
                obtain ⟨a0_, a1_, a2_⟩ := cf_at x1
                obtain ⟨e0_, e1_, e2_, e3_, e4_, k0_, k1_, k2_, k3_, k4_⟩ := cs_at x2
                obtain ⟨o0_, o1_, o2_, o3_, o4_, q0_, q1_, q2_, q3_, q4_⟩ := cs_at x3
                have X1 := Lib.hid x1; have X2 := Lib.hid x2; have X3 := Lib.hid x3
                clear x1 x2 x3
                go_wp2
                (try simp only [Exit.inBlock, Exit.then])
                have y3 := five_put X3.out (.int .u64 r) (.int .u64 n) (.int .u64 c) (.int .u64 l) (.bool true)
                have yb : Below w.heap.size w (((((w6.setCell ⟨B2, 0, none⟩ (.int .u64 r)).setCell ⟨B2, 1, none⟩ (.int .u64 n)).setCell ⟨B2, 2, none⟩ (.int .u64 c)).setCell ⟨B2, 3, none⟩ (.int .u64 l)).setCell ⟨B2, 4, none⟩ (.bool true)) := by
                  repeat' (first | (with_reducible exact HB6.out) | refine Below.setCell ?_ s2_ _)
                generalize (((((w6.setCell ⟨B2, 0, none⟩ (.int .u64 r)).setCell ⟨B2, 1, none⟩ (.int .u64 n)).setCell ⟨B2, 2, none⟩ (.int .u64 c)).setCell ⟨B2, 3, none⟩ (.int .u64 l)).setCell ⟨B2, 4, none⟩ (.bool true)) = w9 at y3 yb ⊢
                obtain ⟨o0_, o1_, o2_, o3_, o4_, -⟩ := cs_at y3
                refine bodyPost_ret (v := .tuple #[.agg #[.int .u64 r, .int .u64 n, .int .u64 c, .int .u64 l, .bool true], .bool false]) (by simp [results, Try.results45, go_sem, o0_, o1_, o2_, o3_, o4_]) rfl ⟨rfl, yb⟩
          · have z1_ : decide (f ≤ now) = false := decide_eq_false hn
            rw [z1_, if_neg (by decide)]
            dsimp only
            have FO := Lib.hid (fun W => cod_follow tg iv mt f n c l now d true v0 v1 n0 n1 W)
            generalize fol1 iv f now true = r at *
            clear hl
            go_enter Try.func45, Try.ntmps45
            go_wp2_with fail
            refine (CK.out _).mono ?_
            rintro e w' ⟨rfl, rfl⟩
            go_wp2_with fail
            refine (FO.out _).mono ?_
            rintro e w5 ⟨rfl, b5⟩
            have hx : w5.heap[w.heap.size]? = some (.cells #[.int .u64 tg, .int .u64 iv, .int .u64 mt] 77 (0, 0)) ∧ w5.heap[w.heap.size + 1]? = some (.cells #[.int .u64 f, .int .u64 n, .int .u64 c, .int .u64 l, .bool d] 78 (0, 0)) ∧ w5.heap[w.heap.size + 1 + 1]? = some (.cells #[.int .u64 0, .int .u64 0, .int .u64 0, .int .u64 0, .bool false] 78 (0, 0)) := three_at b5
            have B5 : Below w.heap.size w w5 := below_onto (by repeat' (first | exact Below.refl _ _ | (with_reducible exact HB6.out) | (with_reducible exact HB5.out) | (with_reducible assumption) | refine below_drewN _ ?_ | refine Below.drew ?_ | refine Below.setCell ?_ (by first | assumption | simp) _ | refine Below.alloc ?_ (by simp; try omega) _)) b5 (by simp; try omega)
            obtain ⟨x1, x2, x3⟩ := hx
            obtain ⟨B2, hB2⟩ : ∃ B2, B2 = w.heap.size + 1 + 1 := ⟨_, rfl⟩
            obtain ⟨B1, hB1⟩ : ∃ B1, B1 = w.heap.size + 1 := ⟨_, rfl⟩
            rw [← hB2] at x3 ⊢
            rw [← hB1] at x2 ⊢
            have n12 : ¬ B1 = B2 := by omega
            have n21 : ¬ B2 = B1 := by omega
            have n01 : ¬ w.heap.size = B1 := by omega
            have n02 : ¬ w.heap.size = B2 := by omega
            have n10 : ¬ B1 = w.heap.size := by omega
            have n20 : ¬ B2 = w.heap.size := by omega
            have s1_ : w.heap.size ≤ B1 := by omega
            have s2_ : w.heap.size ≤ B2 := by omega
            clear hB1 hB2
            have HB5 := Lib.hid B5
            clear B5
            obtain ⟨a0_, a1_, a2_⟩ := cf_at x1
            obtain ⟨e0_, e1_, e2_, e3_, e4_, k0_, k1_, k2_, k3_, k4_⟩ := cs_at x2
            obtain ⟨o0_, o1_, o2_, o3_, o4_, q0_, q1_, q2_, q3_, q4_⟩ := cs_at x3
            clear b5
            go_upto_region 8 with (fail)
            have y1 : ((((((w5.setCell ⟨B1, 0, none⟩ (.int .u64 r)).setCell ⟨B1, 1, none⟩ (.int .u64 n)).setCell ⟨B1, 2, none⟩ (.int .u64 c)).setCell ⟨B1, 3, none⟩ (.int .u64 l)).setCell ⟨B1, 4, none⟩ (.bool d)).setCell ⟨B1, 4, none⟩ (.bool false)).heap[w.heap.size]? = _ := ((heap_setCell_other _ ⟨B1, 4, none⟩ _ _ (by simp; omega)).trans (five_else w5 B1 _ (by omega) (.int .u64 r) (.int .u64 n) (.int .u64 c) (.int .u64 l) (.bool d))).trans x1
            have y2 : ((((((w5.setCell ⟨B1, 0, none⟩ (.int .u64 r)).setCell ⟨B1, 1, none⟩ (.int .u64 n)).setCell ⟨B1, 2, none⟩ (.int .u64 c)).setCell ⟨B1, 3, none⟩ (.int .u64 l)).setCell ⟨B1, 4, none⟩ (.bool d)).setCell ⟨B1, 4, none⟩ (.bool false)).heap[B1]? = some (.cells #[.int .u64 r, .int .u64 n, .int .u64 c, .int .u64 l, .bool false] 78 (0, 0)) := (by simpa using heap_put (five_put x2 (.int .u64 r) (.int .u64 n) (.int .u64 c) (.int .u64 l) (.bool d)) 4 (.bool false))
            have y3 : ((((((w5.setCell ⟨B1, 0, none⟩ (.int .u64 r)).setCell ⟨B1, 1, none⟩ (.int .u64 n)).setCell ⟨B1, 2, none⟩ (.int .u64 c)).setCell ⟨B1, 3, none⟩ (.int .u64 l)).setCell ⟨B1, 4, none⟩ (.bool d)).setCell ⟨B1, 4, none⟩ (.bool false)).heap[B2]? = _ := ((heap_setCell_other _ ⟨B1, 4, none⟩ _ _ (by simp; omega)).trans (five_else w5 B1 _ (by omega) (.int .u64 r) (.int .u64 n) (.int .u64 c) (.int .u64 l) (.bool d))).trans x3
            have yb : Below w.heap.size w ((((((w5.setCell ⟨B1, 0, none⟩ (.int .u64 r)).setCell ⟨B1, 1, none⟩ (.int .u64 n)).setCell ⟨B1, 2, none⟩ (.int .u64 c)).setCell ⟨B1, 3, none⟩ (.int .u64 l)).setCell ⟨B1, 4, none⟩ (.bool d)).setCell ⟨B1, 4, none⟩ (.bool false)) := by
              repeat' (first | (with_reducible exact HB5.out) | refine Below.setCell ?_ s1_ _)
            generalize ((((((w5.setCell ⟨B1, 0, none⟩ (.int .u64 r)).setCell ⟨B1, 1, none⟩ (.int .u64 n)).setCell ⟨B1, 2, none⟩ (.int .u64 c)).setCell ⟨B1, 3, none⟩ (.int .u64 l)).setCell ⟨B1, 4, none⟩ (.bool d)).setCell ⟨B1, 4, none⟩ (.bool false)) = w6 at y1 y2 y3 yb ⊢
            have HB6 := Lib.hid yb
            clear yb x1 x2 x3 e0_ e1_ e2_ e3_ e4_ k0_ k1_ k2_ k3_ k4_ a0_ a1_ a2_ o0_ o1_ o2_ o3_ o4_ q0_ q1_ q2_ q3_ q4_
            have x1 := y1
            have x2 := y2
            have x3 := y3
            clear y1 y2 y3
            obtain ⟨a0_, a1_, a2_⟩ := cf_at x1
            obtain ⟨e0_, e1_, e2_, e3_, e4_, k0_, k1_, k2_, k3_, k4_⟩ := cs_at x2
            obtain ⟨o0_, o1_, o2_, o3_, o4_, q0_, q1_, q2_, q3_, q4_⟩ := cs_at x3
            have X1 := Lib.hid x1; have X2 := Lib.hid x2; have X3 := Lib.hid x3
            clear x1 x2 x3
            go_wp2
            (try simp only [Exit.inBlock, Exit.then])
            have y3 := five_put X3.out (.int .u64 r) (.int .u64 n) (.int .u64 c) (.int .u64 l) (.bool false)
            have yb : Below w.heap.size w (((((w6.setCell ⟨B2, 0, none⟩ (.int .u64 r)).setCell ⟨B2, 1, none⟩ (.int .u64 n)).setCell ⟨B2, 2, none⟩ (.int .u64 c)).setCell ⟨B2, 3, none⟩ (.int .u64 l)).setCell ⟨B2, 4, none⟩ (.bool false)) := by
              repeat' (first | (with_reducible exact HB6.out) | refine Below.setCell ?_ s2_ _)
            generalize (((((w6.setCell ⟨B2, 0, none⟩ (.int .u64 r)).setCell ⟨B2, 1, none⟩ (.int .u64 n)).setCell ⟨B2, 2, none⟩ (.int .u64 c)).setCell ⟨B2, 3, none⟩ (.int .u64 l)).setCell ⟨B2, 4, none⟩ (.bool false)) = w9 at y3 yb ⊢
            obtain ⟨o0_, o1_, o2_, o3_, o4_, -⟩ := cs_at y3
            refine bodyPost_ret (v := .tuple #[.agg #[.int .u64 r, .int .u64 n, .int .u64 c, .int .u64 l, .bool false], .bool false]) (by simp [results, Try.results45, go_sem, o0_, o1_, o2_, o3_, o4_]) rfl ⟨rfl, yb⟩
      · have hl : clate tg mt wa be = false := by unfold clate; rw [decide_eq_false hm, Bool.and_false]
        have x1_ : decide (tg ≤ wa) = true := decide_eq_true ht
        have x2_ : decide (mt < be) = false := decide_eq_false hm
        unfold ctime
        rw [hl, Bool.false_and, if_neg (by decide)]
        dsimp only
        have FO := Lib.hid (fun W => cod_follow tg iv mt f n c l now d false v0 v1 n0 n1 W)
        generalize fol1 iv f now false = r at *
        clear hl
        go_enter Try.func45, Try.ntmps45
        go_wp2_with fail
        refine (CK.out _).mono ?_
        rintro e w' ⟨rfl, rfl⟩
        go_wp2_with fail
        refine (FO.out _).mono ?_
        rintro e w5 ⟨rfl, b5⟩
        have hx : w5.heap[w.heap.size]? = some (.cells #[.int .u64 tg, .int .u64 iv, .int .u64 mt] 77 (0, 0)) ∧ w5.heap[w.heap.size + 1]? = some (.cells #[.int .u64 f, .int .u64 n, .int .u64 c, .int .u64 l, .bool d] 78 (0, 0)) ∧ w5.heap[w.heap.size + 1 + 1]? = some (.cells #[.int .u64 0, .int .u64 0, .int .u64 0, .int .u64 0, .bool false] 78 (0, 0)) := three_at b5
        have B5 : Below w.heap.size w w5 := below_onto (by repeat' (first | exact Below.refl _ _ | (with_reducible exact HB6.out) | (with_reducible exact HB5.out) | (with_reducible assumption) | refine below_drewN _ ?_ | refine Below.drew ?_ | refine Below.setCell ?_ (by first | assumption | simp) _ | refine Below.alloc ?_ (by simp; try omega) _)) b5 (by simp; try omega)
        obtain ⟨x1, x2, x3⟩ := hx
        obtain ⟨B2, hB2⟩ : ∃ B2, B2 = w.heap.size + 1 + 1 := ⟨_, rfl⟩
        obtain ⟨B1, hB1⟩ : ∃ B1, B1 = w.heap.size + 1 := ⟨_, rfl⟩
        rw [← hB2] at x3 ⊢
        rw [← hB1] at x2 ⊢
        have n12 : ¬ B1 = B2 := by omega
        have n21 : ¬ B2 = B1 := by omega
        have n01 : ¬ w.heap.size = B1 := by omega
        have n02 : ¬ w.heap.size = B2 := by omega
        have n10 : ¬ B1 = w.heap.size := by omega
        have n20 : ¬ B2 = w.heap.size := by omega
        have s1_ : w.heap.size ≤ B1 := by omega
        have s2_ : w.heap.size ≤ B2 := by omega
        clear hB1 hB2
        have HB5 := Lib.hid B5
        clear B5
        obtain ⟨a0_, a1_, a2_⟩ := cf_at x1
        obtain ⟨e0_, e1_, e2_, e3_, e4_, k0_, k1_, k2_, k3_, k4_⟩ := cs_at x2
        obtain ⟨o0_, o1_, o2_, o3_, o4_, q0_, q1_, q2_, q3_, q4_⟩ := cs_at x3
        clear b5
        go_upto_region 8 with (fail)
        have y1 : ((((((w5.setCell ⟨B1, 0, none⟩ (.int .u64 r)).setCell ⟨B1, 1, none⟩ (.int .u64 n)).setCell ⟨B1, 2, none⟩ (.int .u64 c)).setCell ⟨B1, 3, none⟩ (.int .u64 l)).setCell ⟨B1, 4, none⟩ (.bool d)).setCell ⟨B1, 4, none⟩ (.bool false)).heap[w.heap.size]? = _ := ((heap_setCell_other _ ⟨B1, 4, none⟩ _ _ (by simp; omega)).trans (five_else w5 B1 _ (by omega) (.int .u64 r) (.int .u64 n) (.int .u64 c) (.int .u64 l) (.bool d))).trans x1
        have y2 : ((((((w5.setCell ⟨B1, 0, none⟩ (.int .u64 r)).setCell ⟨B1, 1, none⟩ (.int .u64 n)).setCell ⟨B1, 2, none⟩ (.int .u64 c)).setCell ⟨B1, 3, none⟩ (.int .u64 l)).setCell ⟨B1, 4, none⟩ (.bool d)).setCell ⟨B1, 4, none⟩ (.bool false)).heap[B1]? = some (.cells #[.int .u64 r, .int .u64 n, .int .u64 c, .int .u64 l, .bool false] 78 (0, 0)) := (by simpa using heap_put (five_put x2 (.int .u64 r) (.int .u64 n) (.int .u64 c) (.int .u64 l) (.bool d)) 4 (.bool false))
        have y3 : ((((((w5.setCell ⟨B1, 0, none⟩ (.int .u64 r)).setCell ⟨B1, 1, none⟩ (.int .u64 n)).setCell ⟨B1, 2, none⟩ (.int .u64 c)).setCell ⟨B1, 3, none⟩ (.int .u64 l)).setCell ⟨B1, 4, none⟩ (.bool d)).setCell ⟨B1, 4, none⟩ (.bool false)).heap[B2]? = _ := ((heap_setCell_other _ ⟨B1, 4, none⟩ _ _ (by simp; omega)).trans (five_else w5 B1 _ (by omega) (.int .u64 r) (.int .u64 n) (.int .u64 c) (.int .u64 l) (.bool d))).trans x3
        have yb : Below w.heap.size w ((((((w5.setCell ⟨B1, 0, none⟩ (.int .u64 r)).setCell ⟨B1, 1, none⟩ (.int .u64 n)).setCell ⟨B1, 2, none⟩ (.int .u64 c)).setCell ⟨B1, 3, none⟩ (.int .u64 l)).setCell ⟨B1, 4, none⟩ (.bool d)).setCell ⟨B1, 4, none⟩ (.bool false)) := by
          repeat' (first | (with_reducible exact HB5.out) | refine Below.setCell ?_ s1_ _)
        generalize ((((((w5.setCell ⟨B1, 0, none⟩ (.int .u64 r)).setCell ⟨B1, 1, none⟩ (.int .u64 n)).setCell ⟨B1, 2, none⟩ (.int .u64 c)).setCell ⟨B1, 3, none⟩ (.int .u64 l)).setCell ⟨B1, 4, none⟩ (.bool d)).setCell ⟨B1, 4, none⟩ (.bool false)) = w6 at y1 y2 y3 yb ⊢
        have HB6 := Lib.hid yb
        clear yb x1 x2 x3 e0_ e1_ e2_ e3_ e4_ k0_ k1_ k2_ k3_ k4_ a0_ a1_ a2_ o0_ o1_ o2_ o3_ o4_ q0_ q1_ q2_ q3_ q4_
        have x1 := y1
        have x2 := y2
        have x3 := y3
        clear y1 y2 y3
        obtain ⟨a0_, a1_, a2_⟩ := cf_at x1
        obtain ⟨e0_, e1_, e2_, e3_, e4_, k0_, k1_, k2_, k3_, k4_⟩ := cs_at x2
        obtain ⟨o0_, o1_, o2_, o3_, o4_, q0_, q1_, q2_, q3_, q4_⟩ := cs_at x3
        have X1 := Lib.hid x1; have X2 := Lib.hid x2; have X3 := Lib.hid x3
        clear x1 x2 x3
        go_wp2
        (try simp only [Exit.inBlock, Exit.then])
        have y3 := five_put X3.out (.int .u64 r) (.int .u64 n) (.int .u64 c) (.int .u64 l) (.bool false)
        have yb : Below w.heap.size w (((((w6.setCell ⟨B2, 0, none⟩ (.int .u64 r)).setCell ⟨B2, 1, none⟩ (.int .u64 n)).setCell ⟨B2, 2, none⟩ (.int .u64 c)).setCell ⟨B2, 3, none⟩ (.int .u64 l)).setCell ⟨B2, 4, none⟩ (.bool false)) := by
          repeat' (first | (with_reducible exact HB6.out) | refine Below.setCell ?_ s2_ _)
        generalize (((((w6.setCell ⟨B2, 0, none⟩ (.int .u64 r)).setCell ⟨B2, 1, none⟩ (.int .u64 n)).setCell ⟨B2, 2, none⟩ (.int .u64 c)).setCell ⟨B2, 3, none⟩ (.int .u64 l)).setCell ⟨B2, 4, none⟩ (.bool false)) = w9 at y3 yb ⊢
        obtain ⟨o0_, o1_, o2_, o3_, o4_, -⟩ := cs_at y3
        refine bodyPost_ret (v := .tuple #[.agg #[.int .u64 r, .int .u64 n, .int .u64 c, .int .u64 l, .bool false], .bool false]) (by simp [results, Try.results45, go_sem, o0_, o1_, o2_, o3_, o4_]) rfl ⟨rfl, yb⟩
    · have hl : clate tg mt wa be = false := by unfold clate; rw [decide_eq_false ht, Bool.false_and]
      have x1_ : decide (tg ≤ wa) = false := decide_eq_false ht
      unfold ctime
      rw [hl, Bool.false_and, if_neg (by decide)]
      dsimp only
      have FO := Lib.hid (fun W => cod_follow tg iv mt f n c l now d false v0 v1 n0 n1 W)
      generalize fol1 iv f now false = r at *
      clear hl
      go_enter Try.func45, Try.ntmps45
      go_wp2_with fail
      refine (CK.out _).mono ?_
      rintro e w' ⟨rfl, rfl⟩
      go_wp2_with fail
      refine (FO.out _).mono ?_
      rintro e w5 ⟨rfl, b5⟩
      have hx : w5.heap[w.heap.size]? = some (.cells #[.int .u64 tg, .int .u64 iv, .int .u64 mt] 77 (0, 0)) ∧ w5.heap[w.heap.size + 1]? = some (.cells #[.int .u64 f, .int .u64 n, .int .u64 c, .int .u64 l, .bool d] 78 (0, 0)) ∧ w5.heap[w.heap.size + 1 + 1]? = some (.cells #[.int .u64 0, .int .u64 0, .int .u64 0, .int .u64 0, .bool false] 78 (0, 0)) := three_at b5
      have B5 : Below w.heap.size w w5 := below_onto (by repeat' (first | exact Below.refl _ _ | (with_reducible exact HB6.out) | (with_reducible exact HB5.out) | (with_reducible assumption) | refine below_drewN _ ?_ | refine Below.drew ?_ | refine Below.setCell ?_ (by first | assumption | simp) _ | refine Below.alloc ?_ (by simp; try omega) _)) b5 (by simp; try omega)
      obtain ⟨x1, x2, x3⟩ := hx
      obtain ⟨B2, hB2⟩ : ∃ B2, B2 = w.heap.size + 1 + 1 := ⟨_, rfl⟩
      obtain ⟨B1, hB1⟩ : ∃ B1, B1 = w.heap.size + 1 := ⟨_, rfl⟩
      rw [← hB2] at x3 ⊢
      rw [← hB1] at x2 ⊢
      have n12 : ¬ B1 = B2 := by omega
      have n21 : ¬ B2 = B1 := by omega
      have n01 : ¬ w.heap.size = B1 := by omega
      have n02 : ¬ w.heap.size = B2 := by omega
      have n10 : ¬ B1 = w.heap.size := by omega
      have n20 : ¬ B2 = w.heap.size := by omega
      have s1_ : w.heap.size ≤ B1 := by omega
      have s2_ : w.heap.size ≤ B2 := by omega
      clear hB1 hB2
      have HB5 := Lib.hid B5
      clear B5
      obtain ⟨a0_, a1_, a2_⟩ := cf_at x1
      obtain ⟨e0_, e1_, e2_, e3_, e4_, k0_, k1_, k2_, k3_, k4_⟩ := cs_at x2
      obtain ⟨o0_, o1_, o2_, o3_, o4_, q0_, q1_, q2_, q3_, q4_⟩ := cs_at x3
      clear b5
      go_upto_region 8 with (fail)
      have y1 : ((((((w5.setCell ⟨B1, 0, none⟩ (.int .u64 r)).setCell ⟨B1, 1, none⟩ (.int .u64 n)).setCell ⟨B1, 2, none⟩ (.int .u64 c)).setCell ⟨B1, 3, none⟩ (.int .u64 l)).setCell ⟨B1, 4, none⟩ (.bool d)).setCell ⟨B1, 4, none⟩ (.bool false)).heap[w.heap.size]? = _ := ((heap_setCell_other _ ⟨B1, 4, none⟩ _ _ (by simp; omega)).trans (five_else w5 B1 _ (by omega) (.int .u64 r) (.int .u64 n) (.int .u64 c) (.int .u64 l) (.bool d))).trans x1
      have y2 : ((((((w5.setCell ⟨B1, 0, none⟩ (.int .u64 r)).setCell ⟨B1, 1, none⟩ (.int .u64 n)).setCell ⟨B1, 2, none⟩ (.int .u64 c)).setCell ⟨B1, 3, none⟩ (.int .u64 l)).setCell ⟨B1, 4, none⟩ (.bool d)).setCell ⟨B1, 4, none⟩ (.bool false)).heap[B1]? = some (.cells #[.int .u64 r, .int .u64 n, .int .u64 c, .int .u64 l, .bool false] 78 (0, 0)) := (by simpa using heap_put (five_put x2 (.int .u64 r) (.int .u64 n) (.int .u64 c) (.int .u64 l) (.bool d)) 4 (.bool false))
      have y3 : ((((((w5.setCell ⟨B1, 0, none⟩ (.int .u64 r)).setCell ⟨B1, 1, none⟩ (.int .u64 n)).setCell ⟨B1, 2, none⟩ (.int .u64 c)).setCell ⟨B1, 3, none⟩ (.int .u64 l)).setCell ⟨B1, 4, none⟩ (.bool d)).setCell ⟨B1, 4, none⟩ (.bool false)).heap[B2]? = _ := ((heap_setCell_other _ ⟨B1, 4, none⟩ _ _ (by simp; omega)).trans (five_else w5 B1 _ (by omega) (.int .u64 r) (.int .u64 n) (.int .u64 c) (.int .u64 l) (.bool d))).trans x3
      have yb : Below w.heap.size w ((((((w5.setCell ⟨B1, 0, none⟩ (.int .u64 r)).setCell ⟨B1, 1, none⟩ (.int .u64 n)).setCell ⟨B1, 2, none⟩ (.int .u64 c)).setCell ⟨B1, 3, none⟩ (.int .u64 l)).setCell ⟨B1, 4, none⟩ (.bool d)).setCell ⟨B1, 4, none⟩ (.bool false)) := by
        repeat' (first | (with_reducible exact HB5.out) | refine Below.setCell ?_ s1_ _)
      generalize ((((((w5.setCell ⟨B1, 0, none⟩ (.int .u64 r)).setCell ⟨B1, 1, none⟩ (.int .u64 n)).setCell ⟨B1, 2, none⟩ (.int .u64 c)).setCell ⟨B1, 3, none⟩ (.int .u64 l)).setCell ⟨B1, 4, none⟩ (.bool d)).setCell ⟨B1, 4, none⟩ (.bool false)) = w6 at y1 y2 y3 yb ⊢
      have HB6 := Lib.hid yb
      clear yb x1 x2 x3 e0_ e1_ e2_ e3_ e4_ k0_ k1_ k2_ k3_ k4_ a0_ a1_ a2_ o0_ o1_ o2_ o3_ o4_ q0_ q1_ q2_ q3_ q4_
      have x1 := y1
      have x2 := y2
      have x3 := y3
      clear y1 y2 y3
      obtain ⟨a0_, a1_, a2_⟩ := cf_at x1
      obtain ⟨e0_, e1_, e2_, e3_, e4_, k0_, k1_, k2_, k3_, k4_⟩ := cs_at x2
      obtain ⟨o0_, o1_, o2_, o3_, o4_, q0_, q1_, q2_, q3_, q4_⟩ := cs_at x3
      have X1 := Lib.hid x1; have X2 := Lib.hid x2; have X3 := Lib.hid x3
      clear x1 x2 x3
      go_wp2
      (try simp only [Exit.inBlock, Exit.then])
      have y3 := five_put X3.out (.int .u64 r) (.int .u64 n) (.int .u64 c) (.int .u64 l) (.bool false)
      have yb : Below w.heap.size w (((((w6.setCell ⟨B2, 0, none⟩ (.int .u64 r)).setCell ⟨B2, 1, none⟩ (.int .u64 n)).setCell ⟨B2, 2, none⟩ (.int .u64 c)).setCell ⟨B2, 3, none⟩ (.int .u64 l)).setCell ⟨B2, 4, none⟩ (.bool false)) := by
        repeat' (first | (with_reducible exact HB6.out) | refine Below.setCell ?_ s2_ _)
      generalize (((((w6.setCell ⟨B2, 0, none⟩ (.int .u64 r)).setCell ⟨B2, 1, none⟩ (.int .u64 n)).setCell ⟨B2, 2, none⟩ (.int .u64 c)).setCell ⟨B2, 3, none⟩ (.int .u64 l)).setCell ⟨B2, 4, none⟩ (.bool false)) = w9 at y3 yb ⊢
      obtain ⟨o0_, o1_, o2_, o3_, o4_, -⟩ := cs_at y3
      refine bodyPost_ret (v := .tuple #[.agg #[.int .u64 r, .int .u64 n, .int .u64 c, .int .u64 l, .bool false], .bool false]) (by simp [results, Try.results45, go_sem, o0_, o1_, o2_, o3_, o4_]) rfl ⟨rfl, yb⟩
  · rw [if_neg hok]
    rw [if_neg hok] at CK
    dsimp only
    clear hok
    go_enter Try.func45, Try.ntmps45
    go_wp2_with fail
    refine (CK.out _).mono ?_
    rintro e w' ⟨rfl, rfl⟩
    go_wp2
    (try simp only [Exit.inBlock, Exit.then])
    refine bodyPost_ret (v := .tuple #[.agg #[.int .u64 f, .int .u64 n, .int .u64 c, .int .u64 l, .bool d], .bool false]) (by simp [results, Try.results45, go_sem]) rfl ⟨rfl, ?_⟩
    repeat' (first | exact Below.refl _ _ | (with_reducible exact HB6.out) | (with_reducible exact HB5.out) | (with_reducible assumption) | refine below_drewN _ ?_ | refine Below.drew ?_ | refine Below.setCell ?_ (by first | assumption | simp) _ | refine Below.alloc ?_ (by simp; try omega) _)
end Go.Proofs.Ytdokllignldbeaa
