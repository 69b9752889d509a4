/-
  Package rank: New: the ranks of some flows, or why there are none. No condition.
-/
import Derived.Test.YtnnbkooikimedaaRank3
import Derived.RegionTactic
import Derived.Deep.RegionWith
import Derived.Deep.RegionHeld3
import Derived.Deep.AppendLies
namespace Go.Proofs.Ytnnbkooikimedaa
set_option linter.unusedVariables false
set_option linter.unusedSimpArgs false
open Go.ChangeShapes Go.WideShapes Go.ChangeAt Go.RowKit
attribute [local go_sem] alloc_drewN setCell_drewN

/-- What New hands back of flows that may be so many. -/
def NewP (w w' : World) (kind : Int) (fs : List Fl) (v : Value) (code : Int) : Prop :=
  (distF fs fs.length ∧ v = .pointer (some ⟨w.heap.size, 0, none⟩) ∧ code = 0 ∧ ∃ ve, RanksAt w' w.heap.size w.heap.size kind 0 ve (fs.map (initR kind))) ∨ (¬ distF fs fs.length ∧ v = .pointer none ∧ code = 30)
theorem initR_id (kind : Int) (fs : List Fl) (i j : Nat) (hi : i ≤ fs.length) (hj : j < i) : (((fs.take i).map (initR kind)).getD j Rf.nil).id = (fs.getD j Fl.nil).id := by
  rw [List.getD_eq_getElem?_getD, List.getD_eq_getElem?_getD, List.getElem?_map, List.getElem?_take_of_lt hj, List.getElem?_eq_getElem (by omega)]
  rfl
theorem initR_more (kind : Int) (fs : List Fl) (i : Nat) (hi : i < fs.length) : (fs.take (i + 1)).map (initR kind) = (fs.take i).map (initR kind) ++ [initR kind (fs.getD i Fl.nil)] := by
  rw [List.take_succ_eq_append_getElem hi, List.map_append, List.getD_eq_getElem?_getD, List.getElem?_eq_getElem hi]
  rfl
theorem cells5 (w : World) (a b c d e : Value) (t : TypeId) : (w.alloc (.cells #[a, b, c, d, e] t)).cell? ⟨w.heap.size, 0, none⟩ = some a ∧ (w.alloc (.cells #[a, b, c, d, e] t)).cell? ⟨w.heap.size, 1, none⟩ = some b ∧ (w.alloc (.cells #[a, b, c, d, e] t)).cell? ⟨w.heap.size, 2, none⟩ = some c ∧ (w.alloc (.cells #[a, b, c, d, e] t)).cell? ⟨w.heap.size, 3, none⟩ = some d ∧ (w.alloc (.cells #[a, b, c, d, e] t)).cell? ⟨w.heap.size, 4, none⟩ = some e :=
  ⟨World.cell?_alloc_mark w #[a, b, c, d, e] t (0, 0) 0, World.cell?_alloc_mark w #[a, b, c, d, e] t (0, 0) 1, World.cell?_alloc_mark w #[a, b, c, d, e] t (0, 0) 2, World.cell?_alloc_mark w #[a, b, c, d, e] t (0, 0) 3, World.cell?_alloc_mark w #[a, b, c, d, e] t (0, 0) 4⟩
theorem cells5_at {w w1 : World} {a b c d e : Value} {t : TypeId} (h : Below (w.alloc (.cells #[a, b, c, d, e] t)).heap.size (w.alloc (.cells #[a, b, c, d, e] t)) w1) : w1.cell? ⟨w.heap.size, 0, none⟩ = some a ∧ w1.cell? ⟨w.heap.size, 1, none⟩ = some b ∧ w1.cell? ⟨w.heap.size, 2, none⟩ = some c ∧ w1.cell? ⟨w.heap.size, 3, none⟩ = some d ∧ w1.cell? ⟨w.heap.size, 4, none⟩ = some e := by
  obtain ⟨h0, h1, h2, h3, h4⟩ := cells5 w a b c d e t
  have hk := fun i => h.cell (p := ⟨w.heap.size, i, none⟩) (by simp)
  exact ⟨(hk 0).trans h0, (hk 1).trans h1, (hk 2).trans h2, (hk 3).trans h3, (hk 4).trans h4⟩
theorem distF_more {fs : List Fl} {i : Nat} (h : distF fs i) (h2 : ∀ j, j < i → ¬ (fs.getD j Fl.nil).id = (fs.getD i Fl.nil).id) : distF fs (i + 1) := fun a b hab hb => by
  by_cases e : b = i
  · rw [e] at hab ⊢; exact h2 a hab
  · exact h a b hab (by omega)
theorem initR_ok {kind : Int} {f : Fl} (h : f.ok) : (initR kind f).ok := by
  obtain ⟨a1, a2, a3, a4, a5⟩ := h
  refine ⟨a2, a3, ?_⟩
  show 0 ≤ (if kind = 3 then f.sz else 0) ∧ (if kind = 3 then f.sz else 0) ≤ 18446744073709551615
  split
  · exact a4
  · omega
set_option maxRecDepth 100000 in
set_option maxHeartbeats 4000000 in
theorem rnew_any {w : World} (kind : Int) (hk0 : 1 ≤ kind) (hk1 : kind ≤ 3) (a : Option Addr) (n c : Nat) (fs : List Fl) (hr : RowFl w a n fs) (hn0 : 1 ≤ n) (hn1 : n ≤ 64) :
    Calls Try.prog 55 #[.int .i64 kind, .slice a n c] w fun e w' => ∃ v code, e = .returned (.tuple #[v, .int .i64 code]) ∧ NewP w w' kind fs v code ∧ Below w.heap.size w w' := by
  obtain ⟨i0, hif, hz0, hz1, hz2⟩ := info_parts infoRf
  have q1 : ¬ kind < 1 := by omega
  have q2 : ¬ 3 < kind := by omega
  have q3 : ¬ (n : Int) < 1 := by omega
  have q4 : ¬ 64 < (n : Int) := by omega
  have HR := Lib.hid hr
  have HL := Lib.hid hr.1
  obtain ⟨W0, hW0⟩ : ∃ W0, w.alloc (.cells #[.int .i64 kind, .int .u64 0, .slice none 0 0] 213) = W0 := ⟨_, rfl⟩
  have R0 := Lib.hid (show RanksAt W0 w.heap.size w.heap.size kind 0 (.slice none 0 0) [] by
    rw [← hW0]
    exact ⟨heap_alloc_new w _, Nat.le_refl _, World.ownsRow_nil _ _ _ _, fun e he => (by cases he), ⟨by omega, by omega⟩, by simp⟩)
  have B0 := Lib.hid (show Below w.heap.size w W0 by rw [← hW0]; exact (Below.refl _ w).alloc (Nat.le_refl _) _)
  have S0 := Lib.hid (show w.heap.size < W0.heap.size by rw [← hW0]; simp)
  clear hr
  go_enter Try.func55, Try.ntmps55
  go_wp2

  clear hW0
  go_loopw [28] (fun z wr => ∃ (i : Nat) (ve : Value), i ≤ n ∧ z = .int .i64 i ∧ RanksAt wr w.heap.size w.heap.size kind 0 ve ((fs.take i).map (initR kind)) ∧ distF fs i ∧ Below w.heap.size w wr) (fun z _ => n - (intOf z).toNat)
  case atStart => exact ⟨0, _, Nat.zero_le _, rfl, R0.out, fun a b _ h => absurd h (Nat.not_lt_zero _), B0.out⟩
  case round =>
    obtain ⟨i, ve, hi, rfl, h, hd, hb⟩ := hrel
    have HH := Lib.hid h
    have HD := Lib.hid hd
    have HB := Lib.hid hb
    by_cases hlt : i < n
    · obtain ⟨b, off, rfl, hblt, c0, c1, c2, c3, c4⟩ := HR.out.atR hb i hlt
      have z0 : (0 : Int) ≤ i := by omega
      have z1 : (i : Int) < n := by omega
      clear h hd hb
      have OKX := Lib.hid (initR_ok (kind := kind) (HR.out.okR i hlt))
      have HN := Lib.hid (initR_more kind fs i (by rw [HL.out]; exact hlt))
      have FR := first_or (fun j => (fs.getD j Fl.nil).id = (fs.getD i Fl.nil).id) i
      have IDS := Lib.hid (fun j (hj : j < i) => initR_id kind fs i j (by rw [HL.out]; omega) hj)
      have LE := Lib.hid (show ((fs.take i).map (initR kind)).length = i by rw [List.length_map, List.length_take, HL.out]; omega)
      obtain ⟨x, hx⟩ : ∃ x, fs.getD i Fl.nil = x := ⟨_, rfl⟩
      rw [hx] at c0 c1 c2 c3 c4 OKX HN FR
      have HX := Lib.hid hx
      clear hx
      obtain ⟨es, hes⟩ : ∃ es, (fs.take i).map (initR kind) = es := ⟨_, rfl⟩
      rw [hes] at HH HN IDS LE
      clear hes
      obtain ⟨xi, xc, xb, xs, xp⟩ := x
      dsimp only at c0 c1 c2 c3 c4 FR
      obtain ⟨F, hF⟩ : ∃ F : Obj, F = .cells #[.int .u32 xi, .int .u64 xc, .int .u64 xb, .int .u64 xs, .int .u64 xp] 210 := ⟨_, rfl⟩
      have IX := Lib.hid (rindex (HH.out.below ((Below.refl _ wr).alloc (Nat.le_refl _) F)) xi)
      rcases FR with ⟨j, hj, h1, h2⟩ | hno
      · have E := Lib.hid (ix_hit es xi j (by rw [LE.out]; exact hj) (by rw [IDS.out j hj]; exact h1) (fun k hk => by rw [IDS.out k (by omega)]; exact h2 k hk))
        rw [E.out] at IX
        have ND := Lib.hid (show ¬ distF fs fs.length from fun hd => hd j i hj (by rw [HL.out]; exact hlt) (by rw [h1, HX.out]))
        have j0 : (0 : Int) ≤ j := by omega
        clear h1 h2
        rw [hF] at IX
        clear hF
        go_wp2_with fail
        refine IX.out.mono ?_
        rintro e w1 ⟨rfl, b1⟩
        have B1 := Lib.hid (HB.out.trans ((((Below.refl _ wr).alloc (Nat.le_refl _) _).trans (b1.mono (by simp))).mono HB.out.size))
        clear b1
        go_wp2
        go_ret2
        exact ⟨_, _, rfl, Or.inr ⟨ND.out, rfl, rfl⟩, B1.out⟩
      · have E := Lib.hid (ix_miss es xi (fun k hk => by rw [IDS.out k (by rw [LE.out] at hk; exact hk)]; exact hno k (by rw [LE.out] at hk; exact hk)))
        rw [E.out] at IX
        have ND := Lib.hid (distF_more HD.out (fun j hj => by rw [HX.out]; exact hno j hj))
        clear hno
        have FST := fun W => rfirst kind xi xc xb xs xp W
        rw [show initR kind ⟨xi, xc, xb, xs, xp⟩ = ⟨xi, xc, xb, if kind = 3 then xs else 0⟩ from rfl] at OKX HN
        generalize (if kind = 3 then xs else 0) = t at FST OKX HN
        have FS := Lib.hid FST
        clear FST
        rw [hF] at IX
        clear hF
        go_wp2_with fail
        refine IX.out.mono ?_
        rintro e w1 ⟨rfl, b1⟩
        obtain ⟨f0, f1, f2, f3, f4⟩ := cells5_at b1
        have BW := Lib.hid (((Below.refl _ wr).alloc (Nat.le_refl _) _).trans (b1.mono (by simp)))
        have LT1 := Lib.hid (show wr.heap.size < w1.heap.size from by have := b1.size; simp at this; omega)
        clear b1
        have H1 := Lib.hid (HH.out.below BW.out)
        obtain ⟨ao, co, hve⟩ := row_slice HH.out.oe
        subst hve
        rw [LE.out] at HH H1
        have OE := Lib.hid (fun (W : World) (o1 o2 : Obj) (eh : W.heap = ((w1.alloc o1).alloc o2).heap) => show W.ownsRow w.heap.size 217 4 (.slice ao i co) i (rfs es) by
          have ho := H1.out.oe
          rw [LE.out] at ho
          have ho := (ho.alloc o1).alloc o2
          unfold World.ownsRow at ho ⊢
          rw [eh]; exact ho)
        have c5 := H1.out.cell.2.2.1
        have NW := Lib.hid (fun (W : World) (o : Obj) (eh : W.heap = ((w1.alloc o).alloc (.cells #[.int .u32 xi, .int .u64 xc, .int .u64 xb, .int .u64 t] 217)).heap) => World.news_of_block (w := W) (B := w1.heap.size + 1) (by rw [eh]; have := heap_alloc_new (w1.alloc o) (.cells #[.int .u32 xi, .int .u64 xc, .int .u64 xb, .int .u64 t] 217); simpa using this))
        have OC := Lib.hid (show ∀ y ∈ ([.int .u32 xi, .int .u64 xc, .int .u64 xb, .int .u64 t] : List Value), y.oneCell' = true from fun y hy => by simp at hy; rcases hy with rfl | rfl | rfl | rfl <;> rfl)
        have m63 : i + 1 ≤ maxLen := by unfold maxLen; omega
        have mby : (i + 1) * 32 ≤ 140737488355328 := by omega
        have hb9 := HB.out.size
        have lt9 := LT1.out
        have KS := Lib.hid (fun (W : World) (o : Obj) (h0 : W.cell? ⟨wr.heap.size, 0, none⟩ = some (.int .u32 xi)) (h1 : W.cell? ⟨wr.heap.size, 1, none⟩ = some (.int .u64 xc)) (h2 : W.cell? ⟨wr.heap.size, 2, none⟩ = some (.int .u64 xb)) (h3 : W.cell? ⟨wr.heap.size, 3, none⟩ = some (.int .u64 xs)) (h4 : W.cell? ⟨wr.heap.size, 4, none⟩ = some (.int .u64 xp)) (h5 : W.cell? ⟨w.heap.size, 2, none⟩ = some (.slice ao i co)) =>
          (⟨(World.cell?_alloc_lt W o _ (World.block_lt_of_cell? W _ h0)).trans h0, (World.cell?_alloc_lt W o _ (World.block_lt_of_cell? W _ h1)).trans h1, (World.cell?_alloc_lt W o _ (World.block_lt_of_cell? W _ h2)).trans h2, (World.cell?_alloc_lt W o _ (World.block_lt_of_cell? W _ h3)).trans h3, (World.cell?_alloc_lt W o _ (World.block_lt_of_cell? W _ h4)).trans h4, (World.cell?_alloc_lt W o _ (World.block_lt_of_cell? W _ h5)).trans h5⟩ :
          (W.alloc o).cell? ⟨wr.heap.size, 0, none⟩ = some (.int .u32 xi) ∧ (W.alloc o).cell? ⟨wr.heap.size, 1, none⟩ = some (.int .u64 xc) ∧ (W.alloc o).cell? ⟨wr.heap.size, 2, none⟩ = some (.int .u64 xb) ∧ (W.alloc o).cell? ⟨wr.heap.size, 3, none⟩ = some (.int .u64 xs) ∧ (W.alloc o).cell? ⟨wr.heap.size, 4, none⟩ = some (.int .u64 xp) ∧ (W.alloc o).cell? ⟨w.heap.size, 2, none⟩ = some (.slice ao i co)))
        have KS2 := Lib.hid (fun (o1 o2 : Obj) => KS.out (w1.alloc o1) o2 (KS.out w1 o1 f0 f1 f2 f3 f4 c5).1 (KS.out w1 o1 f0 f1 f2 f3 f4 c5).2.1 (KS.out w1 o1 f0 f1 f2 f3 f4 c5).2.2.1 (KS.out w1 o1 f0 f1 f2 f3 f4 c5).2.2.2.1 (KS.out w1 o1 f0 f1 f2 f3 f4 c5).2.2.2.2.1 (KS.out w1 o1 f0 f1 f2 f3 f4 c5).2.2.2.2.2)
        have KB := Lib.hid (fun (W w3 : World) (o1 o2 : Obj) (hg : W.grownBy w3 (Value.slice ao i co).ownBlock) (eh : W.heap = ((w1.alloc o1).alloc o2).heap) =>
          have hBw : w.heap.size < wr.heap.size := (HH.out.inlt (Or.inl rfl)).2
          have e1 : W.heap[w.heap.size]? = some (.cells #[.int .i64 kind, .int .u64 0, .slice ao i co] 213 (0, 0)) := by
            rw [eh]
            exact (heap_alloc_old (w1.alloc o1) o2 (by simp; omega)).trans ((heap_alloc_old w1 o1 (by omega)).trans H1.out.blk)
          have hWs : w.heap.size < W.heap.size := (Array.getElem?_eq_some_iff.1 e1).1
          have e2 : w3.heap[w.heap.size]? = some (.cells #[.int .i64 kind, .int .u64 0, .slice ao i co] 213 (0, 0)) := (hg.block w.heap.size hWs (fun e => H1.out.ne e.symm)).trans e1
          have eF : ∀ k u, (w1.alloc o1).cell? ⟨wr.heap.size, k, none⟩ = some u → w3.cell? ⟨wr.heap.size, k, none⟩ = some u := fun k u hu => by
            have hown : ¬ (Value.slice ao i co).ownBlock = some wr.heap.size := fun e => by
              have := (HH.out.inlt (Or.inr e)).2
              omega
            have hWr : wr.heap.size < W.heap.size := by rw [eh]; simp; omega
            rw [hg.cell_far (a := ⟨wr.heap.size, k, none⟩) hWr (fun e => hown e.symm)]
            have e3 : W.heap[wr.heap.size]? = (w1.alloc o1).heap[wr.heap.size]? := by rw [eh]; exact heap_alloc_old (w1.alloc o1) o2 (by simp; omega)
            unfold World.cell? at hu ⊢
            rw [e3]; exact hu
          (⟨eF 0 _ (KS.out w1 o1 f0 f1 f2 f3 f4 c5).1, eF 1 _ (KS.out w1 o1 f0 f1 f2 f3 f4 c5).2.1, eF 2 _ (KS.out w1 o1 f0 f1 f2 f3 f4 c5).2.2.1, eF 3 _ (KS.out w1 o1 f0 f1 f2 f3 f4 c5).2.2.2.1, eF 4 _ (KS.out w1 o1 f0 f1 f2 f3 f4 c5).2.2.2.2.1, cell_of_row w3 w.heap.size 2 _ _ (0, 0) e2, frozen_of_row w3 w.heap.size 2 _ _ e2⟩ :
            w3.cell? ⟨wr.heap.size, 0, none⟩ = some (.int .u32 xi) ∧ w3.cell? ⟨wr.heap.size, 1, none⟩ = some (.int .u64 xc) ∧ w3.cell? ⟨wr.heap.size, 2, none⟩ = some (.int .u64 xb) ∧ w3.cell? ⟨wr.heap.size, 3, none⟩ = some (.int .u64 xs) ∧ w3.cell? ⟨wr.heap.size, 4, none⟩ = some (.int .u64 xp) ∧ w3.cell? ⟨w.heap.size, 2, none⟩ = some (.slice ao i co) ∧ w3.frozen? ⟨w.heap.size, 2, none⟩ = false))
        have kc := fun (o : Obj) => (KS.out w1 o f0 f1 f2 f3 f4 c5).2.2.2.2.2
        have kc2 := fun (o1 o2 : Obj) => (KS2.out o1 o2).2.2.2.2.2
        have KS5 := Lib.hid (fun (o : Obj) => (⟨(KS.out w1 o f0 f1 f2 f3 f4 c5).1, (KS.out w1 o f0 f1 f2 f3 f4 c5).2.1, (KS.out w1 o f0 f1 f2 f3 f4 c5).2.2.1, (KS.out w1 o f0 f1 f2 f3 f4 c5).2.2.2.1, (KS.out w1 o f0 f1 f2 f3 f4 c5).2.2.2.2.1⟩ :
          (w1.alloc o).cell? ⟨wr.heap.size, 0, none⟩ = some (.int .u32 xi) ∧ (w1.alloc o).cell? ⟨wr.heap.size, 1, none⟩ = some (.int .u64 xc) ∧ (w1.alloc o).cell? ⟨wr.heap.size, 2, none⟩ = some (.int .u64 xb) ∧ (w1.alloc o).cell? ⟨wr.heap.size, 3, none⟩ = some (.int .u64 xs) ∧ (w1.alloc o).cell? ⟨wr.heap.size, 4, none⟩ = some (.int .u64 xp)))
        have KS6 := Lib.hid (fun (o1 o2 : Obj) => (⟨(KS2.out o1 o2).1, (KS2.out o1 o2).2.1, (KS2.out o1 o2).2.2.1, (KS2.out o1 o2).2.2.2.1, (KS2.out o1 o2).2.2.2.2.1⟩ :
          ((w1.alloc o1).alloc o2).cell? ⟨wr.heap.size, 0, none⟩ = some (.int .u32 xi) ∧ ((w1.alloc o1).alloc o2).cell? ⟨wr.heap.size, 1, none⟩ = some (.int .u64 xc) ∧ ((w1.alloc o1).alloc o2).cell? ⟨wr.heap.size, 2, none⟩ = some (.int .u64 xb) ∧ ((w1.alloc o1).alloc o2).cell? ⟨wr.heap.size, 3, none⟩ = some (.int .u64 xs) ∧ ((w1.alloc o1).alloc o2).cell? ⟨wr.heap.size, 4, none⟩ = some (.int .u64 xp)))
        have hwr9 : w.heap.size < wr.heap.size := (HH.out.inlt (Or.inl rfl)).2
        have KT := Lib.hid (fun (W : World) (v : Value) (h0 : W.cell? ⟨wr.heap.size, 0, none⟩ = some (.int .u32 xi)) (h1 : W.cell? ⟨wr.heap.size, 1, none⟩ = some (.int .u64 xc)) (h2 : W.cell? ⟨wr.heap.size, 2, none⟩ = some (.int .u64 xb)) (h3 : W.cell? ⟨wr.heap.size, 3, none⟩ = some (.int .u64 xs)) (h4 : W.cell? ⟨wr.heap.size, 4, none⟩ = some (.int .u64 xp)) =>
          have ne : ∀ k, (⟨w.heap.size, 2, none⟩ : Addr) ≠ ⟨wr.heap.size, k, none⟩ := fun k e => by injection e with e1 e2 e3; omega
          (⟨(World.cell?_setCell_other _ ⟨w.heap.size, 2, none⟩ ⟨wr.heap.size, 0, none⟩ v (ne 0)).trans h0, (World.cell?_setCell_other _ ⟨w.heap.size, 2, none⟩ ⟨wr.heap.size, 1, none⟩ v (ne 1)).trans h1, (World.cell?_setCell_other _ ⟨w.heap.size, 2, none⟩ ⟨wr.heap.size, 2, none⟩ v (ne 2)).trans h2, (World.cell?_setCell_other _ ⟨w.heap.size, 2, none⟩ ⟨wr.heap.size, 3, none⟩ v (ne 3)).trans h3, (World.cell?_setCell_other _ ⟨w.heap.size, 2, none⟩ ⟨wr.heap.size, 4, none⟩ v (ne 4)).trans h4⟩ :
          (W.setCell ⟨w.heap.size, 2, none⟩ v).cell? ⟨wr.heap.size, 0, none⟩ = some (.int .u32 xi) ∧ (W.setCell ⟨w.heap.size, 2, none⟩ v).cell? ⟨wr.heap.size, 1, none⟩ = some (.int .u64 xc) ∧ (W.setCell ⟨w.heap.size, 2, none⟩ v).cell? ⟨wr.heap.size, 2, none⟩ = some (.int .u64 xb) ∧ (W.setCell ⟨w.heap.size, 2, none⟩ v).cell? ⟨wr.heap.size, 3, none⟩ = some (.int .u64 xs) ∧ (W.setCell ⟨w.heap.size, 2, none⟩ v).cell? ⟨wr.heap.size, 4, none⟩ = some (.int .u64 xp)))
        clear c0 c1 c2 c3 c4
        go_wp2
        refine wp_region_noPanic ?_
        refine wp_region_held_drew (S := (fun v => v.cell? ⟨wr.heap.size, 0, none⟩ = some (.int .u32 xi) ∧ v.cell? ⟨wr.heap.size, 1, none⟩ = some (.int .u64 xc) ∧ v.cell? ⟨wr.heap.size, 2, none⟩ = some (.int .u64 xb) ∧ v.cell? ⟨wr.heap.size, 3, none⟩ = some (.int .u64 xs) ∧ v.cell? ⟨wr.heap.size, 4, none⟩ = some (.int .u64 xp))) (by kernel_rfl) ⟨f0, f1, f2, f3, f4⟩ (fun hHeld => ?_)
        refine wpAnyH_take (i := 0) (oi := _) (v := ?_) rfl (by kernel_rfl) (by kernel_rfl) (by kernel_rfl) (fun _ _ _ h => h) (Or.inl ⟨by rfl, ?_⟩) (by assumption) ?_
        rotate_left 1
        · intro v hSw
          (try dsimp only at hSw)
          go_simp
          try with_reducible rfl
        try simp only [List.getElem_toArray, List.getElem_cons_succ, List.getElem_cons_zero, Act.put, List.setIfInBounds_toArray, List.set_cons_zero, List.set_cons_succ]
        refine wpAnyH_take (i := 1) (oi := _) (v := ?_) rfl (by kernel_rfl) (by kernel_rfl) (by kernel_rfl) (fun _ _ _ h => h) (Or.inl ⟨by rfl, ?_⟩) (by assumption) ?_
        rotate_left 1
        · intro v hSw
          (try dsimp only at hSw)
          go_simp
          try with_reducible rfl
        try simp only [List.getElem_toArray, List.getElem_cons_succ, List.getElem_cons_zero, Act.put, List.setIfInBounds_toArray, List.set_cons_zero, List.set_cons_succ]
        refine wpAnyH_take (i := 2) (oi := _) (v := ?_) rfl (by kernel_rfl) (by kernel_rfl) (by kernel_rfl) (fun _ _ _ h => h) (Or.inl ⟨by rfl, ?_⟩) (by assumption) ?_
        rotate_left 1
        · intro v hSw
          (try dsimp only at hSw)
          go_simp
          try with_reducible rfl
        try simp only [List.getElem_toArray, List.getElem_cons_succ, List.getElem_cons_zero, Act.put, List.setIfInBounds_toArray, List.set_cons_zero, List.set_cons_succ]
        refine wpAnyH_take (i := 3) (oi := _) (v := ?_) rfl (by kernel_rfl) (by kernel_rfl) (by kernel_rfl) (fun _ _ _ h => h) (Or.inl ⟨by rfl, ?_⟩) (by assumption) ?_
        rotate_left 1
        · intro v hSw
          (try dsimp only at hSw)
          go_simp
          try with_reducible rfl
        try simp only [List.getElem_toArray, List.getElem_cons_succ, List.getElem_cons_zero, Act.put, List.setIfInBounds_toArray, List.set_cons_zero, List.set_cons_succ]
        refine wpAnyH_take (i := 5) (oi := _) (v := ?_) rfl (by kernel_rfl) (by kernel_rfl) (by kernel_rfl) (fun _ _ _ h => h) (Or.inl ⟨by rfl, ?_⟩) (by assumption) ?_
        rotate_left 1
        · intro v hSw
          (try dsimp only at hSw)
          go_simp
          try with_reducible rfl
        try simp only [List.getElem_toArray, List.getElem_cons_succ, List.getElem_cons_zero, Act.put, List.setIfInBounds_toArray, List.set_cons_zero, List.set_cons_succ]
        refine wpAnyH_take (i := 6) (oi := _) (v := ?_) rfl (by kernel_rfl) (by kernel_rfl) (by kernel_rfl) (fun _ _ _ h => h) (Or.inl ⟨by rfl, ?_⟩) (by assumption) ?_
        rotate_left 1
        · intro v hSw
          (try dsimp only at hSw)
          go_simp
          try with_reducible rfl
        try simp only [List.getElem_toArray, List.getElem_cons_succ, List.getElem_cons_zero, Act.put, List.setIfInBounds_toArray, List.set_cons_zero, List.set_cons_succ]
        refine wpAnyH_take (i := 7) (oi := _) (v := ?_) rfl (by kernel_rfl) (by kernel_rfl) (by kernel_rfl) (fun _ _ _ h => h) (Or.inl ⟨by rfl, ?_⟩) (by assumption) ?_
        rotate_left 1
        · intro v hSw
          (try dsimp only at hSw)
          go_simp
          try with_reducible rfl
        try simp only [List.getElem_toArray, List.getElem_cons_succ, List.getElem_cons_zero, Act.put, List.setIfInBounds_toArray, List.set_cons_zero, List.set_cons_succ]
        refine wpAnyH_take (i := 8) (oi := _) (v := ?_) rfl (by kernel_rfl) (by kernel_rfl) (by kernel_rfl) (fun _ _ _ h => h) (Or.inl ⟨by rfl, ?_⟩) (by assumption) ?_
        rotate_left 1
        · intro v hSw
          (try dsimp only at hSw)
          go_simp
          try with_reducible rfl
        try simp only [List.getElem_toArray, List.getElem_cons_succ, List.getElem_cons_zero, Act.put, List.setIfInBounds_toArray, List.set_cons_zero, List.set_cons_succ]
        refine wpAnyH_take (i := 9) (oi := _) (v := ?_) rfl (by kernel_rfl) (by kernel_rfl) (by kernel_rfl) (fun _ _ _ h => h) (Or.inl ⟨by rfl, ?_⟩) (by assumption) ?_
        rotate_left 1
        · intro v hSw
          (try dsimp only at hSw)
          go_simp
          try with_reducible rfl
        try simp only [List.getElem_toArray, List.getElem_cons_succ, List.getElem_cons_zero, Act.put, List.setIfInBounds_toArray, List.set_cons_zero, List.set_cons_succ]
        refine wpAnyH_take (i := 10) (oi := _) (v := ?_) rfl (by kernel_rfl) (by kernel_rfl) (by kernel_rfl) (fun _ _ _ h => h) (Or.inl ⟨by rfl, ?_⟩) (by assumption) ?_
        rotate_left 1
        · intro v hSw
          (try dsimp only at hSw)
          go_simp
          try with_reducible rfl
        try simp only [List.getElem_toArray, List.getElem_cons_succ, List.getElem_cons_zero, Act.put, List.setIfInBounds_toArray, List.set_cons_zero, List.set_cons_succ]
        refine wpAnyH_take (i := 11) (oi := _) (v := ?_) rfl (by kernel_rfl) (by kernel_rfl) (by kernel_rfl) (fun _ _ _ h => h) (Or.inl ⟨by rfl, ?_⟩) (by assumption) ?_
        rotate_left 1
        · intro v hSw
          (try dsimp only at hSw)
          go_simp
          try with_reducible rfl
        try simp only [List.getElem_toArray, List.getElem_cons_succ, List.getElem_cons_zero, Act.put, List.setIfInBounds_toArray, List.set_cons_zero, List.set_cons_succ]
        refine wpAnyH_take (i := 12) (oi := _) (v := ?_) rfl (by kernel_rfl) (by kernel_rfl) (by kernel_rfl) (fun _ _ _ h => h) (Or.inl ⟨by rfl, ?_⟩) (by assumption) ?_
        rotate_left 1
        · intro v hSw
          (try dsimp only at hSw)
          go_simp
          try with_reducible rfl
        try simp only [List.getElem_toArray, List.getElem_cons_succ, List.getElem_cons_zero, Act.put, List.setIfInBounds_toArray, List.set_cons_zero, List.set_cons_succ]
        refine wpAnyH_ready (rs := [4, 13]) (by kernel_rfl) (by simp) ?_
        refine AllReadyH.cons (o := _) rfl (fun K hK => ?_) (AllReadyH.cons (o := _) rfl (fun K hK => ?_) AllReadyH.nil)
        · go_simp
          refine hK.out _ _ (⟨f0, f1, f2, f3, f4⟩) (fun hHeld => ?_)
          clear hK K
          try simp only [List.getElem_toArray, List.getElem_cons_succ, List.getElem_cons_zero, Act.put, List.setIfInBounds_toArray, List.set_cons_zero, List.set_cons_succ]
          refine wpAnyH_ready (rs := [13]) (by kernel_rfl) (by simp) ?_
          refine AllReadyH.cons (o := _) rfl (fun K hK => ?_) AllReadyH.nil
          go_wp2_with (go_at_call 124; refine (FS.out _).mono ?_; rintro e w2 ⟨rfl, hw2⟩; subst hw2)
          refine hK.out _ _ (KS5.out _) (fun hHeld => ?_)
          clear hK K
          try simp only [List.getElem_toArray, List.getElem_cons_succ, List.getElem_cons_zero, Act.put, List.setIfInBounds_toArray, List.set_cons_zero, List.set_cons_succ]
          refine wpAnyH_take (i := 14) (oi := _) (v := ?_) rfl (by kernel_rfl) (by kernel_rfl) (by kernel_rfl) (fun _ _ _ h => h) (Or.inl ⟨by rfl, ?_⟩) (by assumption) ?_
          rotate_left 1
          · intro v hSw
            (try dsimp only at hSw)
            go_simp
            try with_reducible rfl
          try simp only [List.getElem_toArray, List.getElem_cons_succ, List.getElem_cons_zero, Act.put, List.setIfInBounds_toArray, List.set_cons_zero, List.set_cons_succ]
          refine wpAnyH_ready (rs := [15]) (by kernel_rfl) (by simp) ?_
          refine AllReadyH.cons (o := _) rfl (fun K hK => ?_) AllReadyH.nil
          go_simp
          refine hK.out _ _ (KS6.out _ _) (fun hHeld => ?_)
          clear hK K
          try simp only [List.getElem_toArray, List.getElem_cons_succ, List.getElem_cons_zero, Act.put, List.setIfInBounds_toArray, List.set_cons_zero, List.set_cons_succ]
          refine wpAnyH_ready (rs := [16]) (by kernel_rfl) (by simp) ?_
          refine AllReadyH.cons (o := _) rfl (fun K hK => ?_) AllReadyH.nil
          refine step_append_lies _ (by rfl) _ _ 211 (by rfl) w.heap.size 217 i0 (.agg #[.int .u32 0, .int .u64 0, .int .u64 0, .int .u64 0]) 4 32 Try.underlying211 hif hz0 hz1 hz2 (by rfl) (by decide) (.slice ao i co) i (rfs es) (by rfl) (OE.out _ _ _ rfl) ⟨w1.heap.size + 1, 0, none⟩ 1 1 [.int .u32 xi, .int .u64 xc, .int .u64 xb, .int .u64 t] (by rfl) (by rfl) (NW.out _ _ rfl) OC.out (by decide) m63 mby (by simp; omega) _ rfl ?_
          intro g cap w3 hown3 hgrow3 hat3 hlt3
          obtain ⟨d0, d1, d2, d3, d4, d5, d6⟩ := KB.out _ w3 _ _ hgrow3 rfl
          refine hK.out _ _ (⟨d0, d1, d2, d3, d4⟩) (fun hHeld => ?_)
          clear hK K
          try simp only [List.getElem_toArray, List.getElem_cons_succ, List.getElem_cons_zero, Act.put, List.setIfInBounds_toArray, List.set_cons_zero, List.set_cons_succ]
          refine wpAnyH_take (i := 17) (oi := _) (v := ?_) rfl (by kernel_rfl) (by kernel_rfl) (by kernel_rfl) (fun _ _ _ h => h) (Or.inl ⟨by rfl, ?_⟩) (by assumption) ?_
          rotate_left 1
          · intro v hSw
            (try dsimp only at hSw)
            go_simp
            try with_reducible rfl
          try simp only [List.getElem_toArray, List.getElem_cons_succ, List.getElem_cons_zero, Act.put, List.setIfInBounds_toArray, List.set_cons_zero, List.set_cons_succ]
          refine wpAnyH_take (i := 18) (oi := _) (v := ?_) rfl (by kernel_rfl) (by kernel_rfl) (by kernel_rfl) (fun _ _ _ h => h) (Or.inl ⟨by rfl, ?_⟩) (by assumption) ?_
          rotate_left 1
          · intro v hSw
            (try dsimp only at hSw)
            go_simp
            try with_reducible rfl
          try simp only [List.getElem_toArray, List.getElem_cons_succ, List.getElem_cons_zero, Act.put, List.setIfInBounds_toArray, List.set_cons_zero, List.set_cons_succ]
          refine wpAnyH_ready (rs := [19]) (by kernel_rfl) (by simp) ?_
          refine AllReadyH.cons (o := _) rfl (fun K hK => ?_) AllReadyH.nil
          go_simp
          refine hK.out _ _ (KT.out _ _ d0 d1 d2 d3 d4) (fun hHeld => ?_)
          clear hK K
          try simp only [List.getElem_toArray, List.getElem_cons_succ, List.getElem_cons_zero, Act.put, List.setIfInBounds_toArray, List.set_cons_zero, List.set_cons_succ]
          refine wpAnyH_done (by kernel_rfl) ?_ _
          refine NoPanic.normal ?_
          all_goals
            have FIN := Lib.hid (HH.out.grown ⟨xi, xc, xb, t⟩ OKX.out (by rw [LE.out]; omega) _ w3 (.slice (some ⟨g, 0, none⟩) (i + 1) cap) (by exact (BW.out.drew.alloc (Nat.le_of_lt lt9) _).alloc (by simp; omega) _) (by rw [LE.out]; exact hown3) hgrow3 hb9 (by
              rcases hat3 with e | e
              · exact Or.inl e.symm
              · exact Or.inr ⟨g, rfl, by rw [e]; simp; omega⟩))
            clear hown3 hgrow3 hat3 hlt3 d0 d1 d2 d3 d4 d5 d6
            go_wp2
            go_roundw
            case rel => exact ⟨i + 1, _, by omega, by go_num, by rw [HN.out]; exact FIN.out.1, ND.out, HB.out.trans FIN.out.2⟩
            case measure => simp [intOf] <;> omega
        · go_wp2_with (go_at_call 124; refine (FS.out _).mono ?_; rintro e w2 ⟨rfl, hw2⟩; subst hw2)
          refine hK.out _ _ (KS5.out _) (fun hHeld => ?_)
          clear hK K
          try simp only [List.getElem_toArray, List.getElem_cons_succ, List.getElem_cons_zero, Act.put, List.setIfInBounds_toArray, List.set_cons_zero, List.set_cons_succ]
          refine wpAnyH_take (i := 14) (oi := _) (v := ?_) rfl (by kernel_rfl) (by kernel_rfl) (by kernel_rfl) (fun _ _ _ h => h) (Or.inl ⟨by rfl, ?_⟩) (by assumption) ?_
          rotate_left 1
          · intro v hSw
            (try dsimp only at hSw)
            go_simp
            try with_reducible rfl
          try simp only [List.getElem_toArray, List.getElem_cons_succ, List.getElem_cons_zero, Act.put, List.setIfInBounds_toArray, List.set_cons_zero, List.set_cons_succ]
          refine wpAnyH_ready (rs := [4, 15]) (by kernel_rfl) (by simp) ?_
          refine AllReadyH.cons (o := _) rfl (fun K hK => ?_) (AllReadyH.cons (o := _) rfl (fun K hK => ?_) AllReadyH.nil)
          · go_simp
            refine hK.out _ _ (KS5.out _) (fun hHeld => ?_)
            clear hK K
            try simp only [List.getElem_toArray, List.getElem_cons_succ, List.getElem_cons_zero, Act.put, List.setIfInBounds_toArray, List.set_cons_zero, List.set_cons_succ]
            refine wpAnyH_ready (rs := [15]) (by kernel_rfl) (by simp) ?_
            refine AllReadyH.cons (o := _) rfl (fun K hK => ?_) AllReadyH.nil
            go_simp
            refine hK.out _ _ (KS6.out _ _) (fun hHeld => ?_)
            clear hK K
            try simp only [List.getElem_toArray, List.getElem_cons_succ, List.getElem_cons_zero, Act.put, List.setIfInBounds_toArray, List.set_cons_zero, List.set_cons_succ]
            refine wpAnyH_ready (rs := [16]) (by kernel_rfl) (by simp) ?_
            refine AllReadyH.cons (o := _) rfl (fun K hK => ?_) AllReadyH.nil
            refine step_append_lies _ (by rfl) _ _ 211 (by rfl) w.heap.size 217 i0 (.agg #[.int .u32 0, .int .u64 0, .int .u64 0, .int .u64 0]) 4 32 Try.underlying211 hif hz0 hz1 hz2 (by rfl) (by decide) (.slice ao i co) i (rfs es) (by rfl) (OE.out _ _ _ rfl) ⟨w1.heap.size + 1, 0, none⟩ 1 1 [.int .u32 xi, .int .u64 xc, .int .u64 xb, .int .u64 t] (by rfl) (by rfl) (NW.out _ _ rfl) OC.out (by decide) m63 mby (by simp; omega) _ rfl ?_
            intro g cap w3 hown3 hgrow3 hat3 hlt3
            obtain ⟨d0, d1, d2, d3, d4, d5, d6⟩ := KB.out _ w3 _ _ hgrow3 rfl
            refine hK.out _ _ (⟨d0, d1, d2, d3, d4⟩) (fun hHeld => ?_)
            clear hK K
            try simp only [List.getElem_toArray, List.getElem_cons_succ, List.getElem_cons_zero, Act.put, List.setIfInBounds_toArray, List.set_cons_zero, List.set_cons_succ]
            refine wpAnyH_take (i := 17) (oi := _) (v := ?_) rfl (by kernel_rfl) (by kernel_rfl) (by kernel_rfl) (fun _ _ _ h => h) (Or.inl ⟨by rfl, ?_⟩) (by assumption) ?_
            rotate_left 1
            · intro v hSw
              (try dsimp only at hSw)
              go_simp
              try with_reducible rfl
            try simp only [List.getElem_toArray, List.getElem_cons_succ, List.getElem_cons_zero, Act.put, List.setIfInBounds_toArray, List.set_cons_zero, List.set_cons_succ]
            refine wpAnyH_take (i := 18) (oi := _) (v := ?_) rfl (by kernel_rfl) (by kernel_rfl) (by kernel_rfl) (fun _ _ _ h => h) (Or.inl ⟨by rfl, ?_⟩) (by assumption) ?_
            rotate_left 1
            · intro v hSw
              (try dsimp only at hSw)
              go_simp
              try with_reducible rfl
            try simp only [List.getElem_toArray, List.getElem_cons_succ, List.getElem_cons_zero, Act.put, List.setIfInBounds_toArray, List.set_cons_zero, List.set_cons_succ]
            refine wpAnyH_ready (rs := [19]) (by kernel_rfl) (by simp) ?_
            refine AllReadyH.cons (o := _) rfl (fun K hK => ?_) AllReadyH.nil
            go_simp
            refine hK.out _ _ (KT.out _ _ d0 d1 d2 d3 d4) (fun hHeld => ?_)
            clear hK K
            try simp only [List.getElem_toArray, List.getElem_cons_succ, List.getElem_cons_zero, Act.put, List.setIfInBounds_toArray, List.set_cons_zero, List.set_cons_succ]
            refine wpAnyH_done (by kernel_rfl) ?_ _
            refine NoPanic.normal ?_
            all_goals
              have FIN := Lib.hid (HH.out.grown ⟨xi, xc, xb, t⟩ OKX.out (by rw [LE.out]; omega) _ w3 (.slice (some ⟨g, 0, none⟩) (i + 1) cap) (by exact (BW.out.drew.alloc (Nat.le_of_lt lt9) _).alloc (by simp; omega) _) (by rw [LE.out]; exact hown3) hgrow3 hb9 (by
                rcases hat3 with e | e
                · exact Or.inl e.symm
                · exact Or.inr ⟨g, rfl, by rw [e]; simp; omega⟩))
              clear hown3 hgrow3 hat3 hlt3 d0 d1 d2 d3 d4 d5 d6
              go_wp2
              go_roundw
              case rel => exact ⟨i + 1, _, by omega, by go_num, by rw [HN.out]; exact FIN.out.1, ND.out, HB.out.trans FIN.out.2⟩
              case measure => simp [intOf] <;> omega
          · go_simp
            refine hK.out _ _ (KS6.out _ _) (fun hHeld => ?_)
            clear hK K
            try simp only [List.getElem_toArray, List.getElem_cons_succ, List.getElem_cons_zero, Act.put, List.setIfInBounds_toArray, List.set_cons_zero, List.set_cons_succ]
            refine wpAnyH_ready (rs := [4]) (by kernel_rfl) (by simp) ?_
            refine AllReadyH.cons (o := _) rfl (fun K hK => ?_) AllReadyH.nil
            go_simp
            refine hK.out _ _ (KS6.out _ _) (fun hHeld => ?_)
            clear hK K
            try simp only [List.getElem_toArray, List.getElem_cons_succ, List.getElem_cons_zero, Act.put, List.setIfInBounds_toArray, List.set_cons_zero, List.set_cons_succ]
            refine wpAnyH_ready (rs := [16]) (by kernel_rfl) (by simp) ?_
            refine AllReadyH.cons (o := _) rfl (fun K hK => ?_) AllReadyH.nil
            refine step_append_lies _ (by rfl) _ _ 211 (by rfl) w.heap.size 217 i0 (.agg #[.int .u32 0, .int .u64 0, .int .u64 0, .int .u64 0]) 4 32 Try.underlying211 hif hz0 hz1 hz2 (by rfl) (by decide) (.slice ao i co) i (rfs es) (by rfl) (OE.out _ _ _ rfl) ⟨w1.heap.size + 1, 0, none⟩ 1 1 [.int .u32 xi, .int .u64 xc, .int .u64 xb, .int .u64 t] (by rfl) (by rfl) (NW.out _ _ rfl) OC.out (by decide) m63 mby (by simp; omega) _ rfl ?_
            intro g cap w3 hown3 hgrow3 hat3 hlt3
            obtain ⟨d0, d1, d2, d3, d4, d5, d6⟩ := KB.out _ w3 _ _ hgrow3 rfl
            refine hK.out _ _ (⟨d0, d1, d2, d3, d4⟩) (fun hHeld => ?_)
            clear hK K
            try simp only [List.getElem_toArray, List.getElem_cons_succ, List.getElem_cons_zero, Act.put, List.setIfInBounds_toArray, List.set_cons_zero, List.set_cons_succ]
            refine wpAnyH_take (i := 17) (oi := _) (v := ?_) rfl (by kernel_rfl) (by kernel_rfl) (by kernel_rfl) (fun _ _ _ h => h) (Or.inl ⟨by rfl, ?_⟩) (by assumption) ?_
            rotate_left 1
            · intro v hSw
              (try dsimp only at hSw)
              go_simp
              try with_reducible rfl
            try simp only [List.getElem_toArray, List.getElem_cons_succ, List.getElem_cons_zero, Act.put, List.setIfInBounds_toArray, List.set_cons_zero, List.set_cons_succ]
            refine wpAnyH_take (i := 18) (oi := _) (v := ?_) rfl (by kernel_rfl) (by kernel_rfl) (by kernel_rfl) (fun _ _ _ h => h) (Or.inl ⟨by rfl, ?_⟩) (by assumption) ?_
            rotate_left 1
            · intro v hSw
              (try dsimp only at hSw)
              go_simp
              try with_reducible rfl
            try simp only [List.getElem_toArray, List.getElem_cons_succ, List.getElem_cons_zero, Act.put, List.setIfInBounds_toArray, List.set_cons_zero, List.set_cons_succ]
            refine wpAnyH_ready (rs := [19]) (by kernel_rfl) (by simp) ?_
            refine AllReadyH.cons (o := _) rfl (fun K hK => ?_) AllReadyH.nil
            go_simp
            refine hK.out _ _ (KT.out _ _ d0 d1 d2 d3 d4) (fun hHeld => ?_)
            clear hK K
            try simp only [List.getElem_toArray, List.getElem_cons_succ, List.getElem_cons_zero, Act.put, List.setIfInBounds_toArray, List.set_cons_zero, List.set_cons_succ]
            refine wpAnyH_done (by kernel_rfl) ?_ _
            refine NoPanic.normal ?_
            all_goals
              have FIN := Lib.hid (HH.out.grown ⟨xi, xc, xb, t⟩ OKX.out (by rw [LE.out]; omega) _ w3 (.slice (some ⟨g, 0, none⟩) (i + 1) cap) (by exact (BW.out.drew.alloc (Nat.le_of_lt lt9) _).alloc (by simp; omega) _) (by rw [LE.out]; exact hown3) hgrow3 hb9 (by
                rcases hat3 with e | e
                · exact Or.inl e.symm
                · exact Or.inr ⟨g, rfl, by rw [e]; simp; omega⟩))
              clear hown3 hgrow3 hat3 hlt3 d0 d1 d2 d3 d4 d5 d6
              go_wp2
              go_roundw
              case rel => exact ⟨i + 1, _, by omega, by go_num, by rw [HN.out]; exact FIN.out.1, ND.out, HB.out.trans FIN.out.2⟩
              case measure => simp [intOf] <;> omega
    · obtain rfl : i = n := by omega
      clear h hd hb
      have E := Lib.hid (show fs.take i = fs from List.take_of_length_le (by rw [HL.out]; exact Nat.le_refl _))
      rw [E.out] at HH
      go_wp2
      go_ret2
      exact ⟨_, _, rfl, Or.inl ⟨by rw [HL.out]; exact HD.out, rfl, rfl, _, HH.out⟩, HB.out⟩
end Go.Proofs.Ytnnbkooikimedaa
