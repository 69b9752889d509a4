/-
  The document's answer for layer 25: the operations that bytes consist of. What lay below the heap's end stands.
-/
import Derived.Test.YtdlcipbehalfhaaOps6
namespace Go.Proofs.Ytdlcipbehalfhaa
set_option linter.unusedVariables false
set_option linter.unusedSimpArgs false
open Go.ChangeShapes Go.WideShapes Go.ChangeAt Go.RowKit
attribute [-go_sem] run_index_string binOp_string_eql binOp_string_neq run_string_add_if run_slice_string_from_if run_slice_string_to_if
attribute [local go_sem] index_bt add_fits slice_from slice_to eql_str neq_str alloc_drewN setCell_drewN

def RdEnd (L : List Opn) (w : World) (e : Ending) (w' : World) : Prop := ∃ v, e = .returned v ∧ ORow w w' v L ∧ Below w.heap.size w w'
theorem ORow.on {w wr W : World} {v : Value} {l : List Opn} (h : ORow w wr v l) (hb : Below wr.heap.size wr W) : W.ownsRow w.heap.size 30 5 v l.length (l.flatMap Opn.cells) :=
  World.ownsRow.kept (show wr.ownsRow w.heap.size 30 5 v l.length (l.flatMap Opn.cells) from h) (row := some W.heap.size) ⟨hb.os, hb.tape, hb.output, hb.size, fun k hk _ => hb.block k hk⟩ (Or.inr (fun e => by
    have := World.ownsRow.lt (show wr.ownsRow w.heap.size 30 5 v l.length (l.flatMap Opn.cells) from h) _ e
    have := hb.size
    omega))
theorem infoN : (Try.prog.info? 3).map (fun i => (i.zero, i.size, i.bytes)) = some (some (.int .i64 0), 1, 8) := by kernel_rfl
set_option maxRecDepth 100000 in
set_option maxHeartbeats 8000000 in
theorem rops_read (s : ByteArray) (hs : s.size ≤ 10000) (w : World) :
    Calls Try.prog 18 #[.string s] w (RdEnd (oread s) w) := by
  obtain ⟨i0, hi, hz0, hz1, hz2⟩ := info_parts infoO
  obtain ⟨j0, hj, hy0, hy1, hy2⟩ := info_parts infoN
  obtain ⟨L, hL⟩ : ∃ L, oread s = L := ⟨_, rfl⟩
  rw [hL]
  have HL := Lib.hid hL
  clear hL
  go_enter Try.func18, Try.ntmps18
  go_wp2
  go_loopw [0, 3] (fun x y wr => ∃ (v : Value) (u : ByteArray) (done : List Opn), x = .string u ∧ v = y ∧ done ++ oread u = L ∧ done.length + u.size ≤ s.size ∧ ORow w wr v done ∧ Below w.heap.size w wr) (fun x _ _ => strSize x)
  case atStart => exact ⟨_, s, [], rfl, rfl, HL.out, by show 0 + _ ≤ _; omega, World.ownsRow_nil _ _ _ _, Below.refl _ _⟩
  case round =>
    obtain ⟨v, u, done, rfl, rfl, hd, hlen, ho, hbw⟩ := hrel
    have hsize := hbw.size
    by_cases hu : 0 < u.size
    · have hle := otake_le u hu
      have hst := oread_step u hu
      rw [hst] at hd
      have HD := Lib.hid hd
      have HO := Lib.hid ho; have HB := Lib.hid hbw
      have hb := bt_bd u (0 : Nat)
      have hat : AtS u 0 := ⟨by omega, by omega⟩
      have hin : InS u 1 := ⟨by omega⟩
      have HZ : (otake u) = if bt u (0 : Nat) = 0 ∨ 4 < bt u (0 : Nat) then (⟨0, 0, 0, bt u (0 : Nat), 0⟩, 1)
        else if (tl (u.extract 1 u.size) (okinds (bt u (0 : Nat))) 0).2.2 ≠ 0 then (Opn.torn, u.size)
        else (oper (bt u (0 : Nat)) (tl (u.extract 1 u.size) (okinds (bt u (0 : Nat))) 0).1, 1 + (tl (u.extract 1 u.size) (okinds (bt u (0 : Nat))) 0).2.1) := rfl
      have T0 := Lib.hid (fun ks hn hok => refTake_own (u.extract 1 u.size) ks (by rw [size_ext _ _ _ (Nat.le_refl _)]; omega) hn hok)
      obtain ⟨b, hbe⟩ : ∃ b, bt u (0 : Nat) = b := ⟨_, rfl⟩
      have hbe' : bt u 0 = b := hbe
      rw [hbe] at HZ hb
      obtain ⟨b0, b1⟩ := hb
      clear hd hst ho hbw hbe
      by_cases hjk : b = 0 ∨ 4 < b
      · rw [if_pos hjk] at HZ
        rw [HZ] at HD hle
        clear HZ
        have q1 : (b == 1) = false := by simp; omega
        have q3 : (b == 3) = false := by simp; omega
        have w1_ : IntKind.u64.wrap b = b := by rw [IntKind.wrap_u64]; omega
        have TT := Lib.hid (fun W => refTake_none (u.extract 1 u.size) none 0 W)
        clear T0
        by_cases h0 : b = 0
        · subst h0
          clear q1 q3
          go_wp2_with fail
          refine cl_gen ?_
          intro v0 hv0
          have XB : Below wr.heap.size wr v0 := by
            rw [hv0]
            (repeat' (first | (with_reducible exact Below.refl _ _) | (with_reducible assumption) | (with_reducible refine below_drewN _ ?_) | (with_reducible refine Below.drew ?_) | (with_reducible refine Below.setCell ?_ (by simp) _) | (with_reducible refine Below.alloc ?_ (by simp; try omega) _)))
          have Xx : v0.heap[wr.heap.size]? = some (.cells #[.int .i64 0, .int .u32 0, .int .u32 0, .int .u64 0, .int .u64 0] 30 (0, 0)) := by
            rw [hv0]
            (repeat' (first | (with_reducible exact heap_alloc_new _ _) | (with_reducible exact blk_new (by first | (simp; done) | omega)) | (with_reducible refine blk_drew ?_) | (with_reducible apply put5_0) | (with_reducible apply put5_1) | (with_reducible apply put5_2) | (with_reducible apply put5_3) | (with_reducible apply put5_4) | (with_reducible refine blk_else (by omega) ?_) | (with_reducible refine blk_old ?_)))
          obtain ⟨Bx, hBx⟩ : ∃ x, x = wr.heap.size := ⟨_, rfl⟩
          rw [← hBx] at Xx
          try rw [← hBx]
          have lex : wr.heap.size ≤ Bx := by omega
          clear hBx
          clear hv0
          have Hx1 := Lib.hid Xx
          have HB1 := Lib.hid XB
          clear Xx XB
          obtain ⟨x0_, x1_, x2_, x3_, x4_, xf0_, xf1_, xf2_, xf3_, xf4_⟩ := at5 Hx1.out
          have xn_ := ne_blk Hx1.out
          have xm_ := Ne.symm (a := Bx) xn_
          have xl_ := lt_blk Hx1.out
          refine (TT.out v0).mono ?_
          rintro e w4 ⟨rfl, h4⟩
          have Xx : w4.heap[Bx]? = some (.cells #[.int .i64 0, .int .u32 0, .int .u32 0, .int .u64 0, .int .u64 0] 30 (0, 0)) := blk_call h4 Hx1.out
          have XB : Below wr.heap.size wr w4 := bel_onto HB1.out h4 HB1.out.size
          clear x0_ x1_ x2_ x3_ x4_ xf0_ xf1_ xf2_ xf3_ xf4_ xn_ xm_ xl_
          clear h4 TT Hx1 HB1
          have Hx2 := Lib.hid Xx
          have HB2 := Lib.hid XB
          clear Xx XB
          obtain ⟨x0_, x1_, x2_, x3_, x4_, xf0_, xf1_, xf2_, xf3_, xf4_⟩ := at5 Hx2.out
          have xn_ := ne_blk Hx2.out
          have xm_ := Ne.symm (a := Bx) xn_
          have xl_ := lt_blk Hx2.out
          have OW := Lib.hid (ORow.on HO.out HB2.out)
          go_wp2_with (at_builtin; refine wpList_append_own _ rfl _ _ 24 rfl w.heap.size 30 i0 (.agg #[.int .i64 0, .int .u32 0, .int .u32 0, .int .u64 0, .int .u64 0]) 5 32 Try.underlying24 hi hz0 hz1 hz2 rfl (by decide) _ _ _ rfl (World.ownsRow.alloc OW.out _) ⟨w4.heap.size, 0, none⟩ 1 1 [.int .i64 0, .int .u32 0, .int .u32 0, .int .u64 0, .int .u64 0] rfl rfl (cells_new _ #[.int .i64 0, .int .u32 0, .int .u32 0, .int .u64 0, .int .u64 0] _) (fun x hx => by simp at hx; rcases hx with rfl | rfl | rfl | rfl | rfl <;> rfl) (by unfold maxLen; omega) (by omega) (by have := HB2.out.size; simp; omega) ?_; intro v' w9 hown' hgrow3 hnil3; clear hnil3)
          go_roundw
          case rel =>
            refine ⟨v', _, done ++ [⟨0, 0, 0, 0, 0⟩], rfl, rfl, ?_, ?_, ORow.snoc hown', ?_⟩
            · rw [List.append_assoc]; exact HD.out
            · rw [List.length_append, size_ext _ _ _ (Nat.le_refl _)]; show done.length + 1 + _ ≤ _; omega
            · exact ((HB.out.trans (HB2.out.mono hsize)).alloc (by have := HB2.out.size; omega) _).grown hgrow3 (by have := HB2.out.size; simp; omega) (fun g hg => (World.ownsRow.lt OW.out g hg).1)
          case measure =>
            show (u.extract (1) u.size).size < u.size
            rw [size_ext _ _ _ (Nat.le_refl _)]; omega
        · have h4 : 4 < b := by omega
          have q0 : (b == 0) = false := by simp [h0]
          clear h0 hjk
          go_wp2_with fail
          refine cl_gen ?_
          intro v0 hv0
          have XB : Below wr.heap.size wr v0 := by
            rw [hv0]
            (repeat' (first | (with_reducible exact Below.refl _ _) | (with_reducible assumption) | (with_reducible refine below_drewN _ ?_) | (with_reducible refine Below.drew ?_) | (with_reducible refine Below.setCell ?_ (by simp) _) | (with_reducible refine Below.alloc ?_ (by simp; try omega) _)))
          have Xx : v0.heap[wr.heap.size]? = some (.cells #[.int .i64 0, .int .u32 0, .int .u32 0, .int .u64 b, .int .u64 0] 30 (0, 0)) := by
            rw [hv0]
            (repeat' (first | (with_reducible exact heap_alloc_new _ _) | (with_reducible exact blk_new (by first | (simp; done) | omega)) | (with_reducible refine blk_drew ?_) | (with_reducible apply put5_0) | (with_reducible apply put5_1) | (with_reducible apply put5_2) | (with_reducible apply put5_3) | (with_reducible apply put5_4) | (with_reducible refine blk_else (by omega) ?_) | (with_reducible refine blk_old ?_)))
          obtain ⟨Bx, hBx⟩ : ∃ x, x = wr.heap.size := ⟨_, rfl⟩
          rw [← hBx] at Xx
          try rw [← hBx]
          have lex : wr.heap.size ≤ Bx := by omega
          clear hBx
          clear hv0
          have Hx1 := Lib.hid Xx
          have HB1 := Lib.hid XB
          clear Xx XB
          obtain ⟨x0_, x1_, x2_, x3_, x4_, xf0_, xf1_, xf2_, xf3_, xf4_⟩ := at5 Hx1.out
          have xn_ := ne_blk Hx1.out
          have xm_ := Ne.symm (a := Bx) xn_
          have xl_ := lt_blk Hx1.out
          refine (TT.out v0).mono ?_
          rintro e w4 ⟨rfl, h4⟩
          have Xx : w4.heap[Bx]? = some (.cells #[.int .i64 0, .int .u32 0, .int .u32 0, .int .u64 b, .int .u64 0] 30 (0, 0)) := blk_call h4 Hx1.out
          have XB : Below wr.heap.size wr w4 := bel_onto HB1.out h4 HB1.out.size
          clear x0_ x1_ x2_ x3_ x4_ xf0_ xf1_ xf2_ xf3_ xf4_ xn_ xm_ xl_
          clear h4 TT Hx1 HB1
          have Hx2 := Lib.hid Xx
          have HB2 := Lib.hid XB
          clear Xx XB
          obtain ⟨x0_, x1_, x2_, x3_, x4_, xf0_, xf1_, xf2_, xf3_, xf4_⟩ := at5 Hx2.out
          have xn_ := ne_blk Hx2.out
          have xm_ := Ne.symm (a := Bx) xn_
          have xl_ := lt_blk Hx2.out
          have OW := Lib.hid (ORow.on HO.out HB2.out)
          go_wp2_with (at_builtin; refine wpList_append_own _ rfl _ _ 24 rfl w.heap.size 30 i0 (.agg #[.int .i64 0, .int .u32 0, .int .u32 0, .int .u64 0, .int .u64 0]) 5 32 Try.underlying24 hi hz0 hz1 hz2 rfl (by decide) _ _ _ rfl (World.ownsRow.alloc OW.out _) ⟨w4.heap.size, 0, none⟩ 1 1 [.int .i64 0, .int .u32 0, .int .u32 0, .int .u64 b, .int .u64 0] rfl rfl (cells_new _ #[.int .i64 0, .int .u32 0, .int .u32 0, .int .u64 b, .int .u64 0] _) (fun x hx => by simp at hx; rcases hx with rfl | rfl | rfl | rfl | rfl <;> rfl) (by unfold maxLen; omega) (by omega) (by have := HB2.out.size; simp; omega) ?_; intro v' w9 hown' hgrow3 hnil3; clear hnil3)
          go_roundw
          case rel =>
            refine ⟨v', _, done ++ [⟨0, 0, 0, b, 0⟩], rfl, rfl, ?_, ?_, ORow.snoc hown', ?_⟩
            · rw [List.append_assoc]; exact HD.out
            · rw [List.length_append, size_ext _ _ _ (Nat.le_refl _)]; show done.length + 1 + _ ≤ _; omega
            · exact ((HB.out.trans (HB2.out.mono hsize)).alloc (by have := HB2.out.size; omega) _).grown hgrow3 (by have := HB2.out.size; simp; omega) (fun g hg => (World.ownsRow.lt OW.out g hg).1)
          case measure =>
            show (u.extract (1) u.size).size < u.size
            rw [size_ext _ _ _ (Nat.le_refl _)]; omega
      · rw [if_neg hjk] at HZ
        have hcs : b = 1 ∨ b = 3 ∨ b = 2 ∨ b = 4 := by omega
        clear hjk
        rcases hcs with rfl | rfl | hcs
        · have F0 := Lib.hid (tl_fits (u.extract 1 u.size) [3, 3, 5])
          have TB := Lib.hid (fun h => (tl_only (u.extract 1 u.size) [3, 3, 5] (tl (u.extract 1 u.size) [3, 3, 5] 0).1 0 (tl (u.extract 1 u.size) [3, 3, 5] 0).2.1 (Nat.zero_le _) h).2.2.2)
          rw [show okinds 1 = [3, 3, 5] from rfl] at HZ
          go_upto_region 6 with (fail)
          refine wp_genc ?_
          intro v0 hv0
          have XB : Below wr.heap.size wr v0 := by
            rw [hv0]
            (repeat' (first | (with_reducible exact Below.refl _ _) | (with_reducible assumption) | (with_reducible refine below_drewN _ ?_) | (with_reducible refine Below.drew ?_) | (with_reducible refine Below.setCell ?_ (by simp) _) | (with_reducible refine Below.alloc ?_ (by simp; try omega) _)))
          have Xx : v0.heap[wr.heap.size]? = some (.cells #[.int .i64 1, .int .u32 0, .int .u32 0, .int .u64 0, .int .u64 0] 30 (0, 0)) := by
            rw [hv0]
            (repeat' (first | (with_reducible exact heap_alloc_new _ _) | (with_reducible exact blk_new (by first | (simp; done) | omega)) | (with_reducible refine blk_drew ?_) | (with_reducible apply put5_0) | (with_reducible apply put5_1) | (with_reducible apply put5_2) | (with_reducible apply put5_3) | (with_reducible apply put5_4) | (with_reducible refine blk_else (by omega) ?_) | (with_reducible refine blk_old ?_)))
          obtain ⟨Bx, hBx⟩ : ∃ x, x = wr.heap.size := ⟨_, rfl⟩
          rw [← hBx] at Xx
          try rw [← hBx]
          have lex : wr.heap.size ≤ Bx := by omega
          clear hBx
          clear hv0
          have Hx1 := Lib.hid Xx
          have HB1 := Lib.hid XB
          clear Xx XB
          obtain ⟨x0_, x1_, x2_, x3_, x4_, xf0_, xf1_, xf2_, xf3_, xf4_⟩ := at5 Hx1.out
          have xn_ := ne_blk Hx1.out
          have xm_ := Ne.symm (a := Bx) xn_
          have xl_ := lt_blk Hx1.out
          go_wp2_with (at_builtin; refine wpList_append_own _ rfl _ _ 160 rfl wr.heap.size 3 j0 (.int .i64 0) 1 8 Try.underlying160 hj hy0 hy1 hy2 rfl (by decide) _ 0 [] rfl (World.ownsRow_nil _ _ _ _) ⟨v0.heap.size, 0, none⟩ 3 3 [.int .i64 3, .int .i64 3, .int .i64 5] rfl rfl (cells_new _ #[.int .i64 3, .int .i64 3, .int .i64 5] _) (fun x hx => by simp at hx; rcases hx with rfl | rfl | rfl <;> rfl) (by unfold maxLen; omega) (by omega) (by have := HB1.out.size; simp; omega) ?_; intro v' w3 hown' hgrow3 hnil3; clear hnil3; have Xx : w3.heap[Bx]? = some (.cells #[.int .i64 1, .int .u32 0, .int .u32 0, .int .u64 0, .int .u64 0] 30 (0, 0)) := (hgrow3.block Bx (by have := lt_blk Hx1.out; simp; omega) (fun h => by cases h)).trans (blk_old Hx1.out); obtain ⟨r0_, r1_, r2_, r3_, r4_, rf_⟩ := at5 Xx)
          have XB : Below wr.heap.size wr w3 := (HB1.out.alloc (by have := HB1.out.size; omega) _).grown hgrow3 (by have := HB1.out.size; simp; omega) (fun g h => by cases h)
          have TT := Lib.hid (T0.out [3, 3, 5] (by decide) (by simp) _ _ _ hown')
          clear x0_ x1_ x2_ x3_ x4_ xf0_ xf1_ xf2_ xf3_ xf4_ xn_ xm_ xl_
          clear hgrow3 hown' T0 r0_ r1_ r2_ r3_ r4_ rf_ Hx1 HB1
          have Hx2 := Lib.hid Xx
          have HB2 := Lib.hid XB
          clear Xx XB
          obtain ⟨x0_, x1_, x2_, x3_, x4_, xf0_, xf1_, xf2_, xf3_, xf4_⟩ := at5 Hx2.out
          have xn_ := ne_blk Hx2.out
          have xm_ := Ne.symm (a := Bx) xn_
          have xl_ := lt_blk Hx2.out
          unfold TakeEnd at TT
          generalize tl (u.extract 1 u.size) [3, 3, 5] 0 = r at *
          obtain ⟨fl, d, er⟩ := r
          simp only at TT F0 TB HZ
          by_cases he : er = 0
          · subst he
            rw [if_neg (by simp)] at HZ
            obtain ⟨g1, g2⟩ := F0.out rfl
            have hd := TB.out rfl
            rw [size_ext _ _ _ (Nat.le_refl _)] at hd
            clear F0 TB
            obtain ⟨f0, f1, f2, rfl⟩ := len_three (l := fl) (by have := congrArg List.length g1; simpa using this)
            obtain ⟨k0, n0, s0⟩ := f0
            obtain ⟨k1, n1, s1⟩ := f1
            obtain ⟨k2, n2, s2⟩ := f2
            simp only [List.map_cons, List.map_nil, List.cons.injEq, and_true] at g1
            obtain ⟨rfl, rfl, rfl⟩ := g1
            obtain ⟨⟨a0_, c0_⟩, e0_⟩ := g2 ⟨3, n0, s0⟩ (by simp)
            have e0_ := e0_ rfl
            obtain ⟨⟨a1_, c1_⟩, e1_⟩ := g2 ⟨3, n1, s1⟩ (by simp)
            have e1_ := e1_ rfl
            obtain ⟨⟨a2_, c2_⟩, e2_⟩ := g2 ⟨5, n2, s2⟩ (by simp)
            clear e2_
            simp only at a0_ c0_ e0_ a1_ c1_ e1_ a2_ c2_
            clear g2
            have HZ2 : otake u = (⟨1, n0, n1, n2, 0⟩, 1 + d) := HZ
            rw [HZ2] at HD hle
            clear HZ HZ2
            refine (TT.out).mono ?_
            rintro e w4 ⟨v4, rfl, ho4, h4⟩
            unfold FRow at ho4
            rcases own_fields _ _ _ _ _ ho4 with ⟨_, h⟩ | ⟨g, cap, rfl, hgb, hg, hc⟩
            · cases h
            · have p0 : w4.cell? ⟨g, 1, none⟩ = some (.int .u64 n0) := (hc 0 (by simp)).2.1
              have p1 : w4.cell? ⟨g, 4, none⟩ = some (.int .u64 n1) := (hc 1 (by simp)).2.1
              have p2 : w4.cell? ⟨g, 7, none⟩ = some (.int .u64 n2) := (hc 2 (by simp)).2.1
              have hl : ([⟨3, n0, s0⟩, ⟨3, n1, s1⟩, ⟨5, n2, s2⟩] : List Fd).length = 3 := rfl
              rw [hl]
              have hgx : ¬ g = Bx := by have := lt_blk Hx2.out; omega
              have hxg : ¬ Bx = g := fun h => hgx h.symm
              have hgl : g < w4.heap.size := hg
              have Xx : w4.heap[Bx]? = some (.cells #[.int .i64 1, .int .u32 0, .int .u32 0, .int .u64 0, .int .u64 0] 30 (0, 0)) := blk_call h4 Hx2.out
              have XB : Below wr.heap.size wr w4 := bel_onto HB2.out h4 HB2.out.size
              clear x0_ x1_ x2_ x3_ x4_ xf0_ xf1_ xf2_ xf3_ xf4_ xn_ xm_ xl_
              clear hl ho4 hc h4 TT Hx2 HB2
              have Hx3 := Lib.hid Xx
              have HB3 := Lib.hid XB
              clear Xx XB
              obtain ⟨x0_, x1_, x2_, x3_, x4_, xf0_, xf1_, xf2_, xf3_, xf4_⟩ := at5 Hx3.out
              have xn_ := ne_blk Hx3.out
              have xm_ := Ne.symm (a := Bx) xn_
              have xl_ := lt_blk Hx3.out
              go_upto_region 20 with (fail)
              refine wp_genc ?_
              intro v3 hv3
              have Xx : v3.heap[Bx]? = some (.cells #[.int .i64 1, .int .u32 n0, .int .u32 n1, .int .u64 n2, .int .u64 0] 30 (0, 0)) := by
                rw [hv3]
                (repeat' (first | (with_reducible exact Hx3.out) | (with_reducible exact heap_alloc_new _ _) | (with_reducible exact blk_new (by first | (simp; done) | omega)) | (with_reducible refine blk_drew ?_) | (with_reducible apply put5_0) | (with_reducible apply put5_1) | (with_reducible apply put5_2) | (with_reducible apply put5_3) | (with_reducible apply put5_4) | (with_reducible refine blk_else (by omega) ?_) | (with_reducible refine blk_old ?_)))
              have XB : Below wr.heap.size wr v3 := by
                rw [hv3]
                (repeat' (first | (with_reducible exact HB3.out) | (with_reducible exact Below.refl _ _) | (with_reducible refine below_drewN _ ?_) | (with_reducible refine Below.drew ?_) | (with_reducible refine Below.setCell ?_ (by first | (simp; done) | omega) _) | (with_reducible refine Below.alloc ?_ (by have := HB3.out.size; simp; omega) _)))
              clear x0_ x1_ x2_ x3_ x4_ xf0_ xf1_ xf2_ xf3_ xf4_ xn_ xm_ xl_
              clear hv3 Hx3 HB3
              have Hx4 := Lib.hid Xx
              have HB4 := Lib.hid XB
              clear Xx XB
              obtain ⟨x0_, x1_, x2_, x3_, x4_, xf0_, xf1_, xf2_, xf3_, xf4_⟩ := at5 Hx4.out
              have xn_ := ne_blk Hx4.out
              have xm_ := Ne.symm (a := Bx) xn_
              have xl_ := lt_blk Hx4.out
              clear p0 p1 p2
              have hin2 : InS u ((d : Int) + 1) := ⟨by omega⟩
              have ed : u.extract (1 + d) u.size = u.extract (d + 1) u.size := by rw [Nat.add_comm]
              have ED := Lib.hid ed
              clear ed
              have OW := Lib.hid (ORow.on HO.out HB4.out)
              go_wp2_with (at_builtin; refine wpList_append_own _ rfl _ _ 24 rfl w.heap.size 30 i0 (.agg #[.int .i64 0, .int .u32 0, .int .u32 0, .int .u64 0, .int .u64 0]) 5 32 Try.underlying24 hi hz0 hz1 hz2 rfl (by decide) _ _ _ rfl (World.ownsRow.alloc OW.out _) ⟨v3.heap.size, 0, none⟩ 1 1 [.int .i64 1, .int .u32 n0, .int .u32 n1, .int .u64 n2, .int .u64 0] rfl rfl (cells_new _ #[.int .i64 1, .int .u32 n0, .int .u32 n1, .int .u64 n2, .int .u64 0] _) (fun x hx => by simp at hx; rcases hx with rfl | rfl | rfl | rfl | rfl <;> rfl) (by unfold maxLen; omega) (by omega) (by have := HB4.out.size; simp; omega) ?_; intro v' w9 hown' hgrow3 hnil3; clear hnil3)
              go_roundw
              case rel =>
                refine ⟨v', _, done ++ [⟨1, n0, n1, n2, 0⟩], rfl, rfl, ?_, ?_, ORow.snoc hown', ?_⟩
                · rw [List.append_assoc]; rw [← ED.out]; exact HD.out
                · rw [List.length_append, size_ext _ _ _ (Nat.le_refl _)]; show done.length + 1 + _ ≤ _; omega
                · exact ((HB.out.trans (HB4.out.mono hsize)).alloc (by have := HB4.out.size; omega) _).grown hgrow3 (by have := HB4.out.size; simp; omega) (fun g hg => (World.ownsRow.lt OW.out g hg).1)
              case measure =>
                show (u.extract (d + 1) u.size).size < u.size
                rw [size_ext _ _ _ (Nat.le_refl _)]; omega
          · rw [if_pos (by simpa using he)] at HZ
            have g : (er != 0) = true := by simp [he]
            rw [HZ] at HD hle
            clear he F0 TB HZ
            refine (TT.out).mono ?_
            rintro e w4 ⟨v4, rfl, -, h4⟩
            have Xx : w4.heap[Bx]? = some (.cells #[.int .i64 1, .int .u32 0, .int .u32 0, .int .u64 0, .int .u64 0] 30 (0, 0)) := blk_call h4 Hx2.out
            have XB : Below wr.heap.size wr w4 := bel_onto HB2.out h4 HB2.out.size
            clear x0_ x1_ x2_ x3_ x4_ xf0_ xf1_ xf2_ xf3_ xf4_ xn_ xm_ xl_
            clear h4 TT Hx2 HB2
            have Hx3 := Lib.hid Xx
            have HB3 := Lib.hid XB
            clear Xx XB
            obtain ⟨x0_, x1_, x2_, x3_, x4_, xf0_, xf1_, xf2_, xf3_, xf4_⟩ := at5 Hx3.out
            have xn_ := ne_blk Hx3.out
            have xm_ := Ne.symm (a := Bx) xn_
            have xl_ := lt_blk Hx3.out
            have OW := Lib.hid (ORow.on HO.out HB3.out)
            go_wp2_with (at_builtin; refine wpList_append_own _ rfl _ _ 24 rfl w.heap.size 30 i0 (.agg #[.int .i64 0, .int .u32 0, .int .u32 0, .int .u64 0, .int .u64 0]) 5 32 Try.underlying24 hi hz0 hz1 hz2 rfl (by decide) _ _ _ rfl (World.ownsRow.alloc OW.out _) ⟨w4.heap.size, 0, none⟩ 1 1 [.int .i64 5, .int .u32 0, .int .u32 0, .int .u64 0, .int .u64 0] rfl rfl (cells_new _ #[.int .i64 5, .int .u32 0, .int .u32 0, .int .u64 0, .int .u64 0] _) (fun x hx => by simp at hx; rcases hx with rfl | rfl | rfl | rfl | rfl <;> rfl) (by unfold maxLen; omega) (by omega) (by have := HB3.out.size; simp; omega) ?_; intro v' w9 hown' hgrow3 hnil3; clear hnil3)
            go_ret
            refine ⟨v', rfl, ?_, ?_⟩
            · have hd := HD.out
              rw [oread_nil (u.extract u.size u.size) (by rw [size_ext _ _ _ (Nat.le_refl _)]; exact Nat.sub_self _)] at hd
              rw [← hd]
              exact ORow.snoc hown'
            · exact ((HB.out.trans (HB3.out.mono hsize)).alloc (by have := HB3.out.size; omega) _).grown hgrow3 (by have := HB3.out.size; simp; omega) (fun g hg => (World.ownsRow.lt OW.out g hg).1)
        · have F0 := Lib.hid (tl_fits (u.extract 1 u.size) [5])
          have TB := Lib.hid (fun h => (tl_only (u.extract 1 u.size) [5] (tl (u.extract 1 u.size) [5] 0).1 0 (tl (u.extract 1 u.size) [5] 0).2.1 (Nat.zero_le _) h).2.2.2)
          rw [show okinds 3 = [5] from rfl] at HZ
          go_upto_region 8 with (fail)
          refine wp_genc ?_
          intro v0 hv0
          have XB : Below wr.heap.size wr v0 := by
            rw [hv0]
            (repeat' (first | (with_reducible exact Below.refl _ _) | (with_reducible assumption) | (with_reducible refine below_drewN _ ?_) | (with_reducible refine Below.drew ?_) | (with_reducible refine Below.setCell ?_ (by simp) _) | (with_reducible refine Below.alloc ?_ (by simp; try omega) _)))
          have Xx : v0.heap[wr.heap.size]? = some (.cells #[.int .i64 3, .int .u32 0, .int .u32 0, .int .u64 0, .int .u64 0] 30 (0, 0)) := by
            rw [hv0]
            (repeat' (first | (with_reducible exact heap_alloc_new _ _) | (with_reducible exact blk_new (by first | (simp; done) | omega)) | (with_reducible refine blk_drew ?_) | (with_reducible apply put5_0) | (with_reducible apply put5_1) | (with_reducible apply put5_2) | (with_reducible apply put5_3) | (with_reducible apply put5_4) | (with_reducible refine blk_else (by omega) ?_) | (with_reducible refine blk_old ?_)))
          obtain ⟨Bx, hBx⟩ : ∃ x, x = wr.heap.size := ⟨_, rfl⟩
          rw [← hBx] at Xx
          try rw [← hBx]
          have lex : wr.heap.size ≤ Bx := by omega
          clear hBx
          clear hv0
          have Hx1 := Lib.hid Xx
          have HB1 := Lib.hid XB
          clear Xx XB
          obtain ⟨x0_, x1_, x2_, x3_, x4_, xf0_, xf1_, xf2_, xf3_, xf4_⟩ := at5 Hx1.out
          have xn_ := ne_blk Hx1.out
          have xm_ := Ne.symm (a := Bx) xn_
          have xl_ := lt_blk Hx1.out
          go_wp2_with (at_builtin; refine wpList_append_own _ rfl _ _ 160 rfl wr.heap.size 3 j0 (.int .i64 0) 1 8 Try.underlying160 hj hy0 hy1 hy2 rfl (by decide) _ 0 [] rfl (World.ownsRow_nil _ _ _ _) ⟨v0.heap.size, 0, none⟩ 1 1 [.int .i64 5] rfl rfl (cells_new _ #[.int .i64 5] _) (fun x hx => by simp at hx; subst hx; rfl) (by unfold maxLen; omega) (by omega) (by have := HB1.out.size; simp; omega) ?_; intro v' w3 hown' hgrow3 hnil3; clear hnil3; have Xx : w3.heap[Bx]? = some (.cells #[.int .i64 3, .int .u32 0, .int .u32 0, .int .u64 0, .int .u64 0] 30 (0, 0)) := (hgrow3.block Bx (by have := lt_blk Hx1.out; simp; omega) (fun h => by cases h)).trans (blk_old Hx1.out); obtain ⟨r0_, r1_, r2_, r3_, r4_, rf_⟩ := at5 Xx)
          have XB : Below wr.heap.size wr w3 := (HB1.out.alloc (by have := HB1.out.size; omega) _).grown hgrow3 (by have := HB1.out.size; simp; omega) (fun g h => by cases h)
          have TT := Lib.hid (T0.out [5] (by decide) (by simp) _ _ _ hown')
          clear x0_ x1_ x2_ x3_ x4_ xf0_ xf1_ xf2_ xf3_ xf4_ xn_ xm_ xl_
          clear hgrow3 hown' T0 r0_ r1_ r2_ r3_ r4_ rf_ Hx1 HB1
          have Hx2 := Lib.hid Xx
          have HB2 := Lib.hid XB
          clear Xx XB
          obtain ⟨x0_, x1_, x2_, x3_, x4_, xf0_, xf1_, xf2_, xf3_, xf4_⟩ := at5 Hx2.out
          have xn_ := ne_blk Hx2.out
          have xm_ := Ne.symm (a := Bx) xn_
          have xl_ := lt_blk Hx2.out
          unfold TakeEnd at TT
          generalize tl (u.extract 1 u.size) [5] 0 = r at *
          obtain ⟨fl, d, er⟩ := r
          simp only at TT F0 TB HZ
          by_cases he : er = 0
          · subst he
            rw [if_neg (by simp)] at HZ
            obtain ⟨g1, g2⟩ := F0.out rfl
            have hd := TB.out rfl
            rw [size_ext _ _ _ (Nat.le_refl _)] at hd
            clear F0 TB
            obtain ⟨f0, rfl⟩ := len_one (l := fl) (by have := congrArg List.length g1; simpa using this)
            obtain ⟨k0, n0, s0⟩ := f0
            simp only [List.map_cons, List.map_nil, List.cons.injEq, and_true] at g1
            subst g1
            obtain ⟨⟨a0_, c0_⟩, e0_⟩ := g2 ⟨5, n0, s0⟩ (by simp)
            clear e0_
            simp only at a0_ c0_
            clear g2
            have HZ2 : otake u = (⟨3, 0, 0, 0, n0⟩, 1 + d) := HZ
            rw [HZ2] at HD hle
            clear HZ HZ2
            refine (TT.out).mono ?_
            rintro e w4 ⟨v4, rfl, ho4, h4⟩
            unfold FRow at ho4
            rcases own_fields _ _ _ _ _ ho4 with ⟨_, h⟩ | ⟨g, cap, rfl, hgb, hg, hc⟩
            · cases h
            · have p0 : w4.cell? ⟨g, 1, none⟩ = some (.int .u64 n0) := (hc 0 (by simp)).2.1
              have hl : ([⟨5, n0, s0⟩] : List Fd).length = 1 := rfl
              rw [hl]
              have hgx : ¬ g = Bx := by have := lt_blk Hx2.out; omega
              have hxg : ¬ Bx = g := fun h => hgx h.symm
              have hgl : g < w4.heap.size := hg
              have Xx : w4.heap[Bx]? = some (.cells #[.int .i64 3, .int .u32 0, .int .u32 0, .int .u64 0, .int .u64 0] 30 (0, 0)) := blk_call h4 Hx2.out
              have XB : Below wr.heap.size wr w4 := bel_onto HB2.out h4 HB2.out.size
              clear x0_ x1_ x2_ x3_ x4_ xf0_ xf1_ xf2_ xf3_ xf4_ xn_ xm_ xl_
              clear hl ho4 hc h4 TT Hx2 HB2
              have Hx3 := Lib.hid Xx
              have HB3 := Lib.hid XB
              clear Xx XB
              obtain ⟨x0_, x1_, x2_, x3_, x4_, xf0_, xf1_, xf2_, xf3_, xf4_⟩ := at5 Hx3.out
              have xn_ := ne_blk Hx3.out
              have xm_ := Ne.symm (a := Bx) xn_
              have xl_ := lt_blk Hx3.out
              go_upto_region 20 with (fail)
              refine wp_genc ?_
              intro v3 hv3
              have Xx : v3.heap[Bx]? = some (.cells #[.int .i64 3, .int .u32 0, .int .u32 0, .int .u64 0, .int .u64 n0] 30 (0, 0)) := by
                rw [hv3]
                (repeat' (first | (with_reducible exact Hx3.out) | (with_reducible exact heap_alloc_new _ _) | (with_reducible exact blk_new (by first | (simp; done) | omega)) | (with_reducible refine blk_drew ?_) | (with_reducible apply put5_0) | (with_reducible apply put5_1) | (with_reducible apply put5_2) | (with_reducible apply put5_3) | (with_reducible apply put5_4) | (with_reducible refine blk_else (by omega) ?_) | (with_reducible refine blk_old ?_)))
              have XB : Below wr.heap.size wr v3 := by
                rw [hv3]
                (repeat' (first | (with_reducible exact HB3.out) | (with_reducible exact Below.refl _ _) | (with_reducible refine below_drewN _ ?_) | (with_reducible refine Below.drew ?_) | (with_reducible refine Below.setCell ?_ (by first | (simp; done) | omega) _) | (with_reducible refine Below.alloc ?_ (by have := HB3.out.size; simp; omega) _)))
              clear x0_ x1_ x2_ x3_ x4_ xf0_ xf1_ xf2_ xf3_ xf4_ xn_ xm_ xl_
              clear hv3 Hx3 HB3
              have Hx4 := Lib.hid Xx
              have HB4 := Lib.hid XB
              clear Xx XB
              obtain ⟨x0_, x1_, x2_, x3_, x4_, xf0_, xf1_, xf2_, xf3_, xf4_⟩ := at5 Hx4.out
              have xn_ := ne_blk Hx4.out
              have xm_ := Ne.symm (a := Bx) xn_
              have xl_ := lt_blk Hx4.out
              clear p0
              have hin2 : InS u ((d : Int) + 1) := ⟨by omega⟩
              have ed : u.extract (1 + d) u.size = u.extract (d + 1) u.size := by rw [Nat.add_comm]
              have ED := Lib.hid ed
              clear ed
              have OW := Lib.hid (ORow.on HO.out HB4.out)
              go_wp2_with (at_builtin; refine wpList_append_own _ rfl _ _ 24 rfl w.heap.size 30 i0 (.agg #[.int .i64 0, .int .u32 0, .int .u32 0, .int .u64 0, .int .u64 0]) 5 32 Try.underlying24 hi hz0 hz1 hz2 rfl (by decide) _ _ _ rfl (World.ownsRow.alloc OW.out _) ⟨v3.heap.size, 0, none⟩ 1 1 [.int .i64 3, .int .u32 0, .int .u32 0, .int .u64 0, .int .u64 n0] rfl rfl (cells_new _ #[.int .i64 3, .int .u32 0, .int .u32 0, .int .u64 0, .int .u64 n0] _) (fun x hx => by simp at hx; rcases hx with rfl | rfl | rfl | rfl | rfl <;> rfl) (by unfold maxLen; omega) (by omega) (by have := HB4.out.size; simp; omega) ?_; intro v' w9 hown' hgrow3 hnil3; clear hnil3)
              go_roundw
              case rel =>
                refine ⟨v', _, done ++ [⟨3, 0, 0, 0, n0⟩], rfl, rfl, ?_, ?_, ORow.snoc hown', ?_⟩
                · rw [List.append_assoc]; rw [← ED.out]; exact HD.out
                · rw [List.length_append, size_ext _ _ _ (Nat.le_refl _)]; show done.length + 1 + _ ≤ _; omega
                · exact ((HB.out.trans (HB4.out.mono hsize)).alloc (by have := HB4.out.size; omega) _).grown hgrow3 (by have := HB4.out.size; simp; omega) (fun g hg => (World.ownsRow.lt OW.out g hg).1)
              case measure =>
                show (u.extract (d + 1) u.size).size < u.size
                rw [size_ext _ _ _ (Nat.le_refl _)]; omega
          · rw [if_pos (by simpa using he)] at HZ
            have g : (er != 0) = true := by simp [he]
            rw [HZ] at HD hle
            clear he F0 TB HZ
            refine (TT.out).mono ?_
            rintro e w4 ⟨v4, rfl, -, h4⟩
            have Xx : w4.heap[Bx]? = some (.cells #[.int .i64 3, .int .u32 0, .int .u32 0, .int .u64 0, .int .u64 0] 30 (0, 0)) := blk_call h4 Hx2.out
            have XB : Below wr.heap.size wr w4 := bel_onto HB2.out h4 HB2.out.size
            clear x0_ x1_ x2_ x3_ x4_ xf0_ xf1_ xf2_ xf3_ xf4_ xn_ xm_ xl_
            clear h4 TT Hx2 HB2
            have Hx3 := Lib.hid Xx
            have HB3 := Lib.hid XB
            clear Xx XB
            obtain ⟨x0_, x1_, x2_, x3_, x4_, xf0_, xf1_, xf2_, xf3_, xf4_⟩ := at5 Hx3.out
            have xn_ := ne_blk Hx3.out
            have xm_ := Ne.symm (a := Bx) xn_
            have xl_ := lt_blk Hx3.out
            have OW := Lib.hid (ORow.on HO.out HB3.out)
            go_wp2_with (at_builtin; refine wpList_append_own _ rfl _ _ 24 rfl w.heap.size 30 i0 (.agg #[.int .i64 0, .int .u32 0, .int .u32 0, .int .u64 0, .int .u64 0]) 5 32 Try.underlying24 hi hz0 hz1 hz2 rfl (by decide) _ _ _ rfl (World.ownsRow.alloc OW.out _) ⟨w4.heap.size, 0, none⟩ 1 1 [.int .i64 5, .int .u32 0, .int .u32 0, .int .u64 0, .int .u64 0] rfl rfl (cells_new _ #[.int .i64 5, .int .u32 0, .int .u32 0, .int .u64 0, .int .u64 0] _) (fun x hx => by simp at hx; rcases hx with rfl | rfl | rfl | rfl | rfl <;> rfl) (by unfold maxLen; omega) (by omega) (by have := HB3.out.size; simp; omega) ?_; intro v' w9 hown' hgrow3 hnil3; clear hnil3)
            go_ret
            refine ⟨v', rfl, ?_, ?_⟩
            · have hd := HD.out
              rw [oread_nil (u.extract u.size u.size) (by rw [size_ext _ _ _ (Nat.le_refl _)]; exact Nat.sub_self _)] at hd
              rw [← hd]
              exact ORow.snoc hown'
            · exact ((HB.out.trans (HB3.out.mono hsize)).alloc (by have := HB3.out.size; omega) _).grown hgrow3 (by have := HB3.out.size; simp; omega) (fun g hg => (World.ownsRow.lt OW.out g hg).1)
        · rcases hcs with rfl | rfl
          · have HZ2 : otake u = (⟨2, 0, 0, 0, 0⟩, 1) := HZ
            rw [HZ2] at HD hle
            clear HZ HZ2
            have TT := Lib.hid (fun W => refTake_none (u.extract 1 u.size) none 0 W)
            clear T0
            go_wp2_with fail
            refine cl_gen ?_
            intro v0 hv0
            have XB : Below wr.heap.size wr v0 := by
              rw [hv0]
              (repeat' (first | (with_reducible exact Below.refl _ _) | (with_reducible assumption) | (with_reducible refine below_drewN _ ?_) | (with_reducible refine Below.drew ?_) | (with_reducible refine Below.setCell ?_ (by simp) _) | (with_reducible refine Below.alloc ?_ (by simp; try omega) _)))
            have Xx : v0.heap[wr.heap.size]? = some (.cells #[.int .i64 2, .int .u32 0, .int .u32 0, .int .u64 0, .int .u64 0] 30 (0, 0)) := by
              rw [hv0]
              (repeat' (first | (with_reducible exact heap_alloc_new _ _) | (with_reducible exact blk_new (by first | (simp; done) | omega)) | (with_reducible refine blk_drew ?_) | (with_reducible apply put5_0) | (with_reducible apply put5_1) | (with_reducible apply put5_2) | (with_reducible apply put5_3) | (with_reducible apply put5_4) | (with_reducible refine blk_else (by omega) ?_) | (with_reducible refine blk_old ?_)))
            obtain ⟨Bx, hBx⟩ : ∃ x, x = wr.heap.size := ⟨_, rfl⟩
            rw [← hBx] at Xx
            try rw [← hBx]
            have lex : wr.heap.size ≤ Bx := by omega
            clear hBx
            clear hv0
            have Hx1 := Lib.hid Xx
            have HB1 := Lib.hid XB
            clear Xx XB
            obtain ⟨x0_, x1_, x2_, x3_, x4_, xf0_, xf1_, xf2_, xf3_, xf4_⟩ := at5 Hx1.out
            have xn_ := ne_blk Hx1.out
            have xm_ := Ne.symm (a := Bx) xn_
            have xl_ := lt_blk Hx1.out
            refine (TT.out v0).mono ?_
            rintro e w4 ⟨rfl, h4⟩
            have Xx : w4.heap[Bx]? = some (.cells #[.int .i64 2, .int .u32 0, .int .u32 0, .int .u64 0, .int .u64 0] 30 (0, 0)) := blk_call h4 Hx1.out
            have XB : Below wr.heap.size wr w4 := bel_onto HB1.out h4 HB1.out.size
            clear x0_ x1_ x2_ x3_ x4_ xf0_ xf1_ xf2_ xf3_ xf4_ xn_ xm_ xl_
            clear h4 TT Hx1 HB1
            have Hx2 := Lib.hid Xx
            have HB2 := Lib.hid XB
            clear Xx XB
            obtain ⟨x0_, x1_, x2_, x3_, x4_, xf0_, xf1_, xf2_, xf3_, xf4_⟩ := at5 Hx2.out
            have xn_ := ne_blk Hx2.out
            have xm_ := Ne.symm (a := Bx) xn_
            have xl_ := lt_blk Hx2.out
            have OW := Lib.hid (ORow.on HO.out HB2.out)
            go_wp2_with (at_builtin; refine wpList_append_own _ rfl _ _ 24 rfl w.heap.size 30 i0 (.agg #[.int .i64 0, .int .u32 0, .int .u32 0, .int .u64 0, .int .u64 0]) 5 32 Try.underlying24 hi hz0 hz1 hz2 rfl (by decide) _ _ _ rfl (World.ownsRow.alloc OW.out _) ⟨w4.heap.size, 0, none⟩ 1 1 [.int .i64 2, .int .u32 0, .int .u32 0, .int .u64 0, .int .u64 0] rfl rfl (cells_new _ #[.int .i64 2, .int .u32 0, .int .u32 0, .int .u64 0, .int .u64 0] _) (fun x hx => by simp at hx; rcases hx with rfl | rfl | rfl | rfl | rfl <;> rfl) (by unfold maxLen; omega) (by omega) (by have := HB2.out.size; simp; omega) ?_; intro v' w9 hown' hgrow3 hnil3; clear hnil3)
            go_roundw
            case rel =>
              refine ⟨v', _, done ++ [⟨2, 0, 0, 0, 0⟩], rfl, rfl, ?_, ?_, ORow.snoc hown', ?_⟩
              · rw [List.append_assoc]; exact HD.out
              · rw [List.length_append, size_ext _ _ _ (Nat.le_refl _)]; show done.length + 1 + _ ≤ _; omega
              · exact ((HB.out.trans (HB2.out.mono hsize)).alloc (by have := HB2.out.size; omega) _).grown hgrow3 (by have := HB2.out.size; simp; omega) (fun g hg => (World.ownsRow.lt OW.out g hg).1)
            case measure =>
              show (u.extract (1) u.size).size < u.size
              rw [size_ext _ _ _ (Nat.le_refl _)]; omega
          · have HZ2 : otake u = (⟨4, 0, 0, 0, 0⟩, 1) := HZ
            rw [HZ2] at HD hle
            clear HZ HZ2
            have TT := Lib.hid (fun W => refTake_none (u.extract 1 u.size) none 0 W)
            clear T0
            go_wp2_with fail
            refine cl_gen ?_
            intro v0 hv0
            have XB : Below wr.heap.size wr v0 := by
              rw [hv0]
              (repeat' (first | (with_reducible exact Below.refl _ _) | (with_reducible assumption) | (with_reducible refine below_drewN _ ?_) | (with_reducible refine Below.drew ?_) | (with_reducible refine Below.setCell ?_ (by simp) _) | (with_reducible refine Below.alloc ?_ (by simp; try omega) _)))
            have Xx : v0.heap[wr.heap.size]? = some (.cells #[.int .i64 4, .int .u32 0, .int .u32 0, .int .u64 0, .int .u64 0] 30 (0, 0)) := by
              rw [hv0]
              (repeat' (first | (with_reducible exact heap_alloc_new _ _) | (with_reducible exact blk_new (by first | (simp; done) | omega)) | (with_reducible refine blk_drew ?_) | (with_reducible apply put5_0) | (with_reducible apply put5_1) | (with_reducible apply put5_2) | (with_reducible apply put5_3) | (with_reducible apply put5_4) | (with_reducible refine blk_else (by omega) ?_) | (with_reducible refine blk_old ?_)))
            obtain ⟨Bx, hBx⟩ : ∃ x, x = wr.heap.size := ⟨_, rfl⟩
            rw [← hBx] at Xx
            try rw [← hBx]
            have lex : wr.heap.size ≤ Bx := by omega
            clear hBx
            clear hv0
            have Hx1 := Lib.hid Xx
            have HB1 := Lib.hid XB
            clear Xx XB
            obtain ⟨x0_, x1_, x2_, x3_, x4_, xf0_, xf1_, xf2_, xf3_, xf4_⟩ := at5 Hx1.out
            have xn_ := ne_blk Hx1.out
            have xm_ := Ne.symm (a := Bx) xn_
            have xl_ := lt_blk Hx1.out
            refine (TT.out v0).mono ?_
            rintro e w4 ⟨rfl, h4⟩
            have Xx : w4.heap[Bx]? = some (.cells #[.int .i64 4, .int .u32 0, .int .u32 0, .int .u64 0, .int .u64 0] 30 (0, 0)) := blk_call h4 Hx1.out
            have XB : Below wr.heap.size wr w4 := bel_onto HB1.out h4 HB1.out.size
            clear x0_ x1_ x2_ x3_ x4_ xf0_ xf1_ xf2_ xf3_ xf4_ xn_ xm_ xl_
            clear h4 TT Hx1 HB1
            have Hx2 := Lib.hid Xx
            have HB2 := Lib.hid XB
            clear Xx XB
            obtain ⟨x0_, x1_, x2_, x3_, x4_, xf0_, xf1_, xf2_, xf3_, xf4_⟩ := at5 Hx2.out
            have xn_ := ne_blk Hx2.out
            have xm_ := Ne.symm (a := Bx) xn_
            have xl_ := lt_blk Hx2.out
            have OW := Lib.hid (ORow.on HO.out HB2.out)
            go_wp2_with (at_builtin; refine wpList_append_own _ rfl _ _ 24 rfl w.heap.size 30 i0 (.agg #[.int .i64 0, .int .u32 0, .int .u32 0, .int .u64 0, .int .u64 0]) 5 32 Try.underlying24 hi hz0 hz1 hz2 rfl (by decide) _ _ _ rfl (World.ownsRow.alloc OW.out _) ⟨w4.heap.size, 0, none⟩ 1 1 [.int .i64 4, .int .u32 0, .int .u32 0, .int .u64 0, .int .u64 0] rfl rfl (cells_new _ #[.int .i64 4, .int .u32 0, .int .u32 0, .int .u64 0, .int .u64 0] _) (fun x hx => by simp at hx; rcases hx with rfl | rfl | rfl | rfl | rfl <;> rfl) (by unfold maxLen; omega) (by omega) (by have := HB2.out.size; simp; omega) ?_; intro v' w9 hown' hgrow3 hnil3; clear hnil3)
            go_roundw
            case rel =>
              refine ⟨v', _, done ++ [⟨4, 0, 0, 0, 0⟩], rfl, rfl, ?_, ?_, ORow.snoc hown', ?_⟩
              · rw [List.append_assoc]; exact HD.out
              · rw [List.length_append, size_ext _ _ _ (Nat.le_refl _)]; show done.length + 1 + _ ≤ _; omega
              · exact ((HB.out.trans (HB2.out.mono hsize)).alloc (by have := HB2.out.size; omega) _).grown hgrow3 (by have := HB2.out.size; simp; omega) (fun g hg => (World.ownsRow.lt OW.out g hg).1)
            case measure =>
              show (u.extract (1) u.size).size < u.size
              rw [size_ext _ _ _ (Nat.le_refl _)]; omega
    · have hz : u.size = 0 := by omega
      rw [oread_nil u hz, List.append_nil] at hd
      subst hd
      have HO := Lib.hid ho; have HB := Lib.hid hbw
      have HLE := Lib.hid hlen
      clear hz ho hbw hlen
      go_wp2
      go_ret
      exact ⟨v, rfl, HO.out, HB.out⟩
end Go.Proofs.Ytdlcipbehalfhaa
