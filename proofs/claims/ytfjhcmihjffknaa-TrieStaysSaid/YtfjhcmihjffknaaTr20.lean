/-
  The law of layer 32 that what an address finds stays, walked: true for any acts. No condition.
-/
import Derived.Test.YtfjhcmihjffknaaTr19
import Derived.Test.YtfjhcmihjffknaaAdr4
import Derived.Test.YtfjhcmihjffknaaOpen32
import Derived.Maps.Range
namespace Go.Proofs.Ytfjhcmihjffknaa
set_option linter.unusedVariables false
set_option linter.unusedSimpArgs false
open Go.ChangeShapes Go.WideShapes Go.ChangeAt Go.RowKit
attribute [local go_sem] alloc_drewN setCell_drewN

set_option maxRecDepth 100000 in
set_option maxHeartbeats 40000000 in
theorem stays32_at (a : Option Addr) (n c : Nat) (fs : List Act32) (hn : n ≤ 100) (a2 : Option Addr) (n2 c2 : Nat) (gs : List Act32) (hn2 : n2 ≤ 100) (q : Int) (q0 : 0 ≤ q) (q1 : q ≤ 4294967295) (w : World) (hr : RowA32 w a n fs) (hr2 : RowA32 w a2 n2 gs) :
    Calls Try.prog 9 #[.slice a n c, .slice a2 n2 c2, .int .u32 q] w fun e w' => e = .returned (.bool true) ∧ Below w.heap.size w w' := by
  have HR := Lib.hid hr; have HR2 := Lib.hid hr2
  have HN := Lib.hid (And.intro hn hn2)
  have y1 : ¬ (100 : Int) < n := by omega
  have y2 : ¬ (100 : Int) < n2 := by omega
  have NW := Lib.hid (tnew w)
  clear hr hr2 hn hn2
  go_enter Try.func9, Try.ntmps9
  go_wp2_with fail
  refine NW.out.mono ?_
  rintro e w1 ⟨rfl, h1, b1⟩
  have W1 := Lib.hid (show LvW w w1 (w.heap.size + 1) (.nd 0 0 false 0 .nil .nil) [] from ⟨⟨_, h1, fun z hz => (by cases hz), b1⟩, ⟨by decide, by decide, trivial, trivial, trivial, trivial⟩, _, _, _, _, rfl⟩)
  clear h1 b1 NW
  generalize w.heap.size + 1 = T at *
  go_wp2
  go_loopw [32] (fun z wr => ∃ (i : Nat) (t : Tr), z = .int .i64 i ∧ i ≤ n ∧ Hid (LvW w wr T t [])) (fun z _ => n - (intOf z).toNat)
  case atStart => exact ⟨0, _, rfl, Nat.zero_le _, W1⟩
  case round =>
    clear W1
    obtain ⟨i, t, rfl, hi, HW⟩ := hrel
    by_cases hlt : i < n
    · obtain ⟨hzl, hzm, hzw, hzc⟩ := HR.out
      obtain ⟨b, off, rfl, hb0, hcs⟩ := hzc (by omega)
      obtain ⟨cx0, cx1, cx2, cx3, cx4⟩ := hcs i hlt
      have xb := HW.out.bel
      have ac0_ := (xb.cell (p := ⟨b, off + i * 5, none⟩) hb0).trans cx0
      have ac1_ := (xb.cell (p := ⟨b, off + i * 5 + 1, none⟩) hb0).trans cx1
      have ac2_ := (xb.cell (p := ⟨b, off + i * 5 + 2, none⟩) hb0).trans cx2
      have ac3_ := (xb.cell (p := ⟨b, off + i * 5 + 3, none⟩) hb0).trans cx3
      have ac4_ := (xb.cell (p := ⟨b, off + i * 5 + 4, none⟩) hb0).trans cx4
      have hok := hzw (fs.getD i Act32.nil) (by rw [List.getD_eq_getElem?_getD, List.getElem?_eq_getElem (by rw [hzl]; exact hlt)]; exact List.getElem_mem _)
      obtain ⟨oa, on, ox, oq⟩ := hok
      clear hzl hzm hzw hzc hcs cx0 cx1 cx2 cx3 cx4 xb
      generalize fs.getD i Act32.nil = f at *
      obtain ⟨xd, xa, xn, xx, xq⟩ := f
      dsimp only at ac0_ ac1_ ac2_ ac3_ ac4_ oa on ox oq
      have z0 : (0 : Int) ≤ i := by omega
      have z1 : (i : Int) < n := by omega
      have HLT := Lib.hid hlt
      have AW := Lib.hid ((Below.refl wr.heap.size wr).alloc (Nat.le_refl _) (.cells #[.bool xd, .int .u32 xa, .int .i64 xn, .int .i64 xx, .int .u32 xq] 82))
      have HA := Lib.hid (heap_alloc_new wr (.cells #[.bool xd, .int .u32 xa, .int .i64 xn, .int .i64 xx, .int .u32 xq] 82))
      have H2 := Lib.hid (HW.out.on AW.out)
      obtain ⟨e0_, e1_, e2_, e3_, e4_⟩ := row5 HA.out
      have SA := Lib.hid (show wr.heap.size < (wr.alloc (.cells #[.bool xd, .int .u32 xa, .int .i64 xn, .int .i64 xx, .int .u32 xq] 82)).heap.size by simp)
      have hw1 : IntKind.i64.wrap ((i : Int) + 1) = (i : Int) + 1 := by rw [IntKind.wrap_i64]; have := HN.out; omega
      clear hlt hi
      clear HW
      go_wp2_with fail
      refine (H2.out.put oa on xx).mono ?_
      rintro e w3 ⟨c3, rfl, t3, h3, -⟩
      have H3 := Lib.hid h3
      clear h3 H2 e0_ e1_ e2_ e3_ e4_
      go_wp2
      go_roundw
      case rel => exact ⟨i + 1, t3, by go_num, HLT.out, H3⟩
      case measure => have := HLT.out; simp [intOf] <;> omega
    · have z1 : ¬ (i : Int) < n := by omega
      clear hlt hi HR
      obtain ⟨fb, fm, fx, fi, hF⟩ : ∃ fb fm fx fi, fnd (tfind q t) = (fb, fm, fx, fi) := ⟨_, _, _, _, rfl⟩
      have HF := Lib.hid hF
      clear hF
      go_wp2_with fail
      refine (HW.out.find ⟨q0, q1⟩ HF.out).mono ?_
      rintro e w3 ⟨rfl, h3⟩
      have W3 := Lib.hid (h3.more (s := w3.heap.size) (Nat.le_refl _) ((Below.refl _ w3).alloc (Nat.le_refl _) (.cells #[.int .u32 fb, .int .i64 fm] 70)) (heap_alloc_new w3 _))
      clear h3 HW
      go_wp2
      generalize w3.alloc (.cells #[.int .u32 fb, .int .i64 fm] 70) = V3 at *
      generalize w3.heap.size = S at *
      go_loopw [52] (fun z w2 => ∃ (i : Nat) (t : Tr), z = .int .i64 i ∧ i ≤ n2 ∧ Hid (LvW w w2 T t [(S, fb, fm)]) ∧ Hid (fnd (tfind q t) = (fb, fm, fx, fi))) (fun z _ => n2 - (intOf z).toNat)
      case atStart => exact ⟨0, t, rfl, Nat.zero_le _, W3, HF⟩
      case round =>
        clear W3 HF
        obtain ⟨i, t, rfl, hi, HW, HF⟩ := hrel
        by_cases hlt : i < n2
        · obtain ⟨hzl, hzm, hzw, hzc⟩ := HR2.out
          obtain ⟨b, off, rfl, hb0, hcs⟩ := hzc (by omega)
          obtain ⟨cx0, cx1, cx2, cx3, cx4⟩ := hcs i hlt
          have xb := HW.out.bel
          have ac0_ := (xb.cell (p := ⟨b, off + i * 5, none⟩) hb0).trans cx0
          have ac1_ := (xb.cell (p := ⟨b, off + i * 5 + 1, none⟩) hb0).trans cx1
          have ac2_ := (xb.cell (p := ⟨b, off + i * 5 + 2, none⟩) hb0).trans cx2
          have ac3_ := (xb.cell (p := ⟨b, off + i * 5 + 3, none⟩) hb0).trans cx3
          have ac4_ := (xb.cell (p := ⟨b, off + i * 5 + 4, none⟩) hb0).trans cx4
          have hok := hzw (gs.getD i Act32.nil) (by rw [List.getD_eq_getElem?_getD, List.getElem?_eq_getElem (by rw [hzl]; exact hlt)]; exact List.getElem_mem _)
          obtain ⟨oa, on, ox, oq⟩ := hok
          clear hzl hzm hzw hzc hcs cx0 cx1 cx2 cx3 cx4 xb
          generalize gs.getD i Act32.nil = f at *
          obtain ⟨xd, xa, xn, xx, xq⟩ := f
          dsimp only at ac0_ ac1_ ac2_ ac3_ ac4_ oa on ox oq
          have z0 : (0 : Int) ≤ i := by omega
          have z1 : (i : Int) < n2 := by omega
          have HLT := Lib.hid hlt
          have AW := Lib.hid ((Below.refl wr.heap.size wr).alloc (Nat.le_refl _) (.cells #[.bool xd, .int .u32 xa, .int .i64 xn, .int .i64 xx, .int .u32 xq] 82))
          have HA := Lib.hid (heap_alloc_new wr (.cells #[.bool xd, .int .u32 xa, .int .i64 xn, .int .i64 xx, .int .u32 xq] 82))
          have H2 := Lib.hid (HW.out.on AW.out)
          obtain ⟨e0_, e1_, e2_, e3_, e4_⟩ := row5 HA.out
          have SA := Lib.hid (show wr.heap.size < (wr.alloc (.cells #[.bool xd, .int .u32 xa, .int .i64 xn, .int .i64 xx, .int .u32 xq] 82)).heap.size by simp)
          have hw1 : IntKind.i64.wrap ((i : Int) + 1) = (i : Int) + 1 := by rw [IntKind.wrap_i64]; have := HN.out; omega
          clear hlt hi
          clear HW
          have HS := Lib.hid (fun (v : World) => rhas_any xa xn q oa.1 oa.2 on.1 on.2 q0 q1 v)
          by_cases hh : HsP xa xn q
          · rw [decide_eq_true hh] at HS
            clear hh
            go_wp2_with fail
            refine (HS.out _).mono ?_
            rintro e w4 ⟨rfl, b4⟩
            have H4 := Lib.hid (H2.out.on b4)
            clear b4 H2 e0_ e1_ e2_ e3_ e4_
            go_wp2
            go_roundw
            case rel => exact ⟨i + 1, t, by go_num, HLT.out, H4, HF⟩
            case measure => have := HLT.out; simp [intOf] <;> omega
          · rw [decide_eq_false hh] at HS
            have HH := Lib.hid hh
            clear hh
            go_wp2_with fail
            refine (HS.out _).mono ?_
            rintro e w4 ⟨rfl, b4⟩
            have H4 := Lib.hid (H2.out.on b4)
            have A4 := (b4.block _ SA.out).trans HA.out
            clear b4 H2 e0_ e1_ e2_ e3_ e4_
            obtain ⟨e0_, e1_, e2_, e3_, e4_⟩ := row5 A4
            clear A4
            have NQ := fun W => prefix_ne fb fm W
            cases xd
            · go_wp2_with fail
              refine (H4.out.put oa on xx).mono ?_
              rintro e w5 ⟨c5, rfl, t5, h5, g5⟩
              have H5 := Lib.hid h5
              have HF5 := Lib.hid (show fnd (tfind q t5) = (fb, fm, fx, fi) by rw [g5 q q0 HH.out]; exact HF.out)
              clear h5 g5 H4 e0_ e1_ e2_ e3_ e4_
              go_wp2_with fail
              refine (H5.out.find ⟨q0, q1⟩ HF5.out).mono ?_
              rintro e w6 ⟨rfl, h6⟩
              have bA := (Below.refl w6.heap.size w6).alloc (Nat.le_refl _) (.cells #[.int .u32 fb, .int .i64 fm] 70)
              have H7 := Lib.hid (h6.on bA)
              obtain ⟨k0_, k1_⟩ := box2 (heap_alloc_new w6 (.cells #[.int .u32 fb, .int .i64 fm] 70))
              obtain ⟨c0_, c1_⟩ := H7.out.cells (s := S) (a := fb) (n := fm) (by simp)
              clear h6 H5 bA
              go_wp2
              go_roundw
              case rel => exact ⟨i + 1, t5, by go_num, HLT.out, H7, HF5⟩
              case measure => have := HLT.out; simp [intOf] <;> omega
            · go_wp2_with fail
              refine (H4.out.drop oa on).mono ?_
              rintro e w5 ⟨c5, d5, rfl, t5, h5, g5⟩
              have H5 := Lib.hid h5
              have HF5 := Lib.hid (show fnd (tfind q t5) = (fb, fm, fx, fi) by rw [g5 q q0 HH.out]; exact HF.out)
              clear h5 g5 H4 e0_ e1_ e2_ e3_ e4_
              go_wp2_with fail
              refine (H5.out.find ⟨q0, q1⟩ HF5.out).mono ?_
              rintro e w6 ⟨rfl, h6⟩
              have bA := (Below.refl w6.heap.size w6).alloc (Nat.le_refl _) (.cells #[.int .u32 fb, .int .i64 fm] 70)
              have H7 := Lib.hid (h6.on bA)
              obtain ⟨k0_, k1_⟩ := box2 (heap_alloc_new w6 (.cells #[.int .u32 fb, .int .i64 fm] 70))
              obtain ⟨c0_, c1_⟩ := H7.out.cells (s := S) (a := fb) (n := fm) (by simp)
              clear h6 H5 bA
              go_wp2
              go_roundw
              case rel => exact ⟨i + 1, t5, by go_num, HLT.out, H7, HF5⟩
              case measure => have := HLT.out; simp [intOf] <;> omega
        · have z1 : ¬ (i : Int) < n2 := by omega
          clear hlt hi HR2
          have HWF := Lib.hid HW.out.2.1
          cases fi
          · go_wp2_with fail
            refine (lives32 _).mono ?_
            rintro e w5 ⟨rfl, b5⟩
            have FIN := Lib.hid (HW.out.bel.trans (b5.mono HW.out.bel.size))
            clear b5
            go_wp2
            go_ret
            exact ⟨rfl, FIN.out⟩
          · have hf := HF.out
            obtain ⟨c0_, c1_⟩ := HW.out.cells (s := S) (a := fb) (n := fm) (by simp)
            have hz : tfind q t = some (fb, fm, fx) := by
              cases hz : tfind q t with
              | none => rw [hz] at hf; simp [fnd] at hf
              | some z =>
                rw [hz] at hf
                obtain ⟨z1, z2, z3⟩ := z
                simp [fnd] at hf
                obtain ⟨rfl, rfl, rfl⟩ := hf
                rfl
            have hhas := tfind_has hz
            have hrng := tfind_rng HWF.out hz
            have HS := rhas_any fb fm q hrng.1 hrng.2 (by have := hhas.1.1; omega) (by have := hhas.1.1; omega) q0 q1 wr
            rw [decide_eq_true hhas] at HS
            have HS := Lib.hid HS
            clear hf hz hhas hrng
            go_wp2_with fail
            refine HS.out.mono ?_
            rintro e w4 ⟨rfl, b4⟩
            have B4 := Lib.hid (HW.out.bel.trans (b4.mono HW.out.bel.size))
            clear b4
            go_wp2_with fail
            refine (lives32 _).mono ?_
            rintro e w5 ⟨rfl, b5⟩
            have FIN := Lib.hid (B4.out.trans (b5.mono B4.out.size))
            clear b5
            go_wp2
            go_ret
            exact ⟨rfl, FIN.out⟩
theorem walk_trieStays (a : Option Addr) (n c : Nat) (fs : List Act32) {w : World} (hr : RowA32 w a n fs) (hcap : n ≤ c) (a2 : Option Addr) (n2 c2 : Nat) (gs : List Act32) (hr2 : RowA32 w a2 n2 gs) (hcap2 : n2 ≤ c2) (q : Int) (q0 : 0 ≤ q) (q1 : q ≤ 4294967295) :
    Calls Try.prog 9 #[.slice a n c, .slice a2 n2 c2, .int .u32 q] w fun e w' => e = .returned (.bool true) ∧ Below w.heap.size w w' := by
  by_cases h : n ≤ 100 ∧ n2 ≤ 100
  · exact stays32_at a n c fs h.1 a2 n2 c2 gs h.2 q q0 q1 w hr hr2
  · have hm := hr.2.1
    have hm2 := hr2.2.1
    unfold maxLen at hm hm2
    have LV := Lib.hid (lives32 w)
    clear hr hr2
    by_cases h1 : 100 < n
    · have z1 : (100 : Int) < n := by omega
      clear h
      go_enter Try.func9, Try.ntmps9
      go_wp2_with fail
      refine LV.out.mono ?_
      rintro e w9 ⟨rfl, b9⟩
      go_wp2
      go_ret
      exact ⟨rfl, b9⟩
    · have z1 : ¬ (100 : Int) < n := by omega
      have z2 : (100 : Int) < n2 := by omega
      clear h
      go_enter Try.func9, Try.ntmps9
      go_wp2_with fail
      refine LV.out.mono ?_
      rintro e w9 ⟨rfl, b9⟩
      go_wp2
      go_ret
      exact ⟨rfl, b9⟩
end Go.Proofs.Ytfjhcmihjffknaa
