/-
  The law of layer 35 on several boxes, walked: true for any rows. No condition.
-/
import Derived.Test.YtfjhcmihjffknaaMl13
import Derived.Test.YtfjhcmihjffknaaMl5
import Derived.Maps.Range
namespace Go.Proofs.Ytfjhcmihjffknaa
set_option linter.unusedVariables false
set_option linter.unusedSimpArgs false
open Go.ChangeShapes Go.WideShapes Go.ChangeAt Go.RowKit
attribute [local go_sem] alloc_drewN setCell_drewN

theorem flat_each (ls : List (List Int)) (h : ls.flatten = []) (k : Nat) : ls.getD k [] = [] := by
  rw [List.getD_eq_getElem?_getD]
  rcases hk : ls[k]? with _ | m
  · rfl
  · exact List.flatten_eq_nil_iff.1 h m (List.mem_of_getElem? hk)
theorem take_next35 (z : List Int) (k : Nat) (hk : k < z.length) : z.take k ++ [z.getD k 0] = z.take (k + 1) := by
  rw [List.take_add_one, List.getD_eq_getElem?_getD, List.getElem?_eq_getElem hk]; rfl
set_option maxRecDepth 100000 in
set_option maxHeartbeats 40000000 in
theorem first35_at (a : Option Addr) (n c : Nat) (fs : List Rw) (hn : n ≤ 20) (w : World) (hr : RowRw w a n fs) :
    Calls Try.prog 5 #[.slice a n c] w fun e w' => e = .returned (.bool true) ∧ Below w.heap.size w w' := by
  obtain ⟨p0, pif, pz0, pz1, pz2⟩ := info_parts infoPB
  have HR := Lib.hid hr
  have HN := Lib.hid hn
  have z20 : ¬ (20 : Int) < n := by omega
  have M0 := Lib.hid (show Mf w w (.slice none 0 0) (.slice none 0 0) (.slice none 0 0) [] [] (fun _ => False) [] [] from ⟨BxsG.nil _ _, World.ownsRow_nil _ _ _ _, Ints.nil _ _, Ints.nil _ _, fun j hj => (by cases hj), fun j hj => (by cases hj), fun j hj => (by cases hj), fun j hj => (by cases hj), fun j hj => (by cases hj), fun j hj => (by cases hj), Below.refl _ _⟩)
  clear hr
  go_enter Try.func5, Try.ntmps5
  go_wp2
  go_loopw [3, 4, 25] (fun x y z wr => ∃ (vb va : Value) (Bs : List Nat) (ls : List (List Int)) (In : Nat → Prop) (all : List Int) (i : Nat), vb = x ∧ va = y ∧ z = .int .i64 i ∧ i ≤ n ∧ Hid (Bs.length = i) ∧ Hid (all = ls.flatten) ∧ Hid (all.length ≤ 50 * i) ∧ Hid (Mf w wr vb va (.slice none 0 0) Bs ls In all [])) (fun _ _ z _ => n - (intOf z).toNat)
  case atStart => exact ⟨_, _, [], [], _, [], 0, rfl, rfl, rfl, Nat.zero_le _, rfl, rfl, Nat.le_refl _, M0⟩
  case round =>
    clear M0
    obtain ⟨vb, va, Bs, ls, In, all, i, rfl, rfl, rfl, hi, HBL, HF, HL, M⟩ := hrel
    rename World => W
    by_cases hlt : i < n
    · obtain ⟨hzl, hzm, hzw, hzc⟩ := HR.out
      obtain ⟨b, off, rfl, hb0, hcs⟩ := hzc (by omega)
      have cx := (M.out.b.cell (p := ⟨b, off + i, none⟩) hb0).trans (hcs i hlt)
      have hok := hzw (fs.getD i Rw.nil) (by rw [List.getD_eq_getElem?_getD, List.getElem?_eq_getElem (by rw [hzl]; exact hlt)]; exact List.getElem_mem _)
      have ROW := Lib.hid (fun (v : World) (hv : Below w.heap.size w v) => row1_35 hok.1 hv)
      have NIL := Lib.hid hok.2.2
      clear hzl hzm hzw hzc hcs hok
      generalize fs.getD i Rw.nil = f at *
      obtain ⟨fa, fn, fc, fz⟩ := f
      dsimp only at cx ROW NIL
      have HLT := Lib.hid hlt
      have z0 : (0 : Int) ≤ i := by omega
      have z1 : (i : Int) < n := by omega
      by_cases h50 : fn ≤ 50
      · have z50 : ¬ (50 : Int) < fn := by omega
        have NW := Lib.hid (gnewI W 60 (by decide) (by decide))
        have H50 := Lib.hid h50
        have ZL := Lib.hid (show fz.length = fn from (ROW.out w (Below.refl _ _)).1)
        clear hi hlt h50 hb0
        go_wp2_with fail
        refine NW.out.mono ?_
        rintro e w1 ⟨B, rfl, ⟨InB, x1⟩, b1⟩
        have X1 := Lib.hid x1
        have B1 := Lib.hid b1
        clear x1 b1 NW cx
        go_wp2
        go_loopw [41] (fun z wr => ∃ (k : Nat) (InB : Nat → Prop), z = .int .i64 k ∧ k ≤ fn ∧ Hid (BxGI wr W.heap.size B 60 false (fz.take k) InB) ∧ Hid (Below W.heap.size W wr)) (fun z _ => fn - (intOf z).toNat)
        case atStart => exact ⟨0, InB, rfl, Nat.zero_le _, X1, B1⟩
        case round =>
          clear X1 B1
          obtain ⟨k, InB2, rfl, hk, X2, B2⟩ := hrel
          by_cases hkl : k < fn
          · obtain ⟨-, -, -, hfc⟩ := ROW.out wr (M.out.b.trans (B2.out.mono M.out.b.size))
            obtain ⟨fb, foff, rfl, hfb, hfcs⟩ := hfc (by omega)
            have cy := hfcs k hkl
            have SN := gsendI X2.out (fz.getD k 0)
            rw [take_next35 fz k (by rw [ZL.out]; exact hkl), if_pos ⟨rfl, by rw [List.length_take]; have := H50.out; omega⟩, decide_eq_true (by rw [List.length_take]; have := H50.out; omega)] at SN
            have SN := Lib.hid SN
            generalize fz.getD k 0 = y at *
            have z2 : (k : Int) < fn := by omega
            have z3 : (0 : Int) ≤ k := by omega
            have hw1 : IntKind.i64.wrap ((k : Int) + 1) = (k : Int) + 1 := by rw [IntKind.wrap_i64]; have := H50.out; omega
            clear hfc hfcs hfb
            go_wp2_with fail
            refine SN.out.mono ?_
            rintro e w3 ⟨rfl, InB3, x3, m3⟩
            have X3 := Lib.hid x3
            have B3 := Lib.hid (X2.out.bel m3 B2.out)
            clear x3 m3 SN X2 B2
            go_wp2
            go_roundw
            case rel => exact ⟨k + 1, InB3, by go_num, hkl, X3, B3⟩
            case measure => simp [intOf] <;> omega
          · have hkf : k = fn := by omega
            have hx2 := X2.out
            rw [List.take_of_length_le (by rw [ZL.out]; omega)] at hx2
            have X2 := Lib.hid hx2
            have M2 := Lib.hid (M.out.on B2.out)
            have SZ := Lib.hid B2.out.size
            have HAP := Lib.hid (show ∀ j, InB2 j → ¬ In j ∧ vb.ownBlock ≠ some j ∧ va.ownBlock ≠ some j ∧ (Value.slice none 0 0).ownBlock ≠ some j from fun j hj => by
              have h1 := (X2.out.inlt hj).1
              refine ⟨fun h2 => ?_, fun h2 => ?_, fun h2 => ?_, fun h2 => by cases h2⟩
              · have := (M.out.bx.inlt h2).2; omega
              · have := (M.out.lt.1 j h2).2; omega
              · have := (M.out.lt.2.1 j h2).2; omega)
            have RW2 := Lib.hid (ROW.out wr M2.out.b)
            have z2 : ¬ (k : Int) < fn := by omega
            have hw1 : IntKind.i64.wrap ((i : Int) + 1) = (i : Int) + 1 := by rw [IntKind.wrap_i64]; have := HN.out; have := HLT.out; omega
            have WB := Lib.hid M.out.b.size
            have LA := Lib.hid (show all.length + fn ≤ 1000000 by have := HL.out; have := H50.out; have := HN.out; have := HLT.out; omega)
            have LI := Lib.hid (show i ≤ 1000 by have := HN.out; have := HLT.out; omega)
            clear hx2 hkl hkf hk M
            go_wp2_with (first
              | (at_builtin; refine wpList_append_own_at _ rfl _ _ 44 rfl w.heap.size 23 p0 (.pointer none) 1 8 Try.underlying44 pif pz0 pz1 pz2 rfl (by decide) vb i _ rfl M4.out ⟨w3.heap.size, 0, none⟩ 1 1 [.pointer (some ⟨B, 0, none⟩)] rfl rfl (cells_one6 _ _ _) (fun x hx => by simp at hx; subst hx; rfl) (by have := LI.out; unfold maxLen; omega) (by have := LI.out; omega) (by have := S3.out; simp; omega) ?_; intro v5 w5 ho5 hg5 hn5 hat5; clear hn5; have HO5 := Lib.hid ho5; have HG5 := Lib.hid hg5; have HT5 := Lib.hid hat5; clear ho5 hg5 hat5)
              | (at_builtin; refine wpList_append_row rfl _ _ rfl w.heap.size va all fa fn fc fz rfl rfl M2.out.ra RW2.out NIL.out LA.out M2.out.b.size ?_; intro v3 w3 hi3 hg3 hat3; have M3 := Lib.hid (M2.out.putA hg3 hat3 hi3); have X3 := Lib.hid (X2.out.keep (w' := w3) (fun j hj => hg3.block j (X2.out.inlt hj).2 (fun e => (HAP.out j hj).2.2.1 e.symm))); have S3 := Lib.hid M3.out.b.size; have V3 := Lib.hid (show ∀ j, InB2 j → v3.ownBlock ≠ some j from fun j hj e => (own_new35 hat3 e).elim (fun h1 => (HAP.out j hj).2.2.1 h1) (fun h1 => (by have := (X2.out.inlt hj).2; omega))); have M4 := Lib.hid (show (w3.alloc (.cells #[.pointer (some ⟨B, 0, none⟩)] 23)).ownsRow w.heap.size 23 1 vb i (Bs.map (fun B => Value.pointer (some ⟨B, 0, none⟩))) from by { have h := M3.out.rb; unfold PtrsR at h; rw [HBL.out] at h; exact h.alloc _ }); clear hi3 hg3 hat3))
            have hb4 : Below w3.heap.size w3 (w3.alloc (.cells #[.pointer (some ⟨B, 0, none⟩)] 23)) := (Below.refl _ w3).alloc (Nat.le_refl _) _
            have P5 : PtrsR w5 w.heap.size v5 (Bs ++ [B]) := PtrsR.of_append (by rw [HBL.out]; exact HO5.out)
            have M6 := Lib.hid ((M3.out.on hb4).more ((X3.out.lower WB.out).below hb4) (fun j hj => ⟨(HAP.out j hj).1, (HAP.out j hj).2.1, V3.out j hj, (HAP.out j hj).2.2.2⟩) HG5.out HT5.out P5)
            clear hb4 P5
            go_roundw
            case rel => exact ⟨v5, v3, Bs ++ [B], ls ++ [fz], _, all ++ fz, i + 1, rfl, rfl, by go_num, by have := HLT.out; omega, (by rw [List.length_append, HBL.out]; rfl : (Bs ++ [B]).length = i + 1), (by rw [HF.out]; simp : all ++ fz = (ls ++ [fz]).flatten), (by rw [List.length_append, ZL.out]; have := HL.out; have := H50.out; omega : (all ++ fz).length ≤ 50 * (i + 1)), M6⟩
            case measure => have := HLT.out; simp [intOf] <;> omega
      · have z50 : (50 : Int) < fn := by omega
        have BW := Lib.hid M.out.b
        clear M
        go_wp2_with fail
        refine (lives35 _).mono ?_
        rintro e wr ⟨rfl, b2⟩
        have FIN := Lib.hid (BW.out.trans (b2.mono BW.out.size))
        clear b2
        go_wp2
        go_ret
        exact ⟨rfl, FIN.out⟩
    · have hin : i = n := by omega
      obtain ⟨aa, ca, hva, -, -⟩ := M.out.ra.form
      obtain ⟨tl, htl⟩ : ∃ t, all.length = t := ⟨_, rfl⟩
      rw [htl] at hva
      subst hva
      have TL := Lib.hid htl
      have BN := Lib.hid (show Bs.length = n by rw [HBL.out]; exact hin)
      have TB := Lib.hid (show tl ≤ 1000 by rw [← htl]; have := HL.out; have := HN.out; omega)
      have z1 : ¬ (i : Int) < n := by omega
      clear HR HBL HL htl hi hlt hin hn
      go_wp2
      go_loopw [5, 12, 60] (fun x y z wr => ∃ (vg : Value) (ls : List (List Int)) (In : Nat → Prop) (got : List Int) (t last : Nat), vg = x ∧ y = .int .i64 last ∧ z = .int .i64 t ∧ t ≤ tl ∧ Hid (got.length = t) ∧ Hid (all = got ++ ls.flatten) ∧ Hid (∀ k, k < last → ls.getD k [] = []) ∧ Hid (Mf w wr vb (.slice aa tl ca) vg Bs ls In all got)) (fun _ _ z _ => tl - (intOf z).toNat)
      case atStart => exact ⟨_, ls, In, [], 0, 0, rfl, rfl, rfl, Nat.zero_le _, rfl, HF, (fun k hk => absurd hk (by omega)), M⟩
      case round =>
        clear M HF
        obtain ⟨vg, ls, In, got, t, last, rfl, rfl, rfl, ht, HG, HA, HE, M⟩ := hrel
        by_cases hlt : t < tl
        · have hne : ls.flatten ≠ [] := fun h0 => by
            have h1 := HA.out
            rw [h0, List.append_nil] at h1
            have h2 := HG.out
            rw [← h1, TL.out] at h2
            omega
          obtain ⟨i2, x, l, h1, h2, h3⟩ := first_some ls hne
          have hBL : Bs.length = ls.length := M.out.bx.1
          have GF := Lib.hid (gfirst_at M.out.bx M.out.rb (by rw [BN.out]; have := HN.out; omega) (by omega) h2 h3)
          have FL := Lib.hid (show all = (got ++ [x]) ++ (ls.set i2 l).flatten by rw [HA.out, flat_first ls i2 x l h2 h3]; simp)
          have FE := Lib.hid (show ∀ k, k < i2 → (ls.set i2 l).getD k [] = [] from fun k hk => by rw [getD_set35 ls i2 k l h1, if_neg (by omega)]; exact h3 k hk)
          have hil : ¬ (i2 : Int) < last := fun h => by
            have h4 := HE.out i2 (by omega)
            rw [h4] at h2
            cases h2
          have hin2 : ¬ (n : Int) ≤ i2 := by have := BN.out; omega
          have HLT := Lib.hid hlt
          have z2 : (t : Int) < tl := by omega
          have hw1 : IntKind.i64.wrap ((t : Int) + 1) = (t : Int) + 1 := by rw [IntKind.wrap_i64]; have := TB.out; omega
          clear h1 h2 h3 hBL hne hlt
          go_wp2_with fail
          refine GF.out.mono ?_
          rintro e w3 ⟨rfl, In3, x3, m3, -⟩
          have M3 := Lib.hid (M.out.boxes x3 m3)
          have MA := Lib.hid (M3.out.on ((Below.refl _ w3).alloc (Nat.le_refl _) (.cells #[.int .i64 x] 3)))
          clear x3 m3 GF M
          go_wp2_with (at_builtin; refine wpList_append_ints rfl _ _ rfl w.heap.size w3.heap.size vg _ got [x] rfl rfl MA.out.rg (ints_one w3 x) (by have := HG.out; have := TB.out; have := HLT.out; simp only [List.length_singleton]; omega) MA.out.b.size ?_; intro v4 w4 hi4 hg4 hat4; have M5 := Lib.hid (MA.out.putG hg4 hat4 hi4); clear hi4 hg4 hat4)
          go_roundw
          case rel => exact ⟨v4, ls.set i2 l, In3, got ++ [x], t + 1, i2, rfl, rfl, by go_num, HLT.out, (by rw [List.length_append, HG.out]; rfl : (got ++ [x]).length = t + 1), FL, FE, M5⟩
          case measure => have := HLT.out; simp [intOf] <;> omega
        · have htt : t = tl := by omega
          have hfl : ls.flatten = [] := by
            have h1 := congrArg List.length HA.out
            rw [List.length_append, HG.out, TL.out, htt] at h1
            exact List.length_eq_zero_iff.1 (by omega)
          have hal : all = got := by
            have h1 := HA.out
            rw [hfl, List.append_nil] at h1
            exact h1
          have GF := Lib.hid (gfirst_no M.out.bx M.out.rb (by rw [BN.out]; have := HN.out; omega) (fun k _ => flat_each ls hfl k))
          have z2 : ¬ (t : Int) < tl := by omega
          have HAL := Lib.hid hal
          clear htt hfl hal hlt ht
          go_wp2_with fail
          refine GF.out.mono ?_
          rintro e w3 ⟨rfl, hw3⟩
          rw [hw3]
          clear hw3 GF
          have SA := same6 _ _ (.slice aa tl ca) vg all (by rw [TL.out]; have := TB.out; omega) wr M.out.ra (by rw [HAL.out]; exact M.out.rg)
          have SA := Lib.hid SA
          go_wp2_with fail
          refine SA.out.mono ?_
          rintro e w4 ⟨rfl, b4⟩
          have B4 := Lib.hid (M.out.b.trans (b4.mono M.out.b.size))
          clear b4 SA
          go_wp2_with fail
          refine (lives35 _).mono ?_
          rintro e w5 ⟨rfl, b5⟩
          have FIN := Lib.hid (B4.out.trans (b5.mono B4.out.size))
          clear b5
          go_wp2
          go_ret
          exact ⟨rfl, FIN.out⟩
theorem walk_mailFirst (a : Option Addr) (n c : Nat) (fs : List Rw) {w : World} (hr : RowRw w a n fs) (hcap : n ≤ c) :
    Calls Try.prog 5 #[.slice a n c] w fun e w' => e = .returned (.bool true) ∧ Below w.heap.size w w' := by
  by_cases h : n ≤ 20
  · exact first35_at a n c fs h w hr
  · have hm := hr.2.1
    unfold maxLen at hm
    have z1 : (20 : Int) < n := by omega
    have LV := Lib.hid (lives35 w)
    clear hr h
    go_enter Try.func5, Try.ntmps5
    go_wp2_with fail
    refine LV.out.mono ?_
    rintro e w9 ⟨rfl, b9⟩
    go_wp2
    go_ret
    exact ⟨rfl, b9⟩
end Go.Proofs.Ytfjhcmihjffknaa
