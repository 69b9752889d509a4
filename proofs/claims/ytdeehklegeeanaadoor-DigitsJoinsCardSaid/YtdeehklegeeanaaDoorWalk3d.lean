/-
  The law of joined words of layer 3, walked: true for any two lines. The package's variables hold what they are laid with.
-/
import Derived.Test.YtdeehklegeeanaaDoorWalk3c
import Derived.Laws.AppendOwnNone
import Derived.Deep.CutBlock
import Derived.Deep.DeepCutAuto
namespace Go.Proofs.YtdeehklegeeanaaDoor
set_option linter.unusedVariables false
set_option linter.unusedSimpArgs false
open Go.ChangeShapes Go.WideShapes Go.ChangeAt Go.RowKit
attribute [-go_sem] run_index_string binOp_string_eql binOp_string_neq run_string_add_if run_slice_string_from_if run_slice_string_to_if
attribute [local go_sem] index_bt add_fits slice_from slice_to eql_str neq_str alloc_drewN setCell_drewN

theorem strs_cell (xs : List ByteArray) : ∀ u ∈ xs.map Value.string, u.oneCell' = true := fun u hu => by
  obtain ⟨y, _, rfl⟩ := List.mem_map.1 hu; rfl
set_option maxRecDepth 100000 in
set_option maxHeartbeats 8000000 in
theorem walk_digitsJoins (s : ByteArray) (hs : s.size ≤ maxLen) (t : ByteArray) (ht : t.size ≤ maxLen) (w : World) (h : Held3 w) :
    Calls Tryd.prog 6 #[.string s, .string t] w fun e w' => e = .returned (.bool true) ∧ Below w.heap.size w w' := by
  unfold maxLen at hs ht
  have LV := Lib.hid (lives3 w h)
  by_cases h1 : 2000 < s.size
  · clear h
    go_enter Tryd.func6, Tryd.ntmps6
    go_wp2_with fail
    refine LV.out.mono ?_
    rintro e w5 ⟨rfl, h5⟩
    go_wp2
    go_ret
    exact ⟨rfl, h5⟩
  · by_cases h2 : 2000 < t.size
    · clear h
      have h1' : ¬ (2000 : Int) < s.size := by omega
      go_enter Tryd.func6, Tryd.ntmps6
      go_wp2_with fail
      refine LV.out.mono ?_
      rintro e w5 ⟨rfl, h5⟩
      go_wp2
      go_ret
      exact ⟨rfl, h5⟩
    · have H := Lib.hid h
      clear h LV
      obtain ⟨i0, hi, hz0, hz1, hz2⟩ := info_parts infoStr
      have W1 := Lib.hid (fun w => words_any s (by omega) w)
      have W2 := Lib.hid (fun w => words_any t (by omega) w)
      have HLS := Lib.hid (wl_ln s)
      have HLT := Lib.hid (wl_ln t)
      have hns : (wl s).length ≤ 2001 := by have := HLS.out.2; omega
      have hnt : (wl t).length ≤ 2001 := by have := HLT.out.2; omega
      have JN := Lib.hid (wl_jn (wl s) (wl_words s))
      have JZ := Lib.hid (jn_size (wl s) (wl s).length)
      have BT := Lib.hid (wl_between s t)
      have f1 : Fits ⟨#[32, 9]⟩ s := ⟨by have : (⟨#[32, 9]⟩ : ByteArray).size = 2 := rfl; omega⟩
      have f2 : Fits (⟨#[32, 9]⟩ ++ s) ⟨#[9, 32, 32]⟩ := ⟨by have : (⟨#[32, 9]⟩ : ByteArray).size = 2 := rfl; have : (⟨#[9, 32, 32]⟩ : ByteArray).size = 3 := rfl; rw [ByteArray.size_append]; omega⟩
      have f3 : Fits ((⟨#[32, 9]⟩ ++ s) ++ ⟨#[9, 32, 32]⟩) t := ⟨by have : (⟨#[32, 9]⟩ : ByteArray).size = 2 := rfl; have : (⟨#[9, 32, 32]⟩ : ByteArray).size = 3 := rfl; rw [ByteArray.size_append, ByteArray.size_append]; omega⟩
      have f4 : Fits (((⟨#[32, 9]⟩ ++ s) ++ ⟨#[9, 32, 32]⟩) ++ t) ⟨#[32]⟩ := ⟨by have : (⟨#[32, 9]⟩ : ByteArray).size = 2 := rfl; have : (⟨#[9, 32, 32]⟩ : ByteArray).size = 3 := rfl; have : (⟨#[32]⟩ : ByteArray).size = 1 := rfl; rw [ByteArray.size_append, ByteArray.size_append, ByteArray.size_append]; omega⟩
      have hbig : ((((⟨#[32, 9]⟩ ++ s) ++ ⟨#[9, 32, 32]⟩) ++ t) ++ ⟨#[32]⟩ : ByteArray).size ≤ 100000 := by
        have : (⟨#[32, 9]⟩ : ByteArray).size = 2 := rfl; have : (⟨#[9, 32, 32]⟩ : ByteArray).size = 3 := rfl; have : (⟨#[32]⟩ : ByteArray).size = 1 := rfl
        rw [ByteArray.size_append, ByteArray.size_append, ByteArray.size_append, ByteArray.size_append]; omega
      have W3 := Lib.hid (fun w => words_any ((((⟨#[32, 9]⟩ ++ s) ++ ⟨#[9, 32, 32]⟩) ++ t) ++ ⟨#[32]⟩) hbig w)
      rw [BT.out] at W3
      generalize hl : wl s = l at *
      generalize hm : wl t = m at *
      have W4 := Lib.hid (fun w => words_any (jn l l.length) (by have := JZ.out; have := HLS.out.1; omega) w)
      rw [JN.out] at W4
      clear hl hm BT JN hbig
      go_enter Tryd.func6, Tryd.ntmps6
      go_wp2_with fail
      refine (W1.out _).mono ?_
      rintro e w1 ⟨vl, rfl, o1, b1⟩
      go_wp2_with fail
      refine (W2.out _).mono ?_
      rintro e w2 ⟨vm, rfl, o2, b2⟩
      have hb2 : Below w.heap.size w w2 := b1.trans (b2.mono b1.size)
      have SL0 := Lib.hid ((Strs.of_own o1).below b2)
      have o1' : w2.ownsRow w.heap.size 9 1 vl l.length (l.map Value.string) := o1.kept (row := some w1.heap.size) ⟨b2.os, b2.tape, b2.output, b2.size, fun k hk _ => b2.block k hk⟩ (Or.inr (fun hh => by have := o1.lt _ hh; omega))
      have HB2 := Lib.hid hb2
      have hs2 := hb2.size
      have s1 := b1.size
      clear o1 b1 b2 hb2
      go_upto_region 5 with (fail)
      go_cut [7] (fun y wx => ∃ vb, vb = y ∧ Strs wx vb (l ++ m) ∧ Below w2.heap.size w2 wx)
      case first =>
        have HN1 := Lib.hid (show (l.map Value.string).length = l.length * 1 by simp)
        have HN2 := Lib.hid (show (m.map Value.string).length = m.length * 1 by simp)
        have H1 := Lib.hid (strs_cell l)
        have H2 := Lib.hid (strs_cell m)
        rcases o1'.2 with ⟨rfl, e1⟩ | ⟨g1, c1, cur1, rfl, hg1, hh1, _⟩
        · have el : l = [] := List.eq_nil_of_length_eq_zero e1
          subst el
          rcases o2.2 with ⟨rfl, e2⟩ | ⟨g2, c2, cur2, rfl, hg2, hh2, _⟩
          · have em : m = [] := List.eq_nil_of_length_eq_zero e2
            subst em
            clear o1' o2
            go_wp2
            go_meet
            case rel => exact ⟨_, rfl, ⟨none, 0, rfl, fun h => absurd h (by simp)⟩, Below.refl _ _⟩
          · have HC2 := Lib.hid (o2.cells (g := g2) rfl)
            clear o1' o2 hh2
            go_wp2_with (at_builtin; refine wpList_append_own _ rfl _ _ 32 rfl w2.heap.size 9 i0 (.string ⟨#[]⟩) 1 16 Tryd.underlying32 hi hz0 hz1 hz2 rfl (by decide) (.slice none 0 0) 0 [] rfl (World.ownsRow_nil _ _ _ _) ⟨g2, 0, none⟩ m.length c2 (m.map Value.string) rfl HN2.out HC2.out H2.out (by unfold maxLen; omega) (by omega) (by simp) ?_; intro v3 w3 ho3 hg3 hn3; clear hn3)
            go_meet
            case rel => exact ⟨v3, rfl, Strs.of_own (by rw [List.nil_append] at ho3 ⊢; rw [Nat.zero_add] at ho3; exact ho3), (Below.refl _ _).grown hg3 (Nat.le_refl _) (fun g hg => by simp [Value.ownBlock] at hg)⟩
        · have HC1 := Lib.hid (o1'.cells (g := g1) rfl)
          rcases o2.2 with ⟨rfl, e2⟩ | ⟨g2, c2, cur2, rfl, hg2, hh2, _⟩
          · have em : m = [] := List.eq_nil_of_length_eq_zero e2
            subst em
            clear o1' o2 hh1
            go_wp2_with (first
              | (at_builtin; refine wpList_append_own _ rfl _ _ 32 rfl w2.heap.size 9 i0 (.string ⟨#[]⟩) 1 16 Tryd.underlying32 hi hz0 hz1 hz2 rfl (by decide) (.slice none 0 0) 0 [] rfl (World.ownsRow_nil _ _ _ _) ⟨g1, 0, none⟩ l.length c1 (l.map Value.string) rfl HN1.out HC1.out H1.out (by unfold maxLen; omega) (by omega) (by simp) ?_; intro v3 w3 ho3 hg3 hn3; clear hn3; rw [Nat.zero_add, List.nil_append] at ho3)
              | (at_builtin; refine wpList_append_own_none rfl _ _ 32 rfl w2.heap.size 9 i0 1 Tryd.underlying32 hi v3 l.length (l.map Value.string) rfl ho3 rfl ?_))
            go_meet
            case rel => exact ⟨v3, rfl, Strs.of_own (by rw [List.append_nil]; exact ho3), (Below.refl _ _).grown hg3 (Nat.le_refl _) (fun g hg => by simp [Value.ownBlock] at hg)⟩
          · have hc2 := o2.cells (g := g2) rfl
            have hlt2 := (Array.getElem?_eq_some_iff.1 hh2).1
            have HC2 := Lib.hid hc2
            clear o1' o2 hh1 hc2
            go_wp2_with (first
              | (at_builtin; refine wpList_append_own _ rfl _ _ 32 rfl w2.heap.size 9 i0 (.string ⟨#[]⟩) 1 16 Tryd.underlying32 hi hz0 hz1 hz2 rfl (by decide) (.slice none 0 0) 0 [] rfl (World.ownsRow_nil _ _ _ _) ⟨g1, 0, none⟩ l.length c1 (l.map Value.string) rfl HN1.out HC1.out H1.out (by unfold maxLen; omega) (by omega) (by simp) ?_; intro v3 w3 ho3 hg3 hn3; clear hn3; rw [Nat.zero_add, List.nil_append] at ho3; have hb3 : Below w2.heap.size w2 w3 := (Below.refl _ _).grown hg3 (Nat.le_refl _) (fun g hg => by simp [Value.ownBlock] at hg); have HB3 := Lib.hid hb3; have hs3 := hb3.size; have HC3 : Hid (∀ j u, (m.map Value.string)[j]? = some u → w3.cell? ((⟨g2, 0, none⟩ : Addr).add j) = some u) := Lib.hid (fun j u hj => (hb3.cell (p := (⟨g2, 0, none⟩ : Addr).add j) (by simp [Addr.add]; split <;> exact hlt2)).trans (HC2.out j u hj)); clear hb3)
              | (at_builtin; refine wpList_append_own _ rfl _ _ 32 rfl w2.heap.size 9 i0 (.string ⟨#[]⟩) 1 16 Tryd.underlying32 hi hz0 hz1 hz2 rfl (by decide) v3 l.length (l.map Value.string) rfl ho3 ⟨g2, 0, none⟩ m.length c2 (m.map Value.string) rfl HN2.out HC3.out H2.out (by unfold maxLen; omega) (by omega) hs3 ?_; intro v4 w4 ho4 hg4 hn4; clear hn4))
            go_meet
            case rel => exact ⟨v4, rfl, Strs.of_own (by rw [List.length_append, List.map_append]; exact ho4), HB3.out.grown hg4 hs3 (fun g hg => (ho3.lt g hg).1)⟩
      case rest =>
        obtain ⟨vb, rfl, SB, hbc⟩ := hcut
        have SBH := Lib.hid SB
        have HBC := Lib.hid (HB2.out.trans (hbc.mono hs2))
        have SL := Lib.hid (SL0.out.below hbc)
        clear SB hbc SL0 o1' o2
        have J1 := Lib.hid (join3 (by have := HLS.out.1; omega) (by omega) SL.out)
        go_wp2_with fail
        refine J1.out.mono ?_
        rintro e w4 ⟨rfl, b4⟩
        have HB4 := Lib.hid (HBC.out.trans (b4.mono HBC.out.size))
        have SL4 := Lib.hid (SL.out.below b4)
        have SB4 := Lib.hid (SBH.out.below b4)
        clear b4 SL SBH J1
        generalize jn l l.length = j at *
        go_wp2_with fail
        refine (W4.out _).mono ?_
        rintro e w5 ⟨v5, rfl, o5, b5⟩
        have S5 := Lib.hid (Strs.of_own o5)
        have HB5 := Lib.hid (HB4.out.trans (b5.mono HB4.out.size))
        have SL5 := Lib.hid (SL4.out.below b5)
        have SB5 := Lib.hid (SB4.out.below b5)
        clear b5 SL4 SB4 o5
        go_wp2_with fail
        refine (same3 (by omega) S5.out SL5.out).mono ?_
        rintro e w6 ⟨rfl, b6⟩
        have HB6 := Lib.hid (HB5.out.trans (b6.mono HB5.out.size))
        have SB6 := Lib.hid (SB5.out.below b6)
        clear b6 SL5 SB5 S5
        go_wp2_with fail
        refine (W3.out _).mono ?_
        rintro e w7 ⟨v7, rfl, o7, b7⟩
        have S7 := Lib.hid (Strs.of_own o7)
        have HB7 := Lib.hid (HB6.out.trans (b7.mono HB6.out.size))
        have SB7 := Lib.hid (SB6.out.below b7)
        clear b7 SB6 o7
        go_wp2_with fail
        refine (same3 (by rw [List.length_append]; omega) S7.out SB7.out).mono ?_
        rintro e w8 ⟨rfl, b8⟩
        have HB8 := Lib.hid (HB7.out.trans (b8.mono HB7.out.size))
        have LV := Lib.hid (lives3 w8 (H.out.below HB8.out))
        clear b8
        go_wp2_with fail
        refine LV.out.mono ?_
        rintro e w9 ⟨rfl, b9⟩
        go_wp2
        go_ret
        exact ⟨rfl, HB8.out.trans (b9.mono HB8.out.size)⟩
end Go.Proofs.YtdeehklegeeanaaDoor
