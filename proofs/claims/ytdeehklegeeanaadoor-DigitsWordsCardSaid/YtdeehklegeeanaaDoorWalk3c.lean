/-
  The laws of words of layer 3, walked: true for any line and any texts. The package's variables hold what they are laid with.
-/
import Derived.Test.YtdeehklegeeanaaDoorDigLives
import Derived.Test.YtdeehklegeeanaaDoorDigWMath
import Derived.Test.YtdeehklegeeanaaDoorOpen2
import Derived.Deep.AppendLies
namespace Go.Proofs.YtdeehklegeeanaaDoor
set_option linter.unusedVariables false
set_option linter.unusedSimpArgs false
open Go.ChangeShapes Go.WideShapes Go.ChangeAt Go.RowKit
attribute [-go_sem] run_index_string binOp_string_eql binOp_string_neq run_string_add_if run_slice_string_from_if run_slice_string_to_if
attribute [local go_sem] index_bt add_fits slice_from slice_to eql_str neq_str alloc_drewN setCell_drewN

/-- A slice of texts, as it reads. -/
def Strs (w : World) (v : Value) (ss : List ByteArray) : Prop := ∃ a c, v = .slice a ss.length c ∧ (0 < ss.length → ∃ b off, a = some ⟨b, off, none⟩ ∧ b < w.heap.size ∧ ss.length ≤ c ∧ SCells w b off ss)
theorem Strs.of_own {w : World} {base : Nat} {v : Value} {ss : List ByteArray} (h : w.ownsRow base 9 1 v ss.length (ss.map Value.string)) : Strs w v ss := by
  rcases Nat.eq_zero_or_pos ss.length with h0 | h0
  · rcases h.2 with ⟨rfl, _⟩ | ⟨g, c, cur, rfl, _⟩
    · exact ⟨none, 0, by rw [h0], fun hh => by omega⟩
    · exact ⟨_, c, rfl, fun hh => by omega⟩
  · obtain ⟨g, c, rfl, hg, _, hl, hc⟩ := own_cells3 h h0
    exact ⟨_, c, rfl, fun _ => ⟨g, 0, rfl, hg, hl, hc⟩⟩
theorem Strs.below {w w' : World} {v : Value} {ss : List ByteArray} (h : Strs w v ss) (hb : Below w.heap.size w w') : Strs w' v ss := by
  obtain ⟨a, c, e, hh⟩ := h
  refine ⟨a, c, e, fun h0 => ?_⟩
  obtain ⟨b, off, ea, hlt, hl, hc⟩ := hh h0
  exact ⟨b, off, ea, Nat.lt_of_lt_of_le hlt hb.size, hl, fun i hi => (hb.cell (p := ⟨b, off + i, none⟩) hlt).trans (hc i hi)⟩
theorem same3 {w : World} {v v2 : Value} {ss : List ByteArray} (hn : ss.length ≤ 1000000) (h : Strs w v ss) (h2 : Strs w v2 ss) :
    Calls Tryd.prog 18 #[v, v2] w fun e w' => e = .returned (.bool true) ∧ Below w.heap.size w w' := by
  obtain ⟨a, c, rfl, hh⟩ := h
  obtain ⟨a2, c2, rfl, hh2⟩ := h2
  rcases Nat.eq_zero_or_pos ss.length with h0 | h0
  · rw [h0]; exact refsame_none a a2 c c2 w
  · obtain ⟨b, off, rfl, hlt, hl, hc⟩ := hh h0
    obtain ⟨b2, off2, rfl, hlt2, hl2, hc2⟩ := hh2 h0
    exact refsame_at b off c b2 off2 c2 ss hn w hlt hlt2 hc hc2
theorem join3 {w : World} {v : Value} {ss : List ByteArray} (hl : ln ss ss.length ≤ 1000000) (hn : ss.length ≤ 1000000) (h : Strs w v ss) :
    Calls Tryd.prog 21 #[v] w fun e w' => e = .returned (.string (jn ss ss.length)) ∧ Below w.heap.size w w' := by
  obtain ⟨a, c, rfl, hh⟩ := h
  rcases Nat.eq_zero_or_pos ss.length with h0 | h0
  · rw [h0]; exact join_none a c w
  · obtain ⟨b, off, rfl, hlt, hlc, hc⟩ := hh h0
    exact join_at b off c ss hl hn hlc w hlt hc
theorem refjoin3 {w : World} {v : Value} {ss : List ByteArray} (hl : ln ss ss.length ≤ 1000000) (hn : ss.length ≤ 1000000) (h : Strs w v ss) :
    Calls Tryd.prog 22 #[v] w fun e w' => e = .returned (.string (jn ss ss.length)) ∧ w = w' := by
  obtain ⟨a, c, rfl, hh⟩ := h
  rcases Nat.eq_zero_or_pos ss.length with h0 | h0
  · rw [h0]; exact refjoin_none a c w
  · obtain ⟨b, off, rfl, hlt, hlc, hc⟩ := hh h0
    exact refjoin_at b off c ss hl (by unfold maxLen; omega) w hc

set_option maxRecDepth 100000 in
set_option maxHeartbeats 4000000 in
theorem words3_at (s : ByteArray) (hs : s.size ≤ maxLen) (a : Option Addr) (c : Nat) (ss : List ByteArray) (hn : ss.length ≤ maxLen) (w : World) (h : Held3 w) (hl : Strs w (.slice a ss.length c) ss) (hz : ∀ x ∈ ss, x.size ≤ maxLen) :
    Calls Tryd.prog 5 #[.string s, .slice a ss.length c] w fun e w' => e = .returned (.bool true) ∧ Below w.heap.size w w' := by
  unfold maxLen at hs hn
  have H := Lib.hid h; have HL := Lib.hid hl; have HZ := Lib.hid hz
  clear h hl hz
  go_enter Tryd.func5, Tryd.ntmps5
  go_wp2
  go_loop [5, 10] (fun x y => ∃ k : Nat, k ≤ ss.length ∧ y = .int .i64 k ∧ x = .int .i64 (ln ss k) ∧ ln ss k ≤ 3000) (fun _ y => ss.length - (intOf y).toNat)
  case atStart => exact ⟨0, Nat.zero_le _, rfl, rfl, Nat.zero_le _⟩
  case round =>
    obtain ⟨k, hk, rfl, rfl, hln⟩ := hrel
    by_cases hlt : k < ss.length
    · obtain ⟨a', c', e', hh⟩ := HL.out
      obtain ⟨b, off, ea, hb, hlc, hc⟩ := hh (by omega)
      injection e' with e1 e2 e3
      subst e1
      subst ea
      have ck := hc k hlt
      have hzk := HZ.out (ss.getD k ByteArray.empty) (by rw [List.getD_eq_getElem?_getD, List.getElem?_eq_getElem hlt]; exact List.getElem_mem _)
      unfold maxLen at hzk
      have hstep : ln ss (k + 1) = ln ss k + (ss.getD k ByteArray.empty).size + 1 := rfl
      have HST := Lib.hid hstep
      clear hstep hc hh e2 e3
      generalize ss.getD k ByteArray.empty = x at *
      generalize ln ss k = q at *
      by_cases hbig : q + x.size + 1 ≤ 3000
      · have g1 : (x.size : Int) ≤ 10000 := by omega
        have g2 : ¬ (3000 : Int) < (q : Int) + ((x.size : Int) + 1) := by omega
        go_wp2
        go_round
        case rel => exact ⟨k + 1, by omega, by go_num, by rw [HST.out]; go_num, by rw [HST.out]; exact hbig⟩
        case measure => simp [intOf] <;> omega
      · have LV := Lib.hid (lives3 w H.out)
        by_cases hx : (x.size : Int) ≤ 10000
        · have g2 : (3000 : Int) < (q : Int) + ((x.size : Int) + 1) := by omega
          go_wp2_with fail
          refine LV.out.mono ?_
          rintro e w5 ⟨rfl, h5⟩
          go_wp2
          go_ret
          exact ⟨rfl, h5⟩
        · have g2 : (3000 : Int) < (q : Int) + (10000 + 1) := by omega
          have g3 : (10000 : Int) < x.size := by omega
          go_wp2_with fail
          refine LV.out.mono ?_
          rintro e w5 ⟨rfl, h5⟩
          go_wp2
          go_ret
          exact ⟨rfl, h5⟩
    · have ek : k = ss.length := by omega
      subst ek
      have HLN := Lib.hid hln
      clear hln
      by_cases hbig : 3000 < s.size
      · have LV := Lib.hid (lives3 w H.out)
        go_wp2_with fail
        refine LV.out.mono ?_
        rintro e w5 ⟨rfl, h5⟩
        go_wp2
        go_ret
        exact ⟨rfl, h5⟩
      · have W1 := Lib.hid (fun w => words_any s (by omega) w)
        have W2 := Lib.hid (fun w => refwords_any s (by omega) w)
        obtain ⟨hwl1, hwl2⟩ := wl_ln s
        go_wp2_with fail
        refine (W1.out _).mono ?_
        rintro e w1 ⟨v1, rfl, o1, b1⟩
        have S1 := Lib.hid (Strs.of_own o1)
        clear o1
        go_wp2_with fail
        refine (W2.out _).mono ?_
        rintro e w2 ⟨v2, rfl, o2, b2⟩
        have S2 := Lib.hid (Strs.of_own o2)
        have S1' := Lib.hid (S1.out.below b2)
        clear o2
        go_wp2_with fail
        refine (same3 (by omega) S1'.out S2.out).mono ?_
        rintro e w3 ⟨rfl, b3⟩
        have hb12 : Below w.heap.size w w2 := b1.trans (b2.mono b1.size)
        have hb3 : Below w.heap.size w w3 := hb12.trans (b3.mono hb12.size)
        have L3 := Lib.hid (HL.out.below hb3)
        have J1 := Lib.hid (join3 (by have := HLN.out; omega) (by
          have h1 : ∀ k, k ≤ ln ss k := fun k => by
            induction k with
            | zero => exact Nat.le_refl _
            | succ k ih => show k + 1 ≤ ln ss k + _ + 1; omega
          have := h1 ss.length; have := HLN.out; omega) L3.out)
        have HJ := Lib.hid (jn_size ss ss.length)
        go_wp2_with fail
        refine J1.out.mono ?_
        rintro e w4 ⟨rfl, b4⟩
        have hb4 : Below w.heap.size w w4 := hb3.trans (b4.mono hb3.size)
        have J2 := Lib.hid (refjoin3 (by have := HLN.out; omega) (by
          have h1 : ∀ k, k ≤ ln ss k := fun k => by
            induction k with
            | zero => exact Nat.le_refl _
            | succ k ih => show k + 1 ≤ ln ss k + _ + 1; omega
          have := h1 ss.length; have := HLN.out; omega) (HL.out.below hb4))
        have LV := Lib.hid (lives3 w4 (H.out.below hb4))
        generalize jn ss ss.length = j at *
        go_wp2_with fail
        refine J2.out.mono ?_
        rintro e w' ⟨rfl, rfl⟩
        go_wp2_with fail
        refine LV.out.mono ?_
        rintro e w5 ⟨rfl, h5⟩
        go_wp2
        go_ret
        exact ⟨rfl, hb4.trans (h5.mono hb4.size)⟩
theorem walk_digitsWords (s : ByteArray) (hs : s.size ≤ maxLen) (a : Option Addr) (n c : Nat) (ss : List ByteArray) {w : World} (hr : RowS w a n ss) (hcap : n ≤ c) (h : Held3 w) :
    Calls Tryd.prog 5 #[.string s, .slice a n c] w fun e w' => e = .returned (.bool true) ∧ Below w.heap.size w w' := by
  obtain ⟨hz, hm, hw, hc⟩ := hr
  subst hz
  refine words3_at s hs a c ss hm w h ⟨a, c, rfl, fun h0 => ?_⟩ hw
  obtain ⟨b, off, e, hb, hcell⟩ := hc h0
  exact ⟨b, off, e, hb, hcap, hcell⟩
end Go.Proofs.YtdeehklegeeanaaDoor
