/-
  The words of a line, by package digits. What lay below the heap's end stands. No condition but that lines are short.
-/
import Derived.Test.YtdeehklegeeanaaDoorDigRef3
import Derived.Laws.EntriesVeiled
namespace Go.Proofs.YtdeehklegeeanaaDoor
set_option linter.unusedVariables false
set_option linter.unusedSimpArgs false
open Go.ChangeShapes Go.WideShapes Go.ChangeAt Go.RowKit
attribute [-go_sem] run_index_string binOp_string_eql binOp_string_neq run_string_add_if run_slice_string_from_if run_slice_string_to_if
attribute [local go_sem] index_bt add_fits slice_from slice_to eql_str neq_str alloc_drewN setCell_drewN

/-- Does a place part words: an end of the line, or a blank? -/
def bk (s : ByteArray) (i : Int) : Bool := decide (i < 0) || (decide (i = s.size) || (decide (bt s i = 32) || decide (bt s i = 9)))
theorem blank_any (s : ByteArray) (hs : s.size ≤ 100000) (i : Int) (i0 : -1 ≤ i) (i1 : i ≤ s.size) (B : Nat) (w : World) (hB : w.cell? ⟨B, 0, none⟩ = some (.string s)) :
    Calls Tryd.prog 43 #[.int .i64 i, .pointer (some ⟨B, 0, none⟩)] w fun e w' => e = .returned (.bool (bk s i)) ∧ w = w' := by
  by_cases h0 : i < 0
  · have e : bk s i = true := by unfold bk; simp [h0]
    rw [e]
    clear e
    go_enter Tryd.func43, Tryd.ntmps43
    go_wp2
    go_ret
    exact ⟨rfl, rfl⟩
  · by_cases h1 : i = s.size
    · have e : bk s i = true := by unfold bk; simp [h1]
      rw [e]
      have g : (i == (s.size : Int)) = true := by simp [h1]
      have H1 := Lib.hid h1
      clear e h1
      go_enter Tryd.func43, Tryd.ntmps43
      go_wp2
      go_ret
      exact ⟨rfl, rfl⟩
    · have g : (i == (s.size : Int)) = false := by simp [h1]
      have hl : i < s.size := by omega
      by_cases h2 : bt s i = 32
      · have e : bk s i = true := by unfold bk; simp [h2]
        have g2 : (bt s i == 32) = true := by simp [h2]
        rw [e]
        clear e h1 h2
        go_enter Tryd.func43, Tryd.ntmps43
        go_wp2
        go_ret
        exact ⟨rfl, rfl⟩
      · have g2 : (bt s i == 32) = false := by simp [h2]
        by_cases h3 : bt s i = 9
        · have e : bk s i = true := by unfold bk; simp [h3]
          have g3 : (bt s i == 9) = true := by simp [h3]
          rw [e]
          clear e h1 h2 h3
          go_enter Tryd.func43, Tryd.ntmps43
          go_wp2
          go_ret
          exact ⟨rfl, rfl⟩
        · have e : bk s i = false := by unfold bk; simp [h0, h1, h2, h3]
          have g3 : (bt s i == 9) = false := by simp [h3]
          rw [e]
          clear e h1 h2 h3
          go_enter Tryd.func43, Tryd.ntmps43
          go_wp2
          go_ret
          exact ⟨rfl, rfl⟩

theorem begins_any (s : ByteArray) (hs : s.size ≤ 100000) (i : Int) (i0 : 0 ≤ i) (i1 : i ≤ s.size) (B C : Nat) (w : World) (hB : w.cell? ⟨B, 0, none⟩ = some (.string s)) (hC : w.cell? ⟨C, 0, none⟩ = some (.func (.func 43) #[] #[.pointer (some ⟨B, 0, none⟩)])) :
    Calls Tryd.prog 44 #[.int .i64 i, .pointer (some ⟨C, 0, none⟩)] w fun e w' => e = .returned (.bool (bk s (i - 1) && !bk s i)) ∧ w = w' := by
  have BK := Lib.hid (fun j j0 j1 => blank_any s hs j j0 j1 B w hB)
  go_enter Tryd.func44, Tryd.ntmps44
  go_wp2_with fail
  refine (BK.out (i - 1) (by omega) (by omega)).mono ?_
  rintro e w' ⟨rfl, rfl⟩
  cases hq : bk s (i - 1)
  · go_wp2
    go_ret
    exact ⟨by simp [hq], rfl⟩
  · go_wp2_with fail
    refine (BK.out i (by omega) (by omega)).mono ?_
    rintro e w' ⟨rfl, rfl⟩
    go_wp2
    go_ret
    exact ⟨by simp [hq], rfl⟩
theorem ends_any (s : ByteArray) (hs : s.size ≤ 100000) (i : Int) (i0 : 0 ≤ i) (i1 : i ≤ s.size) (B C : Nat) (w : World) (hB : w.cell? ⟨B, 0, none⟩ = some (.string s)) (hC : w.cell? ⟨C, 0, none⟩ = some (.func (.func 43) #[] #[.pointer (some ⟨B, 0, none⟩)])) :
    Calls Tryd.prog 45 #[.int .i64 i, .pointer (some ⟨C, 0, none⟩)] w fun e w' => e = .returned (.bool (!bk s (i - 1) && bk s i)) ∧ w = w' := by
  have BK := Lib.hid (fun j j0 j1 => blank_any s hs j j0 j1 B w hB)
  go_enter Tryd.func45, Tryd.ntmps45
  go_wp2_with fail
  refine (BK.out (i - 1) (by omega) (by omega)).mono ?_
  rintro e w' ⟨rfl, rfl⟩
  cases hq : bk s (i - 1)
  · go_wp2_with fail
    refine (BK.out i (by omega) (by omega)).mono ?_
    rintro e w' ⟨rfl, rfl⟩
    go_wp2
    go_ret
    exact ⟨by simp [hq], rfl⟩
  · go_wp2
    go_ret
    exact ⟨by simp [hq], rfl⟩

theorem ownsRow_lower (w : World) (b b2 : Nat) (t : TypeId) (z : Nat) (v : Value) (n : Nat) (xs : List Value) (hb : b2 ≤ b) (h : w.ownsRow b t z v n xs) : w.ownsRow b2 t z v n xs := by
  refine ⟨h.1, ?_⟩
  rcases h.2 with h2 | ⟨g, cap, cur, e, hg, hr⟩
  · exact Or.inl h2
  · exact Or.inr ⟨g, cap, cur, e, by omega, hr⟩
theorem bk_in (s : ByteArray) (k : Nat) (h : k < s.size) : bk s k = decide (Blank (bt s k)) := by
  unfold bk Blank
  have h1 : ¬ ((k : Int) < 0) := by omega
  have h2 : ¬ ((k : Int) = (s.size : Int)) := by omega
  rw [decide_eq_false h1, decide_eq_false h2]
  by_cases h3 : bt s k = 32
  · simp [h3]
  · simp [h3]
theorem bk_end (s : ByteArray) : bk s s.size = true := by unfold bk; simp
theorem bk_front (s : ByteArray) : bk s (-1) = true := by unfold bk; simp
/-- What is known ahead of place k: the words that are done, and where the one that is begun began. -/
def Rel (s : ByteArray) (k : Nat) (fr : Int) (out : List ByteArray) : Prop :=
  (k ≤ s.size ∧ out = (ws s k).1 ∧ ((bk s ((k : Int) - 1) = true ∧ (ws s k).2 = ⟨#[]⟩) ∨ (bk s ((k : Int) - 1) = false ∧ ∃ f : Nat, fr = f ∧ f < k ∧ (ws s k).2 = s.extract f k))) ∨ (k = s.size + 1 ∧ out = wl s)
theorem ext_ne (s : ByteArray) (f k : Nat) (h : f < k) (hk : k ≤ s.size) : s.extract f k ≠ ⟨#[]⟩ := by
  intro e
  have := size_ext s f k hk
  rw [e] at this
  have h0 : (⟨#[]⟩ : ByteArray).size = 0 := rfl
  omega
/-- One place further. -/
theorem rel_step (s : ByteArray) (k : Nat) (fr : Int) (out : List ByteArray) (hk : k ≤ s.size) (h : Rel s k fr out) :
    (bk s ((k : Int) - 1) = true → bk s k = true → Rel s (k + 1) fr out) ∧
    (bk s ((k : Int) - 1) = true → bk s k = false → Rel s (k + 1) k out) ∧
    (bk s ((k : Int) - 1) = false → bk s k = false → Rel s (k + 1) fr out) ∧
    (bk s ((k : Int) - 1) = false → bk s k = true → ∃ f : Nat, fr = f ∧ f < k ∧ Rel s (k + 1) fr (out ++ [s.extract f k])) := by
  have e : ((k + 1 : Nat) : Int) - 1 = (k : Int) := by omega
  rcases h with ⟨_, ho, hp⟩ | ⟨h1, _⟩
  · by_cases hlt : k < s.size
    · have hb := bk_in s k hlt
      have hws : ws s (k + 1) = if Blank (bt s k) then (if (ws s k).2 = ⟨#[]⟩ then (ws s k).1 else (ws s k).1 ++ [(ws s k).2], ⟨#[]⟩) else ((ws s k).1, (ws s k).2 ++ chrs [bt s k]) := rfl
      refine ⟨fun h1 h2 => ?_, fun h1 h2 => ?_, fun h1 h2 => ?_, fun h1 h2 => ?_⟩
      · rw [h2] at hb
        have hbl : Blank (bt s k) := of_decide_eq_true hb.symm
        rw [if_pos hbl] at hws
        rcases hp with ⟨_, hn⟩ | ⟨hn, _⟩
        · rw [if_pos hn] at hws
          exact Or.inl ⟨by omega, by rw [hws]; exact ho, Or.inl ⟨by rw [e]; exact h2, by rw [hws]⟩⟩
        · rw [h1] at hn; cases hn
      · rw [h2] at hb
        have hbl : ¬ Blank (bt s k) := of_decide_eq_false hb.symm
        rw [if_neg hbl] at hws
        rcases hp with ⟨_, hn⟩ | ⟨hn, _⟩
        · refine Or.inl ⟨by omega, by rw [hws]; exact ho, Or.inr ⟨by rw [e]; exact h2, k, rfl, by omega, ?_⟩⟩
          rw [hws, hn, ext_one s k hlt]
          refine str_ext (by rw [ByteArray.size_append]; show 0 + _ = _; omega) fun i hi => ?_
          rw [bt_append, if_neg (by show ¬ i < 0; omega)]; rfl
        · rw [h1] at hn; cases hn
      · rw [h2] at hb
        have hbl : ¬ Blank (bt s k) := of_decide_eq_false hb.symm
        rw [if_neg hbl] at hws
        rcases hp with ⟨hn, _⟩ | ⟨_, f, hf, hfk, hx⟩
        · rw [h1] at hn; cases hn
        · refine Or.inl ⟨by omega, by rw [hws]; exact ho, Or.inr ⟨by rw [e]; exact h2, f, hf, by omega, ?_⟩⟩
          rw [hws, hx, ← ext_one s k hlt]
          exact ext_join s f k (k + 1) (by omega) (by omega) (by omega)
      · rw [h2] at hb
        have hbl : Blank (bt s k) := of_decide_eq_true hb.symm
        rw [if_pos hbl] at hws
        rcases hp with ⟨hn, _⟩ | ⟨_, f, hf, hfk, hx⟩
        · rw [h1] at hn; cases hn
        · rw [if_neg (by rw [hx]; exact ext_ne s f k hfk hk)] at hws
          exact ⟨f, hf, hfk, Or.inl ⟨by omega, by rw [hws, ← hx, ho], Or.inl ⟨by rw [e]; exact h2, by rw [hws]⟩⟩⟩
    · have ek : k = s.size := by omega
      subst ek
      have hbe := bk_end s
      have hwl : wl s = if (ws s s.size).2 = ⟨#[]⟩ then (ws s s.size).1 else (ws s s.size).1 ++ [(ws s s.size).2] := rfl
      refine ⟨fun h1 h2 => ?_, fun h1 h2 => ?_, fun h1 h2 => ?_, fun h1 h2 => ?_⟩
      · rcases hp with ⟨_, hn⟩ | ⟨hn, _⟩
        · rw [if_pos hn] at hwl
          exact Or.inr ⟨rfl, by rw [hwl]; exact ho⟩
        · rw [h1] at hn; cases hn
      · rw [h2] at hbe; cases hbe
      · rw [h2] at hbe; cases hbe
      · rcases hp with ⟨hn, _⟩ | ⟨_, f, hf, hfk, hx⟩
        · rw [h1] at hn; cases hn
        · rw [if_neg (by rw [hx]; exact ext_ne s f _ hfk hk)] at hwl
          exact ⟨f, hf, hfk, Or.inr ⟨rfl, by rw [hwl, ← hx, ho]⟩⟩
  · omega
theorem rel_start (s : ByteArray) : Rel s 0 0 [] := Or.inl ⟨Nat.zero_le _, rfl, Or.inl ⟨bk_front s, rfl⟩⟩

theorem rel_len (s : ByteArray) (k : Nat) (fr : Int) (out : List ByteArray) (h : Rel s k fr out) : out.length ≤ s.size + 1 := by
  rcases h with ⟨hk, ho, _⟩ | ⟨_, ho⟩
  · rw [ho]
    have := (ws_small s k).1
    omega
  · rw [ho]
    have := (ws_small s s.size).1
    unfold wl
    split
    · omega
    · rw [List.length_append]; simp; omega

set_option maxRecDepth 100000 in
set_option maxHeartbeats 2000000 in
theorem words_any (s : ByteArray) (hs : s.size ≤ 100000) (w : World) :
    Calls Tryd.prog 19 #[.string s] w fun e w' => ∃ v, e = .returned v ∧ w'.ownsRow w.heap.size 9 1 v (wl s).length ((wl s).map Value.string) ∧ Below w.heap.size w w' := by
  obtain ⟨i0, hi, hz0, hz1, hz2⟩ := info_parts infoStr
  have hB0 : ((w.alloc (.cells #[.string s] 9)).alloc (.cells #[.func (.func 43) #[] #[.pointer (some ⟨w.heap.size, 0, none⟩)]] 48)).cell? ⟨w.heap.size, 0, none⟩ = some (.string s) := by simp [go_sem]
  have hC0 : ((w.alloc (.cells #[.string s] 9)).alloc (.cells #[.func (.func 43) #[] #[.pointer (some ⟨w.heap.size, 0, none⟩)]] 48)).cell? ⟨w.heap.size + 1, 0, none⟩ = some (.func (.func 43) #[] #[.pointer (some ⟨w.heap.size, 0, none⟩)]) := by simp [go_sem]
  have hs0 : ((w.alloc (.cells #[.string s] 9)).alloc (.cells #[.func (.func 43) #[] #[.pointer (some ⟨w.heap.size, 0, none⟩)]] 48)).heap.size = w.heap.size + 2 := by simp
  have hb0 : Below w.heap.size w ((w.alloc (.cells #[.string s] 9)).alloc (.cells #[.func (.func 43) #[] #[.pointer (some ⟨w.heap.size, 0, none⟩)]] 48)) := ((Below.refl _ _).alloc (Nat.le_refl _) _).alloc (by simp) _
  have HB0 := Lib.hid hB0; have HC0 := Lib.hid hC0; have HS0 := Lib.hid hs0; have Hb0 := Lib.hid hb0
  clear hB0 hC0 hs0 hb0
  go_enter Tryd.func19, Tryd.ntmps19
  go_wp2_with fail
  obtain ⟨W0, hW0⟩ : ∃ W0, (w.alloc (.cells #[.string s] 9)).alloc (.cells #[.func (.func 43) #[] #[.pointer (some ⟨w.heap.size, 0, none⟩)]] 48) = W0 := ⟨_, rfl⟩
  rw [hW0] at HB0 HC0 HS0 Hb0 ⊢
  clear hW0
  go_loopw [6, 7, 15] (fun x y z wr => ∃ (v : Value) (k : Nat) (fr : Int) (out : List ByteArray), v = x ∧ k ≤ s.size + 1 ∧ z = .int .i64 k ∧ y = .int .i64 fr ∧ Rel s k fr out ∧ wr.ownsRow (w.heap.size + 2) 9 1 v out.length (out.map Value.string) ∧ Below W0.heap.size W0 wr) (fun _ _ z _ => s.size + 1 - (intOf z).toNat)
  case atStart => exact ⟨_, 0, 0, [], rfl, Nat.zero_le _, rfl, rfl, rel_start s, World.ownsRow_nil _ _ _ _, Below.refl _ _⟩
  case round =>
    obtain ⟨v, k, fr, out, rfl, hk, rfl, rfl, hrl, ho, hbw⟩ := hrel
    have hsz := hbw.size
    have hS0 := HS0.out
    have cB := (hbw.cell (p := ⟨w.heap.size, 0, none⟩) (by show w.heap.size < _; omega)).trans HB0.out
    have cC := (hbw.cell (p := ⟨w.heap.size + 1, 0, none⟩) (by show w.heap.size + 1 < _; omega)).trans HC0.out
    have HBW := Lib.hid hbw
    have hlen := rel_len s k fr out hrl
    by_cases hlt : k ≤ s.size
    · have BG := Lib.hid (begins_any s hs (k : Int) (by omega) (by omega) w.heap.size (w.heap.size + 1) wr cB cC)
      have EN := Lib.hid (ends_any s hs (k : Int) (by omega) (by omega) w.heap.size (w.heap.size + 1) wr cB cC)
      obtain ⟨t1, t2, t3, t4⟩ := rel_step s k fr out hlt hrl
      have T1 := Lib.hid t1; have T2 := Lib.hid t2; have T3 := Lib.hid t3; have T4 := Lib.hid t4
      clear t1 t2 t3 t4 hrl hbw
      have hwr : wr.heap.size = wr.heap.size := rfl
      cases hp : bk s ((k : Int) - 1) <;> cases hq : bk s (k : Int) <;> rw [hp, hq] at BG EN
      · have R := Lib.hid (T3.out hp hq)
        clear hp hq
        go_wp2_with fail
        refine BG.out.mono ?_
        rintro e w' ⟨rfl, rfl⟩
        go_wp2_with fail
        refine EN.out.mono ?_
        rintro e w' ⟨rfl, rfl⟩
        go_wp2
        go_roundw
        case rel => exact ⟨v, k + 1, fr, out, rfl, by omega, by go_num, rfl, R.out, ho, HBW.out⟩
        case measure => simp [intOf] <;> omega
      · obtain ⟨f, rfl, hf, hR⟩ := T4.out hp hq
        have R := Lib.hid hR
        clear hp hq hR
        have k1 : (f : Int) ≤ (k : Int) := by omega
        have k2 : (k : Int) ≤ (s.size : Int) := by omega
        go_wp2_with fail
        refine BG.out.mono ?_
        rintro e w' ⟨rfl, rfl⟩
        go_wp2_with fail
        refine EN.out.mono ?_
        rintro e w' ⟨rfl, rfl⟩
        go_wp2_with (at_builtin; refine wpList_append_own _ rfl _ _ 32 rfl (w.heap.size + 2) 9 i0 (.string ⟨#[]⟩) 1 16 Tryd.underlying32 hi hz0 hz1 hz2 rfl (by decide) _ _ _ rfl (ho.alloc _) ⟨wr.heap.size, 0, none⟩ 1 1 [.string (s.extract f k)] rfl rfl (cells_new1 _ _ _) (fun x hx => by simp at hx; subst hx; rfl) (by unfold maxLen; omega) (by omega) (by simp; omega) ?_; intro v' w3 hown' hgrow3 hnil3; clear hnil3)
        go_roundw
        case rel => exact ⟨v', k + 1, f, out ++ [s.extract f k], rfl, by omega, by go_num, rfl, R.out, by rw [List.length_append, List.map_append]; exact hown', (HBW.out.alloc (by omega) _).grown hgrow3 (by simp; omega) (fun g hg => by have := (World.ownsRow.lt ho g hg).1; omega)⟩
        case measure => simp [intOf] <;> omega
      · have R := Lib.hid (T2.out hp hq)
        clear hp hq
        go_wp2_with fail
        refine BG.out.mono ?_
        rintro e w' ⟨rfl, rfl⟩
        go_wp2_with fail
        refine EN.out.mono ?_
        rintro e w' ⟨rfl, rfl⟩
        go_wp2
        go_roundw
        case rel => exact ⟨v, k + 1, k, out, rfl, by omega, by go_num, rfl, R.out, ho, HBW.out⟩
        case measure => simp [intOf] <;> omega
      · have R := Lib.hid (T1.out hp hq)
        clear hp hq
        go_wp2_with fail
        refine BG.out.mono ?_
        rintro e w' ⟨rfl, rfl⟩
        go_wp2_with fail
        refine EN.out.mono ?_
        rintro e w' ⟨rfl, rfl⟩
        go_wp2
        go_roundw
        case rel => exact ⟨v, k + 1, fr, out, rfl, by omega, by go_num, rfl, R.out, ho, HBW.out⟩
        case measure => simp [intOf] <;> omega
    · have ek : k = s.size + 1 := by omega
      subst ek
      have hout : out = wl s := by
        rcases hrl with ⟨h1, _⟩ | ⟨_, h⟩
        · omega
        · exact h
      subst hout
      have ho2 := Lib.hid (ownsRow_lower wr (w.heap.size + 2) w.heap.size _ _ _ _ _ (by omega) ho)
      have HF := Lib.hid (Hb0.out.trans (hbw.mono (by omega)))
      clear hrl ho hbw
      go_wp2
      go_ret
      exact ⟨v, rfl, ho2.out, HF.out⟩
end Go.Proofs.YtdeehklegeeanaaDoor
