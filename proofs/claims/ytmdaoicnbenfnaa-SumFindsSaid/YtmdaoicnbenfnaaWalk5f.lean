/-
  The law of parts and of changed bytes of layer 5, walked: it returns true for any strings. No condition.
-/
import Derived.Test.YtmdaoicnbenfnaaWalk5
namespace Go.Proofs.Ytmdaoicnbenfnaa
set_option linter.unusedVariables false
set_option linter.unusedSimpArgs false
open Go.ChangeShapes Go.WideShapes Go.ChangeAt Go.RowKit
attribute [-go_sem] run_index_string binOp_string_eql binOp_string_neq run_string_add_if run_slice_string_from_if run_slice_string_to_if
attribute [local go_sem] index_bt add_fits slice_from slice_to eql_str neq_str alloc_drewN setCell_drewN conv_one conv_four conv_one_drew conv_four_two

theorem one_cell2 (w : World) (o : Obj) (v : Value) (t : TypeId) : ((w.alloc o).alloc (.cells #[v] t)).cell? ⟨w.heap.size + 1, 0, none⟩ = some v := by
  have := one_cell (w.alloc o) v t
  have hs : (w.alloc o).heap.size = w.heap.size + 1 := by simp
  rw [hs] at this
  exact this

set_option maxHeartbeats 4000000 in
theorem finds_at (b off c : Nat) (ss : List ByteArray) (hm : ss.length ≤ maxLen) (a : Int) (a0 : -9223372036854775808 ≤ a) (a1 : a ≤ 9223372036854775807) (d : Int) (d0 : 0 ≤ d) (d1 : d ≤ 255) (w : World) (hb : b < w.heap.size)
    (hc : ∀ i, i < ss.length → w.cell? ⟨b, off + i, none⟩ = some (.string (ss.getD i ByteArray.empty))) :
    Calls Try.prog 10 #[.slice (some ⟨b, off, none⟩) ss.length c, .int .i64 a, .int .u8 d] w fun e w' => e = .returned (.bool true) ∧ Below w.heap.size w w' := by
  have HM := Lib.hid hm
  unfold maxLen at hm
  have HC := Lib.hid hc; clear hc
  go_enter Try.func10, Try.ntmps10
  go_wp2
  go_loop [7, 17] (fun v i => ∃ k : Nat, k ≤ ss.length ∧ i = .int .i64 k ∧ v = .string (cat (ss.take k)) ∧ (cat (ss.take k)).size ≤ 6000 ∧ ∀ x ∈ ss.take k, x.size ≤ 1000) (fun _ i => ss.length - (intOf i).toNat)
  case atStart => exact ⟨0, Nat.zero_le _, rfl, rfl, by show (0 : Nat) ≤ 6000; omega, fun x hx => by cases hx⟩
  case round =>
    obtain ⟨k, hk, rfl, rfl, h6, hall⟩ := hrel
    by_cases hlt : k < ss.length
    · have hcell := HC.out k hlt
      have hT := cat_take ss k hlt
      have HT := Lib.hid hT
      have hmem : ss.take (k + 1) = ss.take k ++ [ss.getD k ByteArray.empty] := by
        rw [List.take_add_one, List.getD_eq_getElem?_getD, List.getElem?_eq_getElem hlt]; rfl
      have hsz : (cat (ss.take (k + 1))).size = (cat (ss.take k)).size + (ss.getD k ByteArray.empty).size := by rw [← hT, ByteArray.size_append]
      have HA := Lib.hid hall; have HMem := Lib.hid hmem; have HZ := Lib.hid hsz
      clear hT hall hmem hsz
      generalize ss.getD k ByteArray.empty = x at *
      by_cases h1 : 1000 < x.size
      · go_wp2_with fail
        refine (lives5 _).mono ?_
        rintro e w5 ⟨rfl, h5⟩
        go_wp2
        go_ret
        exact ⟨rfl, h5⟩
      · by_cases h2 : 5000 < (cat (ss.take k)).size
        · go_wp2_with fail
          refine (lives5 _).mono ?_
          rintro e w5 ⟨rfl, h5⟩
          go_wp2
          go_ret
          exact ⟨rfl, h5⟩
        · have hf : Fits (cat (ss.take k)) x := ⟨by omega⟩
          go_wp2
          rw [HT.out]
          go_round
          case rel => exact ⟨k + 1, by omega, by go_num, rfl, by rw [HZ.out]; omega, fun y hy => by
            rw [HMem.out] at hy
            rcases List.mem_append.1 hy with h | h
            · exact HA.out y h
            · simp at h; subst h; omega⟩
          case measure => simp [intOf]; omega
    · have ek : k = ss.length := by omega
      subst ek
      have er : ss.take ss.length = ss := List.take_of_length_le (by simp)
      rw [er] at hall h6
      rw [er]
      have OA := Lib.hid (fun w' hc' => of_at b off ss.length c ss rfl (fun x hx => by have := hall x hx; omega) HM.out w' hc')
      have mc := mor_cat ss
      rw [mc] at OA
      clear mc er hall
      generalize cat ss = s at *
      have OF := Lib.hid (fun b c w hc => of_one b c s (by omega) w hc)
      go_wp2_with fail
      refine (OA.out _ HC.out).mono ?_
      rintro e w' ⟨rfl, rfl⟩
      go_wp2_with fail
      refine (OF.out _ _ _ (one_cell _ _ _)).mono ?_
      rintro e w' ⟨rfl, rfl⟩
      go_wp2_with fail
      refine (seal_any s (by omega) _).mono ?_
      rintro e w1 ⟨rfl, hb1⟩
      have es : (seal4 s).size = s.size + 4 := by unfold seal4; rw [ByteArray.size_append, four_size]
      by_cases h0 : s.size = 0
      · rw [h0] at es
        have g0 : ((s.size : Int) == 0) = true := by simp [h0]
        go_wp2_with fail
        refine (lives5 _).mono ?_
        rintro e w5 ⟨rfl, h5⟩
        go_wp2
        go_ret
        exact ⟨rfl, Below.go (Below.go ((Below.refl _ _).alloc (Nat.le_refl _) _) hb1) h5⟩
      · have g0 : ((s.size : Int) == 0) = false := by rw [beq_eq_false_iff_ne]; omega
        obtain ⟨j, hj, ej⟩ := place a s.size (by omega)
        have ej' : (IntKind.u64.wrap a).tmod (s.size : Int) = (j : Int) := by
          rw [IntKind.wrap_u64, Int.tmod_eq_emod_of_nonneg (by omega)]; exact ej
        clear ej h0
        have hq : 0 < (s.size : Int) := by omega
        have ES := Lib.hid es
        go_wp2_with fail
        refine (with_at s j _ d rfl hj (by omega) d0 d1 _).mono ?_
        rintro e w2 ⟨rfl, hb2⟩
        by_cases heq : wth s j (u8 d) = s
        · have hd : decide (wth s j (u8 d) = s) = true := decide_eq_true heq
          have HEQ := Lib.hid heq; clear heq
          go_wp2_with fail
          refine (lives5 _).mono ?_
          rintro e w5 ⟨rfl, h5⟩
          go_wp2
          go_ret
          exact ⟨rfl, Below.go (Below.go (Below.go ((Below.refl _ _).alloc (Nat.le_refl _) _) hb1) hb2) h5⟩
        · have hd : decide (wth s j (u8 d) = s) = false := decide_eq_false heq
          have ha := wth_apart s j (u8 d) hj heq
          have ho := open_apart s (wth s j (u8 d)) ha
          have hz := wth_size s j (u8 d) hj
          have he : (seal4 s).extract (((s.size : Int) + 4) - 4).toNat (seal4 s).size = four (mor 1 s) := by
            have : (((s.size : Int) + 4) - 4).toNat = s.size := by omega
            rw [this]
            exact ext_right s _
          have hne : (mor 1 (wth s j (u8 d)) != mor 1 s) = true := by simp [ha]
          have he2 : (seal4 s).extract s.size (s.size + 4) = four (mor 1 s) := by rw [← es]; exact ext_right s _
          have he3 : (seal4 s).extract s.size (seal4 s).size = four (mor 1 s) := ext_right s _
          have HEQ := Lib.hid heq; have HA := Lib.hid ha; have HO := Lib.hid ho; have HZ := Lib.hid hz
          clear heq ha ho hz he
          have OT := Lib.hid (fun b c w hc => of_one b c (wth s j (u8 d)) (by rw [HZ.out]; omega) w hc)
          have hf : Fits (wth s j (u8 d)) (four (mor 1 s)) := ⟨by rw [HZ.out, four_size]; omega⟩
          have hin : InS (seal4 s) ((s.size : Int)) := ⟨by rw [ES.out]; omega⟩
          go_wp2_with fail
          refine (open_any _ (by rw [ByteArray.size_append, HZ.out, four_size]; omega) _).mono ?_
          rintro e w3 ⟨rfl, hb3⟩
          rw [if_neg HO.out]
          go_wp2_with fail
          refine (OT.out _ _ _ (one_cell _ _ _)).mono ?_
          rintro e w' ⟨rfl, rfl⟩
          go_wp2_with fail
          refine (OF.out _ _ _ (one_cell2 _ _ _ _)).mono ?_
          rintro e w' ⟨rfl, rfl⟩
          go_wp2_with fail
          refine (lives5 _).mono ?_
          rintro e w5 ⟨rfl, h5⟩
          go_wp2
          go_ret
          exact ⟨rfl, Below.go (Below.go (Below.go (Below.go ((Below.refl _ _).alloc (Nat.le_refl _) _) hb1) hb2) (Below.go hb3 (((Below.refl _ _).alloc (Nat.le_refl _) _).alloc (by simp) _))) h5⟩

theorem finds_none (x : Option Addr) (c : Nat) (a : Int) (a0 : -9223372036854775808 ≤ a) (a1 : a ≤ 9223372036854775807) (d : Int) (d0 : 0 ≤ d) (d1 : d ≤ 255) (w : World) :
    Calls Try.prog 10 #[.slice x 0 c, .int .i64 a, .int .u8 d] w fun e w' => e = .returned (.bool true) ∧ Below w.heap.size w w' := by
  have M := Lib.hid (show mor 1 ⟨#[]⟩ = 1 from mor_one_empty _ rfl)
  have es : (seal4 ⟨#[]⟩).size = 4 := by unfold seal4; rw [ByteArray.size_append, four_size]; rfl
  have OF := Lib.hid (fun b c w hc => of_one b c ⟨#[]⟩ (by decide) w hc)
  go_enter Try.func10, Try.ntmps10
  go_wp2
  refine wp_loop_rounds 1 ?_
  rw [rounds_succ]
  go_wp2_with fail
  refine (of_none x c _).mono ?_
  rintro e w' ⟨rfl, rfl⟩
  go_wp2_with fail
  refine (OF.out _ _ _ (one_cell _ _ _)).mono ?_
  rintro e w' ⟨rfl, rfl⟩
  rw [M.out]
  go_wp2_with fail
  refine (seal_any _ (by decide) _).mono ?_
  rintro e w1 ⟨rfl, hb1⟩
  go_wp2_with fail
  refine (lives5 _).mono ?_
  rintro e w5 ⟨rfl, h5⟩
  go_wp2
  go_ret
  exact ⟨rfl, Below.go (Below.go ((Below.refl _ _).alloc (Nat.le_refl _) _) hb1) h5⟩

theorem walk_sumFinds (x : Option Addr) (n c : Nat) (ss : List ByteArray) {w : World} (hr : RowS w x n ss) (hcap : n ≤ c) (a : Int) (a0 : -9223372036854775808 ≤ a) (a1 : a ≤ 9223372036854775807) (d : Int) (d0 : 0 ≤ d) (d1 : d ≤ 255) :
    Calls Try.prog 10 #[.slice x n c, .int .i64 a, .int .u8 d] w fun e w' => e = .returned (.bool true) ∧ Below w.heap.size w w' := by
  obtain ⟨hz, hm, hw, hc⟩ := hr
  by_cases h0 : n = 0
  · subst h0
    exact finds_none x c a a0 a1 d d0 d1 w
  · obtain ⟨b, off, rfl, hb, hcell⟩ := hc (by omega)
    subst hz
    exact finds_at b off c ss hm a a0 a1 d d0 d1 w hb hcell
end Go.Proofs.Ytmdaoicnbenfnaa
