/-
  The law of taking back of layer 4, walked: what is put is taken as it was, whatever stands behind it; cut off anywhere ahead of its end it is too short; for any fields. No condition.
-/
import Derived.Test.YtmdaoicnbenfnaaWalk4
import Derived.Test.YtmdaoicnbenfnaaWireBackMath2
namespace Go.Proofs.Ytmdaoicnbenfnaa
set_option linter.unusedVariables false
set_option linter.unusedSimpArgs false
open Go.ChangeShapes Go.WideShapes Go.ChangeAt Go.RowKit
attribute [-go_sem] run_index_string binOp_string_eql binOp_string_neq run_string_add_if run_slice_string_from_if run_slice_string_to_if
attribute [local go_sem] index_bt add_fits slice_from slice_to eql_str neq_str alloc_drewN setCell_drewN

theorem enc_pos (f : Fd) (h : er f = 0) : 1 ≤ (enc f).size := by
  obtain ⟨r1, r6, _⟩ := er_range f h
  rw [enc_size f r1 r6]
  have h1 := fw_size (f.s.size : Int)
  have h2 := fw_size f.n
  split
  · omega
  · split
    · omega
    · unfold wk; (repeat' split) <;> omega
theorem pb_pos (fs : List Fd) (hne : 0 < fs.length) (h : ∀ i, i < fs.length → er (fs.getD i Fd.nil) = 0) : 1 ≤ (pb fs).size := by
  cases fs with
  | nil => simp at hne
  | cons f fs =>
    have := enc_pos f (by have := h 0 (by simp); simpa using this)
    rw [pb_cons, ByteArray.size_append]
    omega
theorem infoI64 : (Try.prog.info? 3).map (fun i => (i.zero, i.size, i.bytes)) = some (some (.int .i64 0), 1, 8) := by kernel_rfl
theorem take_snoc' {α : Type} (l : List α) (k : Nat) (h : k < l.length) : l.take k ++ [l[k]] = l.take (k + 1) := by
  rw [List.take_add_one, List.getElem?_eq_getElem h]; rfl

set_option maxHeartbeats 2000000 in
theorem back_at (b off c : Nat) (fs : List Fd) (hn0 : 0 < fs.length) (hm : fs.length ≤ maxLen) (hok : ∀ x ∈ fs, x.ok) (behind : ByteArray) (hbh : behind.size ≤ maxLen) (cut : Int) (q0 : 0 ≤ cut) (q1 : cut ≤ 65535) (w : World) (hb : b < w.heap.size) (hc : FCells w b off fs) :
    Calls Try.prog 5 #[.slice (some ⟨b, off, none⟩) fs.length c, .string behind, .int .u16 cut] w fun e w' => e = .returned (.bool true) ∧ Below w.heap.size w w' := by
  obtain ⟨i0, hi, hz0, hz1, hz2⟩ := info_parts infoI64
  have HC := Lib.hid hc; have HOK := Lib.hid hok
  have FW := Lib.hid (few_at b off c fs hm w hc)
  clear hc hok
  unfold maxLen at hm hbh
  by_cases h1000 : 1000 < behind.size
  · go_enter Try.func5, Try.ntmps5
    go_wp2_with fail
    refine FW.out.mono ?_
    rintro e w' ⟨q, rfl, hq, rfl⟩
    by_cases hq2 : q ≤ 200
    · have hd : decide (q ≤ 200) = true := decide_eq_true hq2
      rw [hd]
      clear hq hq2 hd
      go_wp2_with fail
      refine (lives4 _).mono ?_
      rintro e w5 ⟨rfl, h5⟩
      go_wp2
      go_ret
      exact ⟨rfl, h5⟩
    · have hd : decide (q ≤ 200) = false := decide_eq_false hq2
      rw [hd]
      clear hq hq2 hd
      go_wp2_with fail
      refine (lives4 _).mono ?_
      rintro e w5 ⟨rfl, h5⟩
      go_wp2
      go_ret
      exact ⟨rfl, h5⟩
  · by_cases hp : perr fs = 0
    · have hall := perr_none fs hp
      have hpos := pb_pos fs hn0 hall
      have PA : Hid (fs.length ≤ 200 → Calls Try.prog 13 #[.slice (some ⟨b, off, none⟩) fs.length c] w fun e w' => e = .returned (.tuple #[.string (pb fs), .int .i64 0]) ∧ Below w.heap.size w w') := Lib.hid fun hn =>
        Put_at b off c fs hn HOK.out w hb HC.out _ (fun _ => rfl) (fun h => absurd hp h)
      have hsm : fs.length ≤ 200 → (pb fs).size ≤ 20000000 := fun hn => by
        have := pb_small fs fs.length (Nat.le_refl _) hall
        rw [List.take_of_length_le (by simp)] at this
        omega
      have HSM := Lib.hid hsm; clear hsm
      have hgood : ∀ f ∈ fs, er f = 0 ∧ 0 ≤ f.n ∧ f.n ≤ 18446744073709551615 := fun f hf => by
        obtain ⟨i, hi2, rfl⟩ := List.getElem_of_mem hf
        have := hall i hi2
        rw [List.getD_eq_getElem?_getD, List.getElem?_eq_getElem hi2] at this
        exact ⟨this, (HOK.out _ hf).2.1⟩
      have hkb : ∀ x ∈ fs.map Fd.k, -9223372036854775808 ≤ x ∧ x ≤ 9223372036854775807 := fun x hx => by
        obtain ⟨f, hf, rfl⟩ := List.mem_map.1 hx
        exact (HOK.out f hf).1
      have T1 : Hid (tl (pb fs ++ behind) (fs.map Fd.k) 0 = (fs, (pb fs).size, 0)) := Lib.hid (by
        have := tl_put (pb fs ++ behind) fs 0 hgood (beg_self _ _)
        rw [Nat.zero_add] at this
        exact this)
      have T2 : Hid (∀ j, j < (pb fs).size → tl ((pb fs).extract 0 j) (fs.map Fd.k) 0 = ([], 0, 2)) := Lib.hid fun j hj => by
        have sz := size_ext (pb fs) 0 j (by omega)
        refine tl_short _ fs 0 hgood (Nat.zero_le _) (by omega) (fun k hk => ?_)
        rw [Nat.zero_add, bt_extract _ _ _ _ (by omega), Nat.zero_add]
      have HKB := Lib.hid hkb
      clear hall hgood hkb hp
      obtain ⟨p, hpp⟩ : ∃ p, pb fs = p := ⟨_, rfl⟩
      rw [hpp] at PA HSM T1 T2 hpos
      clear hpp
      go_enter Try.func5, Try.ntmps5
      go_wp2_with fail
      refine FW.out.mono ?_
      rintro e w' ⟨q, rfl, hq, rfl⟩
      by_cases hq2 : q ≤ 200
      · have hn := hq hq2
        have hd : decide (q ≤ 200) = true := decide_eq_true hq2
        have hps := HSM.out hn
        have PA2 := Lib.hid (PA.out hn)
        rw [hd]
        clear hq hq2 hd
        go_wp2_with fail
        refine PA2.out.mono ?_
        rintro e w1 ⟨rfl, h1⟩
        have H1 := Lib.hid h1
        have hs1 := h1.size
        clear h1
        go_wp2
        go_loopw [9, 37] (fun x y wr => ∃ (v : Value) (k : Nat), v = x ∧ k ≤ fs.length ∧ y = .int .i64 k ∧ wr.ownsRow w.heap.size 3 1 v k ((fs.take k).map (fun f => Value.int .i64 f.k)) ∧ Below w.heap.size w wr) (fun _ y _ => fs.length - (intOf y).toNat)
        case atStart => exact ⟨_, 0, rfl, Nat.zero_le _, rfl, World.ownsRow_nil _ _ _ _, H1.out⟩
        case round =>
          obtain ⟨v, k, rfl, hk, rfl, ho, hbw⟩ := hrel
          have hsize := hbw.size
          by_cases hlt : k < fs.length
          · obtain ⟨c0, _, _⟩ := HC.out k hlt
            have c0 := (hbw.cell (p := ⟨b, off + k * 3, none⟩) hb).trans c0
            have et : Hid ((fs.take k).map (fun f => Value.int .i64 f.k) ++ [.int .i64 (fs.getD k Fd.nil).k] = (fs.take (k + 1)).map (fun f => Value.int .i64 f.k)) := Lib.hid (by
              rw [← take_snoc' fs k hlt, List.map_append, List.getD_eq_getElem?_getD, List.getElem?_eq_getElem hlt]; rfl)
            have HB := Lib.hid hbw; clear hbw
            generalize (fs.getD k Fd.nil).k = z at *
            go_wp2_with (at_builtin; refine wpList_append_own _ rfl _ _ 35 rfl w.heap.size 3 i0 (.int .i64 0) 1 8 Try.underlying35 hi hz0 hz1 hz2 rfl (by decide) _ _ _ rfl (ho.alloc _) ⟨wr.heap.size, 0, none⟩ 1 1 [.int .i64 z] rfl rfl (cells_new _ _ _) (fun x hx => by simp at hx; subst hx; rfl) (by unfold maxLen; omega) (by omega) (by simp; omega) ?_; intro v' w3 hown' hgrow3 hnil3; clear hnil3)
            go_roundw
            case rel => exact ⟨v', k + 1, rfl, by omega, by go_num, by rw [← et.out]; exact hown', (HB.out.alloc hsize _).grown hgrow3 (by simp; omega) (fun g hg => (World.ownsRow.lt ho g hg).1)⟩
            case measure => simp [intOf] <;> omega
          · have ek : k = fs.length := by omega
            subst ek
            rw [List.take_of_length_le (by simp)] at ho
            have HB := Lib.hid hbw; clear hbw
            rcases ho.2 with ⟨_, h⟩ | ⟨g, cap, cur, rfl, hgb, _⟩
            · omega
            · have hgl := (World.ownsRow.lt ho g rfl).2
              have hcells : ∀ i, i < (fs.map Fd.k).length → wr.cell? ⟨g, 0 + i, none⟩ = some (.int .i64 ((fs.map Fd.k).getD i 0)) := fun i hi2 => by
                rw [List.length_map] at hi2
                have := ho.cells (g := g) rfl i (.int .i64 ((fs.map Fd.k).getD i 0)) (by
                  rw [List.getElem?_map, List.getElem?_eq_getElem hi2, List.getD_eq_getElem?_getD, List.getElem?_map, List.getElem?_eq_getElem hi2]; rfl)
                rw [Go.WideShapes.add_plain] at this
                exact this
              have hfit : Fits p behind := ⟨by omega⟩
              have TA : Hid (Calls Try.prog 17 #[.string (p ++ behind), .slice (some ⟨g, 0, none⟩) fs.length cap] wr fun e w' => ∃ v, e = .returned (.tuple #[v, .int .i64 (p.size : Nat), .int .i64 0]) ∧
                  w'.ownsRow wr.heap.size 33 3 v fs.length (fs.flatMap Fd.cells) ∧ Below wr.heap.size wr w') := Lib.hid (by
                have := Take_at (p ++ behind) g 0 cap (fs.map Fd.k) (by rw [ByteArray.size_append]; omega) (by rw [List.length_map]; exact hn) HKB.out wr hgl hcells
                rw [T1.out, List.length_map] at this
                exact this)
              have TB : Hid (∀ W j, j < p.size → Below wr.heap.size wr W → Calls Try.prog 17 #[.string (p.extract 0 j), .slice (some ⟨g, 0, none⟩) fs.length cap] W fun e w' => ∃ v, e = .returned (.tuple #[v, .int .i64 0, .int .i64 2]) ∧
                  w'.ownsRow W.heap.size 33 3 v 0 [] ∧ Below W.heap.size W w') := Lib.hid fun W j hj hW => by
                have := Take_at (p.extract 0 j) g 0 cap (fs.map Fd.k) (by rw [size_ext _ _ _ (by omega)]; omega) (by rw [List.length_map]; exact hn) HKB.out W (by have := hW.size; omega) (fun i hi2 => (hW.cell (p := ⟨g, 0 + i, none⟩) hgl).trans (hcells i hi2))
                rw [T2.out j hj, List.length_map] at this
                exact this
              have LC : Hid (∀ W, Below w.heap.size w W → FCells W b off fs) := Lib.hid fun W hW => FCells.later HC.out hb hW
              obtain ⟨j, hj, ej⟩ : ∃ j : Nat, j < p.size ∧ cut.tmod (p.size : Int) = (j : Int) := by
                have h1 := Int.emod_nonneg cut (show (p.size : Int) ≠ 0 by omega)
                have h2 := Int.emod_lt_of_pos cut (show (0 : Int) < p.size by omega)
                exact ⟨(cut % (p.size : Int)).toNat, by omega, by rw [Int.tmod_eq_emod_of_nonneg q0]; omega⟩
              have hin : InS p (j : Int) := ⟨by omega⟩
              have hp0 : ((p.size : Int) == 0) = false := by rw [beq_eq_false_iff_ne]; omega
              have hp1 : (0 : Int) < (p.size : Int) := by omega
              clear ho hcells
              go_wp2_with fail
              refine TA.out.mono ?_
              rintro e w2 ⟨v2, rfl, ho2, h2⟩
              have hb2 := HB.out.trans (h2.mono hsize)
              have hs2 := hb2.size
              rcases own_fields _ _ _ _ _ ho2 with ⟨_, hfl⟩ | ⟨g2, cap2, rfl, _, hg2, hF2⟩
              · rw [hfl] at hn0; simp at hn0
              · have SM := Lib.hid (same_at b off c g2 0 cap2 fs (by omega) w2 (by omega) hg2 (LC.out w2 hb2) hF2)
                have HB2 := Lib.hid hb2; have H2 := Lib.hid h2
                clear ho2 hF2 hb2 h2
                go_wp2_with fail
                refine SM.out.mono ?_
                rintro e w3 ⟨rfl, h3⟩
                have TB3 := Lib.hid (TB.out w3 j hj (H2.out.trans (h3.mono H2.out.size)))
                have HB3 := Lib.hid (HB2.out.trans (h3.mono hs2))
                clear h3
                go_wp2_with fail
                refine TB3.out.mono ?_
                rintro e w4 ⟨v4, rfl, ho4, h4⟩
                have HB4 := Lib.hid (Below.go HB3.out h4)
                clear h4
                rcases own_fields _ _ _ _ [] ho4 with ⟨rfl, _⟩ | ⟨g4, cap4, rfl, _, _, _⟩
                · clear ho4
                  go_wp2_with fail
                  refine (lives4 _).mono ?_
                  rintro e w5 ⟨rfl, h5⟩
                  go_wp2
                  go_ret
                  exact ⟨rfl, Below.go HB4.out h5⟩
                · clear ho4
                  go_wp2_with fail
                  refine (lives4 _).mono ?_
                  rintro e w5 ⟨rfl, h5⟩
                  go_wp2
                  go_ret
                  exact ⟨rfl, Below.go HB4.out h5⟩
      · have hd : decide (q ≤ 200) = false := decide_eq_false hq2
        rw [hd]
        clear hq hq2 hd
        go_wp2_with fail
        refine (lives4 _).mono ?_
        rintro e w5 ⟨rfl, h5⟩
        go_wp2
        go_ret
        exact ⟨rfl, h5⟩
    · have PA : Hid (fs.length ≤ 200 → Calls Try.prog 13 #[.slice (some ⟨b, off, none⟩) fs.length c] w fun e w' => e = .returned (.tuple #[.string ⟨#[]⟩, .int .i64 (perr fs)]) ∧ Below w.heap.size w w') := Lib.hid fun hn =>
        Put_at b off c fs hn HOK.out w hb HC.out _ (fun h => absurd h hp) (fun _ => rfl)
      have g : (perr fs != 0) = true := by simp [hp]
      clear hp
      generalize perr fs = x at *
      go_enter Try.func5, Try.ntmps5
      go_wp2_with fail
      refine FW.out.mono ?_
      rintro e w' ⟨q, rfl, hq, rfl⟩
      by_cases hq2 : q ≤ 200
      · have hn := hq hq2
        have hd : decide (q ≤ 200) = true := decide_eq_true hq2
        have PA2 := Lib.hid (PA.out hn)
        rw [hd]
        clear hq hq2 hd
        go_wp2_with fail
        refine PA2.out.mono ?_
        rintro e w1 ⟨rfl, h1⟩
        go_wp2_with fail
        refine (lives4 _).mono ?_
        rintro e w5 ⟨rfl, h5⟩
        go_wp2
        go_ret
        exact ⟨rfl, Below.go h1 h5⟩
      · have hd : decide (q ≤ 200) = false := decide_eq_false hq2
        rw [hd]
        clear hq hq2 hd
        go_wp2_with fail
        refine (lives4 _).mono ?_
        rintro e w5 ⟨rfl, h5⟩
        go_wp2
        go_ret
        exact ⟨rfl, h5⟩

theorem back_none (a : Option Addr) (c : Nat) (behind : ByteArray) (hbh : behind.size ≤ maxLen) (cut : Int) (q0 : 0 ≤ cut) (q1 : cut ≤ 65535) (w : World) :
    Calls Try.prog 5 #[.slice a 0 c, .string behind, .int .u16 cut] w fun e w' => e = .returned (.bool true) ∧ Below w.heap.size w w' := by
  unfold maxLen at hbh
  by_cases h1000 : 1000 < behind.size
  · go_enter Try.func5, Try.ntmps5
    go_wp2_with fail
    refine (few_none _ _ _).mono ?_
    rintro e w' ⟨rfl, rfl⟩
    go_wp2_with fail
    refine (lives4 _).mono ?_
    rintro e w5 ⟨rfl, h5⟩
    go_wp2
    go_ret
    exact ⟨rfl, h5⟩
  · have hfit : Fits ⟨#[]⟩ behind := ⟨by show 0 + _ ≤ _; omega⟩
    go_enter Try.func5, Try.ntmps5
    go_wp2_with fail
    refine (few_none _ _ _).mono ?_
    rintro e w' ⟨rfl, rfl⟩
    go_wp2_with fail
    refine (Put_none _ _ _).mono ?_
    rintro e w1 ⟨rfl, h1⟩
    go_wp2
    refine wp_loop_rounds 1 ?_
    rw [rounds_succ]
    go_wp2_with fail
    refine (Take_none _ _ _ _).mono ?_
    rintro e w2 ⟨rfl, h2⟩
    go_wp2_with fail
    refine (same_none _ _ _ _ _).mono ?_
    rintro e w3 ⟨rfl, h3⟩
    go_wp2_with fail
    refine (lives4 _).mono ?_
    rintro e w5 ⟨rfl, h5⟩
    go_wp2
    go_ret
    exact ⟨rfl, Below.go (Below.go (Below.go h1 h2) h3) h5⟩

theorem walk_wireBack (a : Option Addr) (n c : Nat) (fs : List Fd) {w : World} (hr : RowF w a n fs) (hcap : n ≤ c) (behind : ByteArray) (hbh : behind.size ≤ maxLen) (cut : Int) (q0 : 0 ≤ cut) (q1 : cut ≤ 65535) :
    Calls Try.prog 5 #[.slice a n c, .string behind, .int .u16 cut] w fun e w' => e = .returned (.bool true) ∧ Below w.heap.size w w' := by
  obtain ⟨hz, hm, hw, hc⟩ := hr
  by_cases h0 : n = 0
  · subst h0
    exact back_none a c behind hbh cut q0 q1 w
  · obtain ⟨b, off, rfl, hb, hcell⟩ := hc (by omega)
    subst hz
    exact back_at b off c fs (by omega) hm hw behind hbh cut q0 q1 w hb hcell
end Go.Proofs.Ytmdaoicnbenfnaa
