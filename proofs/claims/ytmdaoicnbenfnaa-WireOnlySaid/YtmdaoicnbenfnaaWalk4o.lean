/-
  The law of one way of layer 4, walked: what is taken is put as it stood, for any bytes and kinds. No condition.
-/
import Derived.Test.YtmdaoicnbenfnaaWalk4
import Derived.Test.YtmdaoicnbenfnaaWireBackMath2
namespace Go.Proofs.Ytmdaoicnbenfnaa
set_option linter.unusedVariables false
set_option linter.unusedSimpArgs false
open Go.ChangeShapes Go.WideShapes Go.ChangeAt Go.RowKit
attribute [-go_sem] run_index_string binOp_string_eql binOp_string_neq run_string_add_if run_slice_string_from_if run_slice_string_to_if
attribute [local go_sem] index_bt add_fits slice_from slice_to eql_str neq_str alloc_drewN setCell_drewN

set_option maxHeartbeats 1000000 in
theorem walk_wireOnly (s : ByteArray) (hs : s.size ≤ maxLen) (a : Option Addr) (n c : Nat) (zs : List Int) {w : World} (hr : Row1 .i64 w a n zs) (hcap : n ≤ c) :
    Calls Try.prog 6 #[.string s, .slice a n c] w fun e w' => e = .returned (.bool true) ∧ Below w.heap.size w w' := by
  obtain ⟨hz, hm, hw, hc⟩ := hr
  unfold maxLen at hm hs
  by_cases h8 : 80000 < s.size
  · clear hc hw hz
    go_enter Try.func6, Try.ntmps6
    go_wp2_with fail
    refine (lives4 _).mono ?_
    rintro e w5 ⟨rfl, h5⟩
    go_wp2
    go_ret
    exact ⟨rfl, h5⟩
  · by_cases h2 : 200 < n
    · clear hc hw hz
      go_enter Try.func6, Try.ntmps6
      go_wp2_with fail
      refine (lives4 _).mono ?_
      rintro e w5 ⟨rfl, h5⟩
      go_wp2
      go_ret
      exact ⟨rfl, h5⟩
    · by_cases h0 : n = 0
      · subst h0
        clear hc hw hz
        have h00 : s.extract 0 0 = ⟨#[]⟩ := str_ext (by rw [size_ext _ _ _ (Nat.zero_le _)]; rfl) (fun k hk => absurd hk (by rw [size_ext _ _ _ (Nat.zero_le _)]; omega))
        have hin : InS s 0 := ⟨by omega⟩
        go_enter Try.func6, Try.ntmps6
        go_wp2_with fail
        refine (Take_none _ _ _ _).mono ?_
        rintro e w1 ⟨rfl, h1⟩
        go_wp2_with fail
        refine (Put_none _ _ _).mono ?_
        rintro e w2 ⟨rfl, h2⟩
        go_wp2_with fail
        refine (lives4 _).mono ?_
        rintro e w5 ⟨rfl, h5⟩
        go_wp2
        go_ret
        exact ⟨rfl, Below.go (Below.go h1 h2) h5⟩
      · obtain ⟨b, off, rfl, hb, hcell⟩ := hc (by omega)
        subst hz
        have hok : ∀ x ∈ zs, -9223372036854775808 ≤ x ∧ x ≤ 9223372036854775807 := fun x hx => bounds_i64 (hw x hx)
        have TK := Lib.hid (Take_at s b off c zs (by omega) (by omega) hok w hb hcell)
        have hlen := tl_len s zs 0
        have hbad := tl_bad s zs 0
        have honly := tl_only s zs (tl s zs 0).1 0 (tl s zs 0).2.1 (Nat.zero_le _)
        clear hc hw hcell
        by_cases he : (tl s zs 0).2.2 = 0
        · obtain ⟨hf, hp, _, hd⟩ := honly (by rw [← he])
          rw [he] at TK
          generalize (tl s zs 0).1 = fl at *
          generalize (tl s zs 0).2.1 = d at *
          clear hbad he honly
          have hpe : perr fl = 0 := perr_all fl fun i hi => by
            have := hf (fl.getD i Fd.nil) (by rw [List.getD_eq_getElem?_getD, List.getElem?_eq_getElem hi]; exact List.getElem_mem _)
            exact this.1
          have hfo : ∀ x ∈ fl, x.ok := fun x hx => by
            obtain ⟨_, j1, j2, j3⟩ := hf x hx
            exact ⟨hok _ j1, j2, by unfold maxLen; omega⟩
          have hin : InS s (d : Int) := ⟨by omega⟩
          have hdd : decide (pb fl = s.extract 0 d) = true := decide_eq_true hp
          have PUT : Hid (∀ W g cap, g < W.heap.size → FCells W g 0 fl → Calls Try.prog 13 #[.slice (some ⟨g, 0, none⟩) fl.length cap] W fun e w' => e = .returned (.tuple #[.string (pb fl), .int .i64 0]) ∧ Below W.heap.size W w') := Lib.hid fun W g cap hg hF =>
            Put_at g 0 cap fl (by omega) hfo W hg hF _ (fun _ => rfl) (fun h => absurd hpe h)
          have HN : Hid (fl = [] → pb fl = ⟨#[]⟩) := Lib.hid (by rintro rfl; rfl)
          clear hf hp hpe hfo hok hlen
          go_enter Try.func6, Try.ntmps6
          go_wp2_with fail
          refine TK.out.mono ?_
          rintro e w1 ⟨v1, rfl, ho1, h1⟩
          rcases own_fields _ _ _ _ _ ho1 with ⟨rfl, hfl⟩ | ⟨g, cap, rfl, _, hg, hF⟩
          · rw [HN.out hfl] at hdd
            clear ho1
            go_wp2_with fail
            refine (Put_none _ _ _).mono ?_
            rintro e w2 ⟨rfl, h2⟩
            go_wp2_with fail
            refine (lives4 _).mono ?_
            rintro e w5 ⟨rfl, h5⟩
            go_wp2
            go_ret
            exact ⟨rfl, Below.go (Below.go h1 h2) h5⟩
          · have PW := Lib.hid (PUT.out w1 g cap hg hF)
            clear ho1 hF
            go_wp2_with fail
            refine PW.out.mono ?_
            rintro e w2 ⟨rfl, h2⟩
            go_wp2_with fail
            refine (lives4 _).mono ?_
            rintro e w5 ⟨rfl, h5⟩
            go_wp2
            go_ret
            exact ⟨rfl, Below.go (Below.go h1 h2) h5⟩
        · obtain ⟨e1, e2⟩ := hbad he
          rw [e1, e2] at TK
          have g : ((tl s zs 0).2.2 != 0) = true := by simp [he]
          clear he e1 e2 hlen honly hbad hok
          generalize (tl s zs 0).2.2 = x at *
          go_enter Try.func6, Try.ntmps6
          go_wp2_with fail
          refine TK.out.mono ?_
          rintro e w1 ⟨v1, rfl, ho1, h1⟩
          rcases own_fields _ _ _ _ [] ho1 with ⟨rfl, hfl⟩ | ⟨g, cap, rfl, _, hg, hF⟩
          · clear ho1
            go_wp2_with fail
            refine (lives4 _).mono ?_
            rintro e w5 ⟨rfl, h5⟩
            go_wp2
            go_ret
            exact ⟨rfl, Below.go h1 h5⟩
          · clear ho1 hF
            go_wp2_with fail
            refine (lives4 _).mono ?_
            rintro e w5 ⟨rfl, h5⟩
            go_wp2
            go_ret
            exact ⟨rfl, Below.go h1 h5⟩
end Go.Proofs.Ytmdaoicnbenfnaa
