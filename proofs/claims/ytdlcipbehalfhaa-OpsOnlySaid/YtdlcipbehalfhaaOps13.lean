/-
  The law on operations that are read and put as they stood, where the end is torn: true for any bytes. No condition.
-/
import Derived.Test.YtdlcipbehalfhaaOps12
namespace Go.Proofs.Ytdlcipbehalfhaa
set_option linter.unusedVariables false
set_option linter.unusedSimpArgs false
open Go.ChangeShapes Go.WideShapes Go.ChangeAt Go.RowKit
attribute [-go_sem] run_index_string binOp_string_eql binOp_string_neq run_string_add_if run_slice_string_from_if run_slice_string_to_if
attribute [local go_sem] index_bt add_fits slice_from slice_to eql_str neq_str alloc_drewN setCell_drewN

set_option maxRecDepth 100000 in
set_option maxHeartbeats 8000000 in
theorem only_torn (s t : ByteArray) (hs : s.size ≤ 2000) (ht : t.size ≤ 2000) (l : List Opn) (n : Nat) (hL : oread s = l ++ [Opn.torn]) (hall : ∀ x ∈ l, x.right = true ∧ x.ok) (hn : n < s.size) (hput : oput l = s.extract 0 n) (w : World) :
    Calls Try.prog 5 #[.string s, .string t] w fun e w' => e = .returned (.bool true) ∧ Below w.heap.size w w' := by
  have LV := Lib.hid (fun W => lives25 W)
  have g1 : decide ((2000 : Int) < (s.size : Int)) = false := decide_eq_false (by omega)
  have g2 : decide ((2000 : Int) < (t.size : Int)) = false := decide_eq_false (by omega)
  have RD := Lib.hid (fun W => ops_read s (by omega) W)
  have hls := oread_len s
  rw [hL] at hls
  have hl1 : (l ++ [Opn.torn]).length = l.length + 1 := by rw [List.length_append]; rfl
  rw [hl1] at hls
  have hsz : (s.extract 0 n).size = n := by rw [size_ext _ _ _ (by omega)]; omega
  have PW := Lib.hid (fun (W : World) (v : Value) (h : SRow W v l) => ops_put l (by omega) (fun x hx => (hall x hx).2) h #[.string (s.extract 0 n), .int .i64 0] (fun _ => by rw [hput]) (fun x => by
    rw [allR_all _ fun y hy => (hall y hy).1] at x
    cases x))
  have hin : InS s (n : Int) := ⟨by omega⟩
  rw [hL] at RD
  have HT := Lib.hid (show ∀ i, i < l.length → (l ++ [Opn.torn]).getD i Opn.nil = l.getD i Opn.nil from fun i hi => by
    rw [List.getD_eq_getElem?_getD, List.getD_eq_getElem?_getD, List.getElem?_append_left hi])
  have HE := Lib.hid (show (l ++ [Opn.torn]).getD l.length Opn.nil = Opn.torn from by
    rw [List.getD_eq_getElem?_getD, List.getElem?_append_right (Nat.le_refl _), Nat.sub_self]; rfl)
  obtain ⟨q, hq⟩ : ∃ q, s.extract 0 n = q := ⟨_, rfl⟩
  rw [hq] at hsz PW
  have HQ := Lib.hid hq
  clear hq hput hall hL
  go_enter Try.func5, Try.ntmps5
  go_wp2_with fail
  refine (RD.out _).mono ?_
  rintro e w1 ⟨v1, rfl, ho1, h1⟩
  unfold ORow at ho1
  have HB1 := Lib.hid h1
  clear h1
  rcases own_ops ho1 with ⟨rfl, hLn⟩ | ⟨g, cap, rfl, hg, hcap, hcs⟩
  · exact absurd (congrArg List.length hLn) (by simp)
  · obtain ⟨N1, hN1⟩ : ∃ N1, l.length = N1 := ⟨_, rfl⟩
    have HN := Lib.hid hN1
    have PW1 := Lib.hid (PW.out w1 (.slice (some ⟨g, 0, none⟩) l.length cap) ⟨_, cap, rfl, fun _ => ⟨g, 0, rfl, hg, fun i hi => by
      have := hcs i (by rw [hl1]; omega)
      rw [HT.out i hi] at this
      exact this⟩⟩)
    obtain ⟨ck, -⟩ := hcs l.length (by rw [hl1]; omega)
    rw [HE.out] at ck
    have ck : w1.cell? ⟨g, l.length * 5, none⟩ = some (.int .i64 5) := by
      have e : 0 + l.length * 5 = l.length * 5 := by omega
      rw [e] at ck
      exact ck
    rw [hl1] at hcap ⊢
    rw [hN1] at hcap hls PW1 ck ⊢
    clear hcs ho1 hN1 hl1 PW HT HE
    have hd : decide ((n : Int) < (s.size : Int)) = true := decide_eq_true (by omega)
    have hqq : decide (q = s.extract 0 n) = true := decide_eq_true HQ.out.symm
    go_wp2_with fail
    refine (PW1.out).mono ?_
    rintro e w2 ⟨rfl, h2⟩
    have HB2 := Lib.hid (HB1.out.trans (h2.mono HB1.out.size))
    clear h2 ck
    go_wp2_with fail
    refine (LV.out _).mono ?_
    rintro e w9 ⟨rfl, h9⟩
    go_wp2
    go_ret
    exact ⟨rfl, HB2.out.trans (h9.mono HB2.out.size)⟩
set_option maxRecDepth 100000 in
theorem walk_opsOnly (s : ByteArray) (hs : s.size ≤ maxLen) (t : ByteArray) (ht : t.size ≤ maxLen) (w : World) :
    Calls Try.prog 5 #[.string s, .string t] w fun e w' => e = .returned (.bool true) ∧ Below w.heap.size w w' := by
  have LV := Lib.hid (fun W => lives25 W)
  unfold maxLen at hs ht
  by_cases h5 : 2000 < s.size
  · have g : decide ((2000 : Int) < (s.size : Int)) = true := decide_eq_true (by omega)
    clear h5
    go_enter Try.func5, Try.ntmps5
    go_wp2_with fail
    refine (LV.out _).mono ?_
    rintro e w5 ⟨rfl, h5⟩
    go_wp2
    go_ret
    exact ⟨rfl, h5⟩
  · have g : decide ((2000 : Int) < (s.size : Int)) = false := decide_eq_false (by omega)
    by_cases h6 : 2000 < t.size
    · have g6 : decide ((2000 : Int) < (t.size : Int)) = true := decide_eq_true (by omega)
      clear h5 h6
      go_enter Try.func5, Try.ntmps5
      go_wp2_with fail
      refine (LV.out _).mono ?_
      rintro e w5 ⟨rfl, h5⟩
      go_wp2
      go_ret
      exact ⟨rfl, h5⟩
    · rcases oread_only s with ⟨h1, h2⟩ | ⟨l, n, h1, h2, h3, h4⟩
      · exact only_whole s t (by omega) (by omega) h1 h2 w
      · exact only_torn s t (by omega) (by omega) l n h1 h2 h3 h4 w
end Go.Proofs.Ytdlcipbehalfhaa
