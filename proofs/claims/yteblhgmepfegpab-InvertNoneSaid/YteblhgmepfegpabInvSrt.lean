/-
  Package invert: a row of places is sorted, and how late each is is counted. Nothing below turns but the rows that the work made. No condition but that the row lies where it should.
-/
import Derived.Test.YteblhgmepfegpabInvMg
import Derived.Deep.CutBlock
import Derived.Deep.DeepCutAuto
namespace Go.Proofs.Yteblhgmepfegpab
set_option linter.unusedVariables false
set_option linter.unusedSimpArgs false
open Go.ChangeShapes Go.WideShapes Go.ChangeAt Go.RowKit
attribute [local go_sem] alloc_drewN setCell_drewN

def SortC (z : Nat → Int) (base B g h q : Nat) (num : Value) (n : Nat) (k : Nat) : Prop :=
  ∀ (w : World) (P X Q : List Nat) (late : List Int) (hf : List Value) (cap : Nat) (M : Int), StAt w base B g h q num n (P ++ X ++ Q) late hf → NumAt w base num z n → X.length ≤ cap → cap ≤ 400 → X.length ≤ 2 ^ k → M + 160000 * X.length ≤ 1000000000 → Bd late M →
    Calls Try.prog 19 #[.pointer (some ⟨B, 0, none⟩), .slice (some ⟨g, P.length, none⟩) X.length cap] w fun e w' => e = .returned (.tuple #[]) ∧ ∃ hf', StAt w' base B g h q num n (P ++ ms z k X ++ Q) (msl z k X late) hf' ∧ Below base w w' ∧ Bd (msl z k X late) (M + 160000 * (X.length - 1 : Nat))
theorem sort_few {z : Nat → Int} {base B g h q : Nat} {num : Value} {n : Nat} (w : World) (P X Q : List Nat) (late : List Int) (hf : List Value) (cap : Nat) (M : Int) (k : Nat) (s : StAt w base B g h q num n (P ++ X ++ Q) late hf) (hx : X.length < 2) (hbd : Bd late M) :
    Calls Try.prog 19 #[.pointer (some ⟨B, 0, none⟩), .slice (some ⟨g, P.length, none⟩) X.length cap] w fun e w' => e = .returned (.tuple #[]) ∧ ∃ hf', StAt w' base B g h q num n (P ++ ms z k X ++ Q) (msl z k X late) hf' ∧ Below base w w' ∧ Bd (msl z k X late) (M + 160000 * (X.length - 1 : Nat)) := by
  have e1 : ms z k X = X := by
    cases k with
    | zero => rfl
    | succ k => unfold ms; rw [if_pos hx]
  have e2 : msl z k X late = late := by
    cases k with
    | zero => rfl
    | succ k => unfold msl; rw [if_pos hx]
  rw [e1, e2]
  have FIN : Hid (∃ hf', StAt w base B g h q num n (P ++ X ++ Q) late hf' ∧ Below base w w ∧ Bd late (M + 160000 * (X.length - 1 : Nat))) := Lib.hid ⟨hf, s, Below.refl _ _, hbd.mono (by omega)⟩
  have hx' : (X.length : Int) < 2 := by omega
  clear s hbd e1 e2 hx
  generalize X.length = m at *
  go_enter Try.func19, Try.ntmps19
  go_wp2
  first | go_end0 | refine bodyPost_ret (results_none rfl _ _ _) rfl ?_
  exact ⟨rfl, FIN.out⟩
set_option maxRecDepth 100000 in
set_option maxHeartbeats 1000000 in
theorem sort_step {z : Nat → Int} {base B g h q : Nat} {num : Value} {n : Nat} (hn : n ≤ 400) (k : Nat) (ih : SortC z base B g h q num n k) : SortC z base B g h q num n (k + 1) := by
  intro w P X Q late hf cap M s hN hcap hcm hk hM hbd
  by_cases hx : X.length < 2
  · exact sort_few w P X Q late hf cap M (k + 1) s hx hbd
  obtain ⟨A, Bl, hX, hAl, hA, hBl⟩ : ∃ A Bl, X = A ++ Bl ∧ A.length = X.length / 2 ∧ A = X.take (X.length / 2) ∧ Bl = X.drop (X.length / 2) := ⟨_, _, (List.take_append_drop (X.length / 2) X).symm, by rw [List.length_take]; omega, rfl, rfl⟩
  have hl : X.length = A.length + Bl.length := by rw [hX, List.length_append]
  have hsz := s.lx
  simp only [List.length_append] at hsz
  rw [Nat.pow_succ] at hk
  have e1 : ms z (k + 1) X = mrg z (ms z k A) (ms z k Bl) := by
    show (if X.length < 2 then X else _) = _
    rw [if_neg hx, hA, hBl]
  have e2 : msl z (k + 1) X late = mgl z (ms z k A) (ms z k Bl) (msl z k Bl (msl z k A late)) := by
    show (if X.length < 2 then late else _) = _
    rw [if_neg hx, hA, hBl]
  obtain ⟨m, hm⟩ : ∃ m, A.length + Bl.length = m := ⟨_, rfl⟩
  have C1 := Lib.hid (ih w P A (Bl ++ Q) late hf cap M (by rw [← List.append_assoc, List.append_assoc P A Bl, ← hX]; exact s) hN (by omega) hcm (by omega) (by omega) hbd)
  have C2 := Lib.hid (fun (w1 : World) (hf1 : List Value) (s1 : StAt w1 base B g h q num n (P ++ ms z k A ++ (Bl ++ Q)) (msl z k A late) hf1) (b1 : Below base w w1) (d1 : Bd (msl z k A late) (M + 160000 * (A.length - 1 : Nat))) =>
    (by
      have := ih w1 (P ++ ms z k A) Bl Q (msl z k A late) hf1 (cap - A.length) (M + 160000 * (A.length - 1 : Nat)) (by rw [List.append_assoc]; exact s1) (hN.below b1) (by omega) (by omega) (by omega) (by omega) d1
      rw [List.length_append, ms_length] at this
      exact this : Calls Try.prog 19 #[.pointer (some ⟨B, 0, none⟩), .slice (some ⟨g, P.length + A.length, none⟩) Bl.length (cap - A.length)] w1 fun e w' => e = .returned (.tuple #[]) ∧ ∃ hf', StAt w' base B g h q num n (P ++ ms z k A ++ ms z k Bl ++ Q) (msl z k Bl (msl z k A late)) hf' ∧ Below base w1 w' ∧ Bd (msl z k Bl (msl z k A late)) (M + 160000 * (A.length - 1 : Nat) + 160000 * (Bl.length - 1 : Nat))))
  have C3 := Lib.hid (fun (w2 : World) (hf2 : List Value) (s2 : StAt w2 base B g h q num n (P ++ ms z k A ++ ms z k Bl ++ Q) (msl z k Bl (msl z k A late)) hf2) (b2 : Below base w w2) (d2 : Bd (msl z k Bl (msl z k A late)) (M + 160000 * (A.length - 1 : Nat) + 160000 * (Bl.length - 1 : Nat))) =>
    (by
      have := merge_any (A := ms z k A) (Bl := ms z k Bl) s2 (hN.below b2) cap (by rw [ms_length, ms_length]; omega) hcm (by rw [ms_length]; omega) (by rw [ms_length]; omega) (by rw [ms_length]; omega) hn _ (by omega) d2
      rw [ms_length, ms_length, ← e1, ← e2, hm] at this
      exact this : Calls Try.prog 20 #[.pointer (some ⟨B, 0, none⟩), .slice (some ⟨g, P.length, none⟩) m cap, .int .i64 A.length] w2 fun e w' => e = .returned (.tuple #[]) ∧ ∃ hf', StAt w' base B g h q num n (P ++ ms z (k + 1) X ++ Q) (msl z (k + 1) X late) hf' ∧ Below base w2 w' ∧ Bd (msl z (k + 1) X late) (M + 160000 * (A.length - 1 : Nat) + 160000 * (Bl.length - 1 : Nat) + 160000)))
  have FB : Hid (M + 160000 * ((A.length - 1 : Nat) : Int) + 160000 * ((Bl.length - 1 : Nat) : Int) + 160000 ≤ M + 160000 * ((X.length - 1 : Nat) : Int)) := Lib.hid (by omega)
  have hx2 : ¬ (m : Int) < 2 := by omega
  have hq : (m : Int).tdiv 2 = (A.length : Int) := by rw [Int.tdiv_eq_ediv_of_nonneg (by omega)]; omega
  have hqw : IntKind.i64.wrap (A.length : Int) = (A.length : Int) := by rw [IntKind.wrap_i64]; omega
  have a0 : (0 : Int) ≤ (A.length : Int) := by omega
  have a1 : (A.length : Int) ≤ (cap : Int) := by omega
  have a2 : (A.length : Int) ≤ (m : Int) := by omega
  have e3 : ¬ cap = A.length := by omega
  have e4 : ¬ cap = 0 := by omega
  have HSB := Lib.hid (show m - A.length = Bl.length by omega)
  rw [hl] at *
  clear s hN hcap hcm hk hM hbd hx hX hA hBl hsz e1 e2 ih hl hAl
  rw [hm] at *
  clear hm
  generalize A.length = ma at *
  go_enter Try.func19, Try.ntmps19
  go_wp2_with fail
  refine C1.out.mono ?_
  rintro e w1 ⟨rfl, hf1, s1, b1, d1⟩
  go_wp2_with fail
  rw [HSB.out]
  refine (C2.out w1 hf1 s1 b1 d1).mono ?_
  rintro e w2 ⟨rfl, hf2, s2, b2, d2⟩
  go_wp2_with fail
  refine (C3.out w2 hf2 s2 (b1.trans b2) d2).mono ?_
  rintro e w3 ⟨rfl, hf3, s3, b3, d3⟩
  have FIN := Lib.hid (show ∃ hf', StAt w3 base B g h q num n (P ++ ms z (k + 1) X ++ Q) (msl z (k + 1) X late) hf' ∧ Below base w w3 ∧ Bd (msl z (k + 1) X late) (M + 160000 * ((m - 1 : Nat) : Int)) from ⟨hf3, s3, (b1.trans b2).trans b3, d3.mono FB.out⟩)
  clear s1 s2 s3 b1 b2 b3 d1 d2 d3
  go_wp2
  first | go_end0 | refine bodyPost_ret (results_none rfl _ _ _) rfl ?_
  exact ⟨rfl, FIN.out⟩
theorem sort_all {z : Nat → Int} {base B g h q : Nat} {num : Value} {n : Nat} (hn : n ≤ 400) : ∀ k, SortC z base B g h q num n k
  | 0 => fun w P X Q late hf cap M s hN hcap hcm hk hM hbd => sort_few w P X Q late hf cap M 0 s (by simpa using Nat.lt_succ_of_le hk) hbd
  | k + 1 => sort_step hn k (sort_all hn k)
theorem alloc4 (w : World) (X Y Z S : Obj) : ((((w.alloc X).alloc Y).alloc Z).alloc S).heap[w.heap.size]? = some X ∧ ((((w.alloc X).alloc Y).alloc Z).alloc S).heap[w.heap.size + 1]? = some Y ∧ ((((w.alloc X).alloc Y).alloc Z).alloc S).heap[w.heap.size + 1 + 1]? = some Z ∧ ((((w.alloc X).alloc Y).alloc Z).alloc S).heap[w.heap.size + 1 + 1 + 1]? = some S ∧ Below w.heap.size w ((((w.alloc X).alloc Y).alloc Z).alloc S) := by
  have e1 : (w.alloc X).heap.size = w.heap.size + 1 := by simp
  have e2 : ((w.alloc X).alloc Y).heap.size = w.heap.size + 1 + 1 := by simp
  have e3 : (((w.alloc X).alloc Y).alloc Z).heap.size = w.heap.size + 1 + 1 + 1 := by simp
  refine ⟨?_, ?_, ?_, ?_, ?_⟩
  · exact (heap_alloc_old _ _ (by omega)).trans ((heap_alloc_old _ _ (by omega)).trans ((heap_alloc_old _ _ (by omega)).trans (heap_alloc_new w X)))
  · exact (heap_alloc_old _ _ (by omega)).trans ((heap_alloc_old _ _ (by omega)).trans (by rw [← e1]; exact heap_alloc_new _ _))
  · exact (heap_alloc_old _ _ (by omega)).trans (by rw [← e2]; exact heap_alloc_new _ _)
  · rw [← e3]; exact heap_alloc_new _ _
  · exact ((((Below.refl _ w).alloc (Nat.le_refl _) _).alloc (by omega) _).alloc (by omega) _).alloc (by omega) _
theorem zeros_made (k : Nat) : madeCells #[Value.int .i64 0] k = (List.replicate k (Value.int .i64 0)).toArray := by
  apply Array.toList_inj.1
  rw [toList_madeCells_one]
theorem st_made {W : World} {base B g h q : Nat} {a : Option Addr} {n c p : Nat} (hp : n / 2 = p)
    (h1 : W.heap[B]? = some (.cells #[.slice a n c, .slice (some ⟨g, 0, none⟩) n n, .slice (some ⟨h, 0, none⟩) n n, .slice (some ⟨q, 0, none⟩) p p] 33 (0, 0)))
    (h2 : W.heap[g]? = some (.cells (madeCells #[Value.int .i64 0] n) 3 (0, 0))) (h3 : W.heap[h]? = some (.cells (madeCells #[Value.int .i64 0] n) 3 (0, 0))) (h4 : W.heap[q]? = some (.cells (madeCells #[Value.int .i64 0] p) 3 (0, 0)))
    (lo : base ≤ B ∧ base ≤ g ∧ base ≤ h ∧ base ≤ q) (ap : g ≠ h ∧ g ≠ q ∧ h ≠ q) : StAt W base B g h q (.slice a n c) n (List.replicate n 0) (List.replicate n 0) (List.replicate (n / 2) (.int .i64 0)) := by
  refine ⟨by rw [hp]; exact h1, by rw [h2, zeros_made, List.map_replicate]; rfl, by rw [h3, zeros_made, List.map_replicate], by rw [h4, zeros_made, hp], lo, ap, by simp, by simp, by simp, fun x hx => ?_⟩
  have := List.mem_replicate.1 hx
  omega
theorem range_step (n i : Nat) (h : i < n) : (List.range i ++ List.replicate (n - i) 0).set i i = List.range (i + 1) ++ List.replicate (n - (i + 1)) 0 := by
  rw [List.set_append_right _ _ (by simp), List.length_range, Nat.sub_self, show n - i = (n - (i + 1)) + 1 by omega, List.replicate_succ, List.set_cons_zero, List.range_succ, List.append_assoc]; rfl
set_option maxRecDepth 100000 in
set_option maxHeartbeats 1000000 in
theorem sorted_any {z : Nat → Int} {n : Nat} (hn : n ≤ 400) (a : Option Addr) (c : Nat) (w : World) (hN : NumAt w w.heap.size (.slice a n c) z n) :
    Calls Try.prog 16 #[.slice a n c] w fun e w' => ∃ B g h q hf', e = .returned (.pointer (some ⟨B, 0, none⟩)) ∧ StAt w' w.heap.size B g h q (.slice a n c) n (ordN z n) (latN z n) hf' ∧ Below w.heap.size w w' := by
  obtain ⟨i0, hi, hz0, hz1, hz2⟩ := info_parts (show (Try.prog.info? 3).map (fun i => (i.zero, i.size, i.bytes)) = some (some (.int .i64 0), 1, 8) by kernel_rfl)
  go_enter Try.func16, Try.ntmps16
  have hq : (n : Int).tdiv 2 = ((n / 2 : Nat) : Int) := by rw [Int.tdiv_eq_ediv_of_nonneg (by omega)]; omega
  have hqw : IntKind.i64.wrap ((n / 2 : Nat) : Int) = ((n / 2 : Nat) : Int) := by rw [IntKind.wrap_i64]; omega
  obtain ⟨p, hp⟩ : ∃ p, n / 2 = p := ⟨_, rfl⟩
  rw [hp] at hq hqw
  have HP := Lib.hid hp
  have n2 : (n : Int) ≤ 400 := by omega
  have n3 : (p : Int) ≤ 400 := by omega
  have n4 : (0 : Int) ≤ (p : Int) := by omega
  have n5 : (0 : Int) ≤ (n : Int) := by omega
  have ms1 : ∀ W : World, (Instr.makeSlice 27 (.int .i64 (n : Int)) (.int .i64 (n : Int))).run Try.prog W = .ok (.slice (some ⟨W.heap.size, 0, none⟩) n n) (W.alloc (.cells (madeCells (.int .i64 0 : Value).cells (n * 1)) 3)) := fun W => by
    have := run_make (P := Try.prog) W 27 3 i0 (.int .i64 0) Try.underlying27 hi hz0 .i64 .i64 n n n5 (Int.le_refl _) (by rw [hz2]; omega) (by omega)
    rw [hz1, Int.toNat_natCast] at this
    exact this
  have ms2 : ∀ W : World, (Instr.makeSlice 27 (.int .i64 (p : Int)) (.int .i64 (p : Int))).run Try.prog W = .ok (.slice (some ⟨W.heap.size, 0, none⟩) p p) (W.alloc (.cells (madeCells (.int .i64 0 : Value).cells (p * 1)) 3)) := fun W => by
    have := run_make (P := Try.prog) W 27 3 i0 (.int .i64 0) Try.underlying27 hi hz0 .i64 .i64 p p n4 (Int.le_refl _) (by rw [hz2]; omega) (by omega)
    rw [hz1, Int.toNat_natCast] at this
    exact this
  clear hp
  go_upto_region 2 with (fail)
  go_cut [4] (fun y wx => ∃ B g h q, y = .pointer (some ⟨B, 0, none⟩) ∧ StAt wx w.heap.size B g h q (.slice a n c) n (List.replicate n 0) (List.replicate n 0) (List.replicate (n / 2) (.int .i64 0)) ∧ Below w.heap.size w wx)
  case first =>
    go_region
    all_goals go_wp2
    all_goals go_meet
    all_goals
      obtain ⟨x0, x1, x2, x3, bb⟩ := alloc4 w _ _ _ _
      first
      | exact ⟨_, _, _, _, rfl, (st_made HP.out x3 x0 x1 x2 (by omega) (by omega)).below rfl, ⟨bb.os, bb.tape, bb.output, bb.size, bb.block⟩⟩
      | exact ⟨_, _, _, _, rfl, (st_made HP.out x3 x0 x2 x1 (by omega) (by omega)).below rfl, ⟨bb.os, bb.tape, bb.output, bb.size, bb.block⟩⟩
      | exact ⟨_, _, _, _, rfl, (st_made HP.out x3 x1 x0 x2 (by omega) (by omega)).below rfl, ⟨bb.os, bb.tape, bb.output, bb.size, bb.block⟩⟩
      | exact ⟨_, _, _, _, rfl, (st_made HP.out x3 x1 x2 x0 (by omega) (by omega)).below rfl, ⟨bb.os, bb.tape, bb.output, bb.size, bb.block⟩⟩
      | exact ⟨_, _, _, _, rfl, (st_made HP.out x3 x2 x0 x1 (by omega) (by omega)).below rfl, ⟨bb.os, bb.tape, bb.output, bb.size, bb.block⟩⟩
      | exact ⟨_, _, _, _, rfl, (st_made HP.out x3 x2 x1 x0 (by omega) (by omega)).below rfl, ⟨bb.os, bb.tape, bb.output, bb.size, bb.block⟩⟩
  obtain ⟨B, g, h, q, rfl, st, bb⟩ := hcut
  generalize wc = wy at *
  obtain ⟨d0, d1, d2, d3⟩ := st.cell
  have ST := Lib.hid st
  have BB := Lib.hid bb
  clear st bb ms1 ms2
  go_wp2
  go_loopw [23] (fun x wr => ∃ i : Nat, i ≤ n ∧ x = .int .i64 i ∧ StAt wr w.heap.size B g h q (.slice a n c) n (List.range i ++ List.replicate (n - i) 0) (List.replicate n 0) (List.replicate (n / 2) (.int .i64 0)) ∧ Below w.heap.size w wr) (fun x _ => n - (intOf x).toNat)
  case atStart => exact ⟨0, Nat.zero_le _, rfl, by simpa using ST.out, BB.out⟩
  case round =>
    obtain ⟨i, hi', rfl, s1, b1⟩ := hrel
    by_cases hlt : i < n
    · obtain ⟨f0, f1, f2, f3⟩ := s1.cell
      have SO := Lib.hid (s1.setOrd i i hlt)
      rw [range_step n i hlt] at SO
      have oz := (s1.ordAt i).2
      have oc : wr.cell? ⟨g, i, none⟩ = some (.int .i64 0) := (s1.ordAt i).1.trans (by
        rw [List.map_append, List.getElem?_append_right (by simp), List.length_map, List.length_range, Nat.sub_self, List.map_replicate, List.getElem?_replicate, if_pos (by omega)]
        rfl)
      have B1 := Lib.hid b1
      have i0' : (0 : Int) ≤ i := by omega
      have i1' : (i : Int) < n := by omega
      clear s1 b1 d0 d1 d2 d3
      go_wp2
      go_roundw
      case rel => exact ⟨i + 1, by omega, by go_num, SO.out.1, B1.out.trans SO.out.2⟩
      case measure => simp [intOf] <;> omega
    · obtain rfl : i = n := by omega
      rw [Nat.sub_self, List.replicate_zero, List.append_nil] at s1
      obtain ⟨f0, f1, f2, f3⟩ := s1.cell
      have SC := Lib.hid (sort_all (z := z) hn i wr [] (List.range i) [] (List.replicate i 0) _ i 0 (by simpa using s1) (hN.below b1) (by simp) hn (range_pow i) (by rw [List.length_range]; omega) (fun x hx => by rw [(List.mem_replicate.1 hx).2]; omega))
      rw [List.length_range, List.length_nil, List.nil_append, List.append_nil] at SC
      have B1 := Lib.hid b1
      clear s1 b1 hN d0 d1 d2 d3
      go_wp2_with fail
      refine SC.out.mono ?_
      rintro e w2 ⟨rfl, hf', s2, b2, -⟩
      have FIN := Lib.hid (show StAt w2 w.heap.size B g h q (.slice a i c) i (ordN z i) (latN z i) hf' ∧ Below w.heap.size w w2 from ⟨s2, B1.out.trans b2⟩)
      clear s2 b2 SC
      go_wp2
      go_ret
      exact ⟨_, _, _, _, _, rfl, FIN.out⟩
end Go.Proofs.Yteblhgmepfegpab
