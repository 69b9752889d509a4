/-
  The answer of layer 12: the first item is popped. No block turns but those of the answer. No condition but that the answer's New made it.
-/
import Derived.Test.YtkgiaijcgblpbaaR12P
import Derived.Deep.RegionWith
namespace Go.Proofs.Ytkgiaijcgblpbaa
set_option linter.unusedVariables false
set_option linter.unusedSimpArgs false
open Go.ChangeShapes Go.WideShapes Go.ChangeAt Go.RowKit
attribute [local go_sem] alloc_drewN setCell_drewN

theorem rest9_lt {w : World} {base g n c : Nat} {v : Value} {e t : TypeId} {size : Nat} {xs : List Value} (h : w.ownsRow base e size (.slice (some ⟨g, 0, none⟩) n c) n xs) : g < w.heap.size := (World.ownsRow.lt h g rfl).2
set_option maxRecDepth 100000 in
set_option maxHeartbeats 2000000 in
theorem pop12 {w : World} {base M : Nat} {room : Int} {ub ul : Value} {bs : List Int} {vs : List Value} {ls : List (List (Int × Int))} (h : R12 w base M room ub ul bs vs ls) (hbase : base ≤ w.heap.size) :
    Calls Try.prog 46 #[.pointer (some ⟨M, 0, none⟩)] w fun e w' =>
      ((∀ i, i < ls.length → ls.getD i [] = []) ∧ e = .returned (.tuple #[.int .u64 0, .int .i64 0, .bool false]) ∧ Below w.heap.size w w') ∨
      (∃ (y : Int × Int) (i : Nat) (t : List (Int × Int)) (vs' : List Value), e = .returned (.tuple #[.int .u64 y.1, .int .i64 y.2, .bool true]) ∧ i < ls.length ∧ ls.getD i [] = y :: t ∧ (∀ j, j < i → ls.getD j [] = []) ∧ R12 w' base M room ub ul bs vs' (ls.set i t) ∧ MvS w w' (inR12 M ub ul vs) (inR12 M ub ul vs')) := by
  obtain ⟨c0, c1, c2⟩ := h.cell
  obtain ⟨gl, cl, hvl, hcl⟩ := h.formL
  have FS := Lib.hid (first12 h)
  have hMlt : M < w.heap.size := (Array.getElem?_eq_some_iff.1 h.blk).1
  have hLlt : gl < w.heap.size := (World.ownsRow.lt h.ol gl (by rw [hvl]; rfl)).2
  have hgM : gl ≠ M := fun e => own_ne_blk h.ol h.blk (by decide) (by rw [hvl, ← e]; rfl)
  subst hvl
  have HCL := Lib.hid hcl; have H0 := Lib.hid h; have HMG := Lib.hid hgM
  have hn1 := h.n1
  clear h hcl c0 c1 hgM
  go_enter Try.func46, Try.ntmps46
  go_wp2_with fail
  refine FS.out.mono ?_
  rintro e w' ⟨r, rfl, hr, hw⟩
  subst hw
  rcases hr with ⟨rfl, hz⟩ | ⟨i, rfl, hlt, hne, hz⟩
  · have Z := Lib.hid hz
    clear hz
    go_wp2
    go_ret3
    exact Or.inl ⟨Z.out, rfl, Below.refl _ _⟩
  · obtain ⟨a, n, hn, c, cq, hI⟩ := HCL.out i hlt
    have i0 : ¬ (i : Int) < 0 := by omega
    have i1 : (i : Int) < ls.length := by omega
    have i2 : (0 : Int) ≤ i := by omega
    obtain ⟨y, t, hy⟩ : ∃ y t, ls.getD i [] = y :: t := by
      cases hc : ls.getD i [] with
      | nil => exact absurd hc hne
      | cons y t => exact ⟨y, t, rfl⟩
    have LE := sl12_one ls i hlt
    have SM := sl12_set ls i hlt t
    have hsm := H0.out.sm
    rw [hy] at hI LE SM
    rw [List.length_cons] at LE SM
    have HI := Lib.hid hI
    have F9 := Lib.hid (first9 _ _ y t w hI)
    have R9 := Lib.hid (fun W (hW : Below w.heap.size w W) => rest9 _ _ (y :: t) (by rw [List.length_cons]; omega) W (HI.out.below hW))
    have FIN : Hid (∀ w4 v4, Below w.heap.size w w4 → Its w4 w.heap.size v4 t →
        R12 (w4.setCell ⟨gl, i, none⟩ v4) base M room ub (.slice (some ⟨gl, 0, none⟩) ls.length cl) bs (vs.set i v4) (ls.set i t) ∧ MvS w (w4.setCell ⟨gl, i, none⟩ v4) (inR12 M ub (.slice (some ⟨gl, 0, none⟩) ls.length cl) vs) (inR12 M ub (.slice (some ⟨gl, 0, none⟩) ls.length cl) (vs.set i v4))) := Lib.hid (fun w4 v4 b4 i4 =>
      R12.put H0.out hbase i hlt v4 t ((b4.block M hMlt).trans H0.out.blk) (own_onSI H0.out.ob (fun j hj => b4.block j (World.ownsRow.lt H0.out.ob j hj).2)) (fun j hj => Or.inr hj) rfl (fun j hj _ => b4.block j hj) b4.size b4.os b4.tape b4.output i4 (by omega))
    have FQ : Hid (∀ W : World, Below w.heap.size w W → W.cell? ⟨M, 2, none⟩ = some (.slice (some ⟨gl, 0, none⟩) ls.length cl) ∧ W.cell? ⟨gl, i, none⟩ = some (.slice a n c) ∧ W.frozen? ⟨gl, i, none⟩ = false) := Lib.hid (fun W hW => ⟨(hW.cell (p := ⟨M, 2, none⟩) hMlt).trans c2, (hW.cell (p := ⟨gl, i, none⟩) hLlt).trans cq, World.ownsRow.frozenAt (g := gl) (own_onSI (show w.ownsRow base 58 1 (.slice (some ⟨gl, 0, none⟩) ls.length cl) ls.length vs by have o := H0.out.ol; rw [H0.out.lv] at o; exact o) (fun j hj => by
      injection hj with hj
      subst hj
      exact hW.block _ hLlt)) i⟩)
    have DN : Hid (ls.getD i [] = y :: t ∧ ∀ j, j < i → ls.getD j [] = []) := Lib.hid ⟨hy, hz⟩
    obtain ⟨y1, y2⟩ := y
    dsimp only at F9
    clear hn hI hne hz hy LE SM hsm
    go_wp2_with fail
    refine F9.out.mono ?_
    rintro e w2 ⟨rfl, hb⟩
    have B2 := Lib.hid hb
    clear hb
    have BD2 : Hid (∀ n, Below w.heap.size w (w2.drewN n)) := Lib.hid (fun n => below_drewN n B2.out)
    obtain ⟨e1, e2, e3⟩ := FQ.out _ B2.out
    go_wp2
    go_region_with (go_at_call 34; refine (R9.out _ (by first | exact B2.out | exact BD2.out _)).mono ?_; rintro e w3 ⟨v3, rfl, h3, b3⟩; obtain ⟨a3, c3, hv3⟩ := row_slice h3; subst hv3; have I3 := Lib.hid (its_lower h3 (by first | exact B2.out.size | exact (BD2.out _).size)); have B3 := Lib.hid ((BD2.out _).trans (b3.mono (BD2.out _).size)); obtain ⟨q1, q2, q3⟩ := FQ.out _ B3.out; clear h3 b3)
    all_goals
      have F3 := Lib.hid (FIN.out _ _ B3.out I3.out)
      clear FIN FQ R9 BD2
      go_wp2
      go_ret3
      exact Or.inr ⟨(y1, y2), i, t, _, rfl, hlt, DN.out.1, DN.out.2, F3.out.1, F3.out.2⟩
end Go.Proofs.Ytkgiaijcgblpbaa
