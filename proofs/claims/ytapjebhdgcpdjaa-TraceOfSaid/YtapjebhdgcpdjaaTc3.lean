/-
  One record's bytes, by package trace and by the document's answer for layer 39. What lay below the heap's end stands.
-/
import Derived.Test.YtapjebhdgcpdjaaTc2
import Derived.Test.YtapjebhdgcpdjaaWireP3
import Derived.Test.YtapjebhdgcpdjaaWireT3
import Derived.Test.YtapjebhdgcpdjaaSum3
namespace Go.Proofs.Ytapjebhdgcpdjaa
set_option linter.unusedVariables false
set_option linter.unusedSimpArgs false
open Go.ChangeShapes Go.WideShapes Go.ChangeAt Go.RowKit
attribute [-go_sem] run_index_string binOp_string_eql binOp_string_neq run_string_add_if run_slice_string_from_if run_slice_string_to_if
attribute [local go_sem] index_bt add_fits slice_from slice_to eql_str neq_str alloc_drewN setCell_drewN

theorem tc_lit {w0 W : World} {g n : Nat} {cs : Array Value} {fl : List Fd} (hb : w0.heap.size ≤ W.heap.size) (hg : W.heap.size = g) (hn : fl.length = n) (hm : n ≤ maxLen) (hc : cs.toList = fl.flatMap Fd.cells) (hl : cs.size = n * 3) :
    (W.alloc (.cells cs 158)).ownsRow w0.heap.size 158 3 (.slice (some ⟨g, 0, none⟩) n n) fl.length (fl.flatMap Fd.cells) := by
  subst hn hg
  have := World.ownsRow_lit (e := 158) (size := 3) (base := w0.heap.size) W cs fl.length hb hm hl
  rw [hc] at this
  exact this
theorem fds_ok39 (x : Rec) (hx : x.ok) (hr : x.rt) : ∀ f ∈ x.fds, f.ok := fun f hf => by
  obtain ⟨he, n0, n1⟩ := fds_er x hx hr f hf
  obtain ⟨k1, k6, hs, _⟩ := er_range f he
  exact ⟨⟨by omega, by omega⟩, ⟨n0, n1⟩, by unfold maxLen; omega⟩
theorem perr39 (x : Rec) (hx : x.ok) (hr : x.rt) : perr x.fds = 0 := perr_all _ fun i hi => by
  have hm : x.fds.getD i Fd.nil ∈ x.fds := by rw [List.getD_eq_getElem?_getD, List.getElem?_eq_getElem hi]; exact List.getElem_mem _
  exact (fds_er x hx hr _ hm).1
theorem Put_tc (x : Rec) (hx : x.ok) (hr : x.rt) (base : Nat) (v : Value) (w : World) (h : w.ownsRow base 158 3 v x.fds.length (x.fds.flatMap Fd.cells)) :
    Calls Try.prog 84 #[v] w fun e w' => e = .returned (.tuple #[.string (pb x.fds), .int .i64 0]) ∧ Below w.heap.size w w' := by
  have hp := perr39 x hx hr
  rcases own_fields _ _ _ _ _ h with ⟨rfl, h0⟩ | ⟨g, cap, rfl, _, hg, hF⟩
  · cases h0
  · exact Put_at g 0 cap x.fds (by show 6 ≤ 10000; omega) (fds_ok39 x hx hr) w hg hF _ (fun _ => rfl) (fun x => absurd hp x)
theorem refPut_tc (x : Rec) (hx : x.ok) (hr : x.rt) (base : Nat) (v : Value) (w : World) (h : w.ownsRow base 158 3 v x.fds.length (x.fds.flatMap Fd.cells)) :
    Calls Try.prog 86 #[v] w fun e w' => e = .returned (.tuple #[.string (pb x.fds), .int .i64 0]) ∧ Below w.heap.size w w' := by
  have hp := perr39 x hx hr
  rcases own_fields _ _ _ _ _ h with ⟨rfl, h0⟩ | ⟨g, cap, rfl, _, hg, hF⟩
  · cases h0
  · exact refPut_at g 0 cap x.fds (by show 6 ≤ 10000; omega) (fds_ok39 x hx hr) w hg hF _ (fun _ => rfl) (fun x => absurd hp x)
set_option maxHeartbeats 2000000 in
theorem tcput_any (x : Rec) (hx : x.ok) (hr : x.rt) (w : World) :
    Calls Try.prog 61 #[x.val] w fun e w' => e = .returned (.string x.one) ∧ Below w.heap.size w w' := by
  have PT := Lib.hid (fun v W h => Put_tc x hx hr w.heap.size v W h)
  have SL := Lib.hid (fun W => seal_any (pb x.fds) (by rw [pb_26]; omega) W)
  have e1 : seal4 (pb x.fds) = x.one := rfl
  rw [e1] at SL
  obtain ⟨P, hP⟩ : ∃ P, pb x.fds = P := ⟨_, rfl⟩
  rw [hP] at PT SL
  obtain ⟨O, hO⟩ : ∃ O, x.one = O := ⟨_, rfl⟩
  rw [hO] at SL ⊢
  clear hP hO e1
  obtain ⟨t, k, f, i, n, c⟩ := x
  obtain ⟨⟨t0, t1⟩, ⟨k0, k1⟩, ⟨f0, f1⟩, ⟨i0, i1⟩, ⟨n0, n1⟩, c0, c1⟩ := hx
  obtain ⟨⟨rk0, rk1⟩, rc0, rc1⟩ := hr
  simp only at t0 t1 k0 k1 f0 f1 i0 i1 n0 n1 c0 c1 rk0 rk1 rc0 rc1
  clear k0 c0 k1 c1
  unfold Rec.val
  simp only
  go_enter Try.func61, Try.ntmps61
  go_wp2_with fail
  refine (PT.out _ _ (tc_lit (fl := Rec.fds ⟨t, k, f, i, n, c⟩) (by simp; try omega) (by simp) rfl (show 6 ≤ maxLen by unfold maxLen; decide) rfl rfl)).mono ?_
  rintro e w1 ⟨rfl, h1⟩
  have hs1 := h1.size
  go_wp2_with fail
  refine (SL.out _).mono ?_
  rintro e w2 ⟨rfl, h2⟩
  go_wp2
  go_ret
  refine ⟨rfl, ?_⟩
  simp at hs1
  exact ((((Below.refl _ _).alloc (Nat.le_refl _) _).alloc (by simp) _).trans (h1.mono (by simp; try omega))).trans (h2.mono (by omega))
set_option maxHeartbeats 2000000 in
theorem rone_any (x : Rec) (hx : x.ok) (hr : x.rt) (w : World) :
    Calls Try.prog 62 #[x.val] w fun e w' => e = .returned (.string x.one) ∧ Below w.heap.size w w' := by
  have PT := Lib.hid (fun v W h => refPut_tc x hx hr w.heap.size v W h)
  have SL := Lib.hid (fun W => refseal_any (pb x.fds) (by rw [pb_26]; omega) W)
  have e1 : seal4 (pb x.fds) = x.one := rfl
  rw [e1] at SL
  obtain ⟨P, hP⟩ : ∃ P, pb x.fds = P := ⟨_, rfl⟩
  rw [hP] at PT SL
  obtain ⟨O, hO⟩ : ∃ O, x.one = O := ⟨_, rfl⟩
  rw [hO] at SL ⊢
  clear hP hO e1
  obtain ⟨t, k, f, i, n, c⟩ := x
  obtain ⟨⟨t0, t1⟩, ⟨k0, k1⟩, ⟨f0, f1⟩, ⟨i0, i1⟩, ⟨n0, n1⟩, c0, c1⟩ := hx
  obtain ⟨⟨rk0, rk1⟩, rc0, rc1⟩ := hr
  simp only at t0 t1 k0 k1 f0 f1 i0 i1 n0 n1 c0 c1 rk0 rk1 rc0 rc1
  clear k0 c0 k1 c1
  unfold Rec.val
  simp only
  go_enter Try.func62, Try.ntmps62
  go_wp2_with fail
  refine (PT.out _ _ (tc_lit (fl := Rec.fds ⟨t, k, f, i, n, c⟩) (by simp; try omega) (by simp) rfl (show 6 ≤ maxLen by unfold maxLen; decide) rfl rfl)).mono ?_
  rintro e w1 ⟨rfl, h1⟩
  have hs1 := h1.size
  go_wp2_with fail
  refine (SL.out _).mono ?_
  rintro e w2 ⟨rfl, h2⟩
  go_wp2
  go_ret
  refine ⟨rfl, ?_⟩
  simp at hs1
  exact ((((Below.refl _ _).alloc (Nat.le_refl _) _).alloc (by simp) _).trans (h1.mono (by simp; try omega))).trans (h2.mono (by omega))
end Go.Proofs.Ytapjebhdgcpdjaa
