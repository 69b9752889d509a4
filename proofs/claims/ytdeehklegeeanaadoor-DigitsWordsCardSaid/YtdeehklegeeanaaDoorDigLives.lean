/-
  The examples of layer 3, walked. The package's variables hold what they are laid with.
-/
import Derived.Test.YtdeehklegeeanaaDoorDigPutU
import Derived.Test.YtdeehklegeeanaaDoorDigGetU
import Derived.Test.YtdeehklegeeanaaDoorDigRef4
import Derived.Test.YtdeehklegeeanaaDoorDigJoin
import Derived.Test.YtdeehklegeeanaaDoorDigWords
import Derived.WalkSmall
namespace Go.Proofs.YtdeehklegeeanaaDoor
set_option linter.unusedVariables false
set_option linter.unusedSimpArgs false
open Go.ChangeShapes Go.WideShapes Go.ChangeAt Go.RowKit
attribute [-go_sem] run_index_string binOp_string_eql binOp_string_neq run_string_add_if run_slice_string_from_if run_slice_string_to_if
attribute [local go_sem] index_bt add_fits slice_from slice_to eql_str neq_str alloc_drewN setCell_drewN

/-- What the package's variables, and the library's, hold. -/
structure Held3 (w : World) : Prop where
  units : UnitsAt w
  err : ∃ te pe, w.cell? ⟨3, 0, none⟩ = some (.iface te pe)
  tab : Lib.TabIs Tryd.prog w "internal/strconv.uint64pow10" .u64 Lib.pow10Tab
  elt : 3 < w.heap.size
  tlt : 4 < w.heap.size
theorem Held3.below {w w' : World} (h : Held3 w) (hb : Below w.heap.size w w') : Held3 w' := by
  obtain ⟨⟨c0, c1, c2, c3, c4, c5, old⟩, ⟨te, pe, he⟩, ht, h1, h2⟩ := h
  have hs := hb.size
  have cc : ∀ i, w'.cell? ⟨0, i, none⟩ = w.cell? ⟨0, i, none⟩ := fun i => hb.cell (p := ⟨0, i, none⟩) old
  exact ⟨⟨(cc 0).trans c0, (cc 1).trans c1, (cc 2).trans c2, (cc 3).trans c3, (cc 4).trans c4, (cc 5).trans c5, by omega⟩, ⟨te, pe, (hb.cell (p := ⟨3, 0, none⟩) h1).trans he⟩, var?_below hb (by kernel_rfl) h2 ht, by omega, by omega⟩
theorem get3 (s : ByteArray) (hs : s.size ≤ 1000000) (w : World) (h : Held3 w) :
    Calls Tryd.prog 10 #[.string s] w fun e w' => e = .returned (.tuple #[.int .u64 (rd s).1, .int .i64 (rd s).2]) ∧ Below w.heap.size w w' := by
  obtain ⟨te, pe, he⟩ := h.err
  exact read_any s hs te pe w he h.elt
theorem getu3 (s : ByteArray) (hs : s.size ≤ 1000000) (w : World) (h : Held3 w) :
    Calls Tryd.prog 12 #[.string s] w fun e w' => e = .returned (.tuple #[.int .u64 (rdu s).1, .int .i64 (rdu s).2]) ∧ Below w.heap.size w w' := by
  obtain ⟨te, pe, he⟩ := h.err
  exact readunit_any s hs te pe w h.units he h.elt
theorem put3 (n : Int) (n0 : 0 ≤ n) (n1 : n ≤ 18446744073709551615) (w : World) (h : Held3 w) :
    Calls Tryd.prog 14 #[.int .u64 n] w fun e w' => e = .returned (.string (dec n)) ∧ Below w.heap.size w w' := put_any2 n n0 n1 w h.tab
theorem putu3 (n : Int) (n0 : 0 ≤ n) (n1 : n ≤ 18446744073709551615) (w : World) (h : Held3 w) :
    Calls Tryd.prog 15 #[.int .u64 n] w fun e w' => e = .returned (.string (pu n)) ∧ Below w.heap.size w w' := putunit_any n n0 n1 w h.units (fun w1 b => (h.below b).tab)

theorem two_formed : Formed ⟨#[50]⟩ := ⟨by decide, fun k hk => by
  have : k = 0 := by have h : k < 1 := hk; omega
  subst this
  exact ⟨by decide +kernel, by decide +kernel⟩, fun h => by exact absurd h (by decide)⟩
theorem rd_two : rd ⟨#[50]⟩ = (2, 0) := by
  rw [rd_ok _ two_formed (by decide +kernel)]
  have : nv ⟨#[50]⟩ (⟨#[50]⟩ : ByteArray).size = 2 := by decide +kernel
  rw [this]
theorem rdu_2M : rdu ⟨#[50, 77]⟩ = (2000000, 0) := by
  have e1 : cutS ⟨#[50, 77]⟩ = ⟨#[50]⟩ := by unfold cutS uw; decide +kernel
  have e2 : cutU ⟨#[50, 77]⟩ = 1000000 := by unfold cutU uw; decide +kernel
  rw [rdu_after, e1, e2, rd_two]
  decide +kernel
theorem rd_007 : rd ⟨#[48, 48, 55]⟩ = (0, 3) := rd_form _ fun h => h.2.2 (by decide) (by decide +kernel)
theorem pu_1500000 : pu 1500000 = ⟨#[49, 53, 48, 48, 75]⟩ := by decide +kernel
theorem wl_ab : wl ⟨#[32, 97, 9, 98, 32]⟩ = [⟨#[97]⟩, ⟨#[98]⟩] := by decide +kernel
theorem own_cells3 {w : World} {base : Nat} {v : Value} {ss : List ByteArray} (h : w.ownsRow base 9 1 v ss.length (ss.map Value.string)) (h0 : 0 < ss.length) : ∃ g c, v = .slice (some ⟨g, 0, none⟩) ss.length c ∧ g < w.heap.size ∧ base ≤ g ∧ ss.length ≤ c ∧ SCells w g 0 ss := by
  have h' := h
  rcases h'.2 with ⟨_, hh⟩ | ⟨g, c, cur, rfl, hb, hg, hl, _⟩
  · omega
  · refine ⟨g, c, rfl, (Array.getElem?_eq_some_iff.1 hg).1, hb, hl, fun i hi => ?_⟩
    rw [Nat.zero_add, h.cellAt i (by omega), List.getElem?_map, List.getElem?_eq_getElem hi, List.getD_eq_getElem?_getD, List.getElem?_eq_getElem hi]
    rfl

set_option maxRecDepth 100000 in
set_option maxHeartbeats 1000000 in
theorem lives3 (w : World) (h : Held3 w) :
    Calls Tryd.prog 9 #[] w fun e w' => e = .returned (.bool true) ∧ Below w.heap.size w w' := by
  have H := Lib.hid h
  clear h
  go_enter Tryd.func9, Tryd.ntmps9
  go_wp2_with fail
  refine (getu3 ⟨#[50, 77]⟩ (by decide) _ H.out).mono ?_
  rw [rdu_2M]
  rintro e w1 ⟨rfl, b1⟩
  have H1 := Lib.hid (H.out.below b1)
  go_wp2_with fail
  refine (get3 ⟨#[48, 48, 55]⟩ (by decide) _ H1.out).mono ?_
  rw [rd_007]
  rintro e w2 ⟨rfl, b2⟩
  have H2 := Lib.hid (H1.out.below b2)
  go_wp2_with fail
  refine (putu3 1500000 (by omega) (by omega) _ H2.out).mono ?_
  rw [pu_1500000]
  rintro e w3 ⟨rfl, b3⟩
  go_wp2_with fail
  refine (words_any ⟨#[32, 97, 9, 98, 32]⟩ (by decide) _).mono ?_
  rw [wl_ab]
  rintro e w4 ⟨v4, rfl, o4, b4⟩
  obtain ⟨g, c, rfl, hg, -, -, hc⟩ := own_cells3 o4 (by decide)
  have SM := Lib.hid (refsame_at g 0 c w4.heap.size 0 2 [⟨#[97]⟩, ⟨#[98]⟩] (by decide) (w4.alloc (.cells #[.string ⟨#[97]⟩, .string ⟨#[98]⟩] 9)) (by simp; omega) (by simp)
    (fun i hi => by rw [← hc i hi]; exact World.cell?_alloc_lt _ _ _ hg)
    (fun i hi => by
      have hi' : i < 2 := hi
      rw [Nat.zero_add, World.cell?_alloc_new]
      match i, hi' with
      | 0, _ => rfl
      | 1, _ => rfl))
  clear o4 hc
  go_wp2_with fail
  refine SM.out.mono ?_
  rintro e w5 ⟨rfl, b5⟩
  go_wp2
  go_ret
  have q1 := b1.trans (b2.mono b1.size)
  have q2 := q1.trans (b3.mono q1.size)
  have q3 := q2.trans (b4.mono q2.size)
  exact ⟨rfl, (q3.alloc q3.size _).trans (b5.mono (by have := q3.size; simp; omega))⟩
end Go.Proofs.YtdeehklegeeanaaDoor
