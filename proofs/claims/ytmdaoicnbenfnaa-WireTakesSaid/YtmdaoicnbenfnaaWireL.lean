/-
  The examples of chapter 4 hold; how few fields are. What lay below the heap's end stands.
-/
import Derived.Test.YtmdaoicnbenfnaaWireT3
namespace Go.Proofs.Ytmdaoicnbenfnaa
set_option linter.unusedVariables false
set_option linter.unusedSimpArgs false
open Go.ChangeShapes Go.WideShapes Go.ChangeAt Go.RowKit
attribute [-go_sem] run_index_string binOp_string_eql binOp_string_neq run_string_add_if run_slice_string_from_if run_slice_string_to_if
attribute [local go_sem] index_bt add_fits slice_from slice_to eql_str neq_str alloc_drewN setCell_drewN

theorem few_at (b off c : Nat) (fs : List Fd) (hm : fs.length ≤ maxLen) (w : World) (hc : FCells w b off fs) :
    Calls Try.prog 11 #[.slice (some ⟨b, off, none⟩) fs.length c] w fun e w' => ∃ x : Int, e = .returned (.bool (decide (x ≤ 200))) ∧ (x ≤ 200 → fs.length ≤ 200) ∧ w = w' := by
  have HC := Lib.hid hc; clear hc
  unfold maxLen at hm
  go_enter Try.func11, Try.ntmps11
  go_wp2
  go_loop [3, 7] (fun x y => ∃ (m : Int) (k : Nat), k ≤ fs.length ∧ y = .int .i64 k ∧ x = .int .i64 m ∧ 0 ≤ m ∧ m ≤ 80000) (fun _ y => fs.length - (intOf y).toNat)
  case atStart => exact ⟨0, 0, Nat.zero_le _, rfl, rfl, by omega, by omega⟩
  case round =>
    obtain ⟨m, k, hk, rfl, rfl, m0, m1⟩ := hrel
    by_cases hlt : k < fs.length
    · obtain ⟨c0, c1, c2⟩ := HC.out k hlt
      generalize (fs.getD k Fd.nil).s = z at *
      clear c0 c1
      have hz : 0 ≤ min (z.size : Int) 70000 ∧ min (z.size : Int) 70000 ≤ 70000 := by omega
      by_cases hb : 80000 < m + (min (z.size : Int) 70000 + 1)
      · go_wp2
        go_ret
        exact ⟨300, rfl, fun h => by omega, rfl⟩
      · go_wp2
        go_round
        case rel => exact ⟨m + (min (z.size : Int) 70000 + 1), k + 1, by omega, by go_num, rfl, by omega, by omega⟩
        case measure => simp [intOf] <;> omega
    · go_wp2
      go_ret
      exact ⟨(fs.length : Int), rfl, fun h => by omega, rfl⟩
theorem few_none (a : Option Addr) (c : Nat) (w : World) :
    Calls Try.prog 11 #[.slice a 0 c] w fun e w' => e = .returned (.bool true) ∧ w = w' := by
  go_enter Try.func11, Try.ntmps11
  go_wp2
  refine wp_loop_rounds 1 ?_
  rw [rounds_succ]
  go_wp2
  go_ret
  exact ⟨rfl, rfl⟩

def liveF : List Fd := [⟨2, 258, ⟨#[]⟩⟩, ⟨5, 300, ⟨#[]⟩⟩]
theorem live_p : perr liveF = 0 := by kernel_rfl
theorem live_q : pb liveF = ⟨#[1, 2, 172, 2]⟩ := by decide +kernel
theorem live_n : (tl ⟨#[1, 2, 172, 2, 120]⟩ [2, 5] 0).2.1 = 4 := by decide +kernel
theorem live_e : (tl ⟨#[1, 2, 172, 2, 120]⟩ [2, 5] 0).2.2 = 0 := by decide +kernel
theorem live_l : (tl ⟨#[1, 2, 172, 2, 120]⟩ [2, 5] 0).1 = liveF := by kernel_rfl

theorem live_cells (w : World) (t : TypeId) : FCells (w.alloc (.cells #[.int .i64 2, .int .u64 258, .string ⟨#[]⟩, .int .i64 5, .int .u64 300, .string ⟨#[]⟩] t)) w.heap.size 0 liveF := by
  have c := World.cell?_alloc_mark w #[Value.int .i64 2, .int .u64 258, .string ⟨#[]⟩, .int .i64 5, .int .u64 300, .string ⟨#[]⟩] t (0, 0)
  intro i hi
  have hi : i < 2 := hi
  match i, hi with
  | 0, _ => exact ⟨c 0, c 1, c 2⟩
  | 1, _ => exact ⟨c 3, c 4, c 5⟩
theorem live_kinds (w : World) (t : TypeId) : ∀ i, i < 2 → (w.alloc (.cells #[.int .i64 2, .int .i64 5] t)).cell? ⟨w.heap.size, 0 + i, none⟩ = some (.int .i64 (([2, 5] : List Int).getD i 0)) := by
  have c := World.cell?_alloc_mark w #[Value.int .i64 2, .int .i64 5] t (0, 0)
  intro i hi
  match i, hi with
  | 0, _ => exact c 0
  | 1, _ => exact c 1

set_option maxHeartbeats 2000000 in
theorem lives4 (w : World) : Calls Try.prog 12 #[] w fun e w' => e = .returned (.bool true) ∧ Below w.heap.size w w' := by
  have hp : Hid (∀ W : World, ∀ b, b < W.heap.size → FCells W b 0 liveF → Calls Try.prog 13 #[.slice (some ⟨b, 0, none⟩) 2 2] W fun e w' => e = .returned (.tuple #[.string ⟨#[1, 2, 172, 2]⟩, .int .i64 0]) ∧ Below W.heap.size W w') := Lib.hid fun W b hb hc =>
    Put_at b 0 2 liveF (by decide) (fun x hx => by
      simp [liveF] at hx
      rcases hx with rfl | rfl
      · exact ⟨⟨by decide, by decide⟩, ⟨by decide, by decide⟩, by decide⟩
      · exact ⟨⟨by decide, by decide⟩, ⟨by decide, by decide⟩, by decide⟩) W hb hc _ (fun _ => by rw [live_q]) (fun h => absurd live_p h)
  have ht : Hid (∀ W : World, ∀ b, b < W.heap.size → (∀ i, i < 2 → W.cell? ⟨b, 0 + i, none⟩ = some (.int .i64 (([2, 5] : List Int).getD i 0))) → Calls Try.prog 17 #[.string ⟨#[1, 2, 172, 2, 120]⟩, .slice (some ⟨b, 0, none⟩) 2 2] W fun e w' => ∃ g cap, e = .returned (.tuple #[.slice (some ⟨g, 0, none⟩) 2 cap, .int .i64 4, .int .i64 0]) ∧ FCells w' g 0 liveF ∧ W.heap.size ≤ g ∧ g < w'.heap.size ∧ Below W.heap.size W w') := Lib.hid fun W b hb hc => by
    refine (Take_at ⟨#[1, 2, 172, 2, 120]⟩ b 0 2 [2, 5] (by decide) (by decide) (by simp) W hb hc).mono ?_
    rintro e w' ⟨v, rfl, ho, hbl⟩
    rw [live_l] at ho
    rw [live_n, live_e]
    rcases own_fields _ _ _ _ _ ho with ⟨_, h⟩ | ⟨g, cap, rfl, h1, h2, h3⟩
    · cases h
    · exact ⟨g, cap, rfl, h3, h1, h2, hbl⟩
  have hz : Hid (∀ W : World, Calls Try.prog 16 #[.agg #[.int .i64 2, .int .u64 258, .string ⟨#[]⟩]] W fun e w' => e = .returned (.int .i64 2) ∧ Below W.heap.size W w') := Lib.hid fun W =>
    size_any 2 258 ⟨#[]⟩ (by decide) (by decide) (by decide) (by decide) (by decide) W
  have hf : Fits ⟨#[1, 2, 172, 2]⟩ ⟨#[120]⟩ := ⟨by decide⟩
  have hcat : (⟨#[1, 2, 172, 2]⟩ : ByteArray) ++ ⟨#[120]⟩ = ⟨#[1, 2, 172, 2, 120]⟩ := by decide +kernel
  go_enter Try.func12, Try.ntmps12
  go_wp2_with fail
  refine (hp.out _ _ (by simp) (live_cells _ _)).mono ?_
  rintro e w1 ⟨rfl, h1⟩
  go_wp2_with fail
  refine (ht.out _ _ (by simp) (live_kinds _ _)).mono ?_
  rintro e w2 ⟨g, cap, rfl, hc, hg, hg2, h2⟩
  obtain ⟨c0, c1, c2⟩ := hc 0 (by decide)
  obtain ⟨d0, d1, d2⟩ := hc 1 (by decide)
  have c0 : w2.cell? ⟨g, 0, none⟩ = some (.int .i64 2) := c0
  have c1 : w2.cell? ⟨g, 1, none⟩ = some (.int .u64 258) := c1
  have c2 : w2.cell? ⟨g, 2, none⟩ = some (.string ⟨#[]⟩) := c2
  have d1 : w2.cell? ⟨g, 4, none⟩ = some (.int .u64 300) := d1
  clear hc d0 d2
  go_wp2_with fail
  refine (hz.out _).mono ?_
  rintro e w3 ⟨rfl, h3⟩
  go_wp2
  go_ret
  exact ⟨rfl, Below.go (Below.go ((Below.refl _ _).alloc (Nat.le_refl _) _) h1) (Below.go (Below.go ((Below.refl _ _).alloc (Nat.le_refl _) _) h2) h3)⟩
end Go.Proofs.Ytmdaoicnbenfnaa
