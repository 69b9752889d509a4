/-
  The document's answer for layer 3, lists: the words of a line, texts joined, lists told the same. What lay below the heap's end stands. No condition but that lines are short.
-/
import Derived.Test.YtdeehklegeeanaaDoorDigRef2
import Derived.Maps.AppendAt
namespace Go.Proofs.YtdeehklegeeanaaDoor
set_option linter.unusedVariables false
set_option linter.unusedSimpArgs false
open Go.ChangeShapes Go.WideShapes Go.ChangeAt Go.RowKit
attribute [-go_sem] run_index_string binOp_string_eql binOp_string_neq run_string_add_if run_slice_string_from_if run_slice_string_to_if
attribute [local go_sem] index_bt add_fits slice_from slice_to eql_str neq_str alloc_drewN setCell_drewN

/-- Texts joined by blanks: the first ones. -/
def jn (ss : List ByteArray) : Nat → ByteArray
  | 0 => ⟨#[]⟩
  | k + 1 => (if 0 < k then jn ss k ++ ⟨#[32]⟩ else jn ss k) ++ ss.getD k ByteArray.empty
/-- The length of the first texts with a blank each. -/
def ln (ss : List ByteArray) : Nat → Nat
  | 0 => 0
  | k + 1 => ln ss k + (ss.getD k ByteArray.empty).size + 1
theorem jn_size (ss : List ByteArray) : ∀ k, (jn ss k).size ≤ ln ss k
  | 0 => Nat.le_refl _
  | k + 1 => by
    have ih := jn_size ss k
    show ((if 0 < k then jn ss k ++ ⟨#[32]⟩ else jn ss k) ++ ss.getD k ByteArray.empty).size ≤ ln ss k + (ss.getD k ByteArray.empty).size + 1
    rw [ByteArray.size_append]
    split
    · rw [ByteArray.size_append]
      have : (⟨#[32]⟩ : ByteArray).size = 1 := rfl
      omega
    · omega
theorem ln_mono (ss : List ByteArray) (k : Nat) : ∀ m, ln ss k ≤ ln ss (k + m)
  | 0 => Nat.le_refl _
  | m + 1 => by
    have := ln_mono ss k m
    show _ ≤ ln ss (k + m) + _ + 1
    omega

/-- The cells of a row of strings. -/
def SCells (w : World) (b off : Nat) (ss : List ByteArray) : Prop := ∀ i, i < ss.length → w.cell? ⟨b, off + i, none⟩ = some (.string (ss.getD i ByteArray.empty))

theorem refjoin_at (b off c : Nat) (ss : List ByteArray) (hl : ln ss ss.length ≤ 1000000) (hn : ss.length ≤ maxLen) (w : World) (hc : SCells w b off ss) :
    Calls Tryd.prog 22 #[.slice (some ⟨b, off, none⟩) ss.length c] w fun e w' => e = .returned (.string (jn ss ss.length)) ∧ w = w' := by
  unfold maxLen at hn
  have HC := Lib.hid hc; clear hc
  go_enter Tryd.func22, Tryd.ntmps22
  go_wp2
  go_loop [3, 4] (fun x y => ∃ k : Nat, k ≤ ss.length ∧ y = .int .i64 k ∧ x = .string (jn ss k)) (fun _ y => ss.length - (intOf y).toNat)
  case atStart => exact ⟨0, Nat.zero_le _, rfl, rfl⟩
  case round =>
    obtain ⟨k, hk, rfl, rfl⟩ := hrel
    by_cases hlt : k < ss.length
    · have ck := HC.out k hlt
      have hz := jn_size ss k
      have hz2 := jn_size ss (k + 1)
      have hm := ln_mono ss (k + 1) (ss.length - (k + 1))
      have e : k + 1 + (ss.length - (k + 1)) = ss.length := by omega
      rw [e] at hm
      have hj : jn ss (k + 1) = (if 0 < k then jn ss k ++ ⟨#[32]⟩ else jn ss k) ++ ss.getD k ByteArray.empty := rfl
      rcases Nat.eq_zero_or_pos k with h0 | h0
      · subst h0
        rw [Nat.add_zero] at ck
        have hj1 : jn ss (0 + 1) = jn ss 0 ++ ss.getD 0 ByteArray.empty := rfl
        rw [hj1, ByteArray.size_append] at hz2
        have hf : Fits (jn ss 0) (ss.getD 0 ByteArray.empty) := ⟨by omega⟩
        have HJ := Lib.hid hj1
        clear hz hz2 hm hj hj1 e
        generalize ss.getD 0 ByteArray.empty = x at *
        generalize jn ss 0 = y at *
        go_wp2
        go_round
        case rel => exact ⟨0 + 1, by omega, by go_num, by rw [HJ.out]⟩
        case measure => simp [intOf] <;> omega
      · rw [if_pos h0] at hj
        rw [hj, ByteArray.size_append, ByteArray.size_append] at hz2
        have h1 : (⟨#[32]⟩ : ByteArray).size = 1 := rfl
        have hf1 : Fits (jn ss k) ⟨#[32]⟩ := ⟨by omega⟩
        have hf2 : Fits (jn ss k ++ ⟨#[32]⟩) (ss.getD k ByteArray.empty) := ⟨by rw [ByteArray.size_append]; omega⟩
        have HJ := Lib.hid hj
        clear hz hz2 hm hj e
        generalize ss.getD k ByteArray.empty = x at *
        generalize jn ss k = y at *
        go_wp2
        go_round
        case rel => exact ⟨k + 1, by omega, by go_num, by rw [HJ.out]⟩
        case measure => simp [intOf] <;> omega
    · have e : k = ss.length := by omega
      subst e
      go_wp2
      go_ret
      exact ⟨rfl, rfl⟩
theorem refjoin_none (a : Option Addr) (c : Nat) (w : World) :
    Calls Tryd.prog 22 #[.slice a 0 c] w fun e w' => e = .returned (.string ⟨#[]⟩) ∧ w = w' := by
  go_enter Tryd.func22, Tryd.ntmps22
  go_wp2
  refine wp_loop_rounds 1 ?_
  rw [rounds_succ]
  go_wp2
  go_ret
  exact ⟨rfl, rfl⟩

theorem refsame_at (b off c b2 off2 c2 : Nat) (ss : List ByteArray) (hn : ss.length ≤ 1000000) (w : World) (hb : b < w.heap.size) (hb2 : b2 < w.heap.size) (hc : SCells w b off ss) (hc2 : SCells w b2 off2 ss) :
    Calls Tryd.prog 18 #[.slice (some ⟨b, off, none⟩) ss.length c, .slice (some ⟨b2, off2, none⟩) ss.length c2] w fun e w' => e = .returned (.bool true) ∧ Below w.heap.size w w' := by
  have HC := Lib.hid hc; have HC2 := Lib.hid hc2
  clear hc hc2
  go_enter Tryd.func18, Tryd.ntmps18
  go_wp2
  go_loopw [5] (fun x wr => ∃ k : Nat, k ≤ ss.length ∧ x = .int .i64 k ∧ Below w.heap.size w wr) (fun x _ => ss.length - (intOf x).toNat)
  case atStart => exact ⟨0, Nat.zero_le _, rfl, Below.refl _ _⟩
  case round =>
    obtain ⟨k, hk, rfl, hbw⟩ := hrel
    by_cases hlt : k < ss.length
    · have c0 := (hbw.cell (p := ⟨b, off + k, none⟩) hb).trans (HC.out k hlt)
      have d0 := (hbw.cell (p := ⟨b2, off2 + k, none⟩) hb2).trans (HC2.out k hlt)
      generalize ss.getD k ByteArray.empty = f at *
      have x0 : (0 : Int) ≤ (k : Int) := by omega
      have x1 : (k : Int) < (ss.length : Int) := by omega
      go_wp2
      go_quiet (fail)
      go_wp2
      go_roundw
      case rel => exact ⟨k + 1, by omega, by go_num, below_drewN _ hbw⟩
      case measure => simp [intOf] <;> omega
    · go_wp2
      go_ret
      exact ⟨rfl, hbw⟩
theorem refsame_none (a a2 : Option Addr) (c c2 : Nat) (w : World) :
    Calls Tryd.prog 18 #[.slice a 0 c, .slice a2 0 c2] w fun e w' => e = .returned (.bool true) ∧ Below w.heap.size w w' := by
  go_enter Tryd.func18, Tryd.ntmps18
  go_wp2
  refine wp_loop_rounds 1 ?_
  rw [rounds_succ]
  go_wp2
  go_ret
  exact ⟨rfl, Below.refl _ _⟩

/-- Is a byte a blank? -/
def Blank (c : Int) : Prop := c = 32 ∨ c = 9
instance (c : Int) : Decidable (Blank c) := by unfold Blank; exact inferInstance
/-- The words of the first bytes, and what is begun. -/
def ws (s : ByteArray) : Nat → List ByteArray × ByteArray
  | 0 => ([], ⟨#[]⟩)
  | k + 1 => if Blank (bt s k) then (if (ws s k).2 = ⟨#[]⟩ then (ws s k).1 else (ws s k).1 ++ [(ws s k).2], ⟨#[]⟩) else ((ws s k).1, (ws s k).2 ++ chrs [bt s k])
/-- The words of a line. -/
def wl (s : ByteArray) : List ByteArray := if (ws s s.size).2 = ⟨#[]⟩ then (ws s s.size).1 else (ws s s.size).1 ++ [(ws s s.size).2]
theorem ws_small (s : ByteArray) : ∀ k, (ws s k).1.length ≤ k ∧ (ws s k).2.size ≤ k
  | 0 => ⟨Nat.le_refl _, Nat.le_refl _⟩
  | k + 1 => by
    obtain ⟨h1, h2⟩ := ws_small s k
    unfold ws
    split
    · refine ⟨?_, Nat.zero_le _⟩
      show (if _ then _ else _ : List ByteArray).length ≤ _
      split
      · omega
      · rw [List.length_append]; simp; omega
    · refine ⟨by show (ws s k).1.length ≤ _; omega, ?_⟩
      show ((ws s k).2 ++ chrs [bt s k]).size ≤ _
      rw [ByteArray.size_append, chrs_size]; simp; omega
theorem infoStr : (Tryd.prog.info? 9).map (fun i => (i.zero, i.size, i.bytes)) = some (some (.string ⟨#[]⟩), 1, 16) := by kernel_rfl

theorem cells_new1 (w : World) (v : Value) (t : TypeId) : ∀ j u, [v][j]? = some u → (w.alloc (.cells #[v] t)).cell? ((⟨w.heap.size, 0, none⟩ : Addr).add j) = some u := by
  intro j u h
  cases j with
  | zero =>
    have : v = u := by simpa using h
    subst this
    simp [go_sem, Addr.add]
  | succ j => simp at h

set_option maxRecDepth 100000 in
set_option maxHeartbeats 1000000 in
theorem refwords_any (s : ByteArray) (hs : s.size ≤ 100000) (w : World) :
    Calls Tryd.prog 20 #[.string s] w fun e w' => ∃ v, e = .returned v ∧ w'.ownsRow w.heap.size 9 1 v (wl s).length ((wl s).map Value.string) ∧ Below w.heap.size w w' := by
  obtain ⟨i0, hi, hz0, hz1, hz2⟩ := info_parts infoStr
  go_enter Tryd.func20, Tryd.ntmps20
  go_wp2
  go_loopw [3, 4, 5] (fun x y z wr => ∃ (v : Value) (k : Nat), v = x ∧ k ≤ s.size ∧ z = .int .i64 k ∧ y = .string (ws s k).2 ∧ wr.ownsRow w.heap.size 9 1 v (ws s k).1.length ((ws s k).1.map Value.string) ∧ Below w.heap.size w wr) (fun _ _ z _ => s.size - (intOf z).toNat)
  case atStart => exact ⟨_, 0, rfl, Nat.zero_le _, rfl, rfl, World.ownsRow_nil _ _ _ _, Below.refl _ _⟩
  case round =>
    obtain ⟨v, k, rfl, hk, rfl, rfl, ho, hbw⟩ := hrel
    have hsize := hbw.size
    obtain ⟨z1, z2⟩ := ws_small s k
    have HBW := Lib.hid hbw
    by_cases hlt : k < s.size
    · have b := bt_bd s k
      have hstep : ws s (k + 1) = if Blank (bt s k) then (if (ws s k).2 = ⟨#[]⟩ then (ws s k).1 else (ws s k).1 ++ [(ws s k).2], ⟨#[]⟩) else ((ws s k).1, (ws s k).2 ++ chrs [bt s k]) := rfl
      have hone := ext_one s k hlt
      by_cases h32 : bt s k = 32
      · rw [if_pos (show Blank (bt s k) from Or.inl h32)] at hstep
        have g1 : (bt s k != 32) = false := by simp [h32]
        clear h32 hone
        by_cases hnow : (ws s k).2 = ⟨#[]⟩
        · rw [if_pos hnow] at hstep
          have hd : decide ((ws s k).2 = ⟨#[]⟩) = true := decide_eq_true hnow
          have HS := Lib.hid hstep
          clear hstep hnow
          generalize ws s k = q at *
          obtain ⟨out, now⟩ := q
          simp only at ho hd z1 z2 HS
          go_wp2
          go_roundw
          case rel => exact ⟨v, k + 1, rfl, by omega, by go_num, by rw [HS.out], by rw [HS.out]; exact ho, HBW.out⟩
          case measure => simp [intOf] <;> omega
        · rw [if_neg hnow] at hstep
          have hd : decide ((ws s k).2 = ⟨#[]⟩) = false := decide_eq_false hnow
          have HS := Lib.hid hstep
          clear hstep hnow
          generalize ws s k = q at *
          obtain ⟨out, now⟩ := q
          simp only at ho hd z1 z2 HS
          go_wp2_with (at_builtin; refine wpList_append_own _ rfl _ _ 32 rfl w.heap.size 9 i0 (.string ⟨#[]⟩) 1 16 Tryd.underlying32 hi hz0 hz1 hz2 rfl (by decide) _ _ _ rfl (ho.alloc _) ⟨wr.heap.size, 0, none⟩ 1 1 [.string now] rfl rfl (cells_new1 _ _ _) (fun x hx => by simp at hx; subst hx; rfl) (by unfold maxLen; omega) (by omega) (by simp; omega) ?_; intro v' w3 hown' hgrow3 hnil3; clear hnil3)
          go_roundw
          case rel => exact ⟨v', k + 1, rfl, by omega, by go_num, by rw [HS.out], by rw [HS.out, List.length_append, List.map_append]; exact hown', (HBW.out.alloc hsize _).grown hgrow3 (by simp; omega) (fun g hg => (World.ownsRow.lt ho g hg).1)⟩
          case measure => simp [intOf] <;> omega
      · have g1 : (bt s k != 32) = true := by simp [h32]
        by_cases h9 : bt s k = 9
        · rw [if_pos (show Blank (bt s k) from Or.inr h9)] at hstep
          have g2 : (bt s k != 9) = false := by simp [h9]
          clear h32 h9 hone
          by_cases hnow : (ws s k).2 = ⟨#[]⟩
          · rw [if_pos hnow] at hstep
            have hd : decide ((ws s k).2 = ⟨#[]⟩) = true := decide_eq_true hnow
            have HS := Lib.hid hstep
            clear hstep hnow
            generalize ws s k = q at *
            obtain ⟨out, now⟩ := q
            simp only at ho hd z1 z2 HS
            go_wp2
            go_roundw
            case rel => exact ⟨v, k + 1, rfl, by omega, by go_num, by rw [HS.out], by rw [HS.out]; exact ho, HBW.out⟩
            case measure => simp [intOf] <;> omega
          · rw [if_neg hnow] at hstep
            have hd : decide ((ws s k).2 = ⟨#[]⟩) = false := decide_eq_false hnow
            have HS := Lib.hid hstep
            clear hstep hnow
            generalize ws s k = q at *
            obtain ⟨out, now⟩ := q
            simp only at ho hd z1 z2 HS
            go_wp2_with (at_builtin; refine wpList_append_own _ rfl _ _ 32 rfl w.heap.size 9 i0 (.string ⟨#[]⟩) 1 16 Tryd.underlying32 hi hz0 hz1 hz2 rfl (by decide) _ _ _ rfl (ho.alloc _) ⟨wr.heap.size, 0, none⟩ 1 1 [.string now] rfl rfl (cells_new1 _ _ _) (fun x hx => by simp at hx; subst hx; rfl) (by unfold maxLen; omega) (by omega) (by simp; omega) ?_; intro v' w3 hown' hgrow3 hnil3; clear hnil3)
            go_roundw
            case rel => exact ⟨v', k + 1, rfl, by omega, by go_num, by rw [HS.out], by rw [HS.out, List.length_append, List.map_append]; exact hown', (HBW.out.alloc hsize _).grown hgrow3 (by simp; omega) (fun g hg => (World.ownsRow.lt ho g hg).1)⟩
            case measure => simp [intOf] <;> omega
        · have g2 : (bt s k != 9) = true := by simp [h9]
          rw [if_neg (show ¬ Blank (bt s k) from fun h => by rcases h with h | h <;> contradiction)] at hstep
          have HS := Lib.hid hstep
          have k1 : (k : Int) ≤ (k : Int) + 1 := by omega
          have k2 : (k : Int) + 1 ≤ (s.size : Int) := by omega
          have k3 : ((k : Int) + 1).toNat = k + 1 := by omega
          have hf : Fits (ws s k).2 (chrs [bt s k]) := ⟨by rw [chrs_size]; simp; omega⟩
          clear hstep h32 h9
          generalize ws s k = q at *
          obtain ⟨out, now⟩ := q
          simp only at ho hf z1 z2 HS
          go_wp2
          go_roundw
          case rel => exact ⟨v, k + 1, rfl, by omega, by go_num, by rw [HS.out], by rw [HS.out]; exact ho, HBW.out⟩
          case measure => simp [intOf] <;> omega
    · have ek : k = s.size := by omega
      subst ek
      have hw : wl s = if (ws s s.size).2 = ⟨#[]⟩ then (ws s s.size).1 else (ws s s.size).1 ++ [(ws s s.size).2] := rfl
      by_cases hnow : (ws s s.size).2 = ⟨#[]⟩
      · rw [if_pos hnow] at hw
        have hd : decide ((ws s s.size).2 = ⟨#[]⟩) = true := decide_eq_true hnow
        have HW := Lib.hid hw
        clear hw hnow
        generalize ws s s.size = q at *
        obtain ⟨out, now⟩ := q
        simp only at ho hd HW
        go_wp2
        go_ret
        exact ⟨v, rfl, by rw [HW.out]; exact ho, HBW.out⟩
      · rw [if_neg hnow] at hw
        have hd : decide ((ws s s.size).2 = ⟨#[]⟩) = false := decide_eq_false hnow
        have HW := Lib.hid hw
        clear hw hnow
        generalize ws s s.size = q at *
        obtain ⟨out, now⟩ := q
        simp only at ho hd z1 z2 HW
        go_wp2_with (at_builtin; refine wpList_append_own _ rfl _ _ 32 rfl w.heap.size 9 i0 (.string ⟨#[]⟩) 1 16 Tryd.underlying32 hi hz0 hz1 hz2 rfl (by decide) _ _ _ rfl (ho.alloc _) ⟨wr.heap.size, 0, none⟩ 1 1 [.string now] rfl rfl (cells_new1 _ _ _) (fun x hx => by simp at hx; subst hx; rfl) (by unfold maxLen; omega) (by omega) (by simp; omega) ?_; intro v' w3 hown' hgrow3 hnil3; clear hnil3)
        go_ret
        exact ⟨v', rfl, by rw [HW.out, List.length_append, List.map_append]; exact hown', (HBW.out.alloc hsize _).grown hgrow3 (by simp; omega) (fun g hg => (World.ownsRow.lt ho g hg).1)⟩
end Go.Proofs.YtdeehklegeeanaaDoor
