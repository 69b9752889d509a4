/-
  The law of sums of layer 1, walked: true for any list of words. No condition.
-/
import Derived.Test.YtbgpjdbmjdlpkaaSat2
import Derived.Test.YtbgpjdbmjdlpkaaWalk1
import Derived.Outline
import Derived.Maps.AppendAt
namespace Go.Proofs.Ytbgpjdbmjdlpkaa
set_option linter.unusedVariables false
set_option linter.unusedSimpArgs false
open Go.ChangeShapes Go.WideShapes Go.ChangeAt Go.RowKit

def sumL (l : List Int) : Int := l.foldr (· + ·) 0
theorem sumL_append (a b : List Int) : sumL (a ++ b) = sumL a + sumL b := by
  induction a with
  | nil => simp [sumL]
  | cons x a ih => show x + sumL (a ++ b) = x + sumL a + sumL b; rw [ih]; omega
theorem sumL_reverse (a : List Int) : sumL a.reverse = sumL a := by
  induction a with
  | nil => rfl
  | cons x a ih => rw [List.reverse_cons, sumL_append, ih]; show sumL a + (x + 0) = x + sumL a; omega
theorem sumL_nonneg (a : List Int) (h : ∀ x ∈ a, 0 ≤ x) : 0 ≤ sumL a := by
  induction a with
  | nil => exact Int.le_refl _
  | cons x a ih =>
    have h1 := h x (by simp)
    have h2 := ih (fun y hy => h y (by simp [hy]))
    show 0 ≤ x + sumL a
    omega
theorem sumL_mem (a : List Int) (h : ∀ x ∈ a, 0 ≤ x) (x : Int) (hx : x ∈ a) : x ≤ sumL a := by
  induction a with
  | nil => cases hx
  | cons y a ih =>
    have h1 := h y (by simp)
    have h2 := sumL_nonneg a (fun y hy => h y (by simp [hy]))
    show x ≤ y + sumL a
    rcases List.mem_cons.1 hx with rfl | hx
    · omega
    · have := ih (fun y hy => h y (by simp [hy])) hx
      omega
theorem total_eq (a : List Int) (h : ∀ x ∈ a, 0 ≤ x) : total a = cap (sumL a) := by
  have key : ∀ (a : List Int) (s : Int), 0 ≤ s → (∀ x ∈ a, 0 ≤ x) → a.foldl (fun s x => cap (s + x)) (cap s) = cap (s + sumL a) := by
    intro a
    induction a with
    | nil => intro s _ _; show cap s = cap (s + 0); rw [Int.add_zero]
    | cons x a ih =>
      intro s hs ha
      have hx := ha x (by simp)
      show a.foldl _ (cap (cap s + x)) = cap (s + (x + sumL a))
      rw [Int.add_comm (cap s) x, cap_add_cap hx, ih _ (by omega) (fun y hy => ha y (by simp [hy]))]
      congr 1
      omega
  have := key a 0 (Int.le_refl _) h
  rw [Int.zero_add] at this
  exact this
theorem total_reverse (a : List Int) (h : ∀ x ∈ a, 0 ≤ x) : total a.reverse = total a := by
  rw [total_eq a h, total_eq a.reverse (fun x hx => h x (List.mem_reverse.1 hx)), sumL_reverse]
theorem total_mem (a : List Int) (h : ∀ x ∈ a, Wd x) (x : Int) (hx : x ∈ a) : x ≤ total a := by
  rw [total_eq a (fun y hy => (h y hy).1)]
  have := sumL_mem a (fun y hy => (h y hy).1) x hx
  have := (h x hx).2
  unfold cap
  split <;> omega

theorem getD_mem (zs : List Int) (k : Nat) (h : k < zs.length) : zs.getD k 0 ∈ zs := by
  rw [List.getD_eq_getElem?_getD, List.getElem?_eq_getElem h]; exact List.getElem_mem _

theorem infoU64 : (Try.prog.info? 22).map (fun i => (i.zero, i.size, i.bytes)) = some (some (.int .u64 0), 1, 8) := by kernel_rfl

theorem sum_own (w0 w : World) (base : Nat) (v : Value) (n : Nat) (zs : List Int) (hz : zs.length = n) (hw : ∀ x ∈ zs, Wd x) (hn : n ≤ maxLen) (h : w0.ownsRow base 22 1 v n (zs.map (Value.int .u64))) (hb : Below w0.heap.size w0 w) :
    Calls Try.prog 24 #[v] w fun e w' => e = .returned (.int .u64 (total zs)) ∧ w = w' := by
  have hl := h.lt
  have h' := h
  rcases h'.2 with ⟨rfl, h0⟩ | ⟨g, cap, cur, rfl, _⟩
  · have : zs = [] := List.length_eq_zero_iff.1 (by omega)
    subst this
    exact sum_none none 0 w
  · have hg := (hl g rfl).2
    refine sum_at g 0 n cap zs hz.symm hw hn w (fun i hi => ?_)
    rw [Nat.zero_add]
    refine (hb.cell (p := ⟨g, i, none⟩) hg).trans ?_
    rw [h.cellAt i (by omega), List.getElem?_map, List.getElem?_eq_getElem hi, List.getD_eq_getElem?_getD, List.getElem?_eq_getElem hi]
    rfl

set_option maxHeartbeats 2000000 in
theorem sums_at (b off c : Nat) (zs : List Int) (hw : ∀ x ∈ zs, Wd x) (hn : zs.length ≤ 1000) (w : World) (hb : b < w.heap.size)
    (hc : ∀ i, i < zs.length → w.cell? ⟨b, off + i, none⟩ = some (.int .u64 (zs.getD i 0))) :
    Calls Try.prog 4 #[.slice (some ⟨b, off, none⟩) zs.length c] w fun e w' => e = .returned (.bool true) ∧ Below w.heap.size w w' := by
  obtain ⟨i0, hi, hz0, hz1, hz2⟩ := info_parts infoU64
  have h0 : ∀ x ∈ zs, 0 ≤ x := fun x hx => (hw x hx).1
  have HC := Lib.hid hc; have HW := Lib.hid hw; have H0 := Lib.hid h0
  clear hc h0
  go_enter Try.func4, Try.ntmps4
  go_wp2_with fail
  refine (sum_at b off zs.length c zs rfl HW.out (by unfold maxLen; omega) _ HC.out).mono ?_
  rintro e w' ⟨rfl, rfl⟩
  go_wp2
  go_loopw [4, 14] (fun v i wr => ∃ (k : Nat) (ao : Option Addr) (cv : Nat), k ≤ zs.length ∧ i = .int .i64 k ∧ v = .slice ao k cv ∧ wr.ownsRow w.heap.size 22 1 v k ((zs.reverse.take k).map (Value.int .u64)) ∧ Below w.heap.size w wr) (fun _ i _ => zs.length - (intOf i).toNat)
  case atStart => exact ⟨0, none, 0, Nat.zero_le _, rfl, rfl, World.ownsRow_nil _ _ _ _, Below.refl _ _⟩
  case round =>
    obtain ⟨k, ao, cv, hk, rfl, rfl, hown, hnx⟩ := hrel
    have hsize := hnx.size
    by_cases hlt : k < zs.length
    · obtain ⟨j, hj⟩ : ∃ j, zs.length = k + j + 1 := ⟨zs.length - k - 1, by omega⟩
      have hJ : ((zs.length : Int) - 1 - k) = (j : Int) := by omega
      have CK := Lib.hid (HC.out k hlt)
      have cj := (hnx.cell (p := ⟨b, off + j, none⟩) hb).trans (HC.out j (by omega))
      have ck := (hnx.cell (p := ⟨b, off + k, none⟩) hb).trans (HC.out k hlt)
      have mk := total_mem zs HW.out _ (getD_mem zs k hlt)
      have et : (zs.reverse.take k).map (Value.int .u64) ++ [.int .u64 (zs.getD j 0)] = (zs.reverse.take (k + 1)).map (Value.int .u64) := by
        have hk' : k < zs.reverse.length := by simpa using hlt
        rw [take_snoc zs.reverse k hk', List.map_append]
        congr 2
        rw [List.getD_eq_getElem?_getD, List.getD_eq_getElem?_getD, List.getElem?_reverse hlt]
        have : zs.length - 1 - k = j := by omega
        rw [this]
      have ET := Lib.hid et
      have hj' : j < zs.length := by omega
      have HJ := Lib.hid hj
      clear et hj
      generalize zs.getD j 0 = xj at *
      generalize zs.getD k 0 = xk at *
      have hml : k + 1 ≤ maxLen := by unfold maxLen; omega
      have hby : (k + 1) * 8 ≤ 140737488355328 := by omega
      have step : ∀ v' w3, w3.ownsRow w.heap.size 22 1 v' (k + 1) ((zs.reverse.take k).map (Value.int .u64) ++ [.int .u64 xj]) → (wr.alloc (.cells #[.int .u64 xj] 22)).grownBy w3 (Value.slice ao k cv).ownBlock →
          Below w.heap.size w w3 ∧ w3.cell? ⟨b, off + k, none⟩ = some (.int .u64 xk) := by
        intro v' w3 h1 h2
        have hb3 : Below w.heap.size w w3 := (hnx.alloc hsize _).grown h2 (by simp; omega) (fun g hg => (hown.lt g hg).1)
        exact ⟨hb3, (hb3.cell (p := ⟨b, off + k, none⟩) hb).trans CK.out⟩
      have STEP := Lib.hid step; clear step
      go_wp2_with (at_builtin; refine wpList_append_own _ rfl _ _ 28 rfl w.heap.size 22 i0 (.int .u64 0) 1 8 Try.underlying28 hi hz0 hz1 hz2 rfl (by decide) _ _ _ rfl (hown.alloc _) ⟨wr.heap.size, 0, none⟩ 1 1 [.int .u64 xj] rfl rfl (cell_one_new _ _ _) (fun x hx => by simp at hx; subst hx; rfl) (by exact hml) (by exact hby) (by simp; omega) ?_; intro v' w3 hown' hgrow3 hnil3; go_loud (obtain ⟨hb3, ck3⟩ := STEP.out v' w3 hown' hgrow3); clear hnil3 hgrow3)
      obtain ⟨g3, cap3, hv3⟩ : ∃ g3 cap3, v' = .slice (some ⟨g3, 0, none⟩) (k + 1) cap3 := by
        rcases hown'.2 with ⟨_, h⟩ | ⟨g3, cap3, _, h, _⟩
        · omega
        · exact ⟨g3, cap3, h⟩
      subst hv3
      rw [ET.out] at hown'
      go_roundw
      case rel => exact ⟨k + 1, _, _, by omega, by go_num, rfl, hown', hb3⟩
      case measure => simp [intOf]; omega
    · have ek : k = zs.length := by omega
      subst ek
      have er : zs.reverse.take zs.length = zs.reverse := List.take_of_length_le (by simp)
      rw [er] at hown
      have er := Lib.hid er
      have tr := total_reverse zs H0.out
      have TR := Lib.hid tr; clear tr er
      have c2 : ∀ i, i < zs.length → wr.cell? ⟨b, off + i, none⟩ = some (.int .u64 (zs.getD i 0)) := fun i h => (hnx.cell (p := ⟨b, off + i, none⟩) hb).trans (HC.out i h)
      have C2 := Lib.hid c2; clear c2
      go_wp2_with fail
      refine (refsum_at b off zs.length c zs rfl HW.out (by unfold maxLen; omega) _ (by omega) C2.out).mono ?_
      rintro e w4 ⟨rfl, h4⟩
      go_wp2_with fail
      refine (sum_own wr w4 _ _ zs.length zs.reverse (by simp) (fun x hx => HW.out x (List.mem_reverse.1 hx)) (by unfold maxLen; omega) hown h4).mono ?_
      rintro e w' ⟨rfl, rfl⟩
      rw [TR.out]
      go_wp2_with fail
      refine (lives1 _).mono ?_
      rintro e w5 ⟨rfl, h5⟩
      go_wp2
      go_ret
      exact ⟨rfl, Below.go (hnx.trans (h4.mono hsize)) h5⟩

theorem sums_none (a : Option Addr) (c : Nat) (w : World) :
    Calls Try.prog 4 #[.slice a 0 c] w fun e w' => e = .returned (.bool true) ∧ Below w.heap.size w w' := by
  go_enter Try.func4, Try.ntmps4
  go_wp2_with fail
  refine (sum_none a c _).mono ?_
  rintro e w' ⟨rfl, rfl⟩
  go_wp2
  refine wp_loop_rounds 1 ?_
  rw [rounds_succ]
  go_wp2_with fail
  refine (refsum_none a c _).mono ?_
  rintro e w' ⟨rfl, rfl⟩
  go_wp2_with fail
  refine (sum_none _ _ _).mono ?_
  rintro e w' ⟨rfl, rfl⟩
  go_wp2_with fail
  refine (lives1 _).mono ?_
  rintro e w5 ⟨rfl, h5⟩
  go_wp2
  go_ret
  exact ⟨rfl, h5⟩

theorem walk_satSums (a : Option Addr) (n c : Nat) (zs : List Int) {w : World} (hr : Row1 .u64 w a n zs) (hcap : n ≤ c) :
    Calls Try.prog 4 #[.slice a n c] w fun e w' => e = .returned (.bool true) ∧ Below w.heap.size w w' := by
  obtain ⟨hz, hm, hw, hc⟩ := hr
  by_cases h : n ≤ 1000
  · by_cases h0 : n = 0
    · subst h0
      exact sums_none a c w
    · obtain ⟨b, off, rfl, hb, hcell⟩ := hc (by omega)
      subst hz
      exact sums_at b off c zs (fun x hx => bounds_u64 (hw x hx)) h w hb hcell
  · clear hc hw hz
    have hlt : 1000 < n := by omega
    clear h
    unfold maxLen at hm
    go_enter Try.func4, Try.ntmps4
    go_wp2_with fail
    refine (lives1 _).mono ?_
    rintro e w5 ⟨rfl, h5⟩
    go_wp2
    go_ret
    exact ⟨rfl, h5⟩
end Go.Proofs.Ytbgpjdbmjdlpkaa
