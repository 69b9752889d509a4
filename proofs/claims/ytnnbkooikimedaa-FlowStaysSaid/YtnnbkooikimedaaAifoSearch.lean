/-
  The library's search in a row of words in order: how many are less. No condition but that the row is in order.
-/
import Derived.Test.YtnnbkooikimedaaU64s
import Derived.Test.YtnnbkooikimedaaAifoMath
namespace Go.Proofs.Ytnnbkooikimedaa
set_option linter.unusedVariables false
set_option linter.unusedSimpArgs false
open Go.ChangeShapes Go.WideShapes Go.ChangeAt Go.RowKit
attribute [local go_sem] alloc_drewN setCell_drewN

theorem nan1 (x : Int) (w : World) : Calls Try.prog 185 #[.int .u64 x] w fun e w' => e = .returned (.bool false) ∧ w' = w := by
  go_enter Try.func185, Try.ntmps185
  go_wp2
  go_ret
  exact ⟨by simp, rfl⟩
theorem nan2 (x : Int) (w : World) : Calls Try.prog 180 #[.int .u64 x] w fun e w' => e = .returned (.bool false) ∧ w' = w := by
  go_enter Try.func180, Try.ntmps180
  go_wp2
  go_ret
  exact ⟨by simp, rfl⟩
theorem less_u (x y : Int) (w : World) : Calls Try.prog 150 #[.int .u64 x, .int .u64 y] w fun e w' => e = .returned (.bool (decide (x < y))) ∧ w' = w := by
  go_enter Try.func150, Try.ntmps150
  go_wp2_with (go_at_call 185; refine (nan1 _ _).mono ?_; rintro e w' ⟨rfl, rfl⟩)
  go_ret
  exact ⟨rfl, rfl⟩
theorem less_end (S : List Int) (hs : S.Pairwise (· ≤ ·)) (x : Int) (h : Nat) (hh : h ≤ S.length) (h1 : ∀ t, t < h → S.getD t 0 < x) (h2 : ∀ t, h ≤ t → t < S.length → x ≤ S.getD t 0) : lessC S x = h := by
  obtain ⟨a1, a2⟩ := lessC_at hs x
  have hle := lessC_le S x
  have e : ∀ t (ht : t < S.length), S.getD t 0 = S[t] := fun t ht => by rw [List.getD_eq_getElem?_getD, List.getElem?_eq_getElem ht]; rfl
  rcases Nat.lt_trichotomy (lessC S x) h with hc | hc | hc
  · have b1 := h1 _ hc
    have b2 := a2 (lessC S x) (by omega) (Nat.le_refl _)
    rw [e _ (by omega)] at b1
    omega
  · exact hc
  · have b1 := a1 h (by omega) hc
    have b2 := h2 h (Nat.le_refl _) (by omega)
    rw [e _ (by omega)] at b2
    omega
set_option maxRecDepth 100000 in
set_option maxHeartbeats 2000000 in
theorem bsearch (base : Nat) (v : Value) (S : List Int) (x : Int) (w : World) (hv : U64s w base v S) (hs : S.Pairwise (· ≤ ·)) (hn : S.length ≤ 100000) :
    Calls Try.prog 136 #[v, .int .u64 x] w fun e w' => ∃ d : Bool, e = .returned (.tuple #[.int .i64 (lessC S x : Nat), .bool d]) ∧ ∃ q, w' = w.drewN q := by
  obtain ⟨a, c, rfl, _, hc⟩ := hv.form
  have HC := Lib.hid hc
  have HS := Lib.hid hs
  clear hv hc hs
  obtain ⟨n, hN⟩ : ∃ n, n = S.length := ⟨_, rfl⟩
  have HN := Lib.hid hN
  rw [← hN] at hn ⊢
  clear hN
  go_enter Try.func136, Try.ntmps136
  go_wp2
  go_loopw [7, 8] (fun s7 s8 wr => ∃ lo hi q : Nat, s7 = .int .i64 lo ∧ s8 = .int .i64 hi ∧ lo ≤ hi ∧ hi ≤ n ∧ wr = w.drewN q ∧ Hid ((∀ t, t < lo → S.getD t 0 < x) ∧ (∀ t, hi ≤ t → t < S.length → x ≤ S.getD t 0))) (fun s7 s8 _ => (intOf s8).toNat - (intOf s7).toNat)
  case atStart => exact ⟨0, n, 0, rfl, rfl, Nat.zero_le _, Nat.le_refl _, rfl, Lib.hid ⟨fun t ht => absurd ht (Nat.not_lt_zero _), fun t h1 h2 => by have := HN.out; omega⟩⟩
  case round =>
    obtain ⟨lo, hi, q, rfl, rfl, hlh, hin, rfl, I⟩ := hrel
    by_cases hlt : lo < hi
    · obtain ⟨g, rfl, _, hg, cg, _⟩ := HC.out ((lo + hi) / 2) (by have := HN.out; omega)
      have cm : (w.drewN q).cell? ⟨g, (lo + hi) / 2, none⟩ = some (.int .u64 (S.getD ((lo + hi) / 2) 0)) := cg
      have SS := Lib.hid (fun a b (hab : a ≤ b) (hb : b < S.length) => (by
        by_cases e : a = b
        · rw [e]; exact Int.le_refl _
        · have := List.pairwise_iff_getElem.1 HS.out a b (by omega) hb (by omega)
          rw [List.getD_eq_getElem?_getD, List.getElem?_eq_getElem (by omega), List.getD_eq_getElem?_getD, List.getElem?_eq_getElem hb]
          exact this : S.getD a 0 ≤ S.getD b 0))
      have HNN := HN.out
      obtain ⟨y, hy⟩ : ∃ y, S.getD ((lo + hi) / 2) 0 = y := ⟨_, rfl⟩
      rw [hy] at cm
      have Y := Lib.hid hy
      have HN2 := Lib.hid HNN
      clear hy cg HNN
      by_cases hyx : y < x
      · go_wp2_with (go_at_call 150; refine (less_u _ _ _).mono ?_; rintro e w' ⟨rfl, rfl⟩)
        go_roundw
        case rel =>
          refine ⟨(lo + hi) / 2 + 1, hi, _, by rw [show ((lo : Int) + (hi : Int)) / 2 + 1 = (((lo + hi) / 2 + 1 : Nat) : Int) by omega], rfl, by omega, hin, rfl, Lib.hid ⟨fun t ht => ?_, I.out.2⟩⟩
          have := SS.out t ((lo + hi) / 2) (by omega) (by have := HN2.out; omega)
          rw [Y.out] at this
          omega
        case measure => simp [intOf] <;> omega
      · go_wp2_with (go_at_call 150; refine (less_u _ _ _).mono ?_; rintro e w' ⟨rfl, rfl⟩)
        go_roundw
        case rel =>
          refine ⟨lo, (lo + hi) / 2, _, rfl, by rw [show ((lo : Int) + (hi : Int)) / 2 = (((lo + hi) / 2 : Nat) : Int) by omega], by omega, by omega, rfl, Lib.hid ⟨I.out.1, fun t ht htn => ?_⟩⟩
          have := SS.out ((lo + hi) / 2) t ht htn
          rw [Y.out] at this
          omega
        case measure => simp [intOf] <;> omega
    · have : hi = lo := by omega
      subst this
      have E := Lib.hid (less_end S HS.out x hi (by have := HN.out; omega) I.out.1 I.out.2)
      by_cases hlt2 : hi < n
      · obtain ⟨g, rfl, _, hg, cg, _⟩ := HC.out hi (by have := HN.out; omega)
        have cm : (w.drewN q).cell? ⟨g, hi, none⟩ = some (.int .u64 (S.getD hi 0)) := cg
        clear cg
        generalize S.getD hi 0 = y at cm
        by_cases hyx : y = x
        · go_wp2_with (go_at_call 180; refine (nan2 _ _).mono ?_; rintro e w' ⟨rfl, rfl⟩)
          go_ret2
          exact ⟨_, by rw [E.out]; rfl, _, rfl⟩
        · go_wp2_with (go_at_call 180; refine (nan2 _ _).mono ?_; rintro e w' ⟨rfl, rfl⟩)
          go_ret2
          exact ⟨_, by rw [E.out]; rfl, _, rfl⟩
      · go_wp2_with (go_at_call 180; refine (nan2 _ _).mono ?_; rintro e w' ⟨rfl, rfl⟩)
        go_ret2
        exact ⟨_, by rw [E.out]; rfl, _, rfl⟩
end Go.Proofs.Ytnnbkooikimedaa
