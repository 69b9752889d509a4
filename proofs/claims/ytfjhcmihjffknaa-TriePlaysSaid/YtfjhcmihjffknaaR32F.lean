/-
  The answer of layer 32, walked: the longest prefix that has an address. What lay below the heap's end stands. No condition.
-/
import Derived.Test.YtfjhcmihjffknaaR32
namespace Go.Proofs.Ytfjhcmihjffknaa
set_option linter.unusedVariables false
set_option linter.unusedSimpArgs false
open Go.ChangeShapes Go.WideShapes Go.ChangeAt Go.RowKit
attribute [local go_sem] alloc_drewN setCell_drewN

/-- The place of a longest one that has an address; -1: there is none. -/
def bst32 (xs : List (Int × Int × Int)) (q r : Int) : Prop := (r = -1 ∧ ∀ m ∈ xs, ¬ HsP m.1 m.2.1 q) ∨ ∃ k : Nat, ∃ h : k < xs.length, r = k ∧ HsP (xs[k]).1 (xs[k]).2.1 q ∧ ∀ m ∈ xs, HsP m.1 m.2.1 q → m.2.1 ≤ (xs[k]).2.1
def BstI (xs : List (Int × Int × Int)) (q : Int) (i : Nat) (r : Int) : Prop := (r = -1 ∧ ∀ m ∈ xs.take i, ¬ HsP m.1 m.2.1 q) ∨ ∃ k : Nat, ∃ h : k < xs.length, r = k ∧ HsP (xs[k]).1 (xs[k]).2.1 q ∧ ∀ m ∈ xs.take i, HsP m.1 m.2.1 q → m.2.1 ≤ (xs[k]).2.1
theorem mem_take_succ {xs : List (Int × Int × Int)} {i : Nat} (hi : i < xs.length) {m : Int × Int × Int} (hm : m ∈ xs.take (i + 1)) : m ∈ xs.take i ∨ m = xs[i] := by
  rw [List.take_succ_eq_append_getElem hi] at hm
  rcases List.mem_append.1 hm with hm | hm
  · exact Or.inl hm
  · exact Or.inr (List.mem_singleton.1 hm)
theorem BstI.skip {xs : List (Int × Int × Int)} {q : Int} {i : Nat} {r : Int} (h : BstI xs q i r) (hi : i < xs.length) (hn : ¬ HsP (xs[i]).1 (xs[i]).2.1 q) : BstI xs q (i + 1) r := by
  rcases h with ⟨h1, h2⟩ | ⟨k, hk, h1, h2, h3⟩
  · exact Or.inl ⟨h1, fun m hm => (mem_take_succ hi hm).elim (fun hm => by exact h2 m hm) (fun e => by subst e; exact hn)⟩
  · exact Or.inr ⟨k, hk, h1, h2, fun m hm hs => (mem_take_succ hi hm).elim (fun hm => by exact h3 m hm hs) (fun e => by subst e; exact absurd hs hn)⟩
theorem BstI.first {xs : List (Int × Int × Int)} {q : Int} {i : Nat} (h : ∀ m ∈ xs.take i, ¬ HsP m.1 m.2.1 q) (hi : i < xs.length) (hs : HsP (xs[i]).1 (xs[i]).2.1 q) : BstI xs q (i + 1) i :=
  Or.inr ⟨i, hi, rfl, hs, fun m hm hm2 => (mem_take_succ hi hm).elim (fun hm => by exact absurd hm2 (h m hm)) (fun e => by subst e; exact Int.le_refl _)⟩
theorem BstI.more {xs : List (Int × Int × Int)} {q : Int} {i k : Nat} {hk : k < xs.length} (h : ∀ m ∈ xs.take i, HsP m.1 m.2.1 q → m.2.1 ≤ (xs[k]).2.1) (hi : i < xs.length) (hs : HsP (xs[i]).1 (xs[i]).2.1 q) (hl : (xs[k]).2.1 < (xs[i]).2.1) : BstI xs q (i + 1) i :=
  Or.inr ⟨i, hi, rfl, hs, fun m hm hm2 => (mem_take_succ hi hm).elim (fun hm => by have := h m hm hm2; omega) (fun e => by subst e; exact Int.le_refl _)⟩
theorem BstI.less {xs : List (Int × Int × Int)} {q : Int} {i k : Nat} {hk : k < xs.length} (h0 : HsP (xs[k]).1 (xs[k]).2.1 q) (h : ∀ m ∈ xs.take i, HsP m.1 m.2.1 q → m.2.1 ≤ (xs[k]).2.1) (hi : i < xs.length) (hl : ¬ (xs[k]).2.1 < (xs[i]).2.1) : BstI xs q (i + 1) k :=
  Or.inr ⟨k, hk, rfl, h0, fun m hm hm2 => (mem_take_succ hi hm).elim (fun hm => by exact h m hm hm2) (fun e => by subst e; omega)⟩
set_option maxRecDepth 100000 in
set_option maxHeartbeats 8000000 in
theorem find32 {w : World} {base : Nat} {v : Value} {xs : List (Int × Int × Int)} (h : Its32 w base v xs) (hn : xs.length ≤ 100000) (hx : ∀ m ∈ xs, (0 ≤ m.1 ∧ m.1 ≤ 4294967295) ∧ (0 ≤ m.2.1 ∧ m.2.1 ≤ 32)) (q : Int) (q0 : 0 ≤ q) (q1 : q ≤ 4294967295) :
    Calls Try.prog 43 #[v, .int .u32 q] w fun e w' => ∃ r, e = .returned (.int .i64 r) ∧ bst32 xs q r ∧ Below w.heap.size w w' := by
  have HH := Lib.hid h
  obtain ⟨aa, cc, rfl, -, -⟩ := h.form
  have HX := Lib.hid hx
  have QQ := Lib.hid (And.intro q0 q1)
  have KC := Lib.hid (show ∀ V, Below w.heap.size w V → ∀ k (hk : k < xs.length), ∃ g, aa = some ⟨g, 0, none⟩ ∧ V.cell? ⟨g, k * 3, none⟩ = some (.int .u32 (xs[k]).1) ∧ V.cell? ⟨g, k * 3 + 1, none⟩ = some (.int .i64 (xs[k]).2.1) from fun V hV => by
    intro k hk
    obtain ⟨a1, c1, e1, -, h1⟩ := (HH.out.below hV).form
    injection e1 with e1 _ _
    subst e1
    obtain ⟨g, g1, -, g2, g3, -⟩ := h1 k hk
    exact ⟨g, g1, g2, g3⟩)
  clear h hx q0 q1
  go_enter Try.func43, Try.ntmps43
  go_wp2
  go_loopw [5, 6] (fun x z wr => ∃ (i : Nat) (r : Int), x = .int .i64 r ∧ z = .int .i64 i ∧ i ≤ xs.length ∧ Hid (BstI xs q i r) ∧ Below w.heap.size w wr) (fun _ z _ => xs.length - (intOf z).toNat)
  case atStart => exact ⟨0, -1, rfl, rfl, Nat.zero_le _, Lib.hid (Or.inl ⟨rfl, fun m hm => by cases hm⟩), Below.refl _ _⟩
  case round =>
    obtain ⟨i, r, rfl, rfl, hi, HI, hb⟩ := hrel
    have HB := Lib.hid hb
    by_cases hlt : i < xs.length
    · have z0 : (0 : Int) ≤ i := by omega
      have z1 : (i : Int) < xs.length := by omega
      obtain ⟨g, rfl, c0, c1⟩ := KC.out wr hb i hlt
      have KD : Hid (∀ V, Below w.heap.size w V → ∀ k (hk : k < xs.length), V.cell? ⟨g, k * 3, none⟩ = some (.int .u32 (xs[k]).1) ∧ V.cell? ⟨g, k * 3 + 1, none⟩ = some (.int .i64 (xs[k]).2.1)) := Lib.hid (fun V hV k hk => by
        obtain ⟨g', e', h1⟩ := KC.out V hV k hk
        injection e' with e'
        injection e' with e'
        subst e'
        exact h1)
      have RG := HX.out (xs[i]) (List.getElem_mem hlt)
      have HA := Lib.hid (fun (V : World) => rhas_any (xs[i]).1 (xs[i]).2.1 q RG.1.1 RG.1.2 (by omega) (by omega) QQ.out.1 QQ.out.2 V)
      clear hb RG
      by_cases hs : HsP (xs[i]).1 (xs[i]).2.1 q
      · have HS := Lib.hid hs
        rw [decide_eq_true hs] at HA
        clear hs
        rcases HI.out with ⟨hr, hno⟩ | ⟨k, hk, hr, h0, hall⟩
        · have NX := Lib.hid (BstI.first hno hlt HS.out)
          clear hno HI HS
          subst hr
          have KE := Lib.hid (fun V (hV : Below w.heap.size w V) => KD.out V hV i hlt)
          generalize (xs[i]).1 = y1 at *
          generalize (xs[i]).2.1 = y2 at *
          go_wp2_with fail
          refine wp_region_any (by kernel_rfl) ?_
          (try (change wpAny _ _ _ _ _ _ _ (World.drew _)))
          refine wpAny_take (i := 0) (v := ?_) rfl (by kernel_rfl) (by kernel_rfl) (by kernel_rfl) (fun _ _ _ h => h) (Or.inl ⟨by rfl, ?_⟩) ?_
          case refine_2 =>
            intro w
            go_simp
            (try with_reducible rfl)
          refine wpAny_take (i := 1) (v := ?_) rfl (by kernel_rfl) (by kernel_rfl) (by kernel_rfl) (fun _ _ _ h => h) (Or.inl ⟨by rfl, ?_⟩) ?_
          case refine_2 =>
            intro w
            go_simp
            (try with_reducible rfl)
          refine wpAny_take (i := 2) (v := ?_) rfl (by kernel_rfl) (by kernel_rfl) (by kernel_rfl) (fun _ _ _ h => h) (Or.inl ⟨by rfl, ?_⟩) ?_
          case refine_2 =>
            intro w
            go_simp
            (try with_reducible rfl)
          refine wpAny_take (i := 3) (v := ?_) rfl (by kernel_rfl) (by kernel_rfl) (by kernel_rfl) (fun _ _ _ h => h) (Or.inl ⟨by rfl, ?_⟩) ?_
          case refine_2 =>
            intro w
            go_simp
            (try with_reducible rfl)
          refine wpAny_take (i := 5) (v := ?_) rfl (by kernel_rfl) (by kernel_rfl) (by kernel_rfl) (fun _ _ _ h => h) (Or.inl ⟨by rfl, ?_⟩) ?_
          case refine_2 =>
            intro w
            go_simp
            (try with_reducible rfl)
          refine wpAny_ready (rs := [4]) (by kernel_rfl) (by simp) ?_
          refine AllReady.cons rfl (fun K hK => ?_) AllReady.nil
          go_simp
          refine hK _ _ ?_
          clear hK K
          refine wpAny_ready (rs := [6]) (by kernel_rfl) (by simp) ?_
          refine AllReady.cons rfl (fun K hK => ?_) AllReady.nil
          go_simp
          refine (HA.out _).mono ?_
          rintro e w3 ⟨rfl, b3⟩
          have b3 : Below wr.heap.size wr w3 := ⟨b3.os, b3.tape, b3.output, b3.size, b3.block⟩
          have B3 := Lib.hid (HB.out.trans (b3.mono HB.out.size))
          clear b3
          go_simp
          refine hK _ _ ?_
          clear hK K
          refine wpAny_take (i := 7) (v := ?_) rfl (by kernel_rfl) (by kernel_rfl) (by kernel_rfl) (fun _ _ _ h => h) (Or.inl ⟨by rfl, ?_⟩) ?_
          case refine_2 =>
            intro w
            go_simp
            (try with_reducible rfl)
          refine wpAny_take (i := 8) (v := ?_) rfl (by kernel_rfl) (by kernel_rfl) (by kernel_rfl) (fun _ _ _ h => h) (Or.inl ⟨by rfl, ?_⟩) ?_
          case refine_2 =>
            intro w
            go_simp
            (try with_reducible rfl)
          refine wpAny_take (i := 9) (v := ?_) rfl (by kernel_rfl) (by kernel_rfl) (by kernel_rfl) (fun _ _ _ h => h) (Or.inl ⟨by rfl, ?_⟩) ?_
          case refine_2 =>
            intro w
            go_simp
            (try with_reducible rfl)
          refine wpAny_take (i := 10) (v := ?_) rfl (by kernel_rfl) (by kernel_rfl) (by kernel_rfl) (fun _ _ _ h => h) (Or.inl ⟨by rfl, ?_⟩) ?_
          case refine_2 =>
            intro w
            go_simp
            (try with_reducible rfl)
          refine wpAny_take (i := 11) (v := undef) rfl (by kernel_rfl) (by kernel_rfl) (by kernel_rfl) (fun _ _ _ h => h) (Or.inr ⟨by kernel_rfl, rfl⟩) ?_
          (try simp only [Act.put, List.setIfInBounds_toArray, List.set_cons_zero, List.set_cons_succ, List.getElem_toArray, List.getElem_cons_zero, List.getElem_cons_succ])
          refine wpAny_take (i := 12) (v := undef) rfl (by kernel_rfl) (by kernel_rfl) (by kernel_rfl) (fun _ _ _ h => h) (Or.inr ⟨by kernel_rfl, rfl⟩) ?_
          (try simp only [Act.put, List.setIfInBounds_toArray, List.set_cons_zero, List.set_cons_succ, List.getElem_toArray, List.getElem_cons_zero, List.getElem_cons_succ])
          refine wpAny_take (i := 13) (v := undef) rfl (by kernel_rfl) (by kernel_rfl) (by kernel_rfl) (fun _ _ _ h => h) (Or.inr ⟨by kernel_rfl, rfl⟩) ?_
          (try simp only [Act.put, List.setIfInBounds_toArray, List.set_cons_zero, List.set_cons_succ, List.getElem_toArray, List.getElem_cons_zero, List.getElem_cons_succ])
          refine wpAny_take (i := 14) (v := undef) rfl (by kernel_rfl) (by kernel_rfl) (by kernel_rfl) (fun _ _ _ h => h) (Or.inr ⟨by kernel_rfl, rfl⟩) ?_
          (try simp only [Act.put, List.setIfInBounds_toArray, List.set_cons_zero, List.set_cons_succ, List.getElem_toArray, List.getElem_cons_zero, List.getElem_cons_succ])
          refine wpAny_take (i := 15) (v := undef) rfl (by kernel_rfl) (by kernel_rfl) (by kernel_rfl) (fun _ _ _ h => h) (Or.inr ⟨by kernel_rfl, rfl⟩) ?_
          (try simp only [Act.put, List.setIfInBounds_toArray, List.set_cons_zero, List.set_cons_succ, List.getElem_toArray, List.getElem_cons_zero, List.getElem_cons_succ])
          refine wpAny_take (i := 16) (v := undef) rfl (by kernel_rfl) (by kernel_rfl) (by kernel_rfl) (fun _ _ _ h => h) (Or.inr ⟨by kernel_rfl, rfl⟩) ?_
          (try simp only [Act.put, List.setIfInBounds_toArray, List.set_cons_zero, List.set_cons_succ, List.getElem_toArray, List.getElem_cons_zero, List.getElem_cons_succ])
          refine wpAny_take (i := 17) (v := undef) rfl (by kernel_rfl) (by kernel_rfl) (by kernel_rfl) (fun _ _ _ h => h) (Or.inr ⟨by kernel_rfl, rfl⟩) ?_
          (try simp only [Act.put, List.setIfInBounds_toArray, List.set_cons_zero, List.set_cons_succ, List.getElem_toArray, List.getElem_cons_zero, List.getElem_cons_succ])
          refine wpAny_take (i := 18) (v := undef) rfl (by kernel_rfl) (by kernel_rfl) (by kernel_rfl) (fun _ _ _ h => h) (Or.inr ⟨by kernel_rfl, rfl⟩) ?_
          (try simp only [Act.put, List.setIfInBounds_toArray, List.set_cons_zero, List.set_cons_succ, List.getElem_toArray, List.getElem_cons_zero, List.getElem_cons_succ])
          refine wpAny_take (i := 19) (v := undef) rfl (by kernel_rfl) (by kernel_rfl) (by kernel_rfl) (fun _ _ _ h => h) (Or.inr ⟨by kernel_rfl, rfl⟩) ?_
          (try simp only [Act.put, List.setIfInBounds_toArray, List.set_cons_zero, List.set_cons_succ, List.getElem_toArray, List.getElem_cons_zero, List.getElem_cons_succ])
          refine wpAny_take (i := 20) (v := undef) rfl (by kernel_rfl) (by kernel_rfl) (by kernel_rfl) (fun _ _ _ h => h) (Or.inr ⟨by kernel_rfl, rfl⟩) ?_
          (try simp only [Act.put, List.setIfInBounds_toArray, List.set_cons_zero, List.set_cons_succ, List.getElem_toArray, List.getElem_cons_zero, List.getElem_cons_succ])
          refine wpAny_take (i := 21) (v := undef) rfl (by kernel_rfl) (by kernel_rfl) (by kernel_rfl) (fun _ _ _ h => h) (Or.inr ⟨by kernel_rfl, rfl⟩) ?_
          (try simp only [Act.put, List.setIfInBounds_toArray, List.set_cons_zero, List.set_cons_succ, List.getElem_toArray, List.getElem_cons_zero, List.getElem_cons_succ])
          refine wpAny_take (i := 22) (v := undef) rfl (by kernel_rfl) (by kernel_rfl) (by kernel_rfl) (fun _ _ _ h => h) (Or.inr ⟨by kernel_rfl, rfl⟩) ?_
          (try simp only [Act.put, List.setIfInBounds_toArray, List.set_cons_zero, List.set_cons_succ, List.getElem_toArray, List.getElem_cons_zero, List.getElem_cons_succ])
          refine wpAny_take (i := 23) (v := undef) rfl (by kernel_rfl) (by kernel_rfl) (by kernel_rfl) (fun _ _ _ h => h) (Or.inr ⟨by kernel_rfl, rfl⟩) ?_
          (try simp only [Act.put, List.setIfInBounds_toArray, List.set_cons_zero, List.set_cons_succ, List.getElem_toArray, List.getElem_cons_zero, List.getElem_cons_succ])
          refine wpAny_take (i := 24) (v := ?_) rfl (by kernel_rfl) (by kernel_rfl) (by kernel_rfl) (fun _ _ _ h => h) (Or.inl ⟨by rfl, ?_⟩) ?_
          case refine_2 =>
            intro w
            go_simp
            (try with_reducible rfl)
          refine wpAny_take (i := 25) (v := ?_) rfl (by kernel_rfl) (by kernel_rfl) (by kernel_rfl) (fun _ _ _ h => h) (Or.inl ⟨by rfl, ?_⟩) ?_
          case refine_2 =>
            intro w
            go_simp
            (try with_reducible rfl)
          refine wpAny_done (by kernel_rfl) ?_ _
          (try simp only [Exit.then])
          go_wp2
          go_roundw
          case rel => exact ⟨i + 1, i, by go_num, by go_num, by omega, NX.out, B3.out⟩
          case measure => simp [intOf] <;> omega
        · subst hr
          obtain ⟨-, m1⟩ := KD.out wr HB.out k hk
          have k0 : (0 : Int) ≤ k := by omega
          have k1 : (k : Int) < xs.length := by omega
          have k2 : ¬ (k : Int) < 0 := by omega
          by_cases hl : (xs[k]).2.1 < (xs[i]).2.1
          · have NX := Lib.hid (BstI.more hall hlt HS.out hl)
            clear hall HI HS h0
            have KE := Lib.hid (fun V (hV : Below w.heap.size w V) => (⟨(KD.out V hV i hlt).1, (KD.out V hV i hlt).2, (KD.out V hV k hk).2⟩ : V.cell? ⟨g, i * 3, none⟩ = some (.int .u32 (xs[i]).1) ∧ V.cell? ⟨g, i * 3 + 1, none⟩ = some (.int .i64 (xs[i]).2.1) ∧ V.cell? ⟨g, k * 3 + 1, none⟩ = some (.int .i64 (xs[k]).2.1)))
            generalize (xs[i]).1 = y1 at *
            generalize (xs[i]).2.1 = y2 at *
            generalize (xs[k]).2.1 = y3 at *
            go_wp2_with fail
            go_region_held3 (fun v => v.cell? ⟨g, i * 3, none⟩ = some (.int .u32 y1) ∧ v.cell? ⟨g, i * 3 + 1, none⟩ = some (.int .i64 y2) ∧ v.cell? ⟨g, k * 3 + 1, none⟩ = some (.int .i64 y3)) ((first | exact KP | exact ⟨c0, c1, m1⟩)) (first
              | (go_at_call 40; refine (HA.out _).mono ?_; rintro e w3 ⟨rfl, b3⟩; have b3 : Below wr.heap.size wr w3 := ⟨b3.os, b3.tape, b3.output, b3.size, b3.block⟩; have B3 := Lib.hid (HB.out.trans (b3.mono HB.out.size)); have KP : w3.cell? ⟨g, i * 3, none⟩ = some (.int .u32 y1) ∧ w3.cell? ⟨g, i * 3 + 1, none⟩ = some (.int .i64 y2) ∧ w3.cell? ⟨g, k * 3 + 1, none⟩ = some (.int .i64 y3) := KE.out w3 B3.out; clear b3)
              | fail)
            clear KP
            go_wp2
            go_roundw
            case rel => exact ⟨i + 1, i, by go_num, by go_num, by omega, NX.out, B3.out⟩
            case measure => simp [intOf] <;> omega
          · have NX := Lib.hid (BstI.less h0 hall hlt hl)
            clear hall HI HS h0
            have KE := Lib.hid (fun V (hV : Below w.heap.size w V) => (⟨(KD.out V hV i hlt).1, (KD.out V hV i hlt).2, (KD.out V hV k hk).2⟩ : V.cell? ⟨g, i * 3, none⟩ = some (.int .u32 (xs[i]).1) ∧ V.cell? ⟨g, i * 3 + 1, none⟩ = some (.int .i64 (xs[i]).2.1) ∧ V.cell? ⟨g, k * 3 + 1, none⟩ = some (.int .i64 (xs[k]).2.1)))
            generalize (xs[i]).1 = y1 at *
            generalize (xs[i]).2.1 = y2 at *
            generalize (xs[k]).2.1 = y3 at *
            go_wp2_with fail
            go_region_held3 (fun v => v.cell? ⟨g, i * 3, none⟩ = some (.int .u32 y1) ∧ v.cell? ⟨g, i * 3 + 1, none⟩ = some (.int .i64 y2) ∧ v.cell? ⟨g, k * 3 + 1, none⟩ = some (.int .i64 y3)) ((first | exact KP | exact ⟨c0, c1, m1⟩)) (first
              | (go_at_call 40; refine (HA.out _).mono ?_; rintro e w3 ⟨rfl, b3⟩; have b3 : Below wr.heap.size wr w3 := ⟨b3.os, b3.tape, b3.output, b3.size, b3.block⟩; have B3 := Lib.hid (HB.out.trans (b3.mono HB.out.size)); have KP : w3.cell? ⟨g, i * 3, none⟩ = some (.int .u32 y1) ∧ w3.cell? ⟨g, i * 3 + 1, none⟩ = some (.int .i64 y2) ∧ w3.cell? ⟨g, k * 3 + 1, none⟩ = some (.int .i64 y3) := KE.out w3 B3.out; clear b3)
              | fail)
            clear KP
            go_wp2
            go_roundw
            case rel => exact ⟨i + 1, k, rfl, by go_num, by omega, NX.out, B3.out⟩
            case measure => simp [intOf] <;> omega
      · have NX := Lib.hid (HI.out.skip hlt hs)
        rw [decide_eq_false hs] at HA
        clear hs HI
        have KE := Lib.hid (fun V (hV : Below w.heap.size w V) => KD.out V hV i hlt)
        generalize (xs[i]).1 = y1 at *
        generalize (xs[i]).2.1 = y2 at *
        go_wp2_with fail
        refine wp_region_any (by kernel_rfl) ?_
        (try (change wpAny _ _ _ _ _ _ _ (World.drew _)))
        refine wpAny_take (i := 0) (v := ?_) rfl (by kernel_rfl) (by kernel_rfl) (by kernel_rfl) (fun _ _ _ h => h) (Or.inl ⟨by rfl, ?_⟩) ?_
        case refine_2 =>
          intro w
          go_simp
          (try with_reducible rfl)
        refine wpAny_take (i := 1) (v := ?_) rfl (by kernel_rfl) (by kernel_rfl) (by kernel_rfl) (fun _ _ _ h => h) (Or.inl ⟨by rfl, ?_⟩) ?_
        case refine_2 =>
          intro w
          go_simp
          (try with_reducible rfl)
        refine wpAny_take (i := 2) (v := ?_) rfl (by kernel_rfl) (by kernel_rfl) (by kernel_rfl) (fun _ _ _ h => h) (Or.inl ⟨by rfl, ?_⟩) ?_
        case refine_2 =>
          intro w
          go_simp
          (try with_reducible rfl)
        refine wpAny_take (i := 3) (v := ?_) rfl (by kernel_rfl) (by kernel_rfl) (by kernel_rfl) (fun _ _ _ h => h) (Or.inl ⟨by rfl, ?_⟩) ?_
        case refine_2 =>
          intro w
          go_simp
          (try with_reducible rfl)
        refine wpAny_take (i := 5) (v := ?_) rfl (by kernel_rfl) (by kernel_rfl) (by kernel_rfl) (fun _ _ _ h => h) (Or.inl ⟨by rfl, ?_⟩) ?_
        case refine_2 =>
          intro w
          go_simp
          (try with_reducible rfl)
        refine wpAny_ready (rs := [4]) (by kernel_rfl) (by simp) ?_
        refine AllReady.cons rfl (fun K hK => ?_) AllReady.nil
        go_simp
        refine hK _ _ ?_
        clear hK K
        refine wpAny_ready (rs := [6]) (by kernel_rfl) (by simp) ?_
        refine AllReady.cons rfl (fun K hK => ?_) AllReady.nil
        go_simp
        refine (HA.out _).mono ?_
        rintro e w3 ⟨rfl, b3⟩
        have b3 : Below wr.heap.size wr w3 := ⟨b3.os, b3.tape, b3.output, b3.size, b3.block⟩
        have B3 := Lib.hid (HB.out.trans (b3.mono HB.out.size))
        clear b3
        go_simp
        refine hK _ _ ?_
        clear hK K
        refine wpAny_take (i := 7) (v := ?_) rfl (by kernel_rfl) (by kernel_rfl) (by kernel_rfl) (fun _ _ _ h => h) (Or.inl ⟨by rfl, ?_⟩) ?_
        case refine_2 =>
          intro w
          go_simp
          (try with_reducible rfl)
        refine wpAny_take (i := 8) (v := undef) rfl (by kernel_rfl) (by kernel_rfl) (by kernel_rfl) (fun _ _ _ h => h) (Or.inr ⟨by kernel_rfl, rfl⟩) ?_
        (try simp only [Act.put, List.setIfInBounds_toArray, List.set_cons_zero, List.set_cons_succ, List.getElem_toArray, List.getElem_cons_zero, List.getElem_cons_succ])
        refine wpAny_take (i := 9) (v := undef) rfl (by kernel_rfl) (by kernel_rfl) (by kernel_rfl) (fun _ _ _ h => h) (Or.inr ⟨by kernel_rfl, rfl⟩) ?_
        (try simp only [Act.put, List.setIfInBounds_toArray, List.set_cons_zero, List.set_cons_succ, List.getElem_toArray, List.getElem_cons_zero, List.getElem_cons_succ])
        refine wpAny_take (i := 10) (v := undef) rfl (by kernel_rfl) (by kernel_rfl) (by kernel_rfl) (fun _ _ _ h => h) (Or.inr ⟨by kernel_rfl, rfl⟩) ?_
        (try simp only [Act.put, List.setIfInBounds_toArray, List.set_cons_zero, List.set_cons_succ, List.getElem_toArray, List.getElem_cons_zero, List.getElem_cons_succ])
        refine wpAny_take (i := 11) (v := undef) rfl (by kernel_rfl) (by kernel_rfl) (by kernel_rfl) (fun _ _ _ h => h) (Or.inr ⟨by kernel_rfl, rfl⟩) ?_
        (try simp only [Act.put, List.setIfInBounds_toArray, List.set_cons_zero, List.set_cons_succ, List.getElem_toArray, List.getElem_cons_zero, List.getElem_cons_succ])
        refine wpAny_take (i := 12) (v := undef) rfl (by kernel_rfl) (by kernel_rfl) (by kernel_rfl) (fun _ _ _ h => h) (Or.inr ⟨by kernel_rfl, rfl⟩) ?_
        (try simp only [Act.put, List.setIfInBounds_toArray, List.set_cons_zero, List.set_cons_succ, List.getElem_toArray, List.getElem_cons_zero, List.getElem_cons_succ])
        refine wpAny_take (i := 13) (v := undef) rfl (by kernel_rfl) (by kernel_rfl) (by kernel_rfl) (fun _ _ _ h => h) (Or.inr ⟨by kernel_rfl, rfl⟩) ?_
        (try simp only [Act.put, List.setIfInBounds_toArray, List.set_cons_zero, List.set_cons_succ, List.getElem_toArray, List.getElem_cons_zero, List.getElem_cons_succ])
        refine wpAny_take (i := 14) (v := undef) rfl (by kernel_rfl) (by kernel_rfl) (by kernel_rfl) (fun _ _ _ h => h) (Or.inr ⟨by kernel_rfl, rfl⟩) ?_
        (try simp only [Act.put, List.setIfInBounds_toArray, List.set_cons_zero, List.set_cons_succ, List.getElem_toArray, List.getElem_cons_zero, List.getElem_cons_succ])
        refine wpAny_take (i := 15) (v := undef) rfl (by kernel_rfl) (by kernel_rfl) (by kernel_rfl) (fun _ _ _ h => h) (Or.inr ⟨by kernel_rfl, rfl⟩) ?_
        (try simp only [Act.put, List.setIfInBounds_toArray, List.set_cons_zero, List.set_cons_succ, List.getElem_toArray, List.getElem_cons_zero, List.getElem_cons_succ])
        refine wpAny_take (i := 16) (v := undef) rfl (by kernel_rfl) (by kernel_rfl) (by kernel_rfl) (fun _ _ _ h => h) (Or.inr ⟨by kernel_rfl, rfl⟩) ?_
        (try simp only [Act.put, List.setIfInBounds_toArray, List.set_cons_zero, List.set_cons_succ, List.getElem_toArray, List.getElem_cons_zero, List.getElem_cons_succ])
        refine wpAny_take (i := 17) (v := undef) rfl (by kernel_rfl) (by kernel_rfl) (by kernel_rfl) (fun _ _ _ h => h) (Or.inr ⟨by kernel_rfl, rfl⟩) ?_
        (try simp only [Act.put, List.setIfInBounds_toArray, List.set_cons_zero, List.set_cons_succ, List.getElem_toArray, List.getElem_cons_zero, List.getElem_cons_succ])
        refine wpAny_take (i := 18) (v := undef) rfl (by kernel_rfl) (by kernel_rfl) (by kernel_rfl) (fun _ _ _ h => h) (Or.inr ⟨by kernel_rfl, rfl⟩) ?_
        (try simp only [Act.put, List.setIfInBounds_toArray, List.set_cons_zero, List.set_cons_succ, List.getElem_toArray, List.getElem_cons_zero, List.getElem_cons_succ])
        refine wpAny_take (i := 19) (v := undef) rfl (by kernel_rfl) (by kernel_rfl) (by kernel_rfl) (fun _ _ _ h => h) (Or.inr ⟨by kernel_rfl, rfl⟩) ?_
        (try simp only [Act.put, List.setIfInBounds_toArray, List.set_cons_zero, List.set_cons_succ, List.getElem_toArray, List.getElem_cons_zero, List.getElem_cons_succ])
        refine wpAny_take (i := 20) (v := undef) rfl (by kernel_rfl) (by kernel_rfl) (by kernel_rfl) (fun _ _ _ h => h) (Or.inr ⟨by kernel_rfl, rfl⟩) ?_
        (try simp only [Act.put, List.setIfInBounds_toArray, List.set_cons_zero, List.set_cons_succ, List.getElem_toArray, List.getElem_cons_zero, List.getElem_cons_succ])
        refine wpAny_take (i := 21) (v := undef) rfl (by kernel_rfl) (by kernel_rfl) (by kernel_rfl) (fun _ _ _ h => h) (Or.inr ⟨by kernel_rfl, rfl⟩) ?_
        (try simp only [Act.put, List.setIfInBounds_toArray, List.set_cons_zero, List.set_cons_succ, List.getElem_toArray, List.getElem_cons_zero, List.getElem_cons_succ])
        refine wpAny_take (i := 22) (v := undef) rfl (by kernel_rfl) (by kernel_rfl) (by kernel_rfl) (fun _ _ _ h => h) (Or.inr ⟨by kernel_rfl, rfl⟩) ?_
        (try simp only [Act.put, List.setIfInBounds_toArray, List.set_cons_zero, List.set_cons_succ, List.getElem_toArray, List.getElem_cons_zero, List.getElem_cons_succ])
        refine wpAny_take (i := 23) (v := undef) rfl (by kernel_rfl) (by kernel_rfl) (by kernel_rfl) (fun _ _ _ h => h) (Or.inr ⟨by kernel_rfl, rfl⟩) ?_
        (try simp only [Act.put, List.setIfInBounds_toArray, List.set_cons_zero, List.set_cons_succ, List.getElem_toArray, List.getElem_cons_zero, List.getElem_cons_succ])
        refine wpAny_take (i := 24) (v := undef) rfl (by kernel_rfl) (by kernel_rfl) (by kernel_rfl) (fun _ _ _ h => h) (Or.inr ⟨by kernel_rfl, rfl⟩) ?_
        (try simp only [Act.put, List.setIfInBounds_toArray, List.set_cons_zero, List.set_cons_succ, List.getElem_toArray, List.getElem_cons_zero, List.getElem_cons_succ])
        refine wpAny_take (i := 25) (v := ?_) rfl (by kernel_rfl) (by kernel_rfl) (by kernel_rfl) (fun _ _ _ h => h) (Or.inl ⟨by rfl, ?_⟩) ?_
        case refine_2 =>
          intro w
          go_simp
          (try with_reducible rfl)
        refine wpAny_done (by kernel_rfl) ?_ _
        (try simp only [Exit.then])
        go_wp2
        go_roundw
        case rel => exact ⟨i + 1, r, rfl, by go_num, by omega, NX.out, B3.out⟩
        case measure => simp [intOf] <;> omega
    · obtain rfl : i = xs.length := by omega
      go_wp2
      go_ret
      refine ⟨r, rfl, ?_, HB.out⟩
      have := HI.out
      unfold BstI at this
      rw [List.take_of_length_le (Nat.le_refl _)] at this
      exact this
end Go.Proofs.Ytfjhcmihjffknaa
