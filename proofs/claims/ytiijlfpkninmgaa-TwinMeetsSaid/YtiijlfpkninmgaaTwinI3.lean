/-
  Package twin for elements of type int: which one belongs above; which one of a place, its children and its grandchildren. What lay below the heap's end stands. No condition but that the queue is one that New made.
-/
import Derived.Test.YtiijlfpkninmgaaTwinI2
import Derived.Test.YtiijlfpkninmgaaTwinLow
namespace Go.Proofs.Ytiijlfpkninmgaa
set_option linter.unusedVariables false
set_option linter.unusedSimpArgs false
open Go.ChangeShapes Go.WideShapes Go.ChangeAt Go.RowKit
attribute [local go_sem] alloc_drewN setCell_drewN

theorem taboveI {w : World} {base B : Nat} {room pd : Int} {v : Value} {es : List (Ent Int)} (h : TwinAtI w base B room pd v es) (i j : Nat) (hi : i < es.length) (hj : j < es.length) (b : Bool) :
    Calls Try.prog 103 #[.pointer (some ⟨B, 0, none⟩), .int .i64 i, .int .i64 j, .bool b] w fun e w' => e = .returned (.bool (decide (ltB b (fn es i) (fn es j)))) ∧ Below w.heap.size w w' := by
  cases b with
  | true =>
    have BF := Lib.hid (tbeforeI h i j hi hj)
    have hd : decide (ltB true (fn es i) (fn es j)) = decide ((es[i]).lt es[j]) := by rw [fn_at es i hi, fn_at es j hj]; rfl
    rw [hd]
    clear h hd
    go_enter Try.func103, Try.ntmps103
    go_wp2_with (go_at_call 100; refine BF.out.mono ?_; rintro e w2 ⟨rfl, hb⟩)
    go_ret
    exact ⟨rfl, hb⟩
  | false =>
    have BF := Lib.hid (tbeforeI h j i hj hi)
    have hd : decide (ltB false (fn es i) (fn es j)) = decide ((es[j]).lt es[i]) := by rw [fn_at es i hi, fn_at es j hj]; rfl
    rw [hd]
    clear h hd
    go_enter Try.func103, Try.ntmps103
    go_wp2_with (go_at_call 100; refine BF.out.mono ?_; rintro e w2 ⟨rfl, hb⟩)
    go_ret
    exact ⟨rfl, hb⟩
set_option maxRecDepth 100000 in
set_option maxHeartbeats 2000000 in
theorem ttopI {w : World} {base B : Nat} {room pd : Int} {v : Value} {es : List (Ent Int)} (h : TwinAtI w base B room pd v es) (i : Nat) (hi : i ≤ es.length) (b : Bool) :
    Calls Try.prog 124 #[.pointer (some ⟨B, 0, none⟩), .int .i64 i, .bool b] w fun e w' => ∃ t : Nat, e = .returned (.int .i64 t) ∧ TopOut (fn es) es.length b i t ∧ Below w.heap.size w w' := by
  have hm1 := h.r1; have hle := h.le
  have hi5 : i < 5000 := by omega
  obtain ⟨ao, co, hv⟩ := row_slice h.own
  subst hv
  obtain ⟨n, hn⟩ : ∃ n, n = es.length := ⟨_, rfl⟩
  have H := Lib.hid h
  have HN := Lib.hid hn
  have HIL := Lib.hid hi
  have hn5 : n < 5000 := by omega
  have IX := fun m (hm : m < 6) W => kid_index i hi5 m hm W
  have IXH := Lib.hid IX
  rw [← hn]
  clear h hle hn hi IX
  go_enter Try.func124, Try.ntmps124
  go_wp2
  go_loopw [7, 30] (fun x y wr => ∃ (t m : Nat), x = .int .i64 t ∧ y = .int .i64 m ∧ m ≤ 6 ∧ TopI (fn es) n b i t m ∧ Below w.heap.size w wr) (fun _ y _ => 6 - (intOf y).toNat)
  case atStart => exact ⟨i, 0, rfl, rfl, by omega, ⟨Or.inl rfl, fun q hq => by omega⟩, Below.refl _ _⟩
  case round =>
    obtain ⟨t, m, rfl, rfl, hm, hT, hB⟩ := hrel
    have H2 := Lib.hid (H.out.below hB)
    by_cases hm6 : m < 6
    · have q1 : (m : Int) < 6 := by omega
      have IX := IXH.out m hm6
      obtain ⟨k0, k1, k2⟩ := kid_below i m hm6
      obtain ⟨d0, d1, d2⟩ := H2.out.cell
      rw [← HN.out] at d2
      have hk5 : kid i m < 65536 := by omega
      have HT := Lib.hid hT; have HB := Lib.hid hB
      have ht5 : t < 65536 := by
        rcases hT.way with e | e
        · omega
        · omega
      clear hT hB k0 k1 k2
      have G : ∀ (j : Nat), j = kid i m → (j < n → TopI (fn es) n b i t m) := fun _ _ _ => HT.out
      obtain ⟨j, hj⟩ : ∃ j, j = kid i m := ⟨_, rfl⟩
      have HJ := Lib.hid hj
      rw [← hj] at IX hk5
      clear hj G
      by_cases hjn : j < n
      · have q2 : (j : Int) < n := by omega
        have htn : t < n := by
          rcases HT.out.way with e | e
          · have h1 := HJ.out
            have h2 := (kid_below i m hm6)
            have h3 : i < kid i m := by
              rcases h2.2.2 with h | ⟨h4, h⟩ <;> (unfold par gp at *; omega)
            omega
          · exact e.1
        have AB := Lib.hid (taboveI H2.out j t (by rw [← HN.out]; exact hjn) (by rw [← HN.out]; exact htn) b)
        by_cases hl : ltB b (fn es j) (fn es t)
        · rw [decide_eq_true hl] at AB
          have FIN : TopI (fn es) n b i j (m + 1) := by
            have h1 := HJ.out
            subst h1
            exact HT.out.take hm6 hjn hl
          have HF := Lib.hid FIN
          clear FIN hl
          go_wp2_with (go_at_call 103; refine AB.out.mono ?_; rintro e w2 ⟨rfl, hb2⟩; have HB2 := Lib.hid (HB.out.trans (hb2.mono HB.out.size)); clear hb2)
          go_roundw
          case rel => exact ⟨j, m + 1, rfl, by first | rfl | (congr 1; omega), by omega, HF.out, HB2.out⟩
          case measure => simp [intOf]; omega
        · rw [decide_eq_false hl] at AB
          have FIN : TopI (fn es) n b i t (m + 1) := by
            have h1 := HJ.out
            subst h1
            exact HT.out.keep (fun _ => hl)
          have HF := Lib.hid FIN
          clear FIN hl
          go_wp2_with (go_at_call 103; refine AB.out.mono ?_; rintro e w2 ⟨rfl, hb2⟩; have HB2 := Lib.hid (HB.out.trans (hb2.mono HB.out.size)); clear hb2)
          go_roundw
          case rel => exact ⟨t, m + 1, rfl, by first | rfl | (congr 1; omega), by omega, HF.out, HB2.out⟩
          case measure => simp [intOf]; omega
      · have q2 : ¬ (j : Int) < n := by omega
        have FIN : TopI (fn es) n b i t (m + 1) := by
          have h1 := HJ.out
          subst h1
          exact HT.out.keep (fun h => absurd h hjn)
        have HF := Lib.hid FIN
        clear FIN
        go_wp2
        go_roundw
        case rel => exact ⟨t, m + 1, rfl, by first | rfl | (congr 1; omega), by omega, HF.out, HB.out⟩
        case measure => simp [intOf]; omega
    · obtain rfl : m = 6 := by omega
      have HT := Lib.hid hT; have HB := Lib.hid hB
      clear hT hB
      go_wp2
      go_ret
      exact ⟨t, rfl, HT.out.done, HB.out⟩
end Go.Proofs.Ytiijlfpkninmgaa
