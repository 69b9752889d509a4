/-
  Package heappifo for elements of type int: an item rises, an item sinks: a heap with the same items. No block turns but the heap's own. No condition but that the heap is one that New made.
-/
import Derived.Test.YtkgiaijcgblpbaaHeapI2
namespace Go.Proofs.Ytkgiaijcgblpbaa
set_option linter.unusedVariables false
set_option linter.unusedSimpArgs false
open Go.ChangeShapes Go.WideShapes Go.ChangeAt Go.RowKit
attribute [local go_sem] alloc_drewN setCell_drewN

theorem two_apartI {es : List (Ent Int)} (hn : (es.map Ent.tn).Nodup) (i j : Nat) (hi : i < es.length) (hj : j < es.length) (hij : i ≠ j) : (es[i]).tn ≠ (es[j]).tn := fun e => by
  have h := (List.getElem_inj (xs := es.map Ent.tn) (i := i) (j := j) (h₀ := by simpa using hi) (h₁ := by simpa using hj) hn).1 (by simpa using e)
  exact hij h
structure RiseII (w wr : World) (base B : Nat) (room pd : Int) (v : Value) (es es1 : List (Ent Int)) (k : Nat) : Prop where
  mem : HeapAtI wr base B room pd v es1
  perm : es1.Perm es
  up : HpUp (fn es1) es1.length k
  mv : Mv w wr B v v
  lt : k < es1.length
set_option maxRecDepth 100000 in
set_option maxHeartbeats 2000000 in
theorem hriseI {w : World} {base B : Nat} {room pd : Int} {v : Value} {es : List (Ent Int)} (h : HeapAtI w base B room pd v es) (i : Nat) (hi : i < es.length) (hu : HpUp (fn es) es.length i) :
    Calls Try.prog 71 #[.pointer (some ⟨B, 0, none⟩), .int .i64 i] w fun e w' => e = .returned (.tuple #[]) ∧ ∃ es', HeapAtI w' base B room pd v es' ∧ es'.Perm es ∧ Hp (fn es') es'.length ∧ Mv w w' B v v := by
  have HR : RiseII w w base B room pd v es es i := ⟨h, List.Perm.refl _, hu, Mv.refl _ _ _, hi⟩
  have hm1 := h.r1; have hle := h.le
  have hlim : i < 65536 := by omega
  clear h hu hm1 hle hi
  go_enter Try.func71, Try.ntmps71
  go_wp2
  go_loopw [1] (fun x wr => ∃ (k : Nat) (es1 : List (Ent Int)), x = .int .i64 k ∧ k < 65536 ∧ RiseII w wr base B room pd v es es1 k) (fun x _ => (intOf x).toNat)
  case atStart => exact ⟨i, es, rfl, hlim, HR⟩
  case round =>
    clear HR
    obtain ⟨k, es1, rfl, hk6, hR⟩ := hrel
    rcases Nat.eq_zero_or_pos k with hk0 | hk0
    · subst hk0
      have H := Lib.hid hR
      clear hR
      go_wp2
      go_end0
      exact ⟨rfl, es1, H.out.mem, H.out.perm, H.out.up.done (fun h => absurd h (Nat.lt_irrefl _)), H.out.mv⟩
    · have g0 : (0 : Int) < k := by omega
      obtain ⟨p, hp⟩ : ∃ p, (k - 1) / 2 = p := ⟨_, rfl⟩
      have hkl := hR.lt
      have hpl : p < es1.length := by omega
      have e1 : ((k : Int) - 1).tdiv 2 = (p : Int) := by rw [Int.tdiv_eq_ediv_of_nonneg (by omega)]; omega
      have BF := Lib.hid (hbeforeI hR.mem k p hkl hpl)
      by_cases hl : (es1[k]).lt es1[p]
      · rw [decide_eq_true hl] at BF
        have H := Lib.hid hR; have HL := Lib.hid hl
        clear hR hl
        go_wp2_with fail
        refine BF.out.mono ?_
        rintro e w2 ⟨rfl, hb2⟩
        go_wp2_with fail
        refine (hswapI (H.out.mem.below hb2) k p hkl hpl (by omega)).mono ?_
        rintro e w3 ⟨rfl, h3, m3⟩
        have FIN : RiseII w w3 base B room pd v es (swapL es1 k p) p := by
          refine ⟨h3, (swapL_perm _ _ _).trans H.out.perm, ?_, (H.out.mv.trans (Mv.of_below B v hb2)).trans m3, by rw [swapL_length]; exact hpl⟩
          rw [swapL_length, fn_swap es1 k p hkl hpl, ← hp]
          refine H.out.up.step hkl hk0 ?_
          rw [hp, fn_at es1 k hkl, fn_at es1 p hpl]; exact HL.out
        have HF := Lib.hid FIN
        clear FIN h3 m3 hb2
        go_wp2
        go_roundw
        case rel => exact ⟨p, _, rfl, by omega, HF.out⟩
        case measure => simp [intOf]; omega
      · rw [decide_eq_false hl] at BF
        have H := Lib.hid hR; have HL := Lib.hid hl
        clear hR hl
        go_wp2_with fail
        refine BF.out.mono ?_
        rintro e w2 ⟨rfl, hb2⟩
        go_wp2
        (try simp only [Exit.inBlock, Exit.then])
        refine bodyPost_ret (results_none rfl _ _ _) rfl ?_
        exact ⟨rfl, es1, H.out.mem.below hb2, H.out.perm, H.out.up.done (fun _ => by rw [hp, fn_at es1 k hkl, fn_at es1 p hpl]; exact HL.out), H.out.mv.trans (Mv.of_below B v hb2)⟩
structure SinkII (w wr : World) (base B : Nat) (room pd : Int) (v : Value) (es es1 : List (Ent Int)) (k : Nat) : Prop where
  mem : HeapAtI wr base B room pd v es1
  perm : es1.Perm es
  dn : HpDn (fn es1) es1.length k
  mv : Mv w wr B v v
structure KidsII (w wr : World) (base B : Nat) (room pd : Int) (v : Value) (es es1 : List (Ent Int)) (k f c : Nat) : Prop where
  s : SinkII w wr base B room pd v es es1 k
  ff : f = k ∨ (f < es1.length ∧ 0 < f ∧ (f - 1) / 2 = k ∧ (fn es1 f).lt (fn es1 k))
  b : ∀ q, q < es1.length → 0 < q → (q - 1) / 2 = k → q < c → ¬ (fn es1 q).lt (fn es1 f)
  c0 : 2 * k + 1 ≤ c
  c1 : c ≤ 2 * k + 3
set_option maxRecDepth 100000 in
set_option maxHeartbeats 4000000 in
theorem hsinkI {w : World} {base B : Nat} {room pd : Int} {v : Value} {es : List (Ent Int)} (h : HeapAtI w base B room pd v es) (i : Nat) (hi : i ≤ es.length) (hu : HpDn (fn es) es.length i) :
    Calls Try.prog 72 #[.pointer (some ⟨B, 0, none⟩), .int .i64 i] w fun e w' => e = .returned (.tuple #[]) ∧ ∃ es', HeapAtI w' base B room pd v es' ∧ es'.Perm es ∧ Hp (fn es') es'.length ∧ Mv w w' B v v := by
  have HR : SinkII w w base B room pd v es es i := ⟨h, List.Perm.refl _, hu, Mv.refl _ _ _⟩
  have hm1 := h.r1; have hle := h.le
  have hlim : i < 5000 := by omega
  obtain ⟨ao, co, rfl⟩ := row_slice h.own
  clear h hu
  obtain ⟨n, hn⟩ : ∃ n, n = es.length := ⟨_, rfl⟩
  rw [← hn] at HR hle hi ⊢
  have HN := Lib.hid hn
  clear hn
  go_enter Try.func72, Try.ntmps72
  go_wp2
  go_loopw [1] (fun x wr => ∃ (k : Nat) (es1 : List (Ent Int)), x = .int .i64 k ∧ k ≤ es1.length ∧ SinkII w wr base B room pd (.slice ao n co) es es1 k) (fun x _ => 5000 - (intOf x).toNat)
  case atStart => exact ⟨i, es, rfl, by rw [← HN.out]; exact hi, HR⟩
  case round =>
    clear HR hi hlim
    obtain ⟨k, es1, rfl, hkl, hR⟩ := hrel
    have hl1 : es1.length = n := by rw [HN.out]; exact hR.perm.length_eq
    have K0 : KidsII w wr base B room pd (.slice ao n co) es es1 k k (2 * k + 1) := ⟨hR, Or.inl rfl, fun q _ hq0 hq hq2 => by omega, Nat.le_refl _, by omega⟩
    have hk5 : k < 5000 := by omega
    have HR := Lib.hid hR
    clear hR
    go_wp2
    go_loopw [4, 5] (fun x y wq => ∃ (f c : Nat), x = .int .i64 f ∧ y = .int .i64 c ∧ KidsII w wq base B room pd (.slice ao n co) es es1 k f c) (fun _ y _ => 2 * k + 3 - (intOf y).toNat)
    case atStart => exact ⟨k, 2 * k + 1, rfl, by first | rfl | (congr 1; omega), K0⟩
    case round =>
      clear K0
      obtain ⟨f, c, rfl, rfl, hK⟩ := hrel
      have hc0 := hK.c0; have hc1 := hK.c1
      obtain ⟨d0, d1, d2⟩ := hK.s.mem.cell
      by_cases hcond : c < 2 * k + 3 ∧ c < n
      · have e1 : (c : Int) < 2 * (k : Int) + 3 := by omega
        have e2 : (c : Int) < n := by omega
        have e3 : (c : Int) < min (2 * (k : Int) + 3) n := by omega
        have hfl : f < es1.length := by rcases hK.ff with e | e <;> omega
        have BF := Lib.hid (hbeforeI hK.s.mem c f (by omega) hfl)
        by_cases hl : (fn es1 c).lt (fn es1 f)
        · have hl' : (es1[c]'(by omega)).lt es1[f] := by rw [fn_at es1 c (by omega), fn_at es1 f hfl] at hl; exact hl
          rw [decide_eq_true hl'] at BF
          have H := Lib.hid hK; have HL := Lib.hid hl
          clear hK hl hl'
          go_wp2_with (go_at_call 103; refine BF.out.mono ?_; rintro e w2 ⟨rfl, hb2⟩; have HB2 := Lib.hid hb2; clear hb2)
          have FIN : KidsII w w2 base B room pd (.slice ao n co) es es1 k c (c + 1) := by
            have hK := H.out
            refine ⟨⟨hK.s.mem.below HB2.out, hK.s.perm, hK.s.dn, hK.s.mv.trans (Mv.of_below B _ HB2.out)⟩, Or.inr ⟨by omega, by omega, by omega, ?_⟩, fun q hq hq0 hqk hqc => ?_, by omega, by omega⟩
            · rcases hK.ff with e | e
              · rw [e] at HL; exact HL.out
              · exact Ent.lt_trans HL.out e.2.2.2
            · by_cases hqc2 : q = c
              · subst hqc2; exact Ent.lt_irrefl _
              · exact fun hx => hK.b q hq hq0 hqk (by omega) (Ent.lt_trans hx HL.out)
          have HF := Lib.hid FIN
          clear FIN
          go_wp2
          go_roundw
          case rel => exact ⟨c, c + 1, rfl, by first | rfl | (congr 1; omega), HF.out⟩
          case measure => simp [intOf]; omega
        · have hl' : ¬ (es1[c]'(by omega)).lt es1[f] := by rw [fn_at es1 c (by omega), fn_at es1 f hfl] at hl; exact hl
          rw [decide_eq_false hl'] at BF
          have H := Lib.hid hK; have HL := Lib.hid hl
          clear hK hl hl'
          go_wp2_with (go_at_call 103; refine BF.out.mono ?_; rintro e w2 ⟨rfl, hb2⟩; have HB2 := Lib.hid hb2; clear hb2)
          have FIN : KidsII w w2 base B room pd (.slice ao n co) es es1 k f (c + 1) := by
            have hK := H.out
            refine ⟨⟨hK.s.mem.below HB2.out, hK.s.perm, hK.s.dn, hK.s.mv.trans (Mv.of_below B _ HB2.out)⟩, hK.ff, fun q hq hq0 hqk hqc => ?_, by omega, by omega⟩
            by_cases hqc2 : q = c
            · subst hqc2; exact HL.out
            · exact hK.b q hq hq0 hqk (by omega)
          have HF := Lib.hid FIN
          clear FIN
          go_wp2
          go_roundw
          case rel => exact ⟨f, c + 1, rfl, by first | rfl | (congr 1; omega), HF.out⟩
          case measure => simp [intOf]; omega
      · have hall : ∀ q, q < es1.length → 0 < q → (q - 1) / 2 = k → ¬ (fn es1 q).lt (fn es1 f) := fun q hq hq0 hqk => hK.b q hq hq0 hqk (by omega)
        rcases Nat.lt_or_ge c n with hs1 | hs1
        · have e4 : ¬ ((c : Int) < 2 * (k : Int) + 3) := by omega
          have e5 : (c : Int) < n := by omega
          have e6 : ¬ ((n : Int) ≤ 2 * (k : Int) + 3) := by omega
          have e7 : (2 * (k : Int) + 3) ≤ n := by omega
          rcases hK.ff with hf | ⟨hf1, hf2, hf3, hf4⟩
          · subst hf
            have H := Lib.hid hK; have HA := Lib.hid hall
            clear hK hall
            go_wp2
            all_goals (refine bodyPost_ret (v := .tuple #[]) (results_none rfl _ _ _) rfl ?_; exact ⟨rfl, es1, H.out.s.mem, H.out.s.perm, H.out.s.dn.done HA.out, H.out.s.mv⟩)
          · have hne : ¬ ((f : Int) = k) := by omega
            have H := Lib.hid hK; have HA := Lib.hid hall; have HL := Lib.hid hf4
            clear hK hall hf4
            have SW := Lib.hid (hswapI H.out.s.mem k f (by omega) hf1 (by omega))
            go_wp2_with (go_at_call 104; refine SW.out.mono ?_; rintro e w3 ⟨rfl, h3, m3⟩; have H3 := Lib.hid h3; have M3 := Lib.hid m3; clear h3 m3)
            have FIN : SinkII w w3 base B room pd (.slice ao n co) es (swapL es1 k f) f := by
              refine ⟨H3.out, (swapL_perm _ _ _).trans H.out.s.perm, ?_, H.out.s.mv.trans M3.out⟩
              rw [swapL_length, fn_swap es1 k f (by omega) hf1]
              exact H.out.s.dn.step hf1 hf2 hf3 HL.out HA.out
            have HF := Lib.hid FIN
            clear FIN
            go_wp2
            go_roundw
            case rel => exact ⟨f, _, rfl, by rw [swapL_length]; omega, HF.out⟩
            case measure => simp [intOf]; omega

        · have e4 : ¬ ((c : Int) < n) := by omega
          have e5 : (c : Int) ≤ 2 * (k : Int) + 3 := by omega
          have e6 : (n : Int) ≤ 2 * (k : Int) + 3 := by omega
          rcases hK.ff with hf | ⟨hf1, hf2, hf3, hf4⟩
          · subst hf
            have H := Lib.hid hK; have HA := Lib.hid hall
            clear hK hall
            go_wp2
            all_goals (refine bodyPost_ret (v := .tuple #[]) (results_none rfl _ _ _) rfl ?_; exact ⟨rfl, es1, H.out.s.mem, H.out.s.perm, H.out.s.dn.done HA.out, H.out.s.mv⟩)
          · have hne : ¬ ((f : Int) = k) := by omega
            have H := Lib.hid hK; have HA := Lib.hid hall; have HL := Lib.hid hf4
            clear hK hall hf4
            have SW := Lib.hid (hswapI H.out.s.mem k f (by omega) hf1 (by omega))
            go_wp2_with (go_at_call 104; refine SW.out.mono ?_; rintro e w3 ⟨rfl, h3, m3⟩; have H3 := Lib.hid h3; have M3 := Lib.hid m3; clear h3 m3)
            have FIN : SinkII w w3 base B room pd (.slice ao n co) es (swapL es1 k f) f := by
              refine ⟨H3.out, (swapL_perm _ _ _).trans H.out.s.perm, ?_, H.out.s.mv.trans M3.out⟩
              rw [swapL_length, fn_swap es1 k f (by omega) hf1]
              exact H.out.s.dn.step hf1 hf2 hf3 HL.out HA.out
            have HF := Lib.hid FIN
            clear FIN
            go_wp2
            go_roundw
            case rel => exact ⟨f, _, rfl, by rw [swapL_length]; omega, HF.out⟩
            case measure => simp [intOf]; omega
end Go.Proofs.Ytkgiaijcgblpbaa
