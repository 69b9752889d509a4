/-
  Package twin for elements of type string: an item rises, an item sinks: low and high levels by turns, with the same items. No block turns but the queue's own. No condition but that the queue is one that New made.
-/
import Derived.Test.YtiijlfpkninmgaaTwinT3
namespace Go.Proofs.Ytiijlfpkninmgaa
set_option linter.unusedVariables false
set_option linter.unusedSimpArgs false
open Go.ChangeShapes Go.WideShapes Go.ChangeAt Go.RowKit
attribute [local go_sem] alloc_drewN setCell_drewN

structure TRiseT (w wr : World) (base B : Nat) (room pd : Int) (v : Value) (es es1 : List (Ent ByteArray)) (k : Nat) (b : Bool) : Prop where
  mem : TwinAtT wr base B room pd v es1
  perm : es1.Perm es
  up : RU (fn es1) es1.length k
  mv : Mv w wr B v v
  lt : k < es1.length
  low : lowB k = b
set_option maxRecDepth 100000 in
set_option maxHeartbeats 4000000 in
theorem triseT {w : World} {base B : Nat} {room pd : Int} {v : Value} {es0 : List (Ent ByteArray)} {e0 : Ent ByteArray} (h : TwinAtT w base B room pd v (es0 ++ [e0])) (hm : MM (fn es0) es0.length) (i : Nat) (hi : i = es0.length) :
    Calls Try.prog 96 #[.pointer (some ⟨B, 0, none⟩), .int .i64 i] w fun e w' => e = .returned (.tuple #[]) ∧ ∃ es', TwinAtT w' base B room pd v es' ∧ es'.Perm (es0 ++ [e0]) ∧ MM (fn es') es'.length ∧ Mv w w' B v v := by
  have hm1 := h.r1; have hle := h.le
  have hl : (es0 ++ [e0]).length = i + 1 := by simp [hi]
  rw [hl] at hle
  have hi5 : i < 5000 := by omega
  rw [← hi] at hm
  have hf : ∀ k, k < i → fn (es0 ++ [e0]) k = fn es0 k := by rw [hi]; exact (fn_push es0 e0).1
  generalize es0 ++ [e0] = es at *
  clear hi
  rcases Nat.eq_zero_or_pos i with hi0 | hi0
  · subst hi0
    have H := Lib.hid h; have HL := Lib.hid hl
    clear h hm hl hf
    go_enter Try.func96, Try.ntmps96
    go_wp2
    refine bodyPost_ret (v := .tuple #[]) (results_none rfl _ _ _) rfl ?_
    exact ⟨rfl, es, H.out, List.Perm.refl _, ⟨fun k h0 h1 => by rw [HL.out] at h1; omega, fun k h0 h1 => by rw [HL.out] at h1; omega⟩, Mv.refl _ _ _⟩
  · have e1 : ¬ ((i : Int) = 0) := by omega
    obtain ⟨p, hp⟩ : ∃ p, p = par i := ⟨_, rfl⟩
    have hpi : p < i := by rw [hp]; unfold par; omega
    have IL := Lib.hid (fun w => tislow i (by omega) w)
    have PA := Lib.hid (fun w => tparent i hi0 (by omega) w)
    rw [← hp] at PA
    have AB := Lib.hid (taboveT h i p (by omega) (by omega) (!lowB i))
    obtain ⟨low, hlow⟩ : ∃ low, lowB i = low := ⟨_, rfl⟩
    rw [hlow] at IL AB
    by_cases hx : ltB (!low) (fn es i) (fn es p)
    · rw [decide_eq_true hx] at AB
      have START : Hid (∀ W, Below w.heap.size w W → ∀ W', TwinAtT W' base B room pd v (swapL es i p) → Mv W W' B v v → TRiseT w W' base B room pd v es (swapL es i p) p (!low)) := Lib.hid (fun W hW W' h3 m3 => by
        refine ⟨h3, swapL_perm _ _ _, ?_, (Mv.of_below B v hW).trans m3, by rw [swapL_length]; omega, by rw [hp, lowB_par hi0, hlow]⟩
        rw [swapL_length, fn_swap es i p (by omega) (by omega), hl, hp]
        exact hm.pushUp hf hi0 (by rw [hlow, ← hp]; exact hx))
      have SW := Lib.hid (fun W (hW : Below w.heap.size w W) => tswapT (h.below hW) i p (by omega) (by omega) (by omega))
      clear h hm hf hx hlow hp
      go_enter Try.func96, Try.ntmps96
      go_wp2_with (first
        | (go_at_call 101; refine (IL.out _).mono ?_; rintro e w2 ⟨rfl, rfl⟩)
        | (go_at_call 102; refine (PA.out _).mono ?_; rintro e w2 ⟨rfl, rfl⟩)
        | (go_at_call 119; refine AB.out.mono ?_; rintro e w3 ⟨rfl, hb3⟩; have HB3 := Lib.hid hb3; clear hb3)
        | (go_at_call 120; refine (SW.out _ HB3.out).mono ?_; rintro e w4 ⟨rfl, h4, m4⟩; have S4 := Lib.hid (START.out _ HB3.out _ h4 m4); clear h4 m4))
      go_loopw [1] (fun x wr => ∃ (k : Nat) (es1 : List (Ent ByteArray)), x = .int .i64 k ∧ k < 5000 ∧ TRiseT w wr base B room pd v es es1 k (!low)) (fun x _ => (intOf x).toNat)
      case atStart => exact ⟨_, _, rfl, by omega, S4.out⟩
      case round =>
        clear S4
        obtain ⟨k, es1, rfl, hk5, hR⟩ := hrel
        have hkl := hR.lt
        by_cases hk2 : 2 < k
        · have g0 : (2 : Int) < k := by omega
          have hpk0 : 0 < par k := by unfold par; omega
          have hpk1 : par k < 5000 := by unfold par; omega
          have hgk0 : gp k < k := by unfold gp; omega
          have PB := Lib.hid (fun w => tparent k (by omega) (by omega) w)
          have PC := Lib.hid (fun w => tparent (par k) hpk0 (by omega) w)
          rw [← gp_par k] at PC
          have AC := Lib.hid (taboveT hR.mem k (gp k) hkl (by omega) (!low))
          have H := Lib.hid hR
          by_cases hy : ltB (!low) (fn es1 k) (fn es1 (gp k))
          · rw [decide_eq_true hy] at AC
            have HY := Lib.hid hy
            have SX := Lib.hid (fun W (hW : Below wr.heap.size wr W) => tswapT (H.out.mem.below hW) k (gp k) hkl (by omega) (by omega))
            have FN : Hid (∀ W, Below wr.heap.size wr W → ∀ W', TwinAtT W' base B room pd v (swapL es1 k (gp k)) → Mv W W' B v v → TRiseT w W' base B room pd v es (swapL es1 k (gp k)) (gp k) (!low)) := Lib.hid (fun W hW W' h3 m3 => by
              refine ⟨h3, (swapL_perm _ _ _).trans H.out.perm, ?_, (H.out.mv.trans (Mv.of_below B v hW)).trans m3, by rw [swapL_length]; omega, by rw [lowB_gp hk2, H.out.low]⟩
              rw [swapL_length, fn_swap es1 k (gp k) hkl (by omega)]
              exact H.out.up.step hkl hk2 (by rw [H.out.low]; exact HY.out))
            clear hR hy
            generalize gp k = u at *
            go_wp2_with (first
              | (go_at_call_of 102 (Value.int .i64 k); refine (PB.out _).mono ?_; rintro e w5 ⟨rfl, rfl⟩)
              | (go_at_call_of 102 (Value.int .i64 (par k : Nat)); refine (PC.out _).mono ?_; rintro e w5 ⟨rfl, rfl⟩)
              | (go_at_call 119; refine AC.out.mono ?_; rintro e w6 ⟨rfl, hb6⟩; have HB6 := Lib.hid hb6; clear hb6)
              | (go_at_call 120; refine (SX.out _ HB6.out).mono ?_; rintro e w7 ⟨rfl, h7, m7⟩; have S7 := Lib.hid (FN.out _ HB6.out _ h7 m7); clear h7 m7))
            go_roundw
            case rel => exact ⟨u, _, rfl, by omega, S7.out⟩
            case measure => simp [intOf]; omega
          · rw [decide_eq_false hy] at AC
            have DN := Lib.hid (hR.up.done (fun _ _ => by rw [hR.low]; exact hy))
            clear hR hy
            generalize gp k = u at *
            go_wp2_with (first
              | (go_at_call_of 102 (Value.int .i64 k); refine (PB.out _).mono ?_; rintro e w5 ⟨rfl, rfl⟩)
              | (go_at_call_of 102 (Value.int .i64 (par k : Nat)); refine (PC.out _).mono ?_; rintro e w5 ⟨rfl, rfl⟩)
              | (go_at_call 119; refine AC.out.mono ?_; rintro e w6 ⟨rfl, hb6⟩; have HB6 := Lib.hid hb6; clear hb6))
            refine bodyPost_ret (v := .tuple #[]) (results_none rfl _ _ _) rfl ?_
            exact ⟨rfl, es1, H.out.mem.below HB6.out, H.out.perm, DN.out, H.out.mv.trans (Mv.of_below B v HB6.out)⟩
        · have g0 : ¬ (2 : Int) < k := by omega
          have H := Lib.hid hR
          clear hR
          go_wp2
          go_end0
          exact ⟨rfl, es1, H.out.mem, H.out.perm, H.out.up.done (fun h _ => absurd h hk2), H.out.mv⟩
    · rw [decide_eq_false hx] at AB
      have START : Hid (∀ W, Below w.heap.size w W → TRiseT w W base B room pd v es es i low) := Lib.hid (fun W hW => by
        refine ⟨h.below hW, List.Perm.refl _, ?_, Mv.of_below B v hW, by omega, hlow⟩
        rw [hl]
        exact hm.push hf (fun _ => by rw [hlow, ← hp]; exact hx))
      clear h hm hf hx hlow hp
      go_enter Try.func96, Try.ntmps96
      go_wp2_with (first
        | (go_at_call 101; refine (IL.out _).mono ?_; rintro e w2 ⟨rfl, rfl⟩)
        | (go_at_call 102; refine (PA.out _).mono ?_; rintro e w2 ⟨rfl, rfl⟩)
        | (go_at_call 119; refine AB.out.mono ?_; rintro e w3 ⟨rfl, hb3⟩; have S4 := Lib.hid (START.out _ hb3); clear hb3))
      go_loopw [1] (fun x wr => ∃ (k : Nat) (es1 : List (Ent ByteArray)), x = .int .i64 k ∧ k < 5000 ∧ TRiseT w wr base B room pd v es es1 k low) (fun x _ => (intOf x).toNat)
      case atStart => exact ⟨_, _, rfl, by omega, S4.out⟩
      case round =>
        clear S4
        obtain ⟨k, es1, rfl, hk5, hR⟩ := hrel
        have hkl := hR.lt
        by_cases hk2 : 2 < k
        · have g0 : (2 : Int) < k := by omega
          have hpk0 : 0 < par k := by unfold par; omega
          have hpk1 : par k < 5000 := by unfold par; omega
          have hgk0 : gp k < k := by unfold gp; omega
          have PB := Lib.hid (fun w => tparent k (by omega) (by omega) w)
          have PC := Lib.hid (fun w => tparent (par k) hpk0 (by omega) w)
          rw [← gp_par k] at PC
          have AC := Lib.hid (taboveT hR.mem k (gp k) hkl (by omega) low)
          have H := Lib.hid hR
          by_cases hy : ltB low (fn es1 k) (fn es1 (gp k))
          · rw [decide_eq_true hy] at AC
            have HY := Lib.hid hy
            have SX := Lib.hid (fun W (hW : Below wr.heap.size wr W) => tswapT (H.out.mem.below hW) k (gp k) hkl (by omega) (by omega))
            have FN : Hid (∀ W, Below wr.heap.size wr W → ∀ W', TwinAtT W' base B room pd v (swapL es1 k (gp k)) → Mv W W' B v v → TRiseT w W' base B room pd v es (swapL es1 k (gp k)) (gp k) low) := Lib.hid (fun W hW W' h3 m3 => by
              refine ⟨h3, (swapL_perm _ _ _).trans H.out.perm, ?_, (H.out.mv.trans (Mv.of_below B v hW)).trans m3, by rw [swapL_length]; omega, by rw [lowB_gp hk2, H.out.low]⟩
              rw [swapL_length, fn_swap es1 k (gp k) hkl (by omega)]
              exact H.out.up.step hkl hk2 (by rw [H.out.low]; exact HY.out))
            clear hR hy
            generalize gp k = u at *
            go_wp2_with (first
              | (go_at_call_of 102 (Value.int .i64 k); refine (PB.out _).mono ?_; rintro e w5 ⟨rfl, rfl⟩)
              | (go_at_call_of 102 (Value.int .i64 (par k : Nat)); refine (PC.out _).mono ?_; rintro e w5 ⟨rfl, rfl⟩)
              | (go_at_call 119; refine AC.out.mono ?_; rintro e w6 ⟨rfl, hb6⟩; have HB6 := Lib.hid hb6; clear hb6)
              | (go_at_call 120; refine (SX.out _ HB6.out).mono ?_; rintro e w7 ⟨rfl, h7, m7⟩; have S7 := Lib.hid (FN.out _ HB6.out _ h7 m7); clear h7 m7))
            go_roundw
            case rel => exact ⟨u, _, rfl, by omega, S7.out⟩
            case measure => simp [intOf]; omega
          · rw [decide_eq_false hy] at AC
            have DN := Lib.hid (hR.up.done (fun _ _ => by rw [hR.low]; exact hy))
            clear hR hy
            generalize gp k = u at *
            go_wp2_with (first
              | (go_at_call_of 102 (Value.int .i64 k); refine (PB.out _).mono ?_; rintro e w5 ⟨rfl, rfl⟩)
              | (go_at_call_of 102 (Value.int .i64 (par k : Nat)); refine (PC.out _).mono ?_; rintro e w5 ⟨rfl, rfl⟩)
              | (go_at_call 119; refine AC.out.mono ?_; rintro e w6 ⟨rfl, hb6⟩; have HB6 := Lib.hid hb6; clear hb6))
            refine bodyPost_ret (v := .tuple #[]) (results_none rfl _ _ _) rfl ?_
            exact ⟨rfl, es1, H.out.mem.below HB6.out, H.out.perm, DN.out, H.out.mv.trans (Mv.of_below B v HB6.out)⟩
        · have g0 : ¬ (2 : Int) < k := by omega
          have H := Lib.hid hR
          clear hR
          go_wp2
          go_end0
          exact ⟨rfl, es1, H.out.mem, H.out.perm, H.out.up.done (fun h _ => absurd h hk2), H.out.mv⟩
theorem apart2T {es : List (Ent ByteArray)} (hn : (es.map Ent.tn).Nodup) (i j : Nat) (hi : i < es.length) (hj : j < es.length) (hij : i ≠ j) : (fn es i).tn ≠ (fn es j).tn := fun e => by
  rw [fn_at es i hi, fn_at es j hj] at e
  have h := (List.getElem_inj (xs := es.map Ent.tn) (i := i) (j := j) (h₀ := by simpa using hi) (h₁ := by simpa using hj) hn).1 (by simpa using e)
  exact hij h
structure TSinkT (w wr : World) (base B : Nat) (room pd : Int) (v : Value) (es es1 : List (Ent ByteArray)) (k : Nat) (b : Bool) : Prop where
  mem : TwinAtT wr base B room pd v es1
  perm : es1.Perm es
  dn : SD (fn es1) es1.length k
  mv : Mv w wr B v v
  low : lowB k = b
set_option maxRecDepth 100000 in
set_option maxHeartbeats 4000000 in
theorem tsinkT {w : World} {base B : Nat} {room pd : Int} {v : Value} {es : List (Ent ByteArray)} (h : TwinAtT w base B room pd v es) (hd : (es.map Ent.tn).Nodup) (i : Nat) (hi : i ≤ es.length) (hs : SD (fn es) es.length i) :
    Calls Try.prog 131 #[.pointer (some ⟨B, 0, none⟩), .int .i64 i] w fun e w' => e = .returned (.tuple #[]) ∧ ∃ es', TwinAtT w' base B room pd v es' ∧ es'.Perm es ∧ MM (fn es') es'.length ∧ Mv w w' B v v := by
  have hm1 := h.r1; have hle := h.le
  have hi5 : i < 5000 := by omega
  have IL := Lib.hid (fun w => tislow i (by omega) w)
  obtain ⟨low, hlow⟩ : ∃ low, lowB i = low := ⟨_, rfl⟩
  have START : Hid (TSinkT w w base B room pd v es es i low) := Lib.hid ⟨h, List.Perm.refl _, hs, Mv.refl _ _ _, hlow⟩
  rw [hlow] at IL
  have HD := Lib.hid hd
  obtain ⟨n, hn⟩ : ∃ n, n = es.length := ⟨_, rfl⟩
  rw [← hn] at hle hi
  have HN := Lib.hid hn
  clear h hs hlow hd hn
  go_enter Try.func131, Try.ntmps131
  go_wp2_with (go_at_call 101; refine (IL.out _).mono ?_; rintro e w2 ⟨rfl, rfl⟩)
  go_loopw [1] (fun x wr => ∃ (k : Nat) (es1 : List (Ent ByteArray)), x = .int .i64 k ∧ k ≤ n ∧ TSinkT w wr base B room pd v es es1 k low) (fun x _ => 5000 - (intOf x).toNat)
  case atStart => exact ⟨i, _, rfl, hi, START.out⟩
  case round =>
    clear START
    obtain ⟨k, es1, rfl, hk, hR⟩ := hrel
    have hl1 : es1.length = n := by rw [HN.out]; exact hR.perm.length_eq
    have H := Lib.hid hR
    have TP := Lib.hid (ttopT hR.mem k (by omega) low)
    clear hR
    have HL1 := Lib.hid hl1
    clear hl1
    go_wp2_with fail
    refine TP.out.mono ?_
    rintro e w3 ⟨t, rfl, hT, hb3⟩
    have HB3 := Lib.hid hb3
    clear hb3
    rcases hT.way with ht | ⟨ht1, ht0, hway, hlt⟩
    · subst ht
      have DN := Lib.hid (H.out.dn.done (fun q h0 h1 h2 => by rw [H.out.low]; exact hT.best q h0 h1 h2))
      clear hT
      go_wp2
      refine bodyPost_ret (v := .tuple #[]) (results_none rfl _ _ _) rfl ?_
      exact ⟨rfl, es1, H.out.mem.below HB3.out, H.out.perm, DN.out, H.out.mv.trans (Mv.of_below B v HB3.out)⟩
    · have hbest := hT.best
      have hkt : k < t := by have hw := hway; unfold par gp at hw; omega
      have hne : ¬ ((t : Int) = k) := by omega
      have htn : t < n := by rw [← HL1.out]; exact ht1
      have ht1' : t < es1.length := ht1
      have SW := Lib.hid (tswapT (H.out.mem.below HB3.out) k t (by omega) ht1 (by omega))
      have hlt' : ltB (lowB k) (fn es1 t) (fn es1 k) := by rw [H.out.low]; exact hlt
      have hbest' : ∀ q, 0 < q → q < es1.length → (par q = k ∨ (2 < q ∧ gp q = k)) → leB (lowB k) (fn es1 t) (fn es1 q) := by rw [H.out.low]; exact hbest
      by_cases hch : t ≤ 2 * k + 2
      · have hpt : par t = k := by rcases hway with e | ⟨_, e⟩ <;> (unfold par gp at *; omega)
        have hc1 : (t : Int) ≤ 2 * (k : Int) + 2 := by omega
        have DN : Hid (MM (fn (swapL es1 k t)) (swapL es1 k t).length) := by
          refine Lib.hid ?_
          rw [swapL_length, fn_swap es1 k t (by omega) ht1]
          refine H.out.dn.child (by omega) ht0 ht1 hpt hlt' hbest' (fun q q0 q1 hq => ?_)
          have g2 : 2 < q := by unfold par at *; omega
          have g1 : gp q = k := by rw [gp_par, hq, hpt]
          have a1 := hbest' q q0 q1 (Or.inr ⟨g2, g1⟩)
          have a2 := H.out.dn.p q q0 q1 (by rw [hq]; omega)
          have lq : lowB q = lowB k := by rw [← g1, lowB_gp g2]
          rw [hq, lq] at a2
          have a3 := apart2T (es := es1) ((H.out.perm.map Ent.tn).nodup_iff.2 HD.out) t q ht1 q1 (by rw [← hq]; unfold par; omega)
          unfold leB ltB Ent.lt at a1 a2
          cases hx : lowB k <;> rw [hx] at a1 a2 <;> simp at a1 a2 <;> omega
        clear hT hbest hway hlt hlt' hbest'
        go_wp2_with (go_at_call 120; refine SW.out.mono ?_; rintro e w4 ⟨rfl, h4, m4⟩; have H4 := Lib.hid h4; have M4 := Lib.hid m4; clear h4 m4)
        refine bodyPost_ret (v := .tuple #[]) (results_none rfl _ _ _) rfl ?_
        exact ⟨rfl, _, H4.out, (swapL_perm _ _ _).trans H.out.perm, DN.out, (H.out.mv.trans (Mv.of_below B v HB3.out)).trans M4.out⟩
      · have hgt : 2 < t ∧ gp t = k := by
          rcases hway with e | e
          · unfold par at e; omega
          · exact e
        have hc1 : ¬ (t : Int) ≤ 2 * (k : Int) + 2 := by omega
        obtain ⟨p, hp⟩ : ∃ p, p = par t := ⟨_, rfl⟩
        have hpt : p < t ∧ p ≠ k ∧ 0 < p := by rw [hp]; unfold par gp at *; omega
        have PA := Lib.hid (fun w => tparent t ht0 (by omega) w)
        rw [← hp] at PA
        have AB := Lib.hid (fun W (h4 : TwinAtT W base B room pd v (swapL es1 k t)) => taboveT h4 t p (by rw [swapL_length]; exact ht1) (by rw [swapL_length]; omega) (!low))
        have hfe : fn (swapL es1 k t) = sw (fn es1) k t := fn_swap es1 k t (by omega) ht1
        rw [hfe, sw_r, sw_o (fn es1) hpt.2.1 (by omega)] at AB
        by_cases hy : ltB (!low) (fn es1 k) (fn es1 p)
        · rw [decide_eq_true hy] at AB
          have SY := Lib.hid (fun W (h4 : TwinAtT W base B room pd v (swapL es1 k t)) => tswapT h4 t p (by rw [swapL_length]; exact ht1) (by rw [swapL_length]; omega) (by omega))
          have FN : Hid (∀ W, Mv w W B v v → TwinAtT W base B room pd v (swapL (swapL es1 k t) t p) → TSinkT w W base B room pd v es (swapL (swapL es1 k t) t p) t low) := Lib.hid (fun W m h5 => by
            refine ⟨h5, (swapL_perm _ _ _).trans ((swapL_perm _ _ _).trans H.out.perm), ?_, m, by rw [← H.out.low, ← hgt.2, lowB_gp hgt.1]⟩
            rw [swapL_length, swapL_length, fn_swap (swapL es1 k t) t p (by rw [swapL_length]; exact ht1) (by rw [swapL_length]; omega), hfe, hp]
            exact H.out.dn.grandUp (by omega) hgt.1 ht1 hgt.2 hlt' hbest' (by rw [H.out.low, ← hp]; exact hy))
          clear hT hbest hway hlt hlt' hbest' hy hfe hp hgt
          go_wp2_with (first
            | (go_at_call_of 120 (Value.int .i64 k); refine SW.out.mono ?_; rintro e w4 ⟨rfl, h4, m4⟩; have H4 := Lib.hid h4; have M4 := Lib.hid m4; clear h4 m4)
            | (go_at_call 102; refine (PA.out _).mono ?_; rintro e w5 ⟨rfl, rfl⟩)
            | (go_at_call 119; refine (AB.out _ H4.out).mono ?_; rintro e w6 ⟨rfl, hb6⟩; have HB6 := Lib.hid hb6; clear hb6)
            | (go_at_call 120; refine (SY.out _ (H4.out.below HB6.out)).mono ?_; rintro e w7 ⟨rfl, h7, m7⟩; have S7 := Lib.hid (FN.out _ ((((H.out.mv.trans (Mv.of_below B v HB3.out)).trans M4.out).trans (Mv.of_below B v HB6.out)).trans m7) h7); clear h7 m7))
          go_roundw
          case rel => exact ⟨t, _, rfl, by omega, S7.out⟩
          case measure => simp [intOf]; omega
        · rw [decide_eq_false hy] at AB
          have FN : Hid (∀ W, Mv w W B v v → TwinAtT W base B room pd v (swapL es1 k t) → TSinkT w W base B room pd v es (swapL es1 k t) t low) := Lib.hid (fun W m h5 => by
            refine ⟨h5, (swapL_perm _ _ _).trans H.out.perm, ?_, m, by rw [← H.out.low, ← hgt.2, lowB_gp hgt.1]⟩
            rw [swapL_length, hfe]
            exact H.out.dn.grand (by omega) hgt.1 ht1 hgt.2 hlt' hbest' (by rw [H.out.low, ← hp]; exact hy))
          clear hT hbest hway hlt hlt' hbest' hy hfe hp hgt
          go_wp2_with (first
            | (go_at_call_of 120 (Value.int .i64 k); refine SW.out.mono ?_; rintro e w4 ⟨rfl, h4, m4⟩; have H4 := Lib.hid h4; have M4 := Lib.hid m4; clear h4 m4)
            | (go_at_call 102; refine (PA.out _).mono ?_; rintro e w5 ⟨rfl, rfl⟩)
            | (go_at_call 119; refine (AB.out _ H4.out).mono ?_; rintro e w6 ⟨rfl, hb6⟩; have HB6 := Lib.hid hb6; clear hb6))
          go_roundw
          case rel => exact ⟨t, _, rfl, by omega, FN.out _ (((H.out.mv.trans (Mv.of_below B v HB3.out)).trans M4.out).trans (Mv.of_below B v HB6.out)) (H4.out.below HB6.out)⟩
          case measure => simp [intOf]; omega
end Go.Proofs.Ytiijlfpkninmgaa
