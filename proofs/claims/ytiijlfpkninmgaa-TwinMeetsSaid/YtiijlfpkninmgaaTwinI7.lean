/-
  Package twin for elements of type int: a queue as a sorted list: what is pushed, squeezed in, and taken at both ends. No block turns but the queue's own. No condition but that the queue is one that New made.
-/
import Derived.Test.YtiijlfpkninmgaaTwinI6
namespace Go.Proofs.Ytiijlfpkninmgaa
set_option linter.unusedVariables false
set_option linter.unusedSimpArgs false
open Go.ChangeShapes Go.WideShapes Go.ChangeAt Go.RowKit
attribute [local go_sem] alloc_drewN setCell_drewN

structure LastII (f : Nat → Ent Int) (n l i : Nat) : Prop where
  l2 : l < i
  i0 : 1 ≤ i
  i3 : i ≤ 3
  ln : l < n ∨ l = 0
  mx : ∀ q, q < i → q < n → ¬ (f l).lt (f q)
set_option maxRecDepth 100000 in
set_option maxHeartbeats 2000000 in
theorem tlastI {w : World} {base B : Nat} {room pd : Int} {v : Value} {es : List (Ent Int)} (h : TwinAtI w base B room pd v es) (hm : MM (fn es) es.length) :
    Calls Try.prog 80 #[.pointer (some ⟨B, 0, none⟩)] w fun e w' => ∃ m : Nat, e = .returned (.int .i64 m) ∧ m ≤ 2 ∧ (m < es.length ∨ m = 0) ∧ (∀ k, k < es.length → ¬ (fn es m).lt (fn es k)) ∧ Below w.heap.size w w' := by
  obtain ⟨n, hn⟩ : ∃ n, n = es.length := ⟨_, rfl⟩
  have H := Lib.hid h
  have HM := Lib.hid hm
  have HN := Lib.hid hn
  have hm1 := h.r1; have hle := h.le
  rw [← hn] at hle
  have hn5 : n < 5000 := by omega
  rw [← hn]
  clear h hm hn hle hm1
  go_enter Try.func80, Try.ntmps80
  go_wp2
  go_loopw [3, 4] (fun x y wr => ∃ (l i : Nat), x = .int .i64 l ∧ y = .int .i64 i ∧ LastII (fn es) n l i ∧ Below w.heap.size w wr) (fun _ y _ => 3 - (intOf y).toNat)
  case atStart => exact ⟨0, 1, rfl, rfl, ⟨by omega, by omega, by omega, Or.inr rfl, fun q hq _ => by have e : q = 0 := (by omega); subst e; exact Ent.lt_irrefl _⟩, Below.refl _ _⟩
  case round =>
    obtain ⟨l, i, rfl, rfl, hT, hB⟩ := hrel
    have H2 := Lib.hid (H.out.below hB)
    have LN := Lib.hid (tlenI H2.out)
    rw [← HN.out] at LN
    have HB := Lib.hid hB
    have hi3 := hT.i3; have hi0 := hT.i0; have hli := hT.l2
    by_cases hc : i < 3 ∧ i < n
    · have c1 : (i : Int) < 3 := by omega
      have c2 : (i : Int) < n := by omega
      have hln : l < n := by omega
      have BF := Lib.hid (tbeforeI H2.out l i (by rw [← HN.out]; exact hln) (by rw [← HN.out]; exact hc.2))
      have HT := Lib.hid hT
      have hfe : decide ((es[l]'(by rw [← HN.out]; exact hln)).lt (es[i]'(by rw [← HN.out]; exact hc.2))) = decide ((fn es l).lt (fn es i)) := by rw [fn_at es l (by rw [← HN.out]; exact hln), fn_at es i (by rw [← HN.out]; exact hc.2)]
      rw [hfe] at BF
      clear hfe hT hB
      by_cases hx : (fn es l).lt (fn es i)
      · rw [decide_eq_true hx] at BF
        have FIN : LastII (fn es) n i (i + 1) := ⟨by omega, by omega, by omega, Or.inl hc.2, fun q hq hqn => by
          by_cases hqi : q = i
          · subst hqi; exact Ent.lt_irrefl _
          · exact fun h2 => HT.out.mx q (by omega) hqn (Ent.lt_trans hx h2)⟩
        have HF := Lib.hid FIN
        clear FIN hx
        go_wp2_with (first
          | (go_at_call 45; refine LN.out.mono ?_; rintro e w2 ⟨rfl, hw⟩; have hw := hw.symm; subst hw)
          | (go_at_call 100; refine BF.out.mono ?_; rintro e w3 ⟨rfl, hb3⟩; have HB3 := Lib.hid (HB.out.trans (hb3.mono HB.out.size)); clear hb3))
        all_goals
          go_roundw
          case rel => exact ⟨i, i + 1, rfl, by first | rfl | (congr 1; omega), HF.out, HB3.out⟩
          case measure => simp [intOf]; omega
      · rw [decide_eq_false hx] at BF
        have FIN : LastII (fn es) n l (i + 1) := ⟨by omega, by omega, by omega, Or.inl hln, fun q hq hqn => by
          by_cases hqi : q = i
          · subst hqi; exact hx
          · exact HT.out.mx q (by omega) hqn⟩
        have HF := Lib.hid FIN
        clear FIN hx
        go_wp2_with (first
          | (go_at_call 45; refine LN.out.mono ?_; rintro e w2 ⟨rfl, hw⟩; have hw := hw.symm; subst hw)
          | (go_at_call 100; refine BF.out.mono ?_; rintro e w3 ⟨rfl, hb3⟩; have HB3 := Lib.hid (HB.out.trans (hb3.mono HB.out.size)); clear hb3))
        all_goals
          go_roundw
          case rel => exact ⟨l, i + 1, rfl, by first | rfl | (congr 1; omega), HF.out, HB3.out⟩
          case measure => simp [intOf]; omega
    · have FIN : l ≤ 2 ∧ (l < n ∨ l = 0) ∧ (∀ k, k < n → ¬ (fn es l).lt (fn es k)) := by
        refine ⟨by omega, hT.ln, fun k hk => ?_⟩
        by_cases h1 : n ≤ 1
        · obtain rfl : k = 0 := by omega
          exact hT.mx 0 (by omega) hk
        · obtain ⟨m, hm, hmn, hml⟩ := HM.out.last (by rw [← HN.out]; omega) k (by rw [← HN.out]; exact hk)
          have hmn' : m < n := by rw [HN.out]; exact hmn
          exact Ent.le_trans hml (hT.mx m (by omega) hmn')
      have HF := Lib.hid FIN
      clear FIN hT hB
      rcases Nat.lt_or_ge i n with hs | hs
      · have e4 : ¬ ((i : Int) < 3) := by omega
        have e5 : (3 : Int) ≤ n := by omega
        go_wp2_with (go_at_call 45; refine LN.out.mono ?_; rintro e w2 ⟨rfl, hw⟩; have hw := hw.symm; subst hw)
        all_goals
          go_ret
          exact ⟨l, rfl, HF.out.1, HF.out.2.1, HF.out.2.2, HB.out⟩
      · have e4 : ¬ ((i : Int) < n) := by omega
        have e5 : (i : Int) ≤ 3 := by omega
        go_wp2_with (go_at_call 45; refine LN.out.mono ?_; rintro e w2 ⟨rfl, hw⟩; have hw := hw.symm; subst hw)
        all_goals
          go_ret
          exact ⟨l, rfl, HF.out.1, HF.out.2.1, HF.out.2.2, HB.out⟩
/-- A queue that holds a sorted list's items. -/
def TwinGI (w : World) (base B : Nat) (room pd : Int) (v : Value) (ms : List (Ent Int)) : Prop :=
  ∃ es, TwinAtI w base B room pd v es ∧ MM (fn es) es.length ∧ es.Perm ms ∧ Srt ms ∧ (∀ m ∈ ms, m.tn < pd) ∧ 0 ≤ pd ∧ (ms.map Ent.tn).Nodup
theorem TwinGI.drewN {w : World} {base B : Nat} {room pd : Int} {v : Value} {ms : List (Ent Int)} (h : TwinGI w base B room pd v ms) (n : Nat) : TwinGI (w.drewN n) base B room pd v ms := by
  obtain ⟨es, h1, h2⟩ := h
  exact ⟨es, h1.drewN n, h2⟩
theorem TwinGI.below {w w' : World} {base B : Nat} {room pd : Int} {v : Value} {ms : List (Ent Int)} (h : TwinGI w base B room pd v ms) (hb : Below w.heap.size w w') : TwinGI w' base B room pd v ms := by
  obtain ⟨es, h1, h2⟩ := h
  exact ⟨es, h1.below hb, h2⟩
theorem TwinGI.own {w : World} {base B : Nat} {room pd : Int} {v : Value} {ms : List (Ent Int)} (h : TwinGI w base B room pd v ms) : base ≤ B ∧ B < w.heap.size ∧ ∀ j, v.ownBlock = some j → base ≤ j ∧ j < w.heap.size := by
  obtain ⟨es, h1, h2⟩ := h
  exact ⟨h1.low, (Array.getElem?_eq_some_iff.1 h1.blk).1, fun j hj => h1.own.lt j hj⟩
theorem TwinGI.room {w : World} {base B : Nat} {room pd : Int} {v : Value} {ms : List (Ent Int)} (h : TwinGI w base B room pd v ms) : 1 ≤ room ∧ room ≤ 4096 ∧ (ms.length : Int) ≤ room := by
  obtain ⟨es, h1, h2, h3, h4⟩ := h
  exact ⟨h1.r0, h1.r1, by rw [← h3.length_eq]; exact h1.le⟩
theorem TwinGI.ints {w : World} {base B : Nat} {room pd : Int} {v : Value} {ms : List (Ent Int)} (h : TwinGI w base B room pd v ms) {b : Nat} {e : TypeId} {size n : Nat} {u : Value} {xs : List Value} (hu : w.ownsRow b e size u n xs) (he : e ≠ 139) (he2 : e ≠ 129) : u.ownBlock ≠ some B ∧ (u.ownBlock = none ∨ u.ownBlock ≠ v.ownBlock) := by
  obtain ⟨es, h1, h2⟩ := h
  exact ⟨own_ne_blk hu h1.blk he2, row_apart hu h1.own he⟩
theorem TwinGI.start {w : World} {base B : Nat} {room : Int} (h : TwinAtI w base B room 0 (.slice none 0 0) []) : TwinGI w base B room 0 (.slice none 0 0) [] :=
  ⟨[], h, ⟨fun k _ hk => absurd hk (Nat.not_lt_zero _), fun k _ hk => absurd hk (Nat.not_lt_zero _)⟩, List.Perm.refl _, List.Pairwise.nil, (fun m hm => by cases hm), Int.le_refl _, List.nodup_nil⟩
theorem headW_eqI {es ms : List (Ent Int)} {e : Ent Int} (hp : es.Perm (e :: ms)) (hs : Srt (e :: ms)) (hh : MM (fn es) es.length) (h0 : 0 < es.length) : es[0] = e := by
  have hs' := List.pairwise_cons.1 hs
  rcases List.mem_cons.1 (hp.mem_iff.1 (List.getElem_mem h0)) with h | h
  · exact h
  · exfalso
    have h1 := hs'.1 _ h
    obtain ⟨k, hk, rfl⟩ := List.getElem_of_mem (hp.mem_iff.2 (List.mem_cons_self ..))
    have h3 := hh.first k hk
    rw [fn_at es k hk, fn_at es 0 h0] at h3
    exact h3 h1
theorem lastW_eqI {es ms : List (Ent Int)} {e : Ent Int} (hp : es.Perm (ms ++ [e])) (hs : Srt (ms ++ [e])) (m : Nat) (hm : m < es.length) (hx : ∀ k, k < es.length → ¬ (fn es m).lt (fn es k)) : es[m] = e := by
  have hs' := (List.pairwise_append.1 hs).2.2
  rcases List.mem_append.1 (hp.mem_iff.1 (List.getElem_mem hm)) with h | h
  · exfalso
    have h1 := hs' _ h e (List.mem_singleton.2 rfl)
    obtain ⟨k, hk, rfl⟩ := List.getElem_of_mem (hp.mem_iff.2 (List.mem_append.2 (Or.inr (List.mem_singleton.2 rfl))))
    have h3 := hx k hk
    rw [fn_at es k hk, fn_at es m hm] at h3
    exact h3 h1
  · exact List.mem_singleton.1 h
theorem tnew_GI (room : Int) (r0 : 1 ≤ room) (r1 : room ≤ 4096) (w : World) :
    Calls Try.prog 39 #[.int .i64 room] w fun e w' => e = .returned (.tuple #[.pointer (some ⟨w.heap.size, 0, none⟩), .int .i64 0]) ∧ TwinGI w' w.heap.size w.heap.size room 0 (.slice none 0 0) [] ∧ Below w.heap.size w w' := by
  refine (tnew_okI room r0 r1 w).mono ?_
  rintro e w' ⟨rfl, h, b⟩
  exact ⟨rfl, TwinGI.start h, b⟩
theorem pushW_inI {w : World} {base B : Nat} {room pd : Int} {v : Value} {ms : List (Ent Int)} (h : TwinGI w base B room pd v ms) (hl : (ms.length : Int) < room) (p1 : pd < 18446744073709551615) (rk : Int) (x : Int) (hbase : base ≤ w.heap.size) :
    Calls Try.prog 46 #[.pointer (some ⟨B, 0, none⟩), .int .u64 rk, Value.int .i64 x] w fun e w' => e = .returned (.bool true) ∧ ∃ v', TwinGI w' base B room (pd + 1) v' (insR ms ⟨rk, x, pd⟩) ∧ Mv w w' B v v' := by
  obtain ⟨es, h1, h2, h3, h4, h5, h6, h7⟩ := h
  have hle := h3.length_eq
  refine (tpush_okI h1 (by omega) h2 h6 p1 rk x hbase).mono ?_
  rintro e w' ⟨rfl, v', es', k1, k2, k3, k4⟩
  refine ⟨rfl, v', ⟨es', k1, k3, ?_, insR_srt _ _ h4 h5, ?_, by omega, ?_⟩, k4⟩
  · refine k2.trans ((List.perm_append_comm (l₁ := es) (l₂ := [⟨rk, x, pd⟩])).trans ?_)
    exact (List.Perm.cons _ h3).trans (insR_perm _ _).symm
  · intro m hm
    rcases List.mem_cons.1 ((insR_perm _ _).mem_iff.1 hm) with rfl | hm
    · show pd < pd + 1; omega
    · have := h5 m hm; omega
  · refine ((insR_perm _ _).map Ent.tn).nodup_iff.2 (List.nodup_cons.2 ⟨fun hm => ?_, h7⟩)
    obtain ⟨m, hm, he⟩ := List.mem_map.1 hm
    have := h5 m hm
    have he : m.tn = pd := he
    omega
theorem pushW_outI {w : World} {base B : Nat} {room pd : Int} {v : Value} {ms : List (Ent Int)} (h : TwinGI w base B room pd v ms) (hl : ¬ (ms.length : Int) < room) (rk : Int) (x : Int) :
    Calls Try.prog 46 #[.pointer (some ⟨B, 0, none⟩), .int .u64 rk, Value.int .i64 x] w fun e w' => e = .returned (.bool false) ∧ ∃ n, w' = w.drewN n := by
  obtain ⟨es, h1, h2, h3, h4, h5, h6, h7⟩ := h
  have hle := h3.length_eq
  exact tpush_fullI h1 (by omega) rk x
theorem lenWI {w : World} {base B : Nat} {room pd : Int} {v : Value} {ms : List (Ent Int)} (h : TwinGI w base B room pd v ms) :
    Calls Try.prog 45 #[.pointer (some ⟨B, 0, none⟩)] w fun e w' => e = .returned (.int .i64 ms.length) ∧ w' = w := by
  obtain ⟨es, h1, h2, h3, h4⟩ := h
  rw [← h3.length_eq]
  exact tlenI h1
theorem maxWI {w : World} {base B : Nat} {room pd : Int} {v : Value} {e0 : Ent Int} {ms : List (Ent Int)} (h : TwinGI w base B room pd v (ms ++ [e0])) :
    Calls Try.prog 43 #[.pointer (some ⟨B, 0, none⟩)] w fun e w' => e = .returned (.tuple #[.int .u64 e0.rk, Value.int .i64 e0.x, .bool true]) ∧ Below w.heap.size w w' := by
  obtain ⟨es, h1, h2, h3, h4, h5, h6, h7⟩ := h
  have h0 : 0 < es.length := by rw [h3.length_eq]; simp
  have LS := Lib.hid (tlastI h1 h2)
  have AT := Lib.hid (fun m (hm : m < es.length) (hx : ∀ k, k < es.length → ¬ (fn es m).lt (fn es k)) W (hW : Below w.heap.size w W) => show Calls Try.prog 79 #[.pointer (some ⟨B, 0, none⟩), .int .i64 m] W (fun e w' => e = .returned (.tuple #[.int .u64 e0.rk, Value.int .i64 e0.x, .bool true]) ∧ ∃ n, w' = W.drewN n) by
    have := tat_inI (h1.below hW) m hm
    rw [lastW_eqI h3 h4 m hm hx] at this
    exact this)
  clear h1 h2 h3 h4 h5 h6 h7
  go_enter Try.func43, Try.ntmps43
  go_wp2_with fail
  refine LS.out.mono ?_
  rintro e w2 ⟨m, rfl, m2, mn, mx, hb⟩
  have hml : m < es.length := by omega
  have AM := Lib.hid (AT.out m hml mx w2 hb)
  clear mx AT LS
  go_wp2_with fail
  refine AM.out.mono ?_
  rintro e w3 ⟨rfl, n, rfl⟩
  go_wp2
  go_ret3
  exact ⟨rfl, below_drewN n hb⟩
theorem maxW_noI {w : World} {base B : Nat} {room pd : Int} {v : Value} (h : TwinGI w base B room pd v []) :
    Calls Try.prog 43 #[.pointer (some ⟨B, 0, none⟩)] w fun e w' => e = .returned (.tuple #[.int .u64 0, Value.int .i64 0, .bool false]) ∧ Below w.heap.size w w' := by
  obtain ⟨es, h1, h2, h3, h4, h5, h6, h7⟩ := h
  obtain rfl := List.perm_nil.1 h3
  have LS := Lib.hid (tlastI h1 h2)
  have AT := Lib.hid (fun W (hW : Below w.heap.size w W) => tat_outI (h1.below hW) 0 (Nat.le_refl _))
  clear h1 h2 h3 h4 h5 h6 h7
  go_enter Try.func43, Try.ntmps43
  go_wp2_with fail
  refine LS.out.mono ?_
  rintro e w2 ⟨m, rfl, m2, mn, mx, hb⟩
  have hml : m = 0 := by simpa using mn
  subst hml
  have AM := Lib.hid (AT.out w2 hb)
  clear mx AT LS
  go_wp2_with fail
  refine AM.out.mono ?_
  rintro e w3 ⟨rfl, hw⟩
  have hw := hw.symm
  subst hw
  go_wp2
  go_ret3
  exact ⟨rfl, hb⟩
theorem popmaxWI {w : World} {base B : Nat} {room pd : Int} {v : Value} {e0 : Ent Int} {ms : List (Ent Int)} (h : TwinGI w base B room pd v (ms ++ [e0])) :
    Calls Try.prog 48 #[.pointer (some ⟨B, 0, none⟩)] w fun e w' => e = .returned (.tuple #[.int .u64 e0.rk, Value.int .i64 e0.x, .bool true]) ∧ ∃ v', TwinGI w' base B room pd v' ms ∧ Mv w w' B v v' := by
  obtain ⟨es, h1, h2, h3, h4, h5, h6, h7⟩ := h
  have h0 : 0 < es.length := by rw [h3.length_eq]; simp
  have hnd : (es.map Ent.tn).Nodup := (h3.map Ent.tn).nodup_iff.2 h7
  have LS := Lib.hid (tlastI h1 h2)
  have RM := Lib.hid (fun m (hm2 : m ≤ 2) (hm : m < es.length) (hx : ∀ k, k < es.length → ¬ (fn es m).lt (fn es k)) W (hW : Below w.heap.size w W) => show Calls Try.prog 82 #[.pointer (some ⟨B, 0, none⟩), .int .i64 m] W (fun e w' => e = .returned (.tuple #[.int .u64 e0.rk, Value.int .i64 e0.x, .bool true]) ∧ ∃ v', TwinGI w' base B room pd v' ms ∧ Mv w w' B v v') by
    refine (tremove_inI (h1.below hW) m hm hm2 h2 hnd).mono ?_
    have he := lastW_eqI h3 h4 m hm hx
    rintro e w' ⟨rfl, v', es', k1, k2, k3, k4⟩
    rw [he] at k2 ⊢
    refine ⟨rfl, v', ⟨es', k1, k3, ?_, (List.pairwise_append.1 h4).1, fun q hq => h5 q (List.mem_append.2 (Or.inl hq)), h6, ?_⟩, (Mv.of_below B v hW).trans k4⟩
    · exact List.Perm.cons_inv ((k2.trans h3).trans (List.perm_append_comm (l₁ := ms) (l₂ := [e0])))
    · rw [List.map_append] at h7; exact (List.nodup_append.1 h7).1)
  clear h1 h2 h3 h4 h5 h6 h7 hnd
  go_enter Try.func48, Try.ntmps48
  go_wp2_with fail
  refine LS.out.mono ?_
  rintro e w2 ⟨m, rfl, m2, mn, mx, hb⟩
  have hml : m < es.length := by omega
  have RR := Lib.hid (RM.out m m2 hml mx w2 hb)
  clear mx RM LS
  go_wp2_with fail
  refine RR.out.mono ?_
  rintro e w3 ⟨rfl, v3, h3, m3⟩
  go_wp2
  go_ret3
  exact ⟨rfl, v3, h3, m3⟩
theorem minWI {w : World} {base B : Nat} {room pd : Int} {v : Value} {e0 : Ent Int} {ms : List (Ent Int)} (h : TwinGI w base B room pd v (e0 :: ms)) :
    Calls Try.prog 42 #[.pointer (some ⟨B, 0, none⟩)] w fun e w' => e = .returned (.tuple #[.int .u64 e0.rk, Value.int .i64 e0.x, .bool true]) ∧ Below w.heap.size w w' := by
  obtain ⟨es, h1, h2, h3, h4, h5, h6, h7⟩ := h
  have h0 : 0 < es.length := by rw [h3.length_eq]; simp
  have AT := tat_inI h1 0 h0
  rw [headW_eqI h3 h4 h2 h0] at AT
  have AH := Lib.hid AT
  clear h1 h2 h3 h4 h5 h6 h7 AT
  go_enter Try.func42, Try.ntmps42
  go_wp2_with fail
  refine AH.out.mono ?_
  rintro e w3 ⟨rfl, n, rfl⟩
  go_wp2
  go_ret3
  exact ⟨rfl, below_drewN n (Below.refl _ _)⟩
theorem minW_noI {w : World} {base B : Nat} {room pd : Int} {v : Value} (h : TwinGI w base B room pd v []) :
    Calls Try.prog 42 #[.pointer (some ⟨B, 0, none⟩)] w fun e w' => e = .returned (.tuple #[.int .u64 0, Value.int .i64 0, .bool false]) ∧ w' = w := by
  obtain ⟨es, h1, h2, h3, h4, h5, h6, h7⟩ := h
  obtain rfl := List.perm_nil.1 h3
  have AH := Lib.hid (tat_outI h1 0 (Nat.le_refl _))
  clear h1 h2 h3 h4 h5 h6 h7
  go_enter Try.func42, Try.ntmps42
  go_wp2_with fail
  refine AH.out.mono ?_
  rintro e w3 ⟨rfl, rfl⟩
  go_wp2
  go_ret3
  exact ⟨rfl, rfl⟩
theorem popminWI {w : World} {base B : Nat} {room pd : Int} {v : Value} {e0 : Ent Int} {ms : List (Ent Int)} (h : TwinGI w base B room pd v (e0 :: ms)) :
    Calls Try.prog 47 #[.pointer (some ⟨B, 0, none⟩)] w fun e w' => e = .returned (.tuple #[.int .u64 e0.rk, Value.int .i64 e0.x, .bool true]) ∧ ∃ v', TwinGI w' base B room pd v' ms ∧ Mv w w' B v v' := by
  obtain ⟨es, h1, h2, h3, h4, h5, h6, h7⟩ := h
  have h0 : 0 < es.length := by rw [h3.length_eq]; simp
  have hnd : (es.map Ent.tn).Nodup := (h3.map Ent.tn).nodup_iff.2 h7
  have he := headW_eqI h3 h4 h2 h0
  have RM := Lib.hid (show Calls Try.prog 82 #[.pointer (some ⟨B, 0, none⟩), .int .i64 0] w (fun e w' => e = .returned (.tuple #[.int .u64 e0.rk, Value.int .i64 e0.x, .bool true]) ∧ ∃ v', TwinGI w' base B room pd v' ms ∧ Mv w w' B v v') by
    refine (tremove_inI h1 0 h0 (by omega) h2 hnd).mono ?_
    rintro e w' ⟨rfl, v', es', k1, k2, k3, k4⟩
    rw [he] at k2 ⊢
    exact ⟨rfl, v', ⟨es', k1, k3, List.Perm.cons_inv (k2.trans h3), (List.pairwise_cons.1 h4).2, fun q hq => h5 q (List.mem_cons_of_mem _ hq), h6, (List.nodup_cons.1 h7).2⟩, k4⟩)
  clear h1 h2 h3 h4 h5 h6 h7 hnd he
  go_enter Try.func47, Try.ntmps47
  go_wp2_with fail
  refine RM.out.mono ?_
  rintro e w3 ⟨rfl, v3, h3, m3⟩
  go_wp2
  go_ret3
  exact ⟨rfl, v3, h3, m3⟩
theorem popminW_noI {w : World} {base B : Nat} {room pd : Int} {v : Value} (h : TwinGI w base B room pd v []) :
    Calls Try.prog 47 #[.pointer (some ⟨B, 0, none⟩)] w fun e w' => e = .returned (.tuple #[.int .u64 0, Value.int .i64 0, .bool false]) ∧ w' = w := by
  obtain ⟨es, h1, h2, h3, h4, h5, h6, h7⟩ := h
  obtain rfl := List.perm_nil.1 h3
  have AH := Lib.hid (tremove_noI h1 0 (Nat.le_refl _))
  clear h1 h2 h3 h4 h5 h6 h7
  go_enter Try.func47, Try.ntmps47
  go_wp2_with fail
  refine AH.out.mono ?_
  rintro e w3 ⟨rfl, rfl⟩
  go_wp2
  go_ret3
  exact ⟨rfl, rfl⟩
theorem popmaxW_noI {w : World} {base B : Nat} {room pd : Int} {v : Value} (h : TwinGI w base B room pd v []) :
    Calls Try.prog 48 #[.pointer (some ⟨B, 0, none⟩)] w fun e w' => e = .returned (.tuple #[.int .u64 0, Value.int .i64 0, .bool false]) ∧ Below w.heap.size w w' := by
  obtain ⟨es, h1, h2, h3, h4, h5, h6, h7⟩ := h
  obtain rfl := List.perm_nil.1 h3
  have LS := Lib.hid (tlastI h1 h2)
  have AT := Lib.hid (fun W (hW : Below w.heap.size w W) => tremove_noI (h1.below hW) 0 (Nat.le_refl _))
  clear h1 h2 h3 h4 h5 h6 h7
  go_enter Try.func48, Try.ntmps48
  go_wp2_with fail
  refine LS.out.mono ?_
  rintro e w2 ⟨m, rfl, m2, mn, mx, hb⟩
  have hml : m = 0 := by simpa using mn
  subst hml
  have AM := Lib.hid (AT.out w2 hb)
  clear mx AT LS
  go_wp2_with fail
  refine AM.out.mono ?_
  rintro e w3 ⟨rfl, hw⟩
  have hw := hw.symm
  subst hw
  go_wp2
  go_ret3
  exact ⟨rfl, hb⟩
end Go.Proofs.Ytiijlfpkninmgaa
