/-
  Package aifo: a gate in memory: what may come, what is offered and taken. No block turns but its own. No condition but that New made it.
-/
import Derived.Test.YtnnbkooikimedaaAifo3
namespace Go.Proofs.Ytnnbkooikimedaa
set_option linter.unusedVariables false
set_option linter.unusedSimpArgs false
open Go.ChangeShapes Go.WideShapes Go.ChangeAt Go.RowKit
attribute [local go_sem] alloc_drewN setCell_drewN

structure GtAt (w : World) (base G R C : Nat) (room win num den : Int) (wait : Nat) (vr vs : Value) (ps : List Int) (f k : Nat) (S : List Int) : Prop where
  blk : w.heap[G]? = some (.cells #[.int .i64 room, .int .i64 wait, .int .u64 num, .int .u64 den, .pointer (some ⟨R, 0, none⟩)] 137 (0, 0))
  low : base ≤ G
  rk : RkAt w base R C win vr vs ps f k S
  r0 : 1 ≤ room
  r1 : room ≤ 4096
  n0 : 0 ≤ num
  n1 : num < den
  d1 : den ≤ 65536
  wt : (wait : Int) ≤ room
def inGt (G R C : Nat) (vr vs : Value) (j : Nat) : Prop := j = G ∨ inRk R C vr vs j
section
variable {w : World} {base G R C : Nat} {room win num den : Int} {wait : Nat} {vr vs : Value} {ps : List Int} {f k : Nat} {S : List Int}
theorem GtAt.cell (h : GtAt w base G R C room win num den wait vr vs ps f k S) : w.cell? ⟨G, 0, none⟩ = some (.int .i64 room) ∧ w.cell? ⟨G, 1, none⟩ = some (.int .i64 wait) ∧ w.cell? ⟨G, 2, none⟩ = some (.int .u64 num) ∧ w.cell? ⟨G, 3, none⟩ = some (.int .u64 den) ∧ w.cell? ⟨G, 4, none⟩ = some (.pointer (some ⟨R, 0, none⟩)) ∧ w.frozen? ⟨G, 1, none⟩ = false :=
  ⟨cell_of_row w G 0 _ _ (0, 0) h.blk, cell_of_row w G 1 _ _ (0, 0) h.blk, cell_of_row w G 2 _ _ (0, 0) h.blk, cell_of_row w G 3 _ _ (0, 0) h.blk, cell_of_row w G 4 _ _ (0, 0) h.blk, frozen_of_row w G 1 _ _ h.blk⟩
theorem RkAt.keep {w' : World} (h : RkAt w base R C win vr vs ps f k S) (hk : ∀ j, inRk R C vr vs j → w'.heap[j]? = w.heap[j]?) : RkAt w' base R C win vr vs ps f k S :=
  ⟨h.sr.keep (hk R (Or.inl rfl)) (fun j hj => hk j (Or.inr (Or.inr (Or.inr hj)))), h.ring.keep (hk C (Or.inr (Or.inl rfl))) (fun j hj => hk j (Or.inr (Or.inr (Or.inl hj)))), h.ap, h.perm, h.w1⟩
theorem GtAt.keep {w' : World} (h : GtAt w base G R C room win num den wait vr vs ps f k S) (hk : ∀ j, inGt G R C vr vs j → w'.heap[j]? = w.heap[j]?) : GtAt w' base G R C room win num den wait vr vs ps f k S :=
  ⟨(hk G (Or.inl rfl)).trans h.blk, h.low, h.rk.keep (fun j hj => hk j (Or.inr hj)), h.r0, h.r1, h.n0, h.n1, h.d1, h.wt⟩
theorem GtAt.inlt (h : GtAt w base G R C room win num den wait vr vs ps f k S) {j : Nat} (hj : inGt G R C vr vs j) : base ≤ j ∧ j < w.heap.size := by
  rcases hj with rfl | rfl | rfl | hj | hj
  · exact ⟨h.low, (Array.getElem?_eq_some_iff.1 h.blk).1⟩
  · exact ⟨h.rk.sr.low, (Array.getElem?_eq_some_iff.1 h.rk.sr.blk).1⟩
  · exact ⟨h.rk.ring.low, (Array.getElem?_eq_some_iff.1 h.rk.ring.blk).1⟩
  · exact World.ownsRow.lt h.rk.ring.own j hj
  · exact World.ownsRow.lt h.rk.sr.own j hj
theorem GtAt.below {w' : World} (h : GtAt w base G R C room win num den wait vr vs ps f k S) (hb : Below w.heap.size w w') : GtAt w' base G R C room win num den wait vr vs ps f k S := h.keep (fun j hj => hb.block j (h.inlt hj).2)
theorem GtAt.ne (h : GtAt w base G R C room win num den wait vr vs ps f k S) : ¬ inRk R C vr vs G := by
  have hb := h.blk
  rintro (e | e | e | e)
  · have h1 := h.rk.sr.blk; rw [← e, hb] at h1; injection h1 with h1; injection h1 with _ h2 _; exact absurd h2 (by decide)
  · have h1 := h.rk.ring.blk; rw [← e, hb] at h1; injection h1 with h1; injection h1 with _ h2 _; exact absurd h2 (by decide)
  · exact own_ne_blk h.rk.ring.own hb (by decide) e
  · exact own_ne_blk h.rk.sr.own hb (by decide) e
/-- How many wait turns. -/
theorem GtAt.setW (h : GtAt w base G R C room win num den wait vr vs ps f k S) (q : Nat) (hq : (q : Int) ≤ room) : GtAt (w.setCell ⟨G, 1, none⟩ (.int .i64 q)) base G R C room win num den q vr vs ps f k S ∧ MvS w (w.setCell ⟨G, 1, none⟩ (.int .i64 q)) (inGt G R C vr vs) (inGt G R C vr vs) := by
  have hh : ∀ j, j ≠ G → (w.setCell ⟨G, 1, none⟩ (.int .i64 q)).heap[j]? = w.heap[j]? := fun j hj => Below.heap_setCell w ⟨G, 1, none⟩ _ j hj
  refine ⟨⟨by simpa using heap_set h.blk 1 (.int .i64 q), h.low, h.rk.keep (fun j hj => hh j (fun e => h.ne (e ▸ hj))), h.r0, h.r1, h.n0, h.n1, h.d1, hq⟩, ⟨rfl, rfl, rfl, by simp [World.setCell], fun j _ hS => hh j (fun e => hS (Or.inl e)), fun j hj => Or.inr hj⟩⟩
theorem gmade (h : GtAt w base G R C room win num den wait vr vs ps f k S) : Calls Try.prog 69 #[.pointer (some ⟨G, 0, none⟩)] w fun e w' => e = .returned (.bool true) ∧ w' = w := by
  obtain ⟨c0, c1, c2, c3, c4, -⟩ := h.cell
  clear h
  go_enter Try.func69, Try.ntmps69
  go_wp2
  go_ret
  exact ⟨rfl, rfl⟩
theorem gmade_nil (w : World) : Calls Try.prog 69 #[.pointer none] w fun e w' => e = .returned (.bool false) ∧ w' = w := by
  go_enter Try.func69, Try.ntmps69
  go_wp2
  go_ret
  exact ⟨rfl, rfl⟩
theorem glen (h : GtAt w base G R C room win num den wait vr vs ps f k S) : Calls Try.prog 19 #[.pointer (some ⟨G, 0, none⟩)] w fun e w' => e = .returned (.int .i64 wait) ∧ w' = w := by
  obtain ⟨c0, c1, c2, c3, c4, -⟩ := h.cell
  clear h
  go_enter Try.func19, Try.ntmps19
  go_wp2
  go_ret
  exact ⟨rfl, rfl⟩
theorem glen_nil (w : World) : Calls Try.prog 19 #[.pointer none] w fun e w' => e = .returned (.int .i64 0) ∧ w' = w := by
  go_enter Try.func19, Try.ntmps19
  go_wp2
  go_ret
  exact ⟨rfl, rfl⟩
theorem gtake (h : GtAt w base G R C room win num den wait vr vs ps f k S) : Calls Try.prog 16 #[.pointer (some ⟨G, 0, none⟩)] w fun e w' => e = .returned (.bool (decide (0 < wait))) ∧ GtAt w' base G R C room win num den (wait - 1) vr vs ps f k S ∧ MvS w w' (inGt G R C vr vs) (inGt G R C vr vs) := by
  have LN := Lib.hid (glen h)
  have hr := h.r1; have hwt := h.wt
  obtain ⟨c0, c1, c2, c3, c4, f1⟩ := h.cell
  by_cases h0 : wait = 0
  · subst h0
    have HH := Lib.hid h
    clear h
    go_enter Try.func16, Try.ntmps16
    go_wp2_with fail
    refine LN.out.mono ?_
    rintro e w' ⟨rfl, rfl⟩
    go_wp2
    go_ret
    exact ⟨rfl, HH.out, MvS.refl _ _⟩
  · have SW := Lib.hid (h.setW (wait - 1) (by omega))
    have hz : ¬ (wait : Int) = 0 := by omega
    have hw : IntKind.i64.wrap ((wait : Int) - 1) = ((wait - 1 : Nat) : Int) := by rw [IntKind.wrap_i64]; omega
    have HD := Lib.hid (show decide (0 < wait) = true from decide_eq_true (by omega))
    rw [HD.out]
    obtain ⟨q, hq⟩ : ∃ q, wait - 1 = q := ⟨_, rfl⟩
    rw [hq] at SW hw ⊢
    clear h hq
    go_enter Try.func16, Try.ntmps16
    go_wp2_with fail
    refine LN.out.mono ?_
    rintro e w' ⟨rfl, rfl⟩
    go_wp2
    go_ret
    exact ⟨rfl, SW.out.1, SW.out.2⟩
theorem gwindow (h : GtAt w base G R C room win num den wait vr vs ps f k S) : Calls Try.prog 18 #[.pointer (some ⟨G, 0, none⟩)] w fun e w' => ∃ v, e = .returned v ∧ U64s w' w.heap.size v (cont 0 ps f k) ∧ Below w.heap.size w w' := by
  have MD := Lib.hid (gmade h)
  have AL := Lib.hid (all_anyU h.rk.ring)
  obtain ⟨c0, c1, c2, c3, c4, f1⟩ := h.cell
  obtain ⟨d0, d1, -⟩ := h.rk.sr.cell
  clear h
  go_enter Try.func18, Try.ntmps18
  go_wp2_with fail
  refine MD.out.mono ?_
  rintro e w' ⟨rfl, rfl⟩
  go_wp2_with fail
  refine AL.out.mono ?_
  rintro e w1 ⟨c, rfl, ho, hb⟩
  have FIN := Lib.hid (show U64s w1 w'.heap.size (.slice (some ⟨w'.heap.size, 0, none⟩) k c) (cont 0 ps f k) ∧ Below w'.heap.size w' w1 from ⟨by unfold U64s; rw [cont_length]; exact ho, hb⟩)
  clear ho hb
  go_wp2
  go_ret
  exact ⟨_, rfl, FIN.out⟩
/-- May a rank come? -/
def mayP (room num den : Int) (wait : Nat) (W : List Int) (x : Int) : Bool := decide ((wait : Int) < room) && decide ((lessC W x : Int) * (den - num) * room ≤ (room - wait) * den * (W.length : Int))
theorem mul_bd {a b A B : Int} (ha : 0 ≤ a) (ha1 : a ≤ A) (hb : 0 ≤ b) (hb1 : b ≤ B) : 0 ≤ a * b ∧ a * b ≤ A * B :=
  ⟨Int.mul_nonneg ha hb, Int.mul_le_mul ha1 hb1 hb (by omega)⟩
set_option maxRecDepth 100000 in
set_option maxHeartbeats 2000000 in
theorem gmay (h : GtAt w base G R C room win num den wait vr vs ps f k S) (x : Int) : Calls Try.prog 17 #[.pointer (some ⟨G, 0, none⟩), .int .u64 x] w fun e w' => e = .returned (.bool (mayP room num den wait (cont 0 ps f k) x)) ∧ ∃ q, w' = w.drewN q := by
  have MD := Lib.hid (fun n => gmade (h.below (below_drewN n (Below.refl _ w))))
  have BL := Lib.hid (fun n => below_any (h.below (below_drewN n (Below.refl _ w))).rk.sr x)
  have RL := Lib.hid (fun n => rlen_any (h.below (below_drewN n (Below.refl _ w))).rk.sr)
  have hr0 := h.r0; have hr1 := h.r1; have hn0 := h.n0; have hn1 := h.n1; have hd1 := h.d1; have hwt := h.wt
  have hSl : S.length = k := by rw [h.rk.perm.length_eq, cont_length]
  have hlim := h.rk.sr.lim
  have hlc : lessC (cont 0 ps f k) x = lessC S x := (lessC_perm h.rk.perm x).symm
  have hle := lessC_le S x
  obtain ⟨c0, c1, c2, c3, c4, f1⟩ := h.cell
  have HH := Lib.hid h
  unfold mayP
  rw [hlc, cont_length, ← hSl]
  clear h hlc hSl
  by_cases hw : (wait : Int) < room
  · rw [decide_eq_true hw, Bool.true_and]
    have d0 : decide (room ≤ (wait : Int)) = false := decide_eq_false (by omega)
    obtain ⟨n, hns⟩ : ∃ n, S.length = n := ⟨_, rfl⟩
    obtain ⟨b, hbs⟩ : ∃ b, lessC S x = b := ⟨_, rfl⟩
    rw [hns] at hle hlim ⊢
    rw [hbs] at hle ⊢
    have HNS := Lib.hid hns
    have HB := Lib.hid hbs
    clear hns hbs
    obtain ⟨p1, p2⟩ := mul_bd (a := (b : Int)) (b := den - num) (A := 1024) (B := 65536) (by omega) (by omega) (by omega) (by omega)
    obtain ⟨p3, p4⟩ := mul_bd (a := (b : Int) * (den - num)) (b := room) (A := 67108864) (B := 4096) p1 (by omega) (by omega) (by omega)
    obtain ⟨q1, q2⟩ := mul_bd (a := room - wait) (b := den) (A := 4096) (B := 65536) (by omega) (by omega) (by omega) (by omega)
    obtain ⟨q3, q4⟩ := mul_bd (a := (room - wait) * den) (b := (n : Int)) (A := 268435456) (B := 1024) q1 (by omega) (by omega) (by omega)
    have v1 : IntKind.u64.wrap (b : Int) = b := by rw [IntKind.wrap_u64]; omega
    have v2 : IntKind.u64.wrap (n : Int) = n := by rw [IntKind.wrap_u64]; omega
    have v3 : IntKind.u64.wrap (den - num) = den - num := by rw [IntKind.wrap_u64]; omega
    have v4 : IntKind.u64.wrap room = room := by rw [IntKind.wrap_u64]; omega
    have v5 : IntKind.i64.wrap (room - wait) = room - wait := by rw [IntKind.wrap_i64]; omega
    have v6 : IntKind.u64.wrap (room - wait) = room - wait := by rw [IntKind.wrap_u64]; omega
    have v7 : IntKind.u64.wrap ((b : Int) * (den - num)) = (b : Int) * (den - num) := by rw [IntKind.wrap_u64]; omega
    have v8 : IntKind.u64.wrap ((b : Int) * (den - num) * room) = (b : Int) * (den - num) * room := by rw [IntKind.wrap_u64]; omega
    have v9 : IntKind.u64.wrap ((room - wait) * den) = (room - wait) * den := by rw [IntKind.wrap_u64]; omega
    have v10 : IntKind.u64.wrap ((room - wait) * den * (n : Int)) = (room - wait) * den * (n : Int) := by rw [IntKind.wrap_u64]; omega
    go_enter Try.func17, Try.ntmps17
    go_wp2
    go_quiet ((go_at_call 69; exact Calls.quiet_of_same (MD.out _)))
    have HH2 := Lib.hid (show GtAt (w.drewN nq) base G R C room win num den wait vr vs ps f k S from HH.out.keep (fun _ _ => rfl))
    have HN2 := Lib.hid (show ∃ q, w.drewN nq = w.drewN q from ⟨nq, rfl⟩)
    clear c0 c1 c2 c3 c4 f1 MD BL RL HH
    generalize w.drewN nq = W2 at *
    obtain ⟨c0, c1, c2, c3, c4, f1⟩ := HH2.out.cell
    have BL := Lib.hid (fun n => below_any (HH2.out.below (below_drewN n (Below.refl _ W2))).rk.sr x)
    have RL := Lib.hid (fun n => rlen_any (HH2.out.below (below_drewN n (Below.refl _ W2))).rk.sr)
    rw [HB.out] at BL
    rw [HNS.out] at RL
    go_wp2
    go_quiet ((first | (go_at_call 71; exact Calls.quiet_of (BL.out _)) | (go_at_call 72; exact Calls.quiet_of_same (RL.out _))))
    obtain ⟨q0, hq0⟩ := HN2.out
    have HQ := Lib.hid (show ∃ q, W2.drewN nq = w.drewN q from ⟨q0 + nq, by rw [hq0, World.drewN_drewN]⟩)
    have HH3 := Lib.hid (show GtAt (W2.drewN nq) base G R C room win num den wait vr vs ps f k S from HH2.out.keep (fun _ _ => rfl))
    clear c0 c1 c2 c3 c4 f1 HH2 HN2 hq0 BL RL
    generalize W2.drewN nq = W3 at *
    obtain ⟨c0, c1, c2, c3, c4, f1⟩ := HH3.out.cell
    go_wp2
    go_quiet (fail)
    obtain ⟨q1, hq1⟩ := HQ.out
    have HF := Lib.hid (show ∃ q, W3.drewN nq = w.drewN q from ⟨q1 + nq, by rw [hq1, World.drewN_drewN]⟩)
    clear hq1
    go_wp2
    go_ret
    exact ⟨rfl, HF.out⟩
  · rw [decide_eq_false hw, Bool.false_and]
    have d0 : decide (room ≤ (wait : Int)) = true := decide_eq_true (by omega)
    go_enter Try.func17, Try.ntmps17
    go_wp2
    go_quiet ((go_at_call 69; exact Calls.quiet_of_same (MD.out _)))
    go_wp2
    go_ret
    exact ⟨rfl, _, rfl⟩
end
end Go.Proofs.Ytnnbkooikimedaa
