/-
  Package aifo: a rank is offered; a gate is made, or refused; what a gate that nobody made answers. No block turns but the gate's own. No condition but what is said.
-/
import Derived.Test.YtnnbkooikimedaaAifo4
namespace Go.Proofs.Ytnnbkooikimedaa
set_option linter.unusedVariables false
set_option linter.unusedSimpArgs false
open Go.ChangeShapes Go.WideShapes Go.ChangeAt Go.RowKit
attribute [local go_sem] alloc_drewN setCell_drewN

section
variable {w : World} {base G R C : Nat} {room win num den : Int} {wait : Nat} {vr vs : Value} {ps : List Int} {f k : Nat} {S : List Int}
theorem GtAt.mv {w' : World} {vr' vs' : Value} {ps' : List Int} {f' k' : Nat} {S' : List Int} (h : GtAt w base G R C room win num den wait vr vs ps f k S) (r : RkAt w' base R C win vr' vs' ps' f' k' S') (m : MvS w w' (inRk R C vr vs) (inRk R C vr' vs')) :
    GtAt w' base G R C room win num den wait vr' vs' ps' f' k' S' ∧ MvS w w' (inGt G R C vr vs) (inGt G R C vr' vs') := by
  have hG := (Array.getElem?_eq_some_iff.1 h.blk).1
  refine ⟨⟨(m.block G hG h.ne).trans h.blk, h.low, r, h.r0, h.r1, h.n0, h.n1, h.d1, h.wt⟩, ⟨m.os, m.tape, m.output, m.size, fun j hj hS => m.block j hj (fun e => hS (Or.inr e)), fun j hj => ?_⟩⟩
  rcases hj with hj | hj
  · exact Or.inr (Or.inl hj)
  · rcases m.own j hj with h1 | h1
    · exact Or.inl h1
    · exact Or.inr (Or.inr h1)
theorem alloc2 (w : World) (X Y : Obj) : ((w.alloc X).alloc Y).heap[w.heap.size]? = some X ∧ ((w.alloc X).alloc Y).heap[w.heap.size + 1]? = some Y ∧ Below w.heap.size w ((w.alloc X).alloc Y) := by
  have e1 : (w.alloc X).heap.size = w.heap.size + 1 := by simp
  refine ⟨?_, ?_, ?_⟩
  · exact (heap_alloc_old _ _ (by omega)).trans (heap_alloc_new w X)
  · rw [← e1]; exact heap_alloc_new _ _
  · exact ((Below.refl _ w).alloc (Nat.le_refl _) _).alloc (by omega) _
theorem mayP_lt {W : List Int} {x : Int} (h : mayP room num den wait W x = true) : (wait : Int) < room := by
  unfold mayP at h
  exact of_decide_eq_true (Bool.and_eq_true_iff.1 h).1
def bump (wait : Nat) (b : Bool) : Nat := if b then wait + 1 else wait
set_option maxRecDepth 100000 in
set_option maxHeartbeats 1000000 in
theorem goffer (h : GtAt w base G R C room win num den wait vr vs ps f k S) (x : Int) (hbase : base ≤ w.heap.size) : Calls Try.prog 15 #[.pointer (some ⟨G, 0, none⟩), .int .u64 x] w fun e w' => e = .returned (.bool (mayP room num den wait (cont 0 ps f k) x)) ∧ ∃ vr' vs' ps' f' k' S', GtAt w' base G R C room win num den (bump wait (mayP room num den wait (cont 0 ps f k) x)) vr' vs' ps' f' k' S' ∧ cont 0 ps' f' k' = winP (cont 0 ps f k) win.toNat x ∧ MvS w w' (inGt G R C vr vs) (inGt G R C vr' vs') := by
  have MD := Lib.hid (gmade h)
  have MY := Lib.hid (gmay h x)
  have HH := Lib.hid h
  have hr1 := h.r1
  have HLT := Lib.hid (fun hm => mayP_lt (wait := wait) (room := room) (num := num) (den := den) (W := cont 0 ps f k) (x := x) hm)
  generalize mayP room num den wait (cont 0 ps f k) x = m at *
  clear h
  cases m with
  | false =>
    clear HLT
    go_enter Try.func15, Try.ntmps15
    go_wp2_with fail
    refine MD.out.mono ?_
    rintro e w' ⟨rfl, rfl⟩
    go_wp2_with fail
    refine MY.out.mono ?_
    rintro e w1 ⟨rfl, q, rfl⟩
    have H1 := Lib.hid (show GtAt (w'.drewN q) base G R C room win num den wait vr vs ps f k S from HH.out.keep (fun _ _ => rfl))
    obtain ⟨c0, c1, c2, c3, c4, f1⟩ := H1.out.cell
    have AD := Lib.hid (add_any H1.out.rk x hbase)
    go_wp2_with fail
    refine AD.out.mono ?_
    rintro e w2 ⟨rfl, vr', vs', ps', f', k', S', r2, hc2, m2⟩
    obtain ⟨g2, M2⟩ := H1.out.mv r2 m2
    have FIN := Lib.hid (show ∃ vr' vs' ps' f' k' S', GtAt w2 base G R C room win num den (bump wait false) vr' vs' ps' f' k' S' ∧ cont 0 ps' f' k' = winP (cont 0 ps f k) win.toNat x ∧ MvS w' w2 (inGt G R C vr vs) (inGt G R C vr' vs') from ⟨vr', vs', ps', f', k', S', g2, hc2, ⟨M2.os, M2.tape, M2.output, M2.size, M2.block, M2.own⟩⟩)
    clear g2 M2 r2 hc2 m2 AD
    go_wp2
    go_ret
    exact ⟨rfl, FIN.out⟩
  | true =>
    have hlt := HLT.out rfl
    clear HLT
    have ww : IntKind.i64.wrap ((wait : Int) + 1) = ((wait + 1 : Nat) : Int) := by rw [IntKind.wrap_i64]; omega
    obtain ⟨wt1, hwt1⟩ : ∃ wt1, wait + 1 = wt1 := ⟨_, rfl⟩
    have HW1 := Lib.hid (show bump wait true = wt1 from hwt1)
    rw [hwt1] at ww
    have HSW := Lib.hid (fun q => (show GtAt (w.drewN q) base G R C room win num den wait vr vs ps f k S from HH.out.keep (fun _ _ => rfl)).setW wt1 (by omega))
    rw [HW1.out]
    clear hwt1
    go_enter Try.func15, Try.ntmps15
    go_wp2_with fail
    refine MD.out.mono ?_
    rintro e w' ⟨rfl, rfl⟩
    go_wp2_with fail
    refine MY.out.mono ?_
    rintro e w1 ⟨rfl, q, rfl⟩
    obtain ⟨c0, c1, c2, c3, c4, f1⟩ := (show GtAt (w'.drewN q) base G R C room win num den wait vr vs ps f k S from HH.out.keep (fun _ _ => rfl)).cell
    obtain ⟨H2, M1⟩ := HSW.out q
    have H1 := Lib.hid H2
    have HM1 := Lib.hid M1
    obtain ⟨d0, d1, d2, d3, d4, -⟩ := H2.cell
    have AD := Lib.hid (add_any H2.rk x (Nat.le_trans hbase M1.size))
    clear H2 M1 HSW
    generalize hW3 : (w'.drewN q).setCell ⟨G, 1, none⟩ (.int .i64 wt1) = W3 at *
    go_wp2_with (fail)
    refine AD.out.mono ?_
    rintro e w2 ⟨rfl, vr', vs', ps', f', k', S', r2, hc2, m2⟩
    obtain ⟨g2, M2⟩ := H1.out.mv r2 m2
    have M3 := HM1.out.trans M2
    have FIN := Lib.hid (show ∃ vr' vs' ps' f' k' S', GtAt w2 base G R C room win num den wt1 vr' vs' ps' f' k' S' ∧ cont 0 ps' f' k' = winP (cont 0 ps f k) win.toNat x ∧ MvS w' w2 (inGt G R C vr vs) (inGt G R C vr' vs') from ⟨vr', vs', ps', f', k', S', g2, hc2, ⟨M3.os, M3.tape, M3.output, M3.size, M3.block, M3.own⟩⟩)
    clear g2 M2 M3 r2 hc2 m2 AD hW3
    go_wp2
    go_ret
    exact ⟨rfl, FIN.out⟩
end
def chk (room win num den : Int) : Int := if room < 1 ∨ 4096 < room ∨ win < 1 ∨ 1024 < win then 25 else if den < 1 ∨ 65536 < den ∨ den ≤ num then 6 else 0
set_option maxRecDepth 100000 in
set_option maxHeartbeats 1000000 in
theorem gnew_no (room win num den : Int) (w : World) (hn0 : 0 ≤ num) (hd0 : 0 ≤ den) (h : chk room win num den ≠ 0) :
    Calls Try.prog 13 #[.int .i64 room, .int .i64 win, .int .u64 num, .int .u64 den] w fun e w' => e = .returned (.tuple #[.pointer none, .int .i64 (chk room win num den)]) ∧ w' = w := by
  unfold chk at h ⊢
  by_cases h1 : room < 1 ∨ 4096 < room ∨ win < 1 ∨ 1024 < win
  · rw [if_pos h1]
    clear h
    by_cases a1 : room < 1
    · go_enter Try.func13, Try.ntmps13
      go_wp2
      go_ret2
      exact ⟨rfl, rfl⟩
    · by_cases a2 : 4096 < room
      · clear h1
        go_enter Try.func13, Try.ntmps13
        go_wp2
        go_ret2
        exact ⟨rfl, rfl⟩
      · by_cases a3 : win < 1
        · clear h1
          go_enter Try.func13, Try.ntmps13
          go_wp2
          go_ret2
          exact ⟨rfl, rfl⟩
        · have a4 : 1024 < win := by omega
          clear h1
          go_enter Try.func13, Try.ntmps13
          go_wp2
          go_ret2
          exact ⟨rfl, rfl⟩
  · rw [if_neg h1] at h ⊢
    have a1 : ¬ room < 1 := by omega
    have a2 : ¬ 4096 < room := by omega
    have a3 : ¬ win < 1 := by omega
    have a4 : ¬ 1024 < win := by omega
    clear h1
    by_cases h2 : den < 1 ∨ 65536 < den ∨ den ≤ num
    · rw [if_pos h2]
      clear h
      by_cases b1 : den < 1
      · clear h2
        go_enter Try.func13, Try.ntmps13
        go_wp2
        go_ret2
        exact ⟨rfl, rfl⟩
      · by_cases b2 : 65536 < den
        · clear h2
          go_enter Try.func13, Try.ntmps13
          go_wp2
          go_ret2
          exact ⟨rfl, rfl⟩
        · have b3 : den ≤ num := by omega
          clear h2
          go_enter Try.func13, Try.ntmps13
          go_wp2
          go_ret2
          exact ⟨rfl, rfl⟩
    · rw [if_neg h2] at h
      exact absurd rfl h
set_option maxRecDepth 100000 in
set_option maxHeartbeats 1000000 in
theorem gnew_ok (room win num den : Int) (w : World) (hn0 : 0 ≤ num) (h : chk room win num den = 0) :
    Calls Try.prog 13 #[.int .i64 room, .int .i64 win, .int .u64 num, .int .u64 den] w fun e w' => ∃ G R C, e = .returned (.tuple #[.pointer (some ⟨G, 0, none⟩), .int .i64 0]) ∧ GtAt w' w.heap.size G R C room win num den 0 (.slice none 0 0) (.slice none 0 0) [] 0 0 [] ∧ Below w.heap.size w w' := by
  unfold chk at h
  have h1 : ¬ (room < 1 ∨ 4096 < room ∨ win < 1 ∨ 1024 < win) := fun hh => by rw [if_pos hh] at h; exact absurd h (by decide)
  rw [if_neg h1] at h
  have h2 : ¬ (den < 1 ∨ 65536 < den ∨ den ≤ num) := fun hh => by rw [if_pos hh] at h; exact absurd h (by decide)
  have a1 : ¬ room < 1 := by omega
  have a2 : ¬ 4096 < room := by omega
  have a3 : ¬ win < 1 := by omega
  have a4 : ¬ 1024 < win := by omega
  have b1 : ¬ den < 1 := by omega
  have b2 : ¬ 65536 < den := by omega
  have b3 : ¬ den ≤ num := by omega
  clear h h1 h2
  have NW := Lib.hid (new_okU win (by omega) (by omega) w)
  go_enter Try.func13, Try.ntmps13
  go_wp2_with fail
  refine NW.out.mono ?_
  rintro e w1 ⟨rfl, r1, hb1⟩
  have hCl := (Array.getElem?_eq_some_iff.1 r1.blk).1
  have X1 := alloc2 w1 (.cells #[.pointer (some ⟨w.heap.size, 0, none⟩), .slice none 0 0] 135) (.cells #[.int .i64 room, .int .i64 ((0 : Nat) : Int), .int .u64 num, .int .u64 den, .pointer (some ⟨w1.heap.size, 0, none⟩)] 137)
  obtain ⟨x0, x1, bb⟩ := X1
  have hsz := hb1.size
  have FIN := Lib.hid (show ∃ G R C, (G = w1.heap.size + 1 ∧ R = w1.heap.size ∧ C = w.heap.size) ∧ GtAt ((w1.alloc (.cells #[.pointer (some ⟨w.heap.size, 0, none⟩), .slice none 0 0] 135)).alloc (.cells #[.int .i64 room, .int .i64 ((0 : Nat) : Int), .int .u64 num, .int .u64 den, .pointer (some ⟨w1.heap.size, 0, none⟩)] 137)) w.heap.size G R C room win num den 0 (.slice none 0 0) (.slice none 0 0) [] 0 0 [] ∧ Below w.heap.size w ((w1.alloc (.cells #[.pointer (some ⟨w.heap.size, 0, none⟩), .slice none 0 0] 135)).alloc (.cells #[.int .i64 room, .int .i64 ((0 : Nat) : Int), .int .u64 num, .int .u64 den, .pointer (some ⟨w1.heap.size, 0, none⟩)] 137)) from
    ⟨_, _, _, ⟨rfl, rfl, rfl⟩, ⟨x1, by omega, ⟨⟨x0, hsz, World.ownsRow_nil _ _ _ _, List.Pairwise.nil, by decide⟩, r1.keep (bb.block _ hCl) (fun j hj => by cases hj), Or.inl rfl, List.Perm.refl _, by omega⟩, by omega, by omega, hn0, by omega, by omega, by omega⟩, hb1.trans (bb.mono hsz)⟩)
  clear r1 x0 x1 bb
  go_wp2
  go_ret2
  obtain ⟨G, R, C, ⟨rfl, rfl, rfl⟩, g, b⟩ := FIN.out
  exact ⟨_, _, _, by simp, g, b⟩
theorem may_nil (x : Int) (w : World) : Calls Try.prog 17 #[.pointer none, .int .u64 x] w fun e w' => e = .returned (.bool false) ∧ ∃ q, w' = w.drewN q := by
  have MD := Lib.hid gmade_nil
  go_enter Try.func17, Try.ntmps17
  go_wp2
  go_quiet ((go_at_call 69; exact Calls.quiet_of_same (MD.out _)))
  go_wp2
  go_ret
  exact ⟨rfl, _, rfl⟩
theorem offer_nil (x : Int) (w : World) : Calls Try.prog 15 #[.pointer none, .int .u64 x] w fun e w' => e = .returned (.bool false) ∧ w' = w := by
  go_enter Try.func15, Try.ntmps15
  go_wp2_with (go_at_call 69; refine (gmade_nil _).mono ?_; rintro e w' ⟨rfl, rfl⟩)
  go_ret
  exact ⟨rfl, rfl⟩
theorem take_nilG (w : World) : Calls Try.prog 16 #[.pointer none] w fun e w' => e = .returned (.bool false) ∧ w' = w := by
  go_enter Try.func16, Try.ntmps16
  go_wp2_with (go_at_call 19; refine (glen_nil _).mono ?_; rintro e w' ⟨rfl, rfl⟩)
  go_ret
  exact ⟨rfl, rfl⟩
theorem window_nil (w : World) : Calls Try.prog 18 #[.pointer none] w fun e w' => e = .returned (.slice none 0 0) ∧ w' = w := by
  go_enter Try.func18, Try.ntmps18
  go_wp2_with (go_at_call 69; refine (gmade_nil _).mono ?_; rintro e w' ⟨rfl, rfl⟩)
  go_ret
  exact ⟨rfl, rfl⟩
end Go.Proofs.Ytnnbkooikimedaa
