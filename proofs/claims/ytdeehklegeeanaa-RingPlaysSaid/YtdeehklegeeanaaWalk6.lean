/-
  The law of plays of layer 6, walked: true for any room and any acts. No condition.
-/
import Derived.Test.YtdeehklegeeanaaRing7
import Derived.Test.YtdeehklegeeanaaOpen3
namespace Go.Proofs.Ytdeehklegeeanaa
set_option linter.unusedVariables false
set_option linter.unusedSimpArgs false
open Go.ChangeShapes Go.WideShapes Go.ChangeAt Go.RowKit
attribute [local go_sem] alloc_drewN setCell_drewN

theorem Mv.to_heap {w w' w2 : World} {B : Nat} {v v' : Value} (h : Mv w w' B v v') (hb : Below w'.heap.size w' w2) : Mv w w2 B v v' :=
  h.trans (Mv.of_below B v' hb)
theorem own_lower {w : World} {b b2 : Nat} {t : TypeId} {z : Nat} {v : Value} {n : Nat} {xs : List Value} (h : w.ownsRow b t z v n xs) (hb : b2 ≤ b) : w.ownsRow b2 t z v n xs := by
  refine ⟨h.1, ?_⟩
  rcases h.2 with h2 | ⟨g, cap, cur, e, hg, hr⟩
  · exact Or.inl h2
  · exact Or.inr ⟨g, cap, cur, e, by omega, hr⟩
/-- How ring and row stand between two acts. -/
structure Both (W0 w : World) (room : Int) (mv rv : Value) (ms ps : List Int) (f : Nat) : Prop where
  ring : RingAtI w W0.heap.size W0.heap.size room rv ps f ms.length
  row : Ints w W0.heap.size mv ms
  same : ms = cont 0 ps f ms.length
  apart : mv.ownBlock = none ∨ mv.ownBlock ≠ rv.ownBlock
  below : Below W0.heap.size W0 w
theorem Both.base {W0 w : World} {room : Int} {mv rv : Value} {ms ps : List Int} {f : Nat} (h : Both W0 w room mv rv ms ps f) : W0.heap.size ≤ w.heap.size := h.below.size
theorem Both.on {W0 w w2 : World} {room : Int} {mv rv : Value} {ms ps : List Int} {f : Nat} (h : Both W0 w room mv rv ms ps f) (hb : Below w.heap.size w w2) : Both W0 w2 room mv rv ms ps f :=
  ⟨h.ring.below hb, h.row.below hb, h.same, h.apart, h.below.trans (hb.mono h.base)⟩
/-- The ring turned; then the row is another one, laid behind. -/
theorem Both.step {W0 w w1 w2 : World} {room : Int} {mv rv rv' mv' : Value} {ms ps ps' ms' : List Int} {f f' : Nat} (h : Both W0 w room mv rv ms ps f) (hr : RingAtI w1 W0.heap.size W0.heap.size room rv' ps' f' ms'.length) (hm : Mv w w1 W0.heap.size rv rv')
    (hb : Below w1.heap.size w1 w2) (hi : Ints w2 w1.heap.size mv' ms') (hs : ms' = cont 0 ps' f' ms'.length) : Both W0 w2 room mv' rv' ms' ps' f' := by
  have hB := hm.below h.below (Nat.le_refl _) (fun j hj => (h.ring.own.lt j hj).1) h.base
  refine ⟨hr.below hb, own_lower hi (Nat.le_trans h.base hm.size), hs, ?_, hB.trans (hb.mono hB.size)⟩
  rcases hx : mv'.ownBlock with _ | j
  · exact Or.inl rfl
  · right
    intro e
    have h1 := (World.ownsRow.lt hi j hx).1
    have h2 := (hr.own.lt j (by rw [← e])).2
    omega
/-- The ring turned; the row stands. -/
theorem Both.keep {W0 w w1 : World} {room : Int} {mv rv rv' : Value} {ms ps : List Int} {f : Nat} (h : Both W0 w room mv rv ms ps f) (hm : Mv w w1 W0.heap.size rv rv') :
    Ints w1 W0.heap.size mv ms ∧ (mv.ownBlock = none ∨ mv.ownBlock ≠ rv'.ownBlock) ∧ Below W0.heap.size W0 w1 := by
  obtain ⟨h1, h2⟩ := hm.row h.row (own_ne_blk h.row h.ring.blk (by decide)) h.apart
  exact ⟨h1, h2, hm.below h.below (Nat.le_refl _) (fun j hj => (h.ring.own.lt j hj).1) h.base⟩
/-- A cell of a block that is neither the ring's nor its row's. -/
theorem Mv.cell {w w' : World} {B : Nat} {v v' : Value} (h : Mv w w' B v v') {A i : Nat} {x : Value} (hc : w.cell? ⟨A, i, none⟩ = some x) (h1 : A ≠ B) (h2 : v.ownBlock ≠ some A) : w'.cell? ⟨A, i, none⟩ = some x :=
  (World.cell?_of_block (w := w) (w' := w') (a := ⟨A, i, none⟩) (h.block A (block_lt hc) h1 (fun e => h2 e.symm))).trans hc

theorem all_ints {W0 w : World} {room : Int} {mv rv : Value} {ms ps : List Int} {f : Nat} (h : Both W0 w room mv rv ms ps f) :
    Calls Try.prog 21 #[.pointer (some ⟨W0.heap.size, 0, none⟩)] w fun e w' => ∃ v', e = .returned v' ∧ Ints w' w.heap.size v' ms ∧ Below w.heap.size w w' :=
  (all_anyI h.ring).mono fun e w' ⟨c, he, ho, hb⟩ => ⟨_, he, by rw [← h.same] at ho; exact ho, hb⟩
theorem last_ints {W0 w : World} {room : Int} {mv rv : Value} {ms ps : List Int} {f : Nat} (h : Both W0 w room mv rv ms ps f) (N : Int) :
    Calls Try.prog 22 #[.pointer (some ⟨W0.heap.size, 0, none⟩), .int .i64 N] w fun e w' => ∃ v', e = .returned v' ∧ Ints w' w.heap.size v' (ms.drop (ms.length - N.toNat)) ∧ Below w.heap.size w w' := by
  obtain ⟨m, hm, hme⟩ : ∃ m : Nat, ((N < 0 ∧ m = 0) ∨ ((ms.length : Int) < N ∧ m = ms.length) ∨ (N = m ∧ m ≤ ms.length)) ∧ ms.length - m = ms.length - N.toNat := by
    by_cases h1 : N < 0
    · exact ⟨0, Or.inl ⟨h1, rfl⟩, by omega⟩
    · by_cases h2 : (ms.length : Int) < N
      · exact ⟨ms.length, Or.inr (Or.inl ⟨h2, rfl⟩), by omega⟩
      · exact ⟨N.toNat, Or.inr (Or.inr ⟨by omega, by omega⟩), rfl⟩
  refine (last_anyI h.ring N m hm).mono fun e w' ⟨c, he, ho, hb⟩ => ⟨_, he, ?_, hb⟩
  rw [← h.same, hme] at ho
  unfold Ints
  have hl : (ms.drop (ms.length - N.toNat)).length = m := by rw [List.length_drop]; omega
  rw [hl]
  exact ho

set_option maxRecDepth 100000 in
set_option maxHeartbeats 40000000 in
theorem plays6_at (room : Int) (r0 : 1 ≤ room) (r1 : room ≤ 65536) (b off c : Nat) (zs : List Act6) (hn : zs.length ≤ 200) (hok : ∀ x ∈ zs, x.ok) (w : World) (hb : b < w.heap.size)
    (hc : ∀ i, i < zs.length → w.cell? ⟨b, off + i * 2, none⟩ = some (.int .u8 (zs.getD i Act6.nil).k) ∧ w.cell? ⟨b, off + i * 2 + 1, none⟩ = some (.int .i64 (zs.getD i Act6.nil).n)) :
    Calls Try.prog 3 #[.int .i64 room, .slice (some ⟨b, off, none⟩) zs.length c] w fun e w' => e = .returned (.bool true) ∧ Below w.heap.size w w' := by
  have HC := Lib.hid hc; have HOK := Lib.hid hok
  clear hc hok
  have R0 := Lib.hid r0; have R1 := Lib.hid r1
  go_enter Try.func3, Try.ntmps3
  go_wp2_with fail
  refine (new_okI room r0 r1 _).mono ?_
  rintro e w1 ⟨rfl, h1, b1⟩
  have BT : Both w w1 room (.slice none 0 0) (.slice none 0 0) [] [] 0 := ⟨h1, Ints.nil _ _, rfl, Or.inl rfl, b1⟩
  clear h1 b1
  go_wp2_with fail
  go_loopw [8, 58] (fun x y wr => ∃ (mv rv : Value) (ms ps : List Int) (f i : Nat), mv = x ∧ i ≤ zs.length ∧ y = .int .i64 i ∧ Both w wr room mv rv ms ps f) (fun _ y _ => zs.length - (intOf y).toNat)
  case atStart => exact ⟨_, _, [], [], 0, 0, rfl, Nat.zero_le _, rfl, BT⟩
  case round =>
    obtain ⟨mv, rv, ms, ps, f, i, rfl, hi, rfl, HB⟩ := hrel
    have hbase := HB.base
    by_cases hlt : i < zs.length
    · obtain ⟨z1, z2⟩ := HC.out i hlt
      have z1 := (HB.below.cell (p := ⟨b, off + i * 2, none⟩) hb).trans z1
      have z2 := (HB.below.cell (p := ⟨b, off + i * 2 + 1, none⟩) hb).trans z2
      have hz := HOK.out (zs.getD i Act6.nil) (by rw [List.getD_eq_getElem?_getD, List.getElem?_eq_getElem hlt]; exact List.getElem_mem _)
      obtain ⟨⟨k0, k1⟩, n0, n1⟩ := hz
      generalize (zs.getD i Act6.nil).k = κ at *
      generalize (zs.getD i Act6.nil).n = N at *
      go_upto_block 2 with (fail)
      have q0 : 0 ≤ κ % 8 := by omega
      have q1 : κ % 8 ≤ 7 := by omega
      generalize κ % 8 = q at *
      have hbl : Below wr.heap.size wr (wr.alloc (.cells #[.int .u8 κ, .int .i64 N] 30)) := (Below.refl _ _).alloc (Nat.le_refl _) _
      have H2 := HB.on hbl
      have cA : (wr.alloc (.cells #[.int .u8 κ, .int .i64 N] 30)).cell? ⟨wr.heap.size, 1, none⟩ = some (.int .i64 N) := by simp [go_sem]
      have hA1 : wr.heap.size ≠ w.heap.size := by have := (Array.getElem?_eq_some_iff.1 HB.ring.blk).1; omega
      have hA2 : rv.ownBlock ≠ some wr.heap.size := fun e => by have := (HB.ring.own.lt _ e).2; omega
      have HBI := Lib.hid hi
      have hAs : wr.heap.size < (wr.alloc (.cells #[.int .u8 κ, .int .i64 N] 30)).heap.size := by simp
      clear z1 z2 HB hbl
      generalize wr.alloc (.cells #[.int .u8 κ, .int .i64 N] 30) = wa at *
      generalize wr.heap.size = A at *
      go_cut [8] (fun x wx => ∃ (mv rv : Value) (ms ps : List Int) (f : Nat), mv = x ∧ Both w wx room mv rv ms ps f ∧ wx.cell? ⟨A, 1, none⟩ = some (.int .i64 N))
      case first =>
        obtain ⟨a, cm, rfl, hcm, hms⟩ := H2.row.form
        have hk := H2.ring.le; have hlr := H2.ring.lr
        have HMS := Lib.hid hms
        have HH := Lib.hid H2
        clear hms H2
        have hq : (q ≠ 4 ∧ q ≠ 5 ∧ q ≠ 6 ∧ q ≠ 7) ∨ q = 4 ∨ q = 5 ∨ q = 6 ∨ q = 7 := by omega
        rcases hq with ⟨q4, q5, q6, q7⟩ | rfl | rfl | rfl | rfl
        · as_aux_lemma =>
            have g4 : (q == 4) = false := by simp [q4]
            have g5 : (q == 5) = false := by simp [q5]
            have g6 : (q == 6) = false := by simp [q6]
            have g7 : (q == 7) = false := by simp [q7]
            clear q4 q5 q6 q7 q0 q1
            by_cases hr : (ms.length : Int) < room
            · have PT := Lib.hid (put_anyI HH.out.ring hr N HH.out.base)
              go_wp2_with fail
              refine PT.out.mono ?_
              rintro e w2 ⟨rfl, v2, p2, f2, h2, hc2, m2⟩
              obtain ⟨i2, -, b2⟩ := HH.out.keep m2
              have W6 := Lib.hid (with6 _ _ _ N (by omega) _ i2)
              have H2 := Lib.hid h2; have HC2 := Lib.hid hc2; have M2 := Lib.hid m2
              have c2 := m2.cell cA hA1 hA2
              have hA3 := block_lt c2
              clear h2 hc2 m2 i2 b2
              go_wp2_with fail
              refine W6.out.mono ?_
              rintro e w3 ⟨v3, rfl, i3, b3⟩
              go_wp2
              go_meet
              case rel => exact ⟨v3, v2, ms ++ [N], p2, f2, rfl, HH.out.step (by rw [List.length_append]; exact H2.out) M2.out b3 i3 (by rw [List.length_append]; exact (HC2.out.trans (congrArg (· ++ [N]) HH.out.same.symm)).symm), (b3.cell (p := ⟨A, 1, none⟩) hA3).trans c2⟩
            · have PF := Lib.hid (put_fullI HH.out.ring (show (ms.length : Int) = room by omega) N)
              go_wp2_with fail
              refine PF.out.mono ?_
              rintro e w2 ⟨rfl, n2, rfl⟩
              go_wp2
              go_meet
              case rel => exact ⟨_, rv, ms, ps, f, rfl, HH.out.on (below_drewN _ (Below.refl _ _)), cA⟩
        · as_aux_lemma =>
            rcases ms with _ | ⟨m0, mt⟩
            · have TK := Lib.hid (take_outI HH.out.ring)
              have RS := Lib.hid (rest6 _ _ _ (by simp) _ HH.out.row)
              go_wp2_with fail
              refine TK.out.mono ?_
              rintro e w' ⟨rfl, rfl⟩
              go_wp2_with fail
              refine RS.out.mono ?_
              rintro e w3 ⟨v3, rfl, i3, b3⟩
              go_wp2
              go_meet
              case rel => exact ⟨v3, rv, [], ps, f, rfl, HH.out.step HH.out.ring (Mv.refl _ _ _) b3 i3 rfl, (b3.cell (p := ⟨A, 1, none⟩) hAs).trans cA⟩
            · have TK := Lib.hid (take_inI HH.out.ring)
              have es : cont 0 ps f (mt.length + 1) = m0 :: mt := HH.out.same.symm
              rw [es] at TK
              clear es
              obtain ⟨g, rfl, hg, cg⟩ := HMS.out 0 (by simp)
              have cg : wa.cell? ⟨g, 0, none⟩ = some (.int .i64 m0) := cg
              have hl0 : (0 : Int) < ((m0 :: mt).length : Int) := by rw [List.length_cons]; omega
              have TK2 : Hid (Calls Try.prog 11 #[.pointer (some ⟨w.heap.size, 0, none⟩)] wa fun e w' => e = .returned (.tuple #[.int .i64 m0, .bool true]) ∧ ∃ ps' f', RingAtI w' w.heap.size w.heap.size room rv ps' f' mt.length ∧ cont 0 ps' f' mt.length = mt ∧ Mv wa w' w.heap.size rv rv) := TK
              go_wp2_with fail
              refine TK2.out.mono ?_
              rintro e w2 ⟨rfl, p2, f2, h2, hc2, m2⟩
              obtain ⟨i2, -, b2⟩ := HH.out.keep m2
              have c2 := m2.cell cA hA1 hA2
              have hA3 := block_lt c2
              have RS := Lib.hid (rest6 _ _ _ (by omega) _ i2)
              obtain ⟨a', c', e', -, hc'⟩ := i2.form
              have dg : w2.cell? ⟨g, 0, none⟩ = some (.int .i64 m0) := by
                obtain ⟨g', eg, -, hcell⟩ := hc' 0 (by simp)
                injection e' with e1 e2 e3
                rw [eg] at e1
                injection e1 with e1
                injection e1 with e1
                rw [e1]; exact hcell
              have H2 := Lib.hid h2; have HC2 := Lib.hid hc2; have M2 := Lib.hid m2
              clear h2 hc2 m2 i2 b2 e' hc'
              go_wp2_with fail
              refine RS.out.mono ?_
              rintro e w3 ⟨v3, rfl, i3, b3⟩
              go_wp2
              go_meet
              case rel => exact ⟨v3, rv, mt, p2, f2, rfl, HH.out.step H2.out M2.out b3 i3 HC2.out.symm, (b3.cell (p := ⟨A, 1, none⟩) hA3).trans c2⟩
        · as_aux_lemma =>
            rcases ms with _ | ⟨m0, mt⟩
            · have TK := Lib.hid (take_outI HH.out.ring)
              have RS := Lib.hid (rest6 _ _ _ (by simp) _ HH.out.row)
              go_wp2_with fail
              refine TK.out.mono ?_
              rintro e w' ⟨rfl, rfl⟩
              go_wp2_with fail
              refine RS.out.mono ?_
              rintro e w3 ⟨v3, rfl, i3, b3⟩
              go_wp2
              go_meet
              case rel => exact ⟨v3, rv, [], ps, f, rfl, HH.out.step HH.out.ring (Mv.refl _ _ _) b3 i3 rfl, (b3.cell (p := ⟨A, 1, none⟩) hAs).trans cA⟩
            · have TK := Lib.hid (take_inI HH.out.ring)
              have es : cont 0 ps f (mt.length + 1) = m0 :: mt := HH.out.same.symm
              rw [es] at TK
              clear es
              obtain ⟨g, rfl, hg, cg⟩ := HMS.out 0 (by simp)
              have cg : wa.cell? ⟨g, 0, none⟩ = some (.int .i64 m0) := cg
              have hl0 : (0 : Int) < ((m0 :: mt).length : Int) := by rw [List.length_cons]; omega
              have TK2 : Hid (Calls Try.prog 11 #[.pointer (some ⟨w.heap.size, 0, none⟩)] wa fun e w' => e = .returned (.tuple #[.int .i64 m0, .bool true]) ∧ ∃ ps' f', RingAtI w' w.heap.size w.heap.size room rv ps' f' mt.length ∧ cont 0 ps' f' mt.length = mt ∧ Mv wa w' w.heap.size rv rv) := TK
              go_wp2_with fail
              refine TK2.out.mono ?_
              rintro e w2 ⟨rfl, p2, f2, h2, hc2, m2⟩
              obtain ⟨i2, -, b2⟩ := HH.out.keep m2
              have c2 := m2.cell cA hA1 hA2
              have hA3 := block_lt c2
              have RS := Lib.hid (rest6 _ _ _ (by omega) _ i2)
              obtain ⟨a', c', e', -, hc'⟩ := i2.form
              have dg : w2.cell? ⟨g, 0, none⟩ = some (.int .i64 m0) := by
                obtain ⟨g', eg, -, hcell⟩ := hc' 0 (by simp)
                injection e' with e1 e2 e3
                rw [eg] at e1
                injection e1 with e1
                injection e1 with e1
                rw [e1]; exact hcell
              have H2 := Lib.hid h2; have HC2 := Lib.hid hc2; have M2 := Lib.hid m2
              clear h2 hc2 m2 i2 b2 e' hc'
              go_wp2_with fail
              refine RS.out.mono ?_
              rintro e w3 ⟨v3, rfl, i3, b3⟩
              go_wp2
              go_meet
              case rel => exact ⟨v3, rv, mt, p2, f2, rfl, HH.out.step H2.out M2.out b3 i3 HC2.out.symm, (b3.cell (p := ⟨A, 1, none⟩) hA3).trans c2⟩
        · as_aux_lemma =>
            rcases ms with _ | ⟨m0, mt⟩
            · have CL := Lib.hid (clear_none HH.out.ring)
              go_wp2_with fail
              refine CL.out.mono ?_
              rintro e w' ⟨rfl, rfl⟩
              go_wp2
              go_meet
              case rel => exact ⟨_, rv, [], ps, f, rfl, ⟨HH.out.ring, Ints.nil _ _, rfl, Or.inl rfl, HH.out.below⟩, cA⟩
            · have CL := Lib.hid (clear_some HH.out.ring (by simp))
              go_wp2_with fail
              refine CL.out.mono ?_
              rintro e w2 ⟨rfl, p2, h2, m2⟩
              have c2 := m2.cell cA hA1 hA2
              obtain ⟨-, -, b2⟩ := HH.out.keep m2
              go_wp2
              go_meet
              case rel => exact ⟨_, rv, [], p2, 0, rfl, ⟨h2, Ints.nil _ _, rfl, Or.inl rfl, b2⟩, c2⟩
        · as_aux_lemma =>
            go_wp2
            go_meet
            case rel => exact ⟨_, rv, ms, ps, f, rfl, HH.out, cA⟩
      case rest =>
        obtain ⟨mv, rv, ms, ps, f, rfl, HB, cA⟩ := hcut
        have hk := HB.ring.le; have hlr := HB.ring.lr
        have hAlt := block_lt cA
        have DR : Hid (∀ v, v.heap = wc.heap → v.os = wc.os → v.tape = wc.tape → v.output = wc.output → Below wc.heap.size wc v) := Lib.hid (fun v e1 e2 e3 e4 => ⟨e2, e3, e4, by rw [e1]; exact Nat.le_refl _, fun i _ => by rw [e1]⟩)
        have KS : Hid (∀ v, Below wc.heap.size wc v → v.cell? ⟨A, 1, none⟩ = some (.int .i64 N)) := Lib.hid (fun v hv => (hv.cell (p := ⟨A, 1, none⟩) hAlt).trans cA)
        have LN := Lib.hid (fun v (hv : Below wc.heap.size wc v) => lenI (HB.on hv).ring)
        have RM := Lib.hid (fun v (hv : Below wc.heap.size wc v) => roomI (HB.on hv).ring)
        have AL := Lib.hid (fun v (hv : Below wc.heap.size wc v) => all_ints (HB.on hv))
        have LA := Lib.hid (fun v (hv : Below wc.heap.size wc v) => last_ints (HB.on hv) N)
        have RI := Lib.hid (fun v (hv : Below wc.heap.size wc v) => (HB.on hv).row)
        have RL := Lib.hid (fun v (hv : Below wc.heap.size wc v) => last6 _ _ ms N (by omega) _ (HB.on hv).row)
        have hwr : IntKind.i64.wrap (room - (ms.length : Int)) = room - (ms.length : Int) := by rw [IntKind.wrap_i64]; omega
        have HBH := Lib.hid HB
        have hin : (ms = [] ∧ N < 0) ∨ (ms = [] ∧ 0 ≤ N) ∨ (ms ≠ [] ∧ 0 ≤ N ∧ N < ms.length) ∨ (ms ≠ [] ∧ N < 0) ∨ (ms ≠ [] ∧ (ms.length : Int) ≤ N) := by
          by_cases h0 : ms = []
          · rcases Int.lt_or_le N 0 with h | h
            · exact Or.inl ⟨h0, h⟩
            · exact Or.inr (Or.inl ⟨h0, h⟩)
          · right; right
            rcases Int.lt_or_le N 0 with h | h
            · exact Or.inr (Or.inl ⟨h0, h⟩)
            · rcases Int.lt_or_le N ms.length with h1 | h1
              · exact Or.inl ⟨h0, h, h1⟩
              · exact Or.inr (Or.inr ⟨h0, h1⟩)
        rcases hin with ⟨hin, hs⟩ | ⟨hin, hs⟩ | ⟨hne, hi0, hi1⟩ | ⟨hne, hs⟩ | ⟨hne, hs⟩
        · as_aux_lemma =>
            obtain ⟨a, cm, rfl, hcm, hms⟩ := HB.row.form
            have HD := Lib.hid (head_outI (show RingAtI wc w.heap.size w.heap.size room rv ps f 0 by have := HB.ring; rw [hin] at this; exact this))
            have AT := Lib.hid (fun v (hv : Below wc.heap.size wc v) => at_outI (HB.on hv).ring N (by rw [hin]; simp; omega))
            subst hin
            clear HB hms hwr
            have hw0 : IntKind.i64.wrap (room - 0) = room := by rw [IntKind.wrap_i64]; omega
            have hw1 : IntKind.i64.wrap room = room := by rw [IntKind.wrap_i64]; omega
            have RM : Hid (∀ v, Below wc.heap.size wc v → Calls Try.prog 19 #[.pointer (some ⟨w.heap.size, 0, none⟩)] v fun e w' => e = .returned (.int .i64 room) ∧ ∃ n, w' = v.drewN n) := Lib.hid (fun v hv => by have := RM.out v hv; rw [show room - (([] : List Int).length : Int) = room by simp] at this; exact this)
            go_wp2_with fail
            refine HD.out.mono ?_
            rintro e w' ⟨rfl, rfl⟩
            go_wp2_with fail
            refine (AT.out _ (DR.out _ (by rfl) (by rfl) (by rfl) (by rfl))).mono ?_
            rintro e w' ⟨rfl, rfl⟩
            go_wp2
            clear cA
            go_region_held3 (fun v => v.cell? ⟨A, 1, none⟩ = some (.int .i64 N))
              ((first | exact KS.out _ (DR.out _ rfl rfl rfl rfl) | exact KS.out _ d5 | exact KS.out _ d6 | exact KS.out _ d7 | exact KS.out _ d8 | exact KS.out _ d9 | fail))
              (first
                | (go_at_call 18; refine (LN.out _ (DR.out _ (by rfl) (by rfl) (by rfl) (by rfl))).mono ?_; rintro e w' ⟨rfl, rfl⟩)
                | (go_at_call 19; refine (RM.out _ (DR.out _ (by rfl) (by rfl) (by rfl) (by rfl))).mono ?_; rintro e w' ⟨rfl, nr, rfl⟩)
                | (go_at_call 21; refine (AL.out _ (DR.out _ (by rfl) (by rfl) (by rfl) (by rfl))).mono ?_; rintro e w5 ⟨v5, rfl, i5, b5⟩; have d5 : Below wc.heap.size wc w5 := ⟨b5.os, b5.tape, b5.output, b5.size, b5.block⟩)
                | (go_at_call_of 20 v5; refine (same6 _ _ _ _ ([] : List Int) (by omega) _ i5 (RI.out _ d5)).mono ?_; rintro e w6 ⟨rfl, b6⟩; have d6 := d5.trans (b6.mono d5.size))
                | (go_at_call 22; refine (LA.out _ d6).mono ?_; rintro e w7 ⟨v7, rfl, i7, b7⟩; have d7 := d6.trans (b7.mono d6.size))
                | (go_at_call 23; refine (RL.out _ d7).mono ?_; rintro e w8 ⟨v8, rfl, i8, b8⟩; have d8 := d7.trans (b8.mono d7.size))
                | (go_at_call_of 20 v7; refine (same6 _ _ _ _ _ (by rw [List.length_drop]; omega) _ (i7.below b8) i8).mono ?_; rintro e w9 ⟨rfl, b9⟩; have d9 := d8.trans (b9.mono d8.size))
                | fail)
            go_wp2
            go_roundw
            case rel => exact ⟨_, rv, [], ps, f, i + 1, rfl, by have := HBI.out; omega, by go_num, HBH.out.on d9⟩
            case measure => simp [intOf] <;> omega
        · as_aux_lemma =>
            obtain ⟨a, cm, rfl, hcm, hms⟩ := HB.row.form
            have HD := Lib.hid (head_outI (show RingAtI wc w.heap.size w.heap.size room rv ps f 0 by have := HB.ring; rw [hin] at this; exact this))
            have AT := Lib.hid (fun v (hv : Below wc.heap.size wc v) => at_outI (HB.on hv).ring N (by rw [hin]; simp; omega))
            have hl2 : ¬ N < (0 : Int) := by omega
            subst hin
            clear HB hms hwr
            have hw0 : IntKind.i64.wrap (room - 0) = room := by rw [IntKind.wrap_i64]; omega
            have hw1 : IntKind.i64.wrap room = room := by rw [IntKind.wrap_i64]; omega
            have RM : Hid (∀ v, Below wc.heap.size wc v → Calls Try.prog 19 #[.pointer (some ⟨w.heap.size, 0, none⟩)] v fun e w' => e = .returned (.int .i64 room) ∧ ∃ n, w' = v.drewN n) := Lib.hid (fun v hv => by have := RM.out v hv; rw [show room - (([] : List Int).length : Int) = room by simp] at this; exact this)
            go_wp2_with fail
            refine HD.out.mono ?_
            rintro e w' ⟨rfl, rfl⟩
            go_wp2_with fail
            refine (AT.out _ (DR.out _ (by rfl) (by rfl) (by rfl) (by rfl))).mono ?_
            rintro e w' ⟨rfl, rfl⟩
            go_wp2
            clear cA
            go_region_held3 (fun v => v.cell? ⟨A, 1, none⟩ = some (.int .i64 N))
              ((first | exact KS.out _ (DR.out _ rfl rfl rfl rfl) | exact KS.out _ d5 | exact KS.out _ d6 | exact KS.out _ d7 | exact KS.out _ d8 | exact KS.out _ d9 | fail))
              (first
                | (go_at_call 18; refine (LN.out _ (DR.out _ (by rfl) (by rfl) (by rfl) (by rfl))).mono ?_; rintro e w' ⟨rfl, rfl⟩)
                | (go_at_call 19; refine (RM.out _ (DR.out _ (by rfl) (by rfl) (by rfl) (by rfl))).mono ?_; rintro e w' ⟨rfl, nr, rfl⟩)
                | (go_at_call 21; refine (AL.out _ (DR.out _ (by rfl) (by rfl) (by rfl) (by rfl))).mono ?_; rintro e w5 ⟨v5, rfl, i5, b5⟩; have d5 : Below wc.heap.size wc w5 := ⟨b5.os, b5.tape, b5.output, b5.size, b5.block⟩)
                | (go_at_call_of 20 v5; refine (same6 _ _ _ _ ([] : List Int) (by omega) _ i5 (RI.out _ d5)).mono ?_; rintro e w6 ⟨rfl, b6⟩; have d6 := d5.trans (b6.mono d5.size))
                | (go_at_call 22; refine (LA.out _ d6).mono ?_; rintro e w7 ⟨v7, rfl, i7, b7⟩; have d7 := d6.trans (b7.mono d6.size))
                | (go_at_call 23; refine (RL.out _ d7).mono ?_; rintro e w8 ⟨v8, rfl, i8, b8⟩; have d8 := d7.trans (b8.mono d7.size))
                | (go_at_call_of 20 v7; refine (same6 _ _ _ _ _ (by rw [List.length_drop]; omega) _ (i7.below b8) i8).mono ?_; rintro e w9 ⟨rfl, b9⟩; have d9 := d8.trans (b9.mono d8.size))
                | fail)
            go_wp2
            go_roundw
            case rel => exact ⟨_, rv, [], ps, f, i + 1, rfl, by have := HBI.out; omega, by go_num, HBH.out.on d9⟩
            case measure => simp [intOf] <;> omega
        · as_aux_lemma =>
            obtain ⟨a, cm, rfl, hcm, hms⟩ := HB.row.form
            have hl : (0 : Int) < ms.length := by have := List.length_pos_iff.2 hne; omega
            have hl' : decide ((0 : Int) < ms.length) = true := decide_eq_true hl
            obtain ⟨g, rfl, hg, cg0⟩ := hms 0 (by omega)
            have HD := Lib.hid (head_inI HB.ring (by omega))
            rw [← HB.same] at HD
            obtain ⟨g', eg, -, cgN⟩ := hms N.toNat (by omega)
            injection eg with eg
            injection eg with eg
            subst eg
            have AT := Lib.hid (fun v (hv : Below wc.heap.size wc v) => at_inI (HB.on hv).ring N hi0 hi1)
            simp only [← HB.same] at AT
            generalize ms.getD N.toNat 0 = xN at *
            generalize ms.getD 0 0 = m0 at *
            clear HB hms hne
            go_wp2_with fail
            refine HD.out.mono ?_
            rintro e w' ⟨rfl, nh, rfl⟩
            go_wp2_with fail
            refine (AT.out _ (DR.out _ (by rfl) (by rfl) (by rfl) (by rfl))).mono ?_
            rintro e w' ⟨rfl, nt, rfl⟩
            go_wp2
            clear cA
            go_region_held3 (fun v => v.cell? ⟨A, 1, none⟩ = some (.int .i64 N))
              ((first | exact KS.out _ (DR.out _ rfl rfl rfl rfl) | exact KS.out _ d5 | exact KS.out _ d6 | exact KS.out _ d7 | exact KS.out _ d8 | exact KS.out _ d9 | fail))
              (first
                | (go_at_call 18; refine (LN.out _ (DR.out _ (by rfl) (by rfl) (by rfl) (by rfl))).mono ?_; rintro e w' ⟨rfl, rfl⟩)
                | (go_at_call 19; refine (RM.out _ (DR.out _ (by rfl) (by rfl) (by rfl) (by rfl))).mono ?_; rintro e w' ⟨rfl, nr, rfl⟩)
                | (go_at_call 21; refine (AL.out _ (DR.out _ (by rfl) (by rfl) (by rfl) (by rfl))).mono ?_; rintro e w5 ⟨v5, rfl, i5, b5⟩; have d5 : Below wc.heap.size wc w5 := ⟨b5.os, b5.tape, b5.output, b5.size, b5.block⟩)
                | (go_at_call_of 20 v5; refine (same6 _ _ _ _ ms (by omega) _ i5 (RI.out _ d5)).mono ?_; rintro e w6 ⟨rfl, b6⟩; have d6 := d5.trans (b6.mono d5.size))
                | (go_at_call 22; refine (LA.out _ d6).mono ?_; rintro e w7 ⟨v7, rfl, i7, b7⟩; have d7 := d6.trans (b7.mono d6.size))
                | (go_at_call 23; refine (RL.out _ d7).mono ?_; rintro e w8 ⟨v8, rfl, i8, b8⟩; have d8 := d7.trans (b8.mono d7.size))
                | (go_at_call_of 20 v7; refine (same6 _ _ _ _ _ (by rw [List.length_drop]; omega) _ (i7.below b8) i8).mono ?_; rintro e w9 ⟨rfl, b9⟩; have d9 := d8.trans (b9.mono d8.size))
                | fail)
            go_wp2
            go_roundw
            case rel => exact ⟨_, rv, ms, ps, f, i + 1, rfl, by have := HBI.out; omega, by go_num, HBH.out.on d9⟩
            case measure => simp [intOf] <;> omega
        · as_aux_lemma =>
            obtain ⟨a, cm, rfl, hcm, hms⟩ := HB.row.form
            have hl : (0 : Int) < ms.length := by have := List.length_pos_iff.2 hne; omega
            have hl' : decide ((0 : Int) < ms.length) = true := decide_eq_true hl
            obtain ⟨g, rfl, hg, cg0⟩ := hms 0 (by omega)
            have HD := Lib.hid (head_inI HB.ring (by omega))
            rw [← HB.same] at HD
            have AT := Lib.hid (fun v (hv : Below wc.heap.size wc v) => at_outI (HB.on hv).ring N (by omega))
            generalize ms.getD 0 0 = m0 at *
            clear HB hms hne
            go_wp2_with fail
            refine HD.out.mono ?_
            rintro e w' ⟨rfl, nh, rfl⟩
            go_wp2_with fail
            refine (AT.out _ (DR.out _ (by rfl) (by rfl) (by rfl) (by rfl))).mono ?_
            rintro e w' ⟨rfl, rfl⟩
            go_wp2
            clear cA
            go_region_held3 (fun v => v.cell? ⟨A, 1, none⟩ = some (.int .i64 N))
              ((first | exact KS.out _ (DR.out _ rfl rfl rfl rfl) | exact KS.out _ d5 | exact KS.out _ d6 | exact KS.out _ d7 | exact KS.out _ d8 | exact KS.out _ d9 | fail))
              (first
                | (go_at_call 18; refine (LN.out _ (DR.out _ (by rfl) (by rfl) (by rfl) (by rfl))).mono ?_; rintro e w' ⟨rfl, rfl⟩)
                | (go_at_call 19; refine (RM.out _ (DR.out _ (by rfl) (by rfl) (by rfl) (by rfl))).mono ?_; rintro e w' ⟨rfl, nr, rfl⟩)
                | (go_at_call 21; refine (AL.out _ (DR.out _ (by rfl) (by rfl) (by rfl) (by rfl))).mono ?_; rintro e w5 ⟨v5, rfl, i5, b5⟩; have d5 : Below wc.heap.size wc w5 := ⟨b5.os, b5.tape, b5.output, b5.size, b5.block⟩)
                | (go_at_call_of 20 v5; refine (same6 _ _ _ _ ms (by omega) _ i5 (RI.out _ d5)).mono ?_; rintro e w6 ⟨rfl, b6⟩; have d6 := d5.trans (b6.mono d5.size))
                | (go_at_call 22; refine (LA.out _ d6).mono ?_; rintro e w7 ⟨v7, rfl, i7, b7⟩; have d7 := d6.trans (b7.mono d6.size))
                | (go_at_call 23; refine (RL.out _ d7).mono ?_; rintro e w8 ⟨v8, rfl, i8, b8⟩; have d8 := d7.trans (b8.mono d7.size))
                | (go_at_call_of 20 v7; refine (same6 _ _ _ _ _ (by rw [List.length_drop]; omega) _ (i7.below b8) i8).mono ?_; rintro e w9 ⟨rfl, b9⟩; have d9 := d8.trans (b9.mono d8.size))
                | fail)
            go_wp2
            go_roundw
            case rel => exact ⟨_, rv, ms, ps, f, i + 1, rfl, by have := HBI.out; omega, by go_num, HBH.out.on d9⟩
            case measure => simp [intOf] <;> omega
        · as_aux_lemma =>
            obtain ⟨a, cm, rfl, hcm, hms⟩ := HB.row.form
            have hl : (0 : Int) < ms.length := by have := List.length_pos_iff.2 hne; omega
            have hl' : decide ((0 : Int) < ms.length) = true := decide_eq_true hl
            obtain ⟨g, rfl, hg, cg0⟩ := hms 0 (by omega)
            have HD := Lib.hid (head_inI HB.ring (by omega))
            rw [← HB.same] at HD
            have AT := Lib.hid (fun v (hv : Below wc.heap.size wc v) => at_outI (HB.on hv).ring N (by omega))
            have hl2 : ¬ N < (ms.length : Int) := by omega
            have hl3 : 0 ≤ N := by omega
            generalize ms.getD 0 0 = m0 at *
            clear HB hms hne
            go_wp2_with fail
            refine HD.out.mono ?_
            rintro e w' ⟨rfl, nh, rfl⟩
            go_wp2_with fail
            refine (AT.out _ (DR.out _ (by rfl) (by rfl) (by rfl) (by rfl))).mono ?_
            rintro e w' ⟨rfl, rfl⟩
            go_wp2
            clear cA
            go_region_held3 (fun v => v.cell? ⟨A, 1, none⟩ = some (.int .i64 N))
              ((first | exact KS.out _ (DR.out _ rfl rfl rfl rfl) | exact KS.out _ d5 | exact KS.out _ d6 | exact KS.out _ d7 | exact KS.out _ d8 | exact KS.out _ d9 | fail))
              (first
                | (go_at_call 18; refine (LN.out _ (DR.out _ (by rfl) (by rfl) (by rfl) (by rfl))).mono ?_; rintro e w' ⟨rfl, rfl⟩)
                | (go_at_call 19; refine (RM.out _ (DR.out _ (by rfl) (by rfl) (by rfl) (by rfl))).mono ?_; rintro e w' ⟨rfl, nr, rfl⟩)
                | (go_at_call 21; refine (AL.out _ (DR.out _ (by rfl) (by rfl) (by rfl) (by rfl))).mono ?_; rintro e w5 ⟨v5, rfl, i5, b5⟩; have d5 : Below wc.heap.size wc w5 := ⟨b5.os, b5.tape, b5.output, b5.size, b5.block⟩)
                | (go_at_call_of 20 v5; refine (same6 _ _ _ _ ms (by omega) _ i5 (RI.out _ d5)).mono ?_; rintro e w6 ⟨rfl, b6⟩; have d6 := d5.trans (b6.mono d5.size))
                | (go_at_call 22; refine (LA.out _ d6).mono ?_; rintro e w7 ⟨v7, rfl, i7, b7⟩; have d7 := d6.trans (b7.mono d6.size))
                | (go_at_call 23; refine (RL.out _ d7).mono ?_; rintro e w8 ⟨v8, rfl, i8, b8⟩; have d8 := d7.trans (b8.mono d7.size))
                | (go_at_call_of 20 v7; refine (same6 _ _ _ _ _ (by rw [List.length_drop]; omega) _ (i7.below b8) i8).mono ?_; rintro e w9 ⟨rfl, b9⟩; have d9 := d8.trans (b9.mono d8.size))
                | fail)
            go_wp2
            go_roundw
            case rel => exact ⟨_, rv, ms, ps, f, i + 1, rfl, by have := HBI.out; omega, by go_num, HBH.out.on d9⟩
            case measure => simp [intOf] <;> omega
    · have LV := Lib.hid (lives6 wr)
      have HB := HB.below
      go_wp2_with fail
      refine LV.out.mono ?_
      rintro e w9 ⟨rfl, b9⟩
      go_wp2
      go_ret
      exact ⟨rfl, HB.trans (b9.mono hbase)⟩
end Go.Proofs.Ytdeehklegeeanaa
