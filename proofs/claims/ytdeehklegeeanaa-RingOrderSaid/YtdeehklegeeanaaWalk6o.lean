/-
  The law of order of layer 6, walked: true for any room, any numbers, any takes. No condition.
-/
import Derived.Test.YtdeehklegeeanaaRing7
import Derived.Test.YtdeehklegeeanaaOpen3
import Derived.Maps.Range
namespace Go.Proofs.Ytdeehklegeeanaa
set_option linter.unusedVariables false
set_option linter.unusedSimpArgs false
open Go.ChangeShapes Go.WideShapes Go.ChangeAt Go.RowKit
attribute [local go_sem] alloc_drewN setCell_drewN

/-- Two slices whose rows are apart. -/
def Ap (u v : Value) : Prop := u.ownBlock = none ∨ u.ownBlock ≠ v.ownBlock
theorem Ap.symm {u v : Value} (h : Ap u v) : Ap v u := by
  rcases h with h | h
  · by_cases hv : v.ownBlock = none
    · exact Or.inl hv
    · exact Or.inr (by rw [h]; exact hv)
  · exact Or.inr (fun e => h e.symm)
/-- What an append leaves: all but the row that was appended to; the new row is that row or lies behind. -/
structure Gr (w w' : World) (v v' : Value) : Prop where
  grown : w.grownBy w' v.ownBlock
  own : ∀ j, v'.ownBlock = some j → w.heap.size ≤ j ∨ v.ownBlock = some j
theorem Gr.alloc {w w' : World} {v v' : Value} (o : Obj) (h : (w.alloc o).grownBy w' v.ownBlock) (k : v'.ownBlock = v.ownBlock ∨ v'.ownBlock = some (w.alloc o).heap.size) : Gr w w' v v' :=
  ⟨(World.grownBy_alloc w o v.ownBlock).andThen h (fun j hj => Or.inr hj), fun j hj => by
    rcases k with k | k
    · exact Or.inr (by rw [← k]; exact hj)
    · left
      rw [k] at hj
      simp at hj
      omega⟩
theorem Gr.of {w w' : World} {v v' : Value} (h : w.grownBy w' v.ownBlock) (k : v'.ownBlock = v.ownBlock ∨ v'.ownBlock = some w.heap.size) : Gr w w' v v' :=
  ⟨h, fun j hj => by
    rcases k with k | k
    · exact Or.inr (by rw [← k]; exact hj)
    · left
      rw [k] at hj
      injection hj with hj
      omega⟩
theorem Gr.row {w w' : World} {v v' u : Value} {base : Nat} {us : List Int} (h : Gr w w' v v') (hu : Ints w base u us) (ha : Ap u v) : Ints w' base u us ∧ Ap u v' := by
  refine ⟨World.ownsRow.kept hu h.grown ha, ?_⟩
  rcases hx : u.ownBlock with _ | j
  · exact Or.inl hx
  · right
    intro e
    have hlt := (World.ownsRow.lt hu j hx).2
    rcases h.own j (by rw [← e]; exact hx) with h1 | h1
    · omega
    · rcases ha with ha | ha
      · rw [ha] at hx; cases hx
      · exact ha (by rw [hx, h1])
theorem Gr.ring {w w' : World} {v v' : Value} {base B : Nat} {room : Int} {rv : Value} {ps : List Int} {f k : Nat} {vs : List Int} (h : Gr w w' v v') (hr : RingAtI w base B room rv ps f k) (hv : Ints w base v vs) (ha : Ap rv v) : RingAtI w' base B room rv ps f k ∧ Ap rv v' := by
  have hne := own_ne_blk hv hr.blk (by decide)
  have hrow := h.row (us := ps) hr.own ha
  exact ⟨⟨(h.grown.block B (Array.getElem?_eq_some_iff.1 hr.blk).1 (fun e => hne e.symm)).trans hr.blk, hr.low, hrow.1, hr.r0, hr.r1, hr.le, hr.lr, hr.fl⟩, hrow.2⟩
theorem Gr.below {a w w' : World} {v v' : Value} {base : Nat} {vs : List Int} (h : Gr w w' v v') (hb : Below base a w) (hv : Ints w base v vs) (hs : base ≤ w.heap.size) : Below base a w' :=
  hb.grown h.grown hs (fun j hj => (World.ownsRow.lt hv j hj).1)

/-- How ring, what was put, and what was got stand. -/
structure Tri (W0 w : World) (room : Int) (pv gv rv : Value) (pl gl ps : List Int) (f k : Nat) : Prop where
  ring : RingAtI w W0.heap.size W0.heap.size room rv ps f k
  put : Ints w W0.heap.size pv pl
  got : Ints w W0.heap.size gv gl
  same : pl = gl ++ cont 0 ps f k
  pg : Ap pv gv
  rp : Ap rv pv
  rg : Ap rv gv
  below : Below W0.heap.size W0 w
theorem Tri.base {W0 w : World} {room : Int} {pv gv rv : Value} {pl gl ps : List Int} {f k : Nat} (h : Tri W0 w room pv gv rv pl gl ps f k) : W0.heap.size ≤ w.heap.size := h.below.size
theorem Tri.on {W0 w w2 : World} {room : Int} {pv gv rv : Value} {pl gl ps : List Int} {f k : Nat} (h : Tri W0 w room pv gv rv pl gl ps f k) (hb : Below w.heap.size w w2) : Tri W0 w2 room pv gv rv pl gl ps f k :=
  ⟨h.ring.below hb, h.put.below hb, h.got.below hb, h.same, h.pg, h.rp, h.rg, h.below.trans (hb.mono h.base)⟩
theorem Tri.moved {W0 w w2 : World} {room : Int} {pv gv rv rv' : Value} {pl gl ps : List Int} {f k : Nat} (h : Tri W0 w room pv gv rv pl gl ps f k) (hm : Mv w w2 W0.heap.size rv rv') :
    Ints w2 W0.heap.size pv pl ∧ Ints w2 W0.heap.size gv gl ∧ Ap rv' pv ∧ Ap rv' gv ∧ Below W0.heap.size W0 w2 := by
  obtain ⟨h1, h2⟩ := hm.row h.put (own_ne_blk h.put h.ring.blk (by decide)) h.rp.symm
  obtain ⟨h3, h4⟩ := hm.row h.got (own_ne_blk h.got h.ring.blk (by decide)) h.rg.symm
  exact ⟨h1, h3, Ap.symm h2, Ap.symm h4, hm.below h.below (Nat.le_refl _) (fun j hj => (h.ring.own.lt j hj).1) h.base⟩

theorem put_both {w : World} {base B : Nat} {room : Int} {v : Value} {ps : List Int} {f k : Nat} (h : RingAtI w base B room v ps f k) (x : Int) (hbase : base ≤ w.heap.size) :
    Calls Try.prog 14 #[.pointer (some ⟨B, 0, none⟩), .int .i64 x] w fun e w' => ∃ (d : Bool) (v' : Value) (ps' : List Int) (f' k' : Nat), e = .returned (.bool d) ∧ RingAtI w' base B room v' ps' f' k' ∧ Mv w w' B v v' ∧ cont 0 ps' f' k' = cont 0 ps f k ++ (if d then [x] else []) := by
  by_cases hr : (k : Int) < room
  · exact (put_anyI h hr x hbase).mono fun e w' ⟨he, v', ps', f', h1, h2, h3⟩ => ⟨true, v', ps', f', k + 1, he, h1, h3, h2⟩
  · exact (put_fullI h (by have := h.le; have := h.lr; omega) x).mono fun e w' ⟨he, n, hw⟩ => ⟨false, v, ps, f, k, he, by rw [hw]; exact h.drewN n, by rw [hw]; exact (Mv.refl _ _ _).drewN n, by simp⟩
theorem take_both {w : World} {base B : Nat} {room : Int} {v : Value} {ps : List Int} {f k : Nat} (h : RingAtI w base B room v ps f k) :
    Calls Try.prog 11 #[.pointer (some ⟨B, 0, none⟩)] w fun e w' => ∃ (d : Bool) (x : Int) (ps' : List Int) (f' k' : Nat), e = .returned (.tuple #[.int .i64 x, .bool d]) ∧ RingAtI w' base B room v ps' f' k' ∧ Mv w w' B v v ∧ cont 0 ps f k = (if d then [x] else []) ++ cont 0 ps' f' k' := by
  rcases k with _ | k
  · exact (take_outI h).mono fun e w' ⟨he, hw⟩ => ⟨false, 0, ps, f, 0, he, by rw [← hw]; exact h, by rw [← hw]; exact Mv.refl _ _ _, rfl⟩
  · refine (take_inI h).mono fun e w' ⟨he, ps', f', h1, h2, h3⟩ => ⟨true, _, ps', f', k, he, h1, h3, ?_⟩
    rw [h2]
    have hl := cont_length 0 ps f (k + 1)
    generalize cont 0 ps f (k + 1) = l at *
    rcases l with _ | ⟨y, l⟩
    · simp at hl
    · rfl

set_option maxRecDepth 100000 in
set_option maxHeartbeats 40000000 in
theorem order6_at (room : Int) (r0 : 0 ≤ room) (r1 : room ≤ 255) (a : Option Addr) (c : Nat) (zs : List Int) (hn : zs.length ≤ 300) (a2 : Option Addr) (c2 : Nat) (ts : List Int) (hn2 : ts.length ≤ 300) (ht : ∀ i, i < ts.length → 0 ≤ ts.getD i 0 ∧ ts.getD i 0 ≤ 255) (w : World)
    (hc : ∀ i, i < zs.length → ∃ b off, a = some ⟨b, off, none⟩ ∧ b < w.heap.size ∧ w.cell? ⟨b, off + i, none⟩ = some (.int .i64 (zs.getD i 0)))
    (hc2 : ∀ i, i < ts.length → ∃ b off, a2 = some ⟨b, off, none⟩ ∧ b < w.heap.size ∧ w.cell? ⟨b, off + i, none⟩ = some (.int .u8 (ts.getD i 0))) :
    Calls Try.prog 4 #[.int .u8 room, .slice a zs.length c, .slice a2 ts.length c2] w fun e w' => e = .returned (.bool true) ∧ Below w.heap.size w w' := by
  obtain ⟨i0, hi0, hz0, hz1, hz2⟩ := info_parts infoInt
  have HC := Lib.hid hc; have HC2 := Lib.hid hc2; have HT := Lib.hid ht
  clear hc hc2 ht
  go_enter Try.func4, Try.ntmps4
  go_wp2_with fail
  refine (new_okI (room + 1) (by omega) (by omega) _).mono ?_
  rintro e w1 ⟨rfl, h1, b1⟩
  have TR : Tri w w1 (room + 1) (.slice none 0 0) (.slice none 0 0) (.slice none 0 0) [] [] [] 0 0 := ⟨h1, Ints.nil _ _, Ints.nil _ _, rfl, Or.inl rfl, Or.inl rfl, Or.inl rfl, b1⟩
  clear h1 b1
  go_wp2_with fail
  go_loopw [9, 10, 36] (fun x y z wr => ∃ (pv gv rv : Value) (pl gl ps : List Int) (f k i : Nat), pv = x ∧ gv = y ∧ i ≤ zs.length ∧ z = .int .i64 i ∧ pl.length ≤ i ∧ Tri w wr (room + 1) pv gv rv pl gl ps f k) (fun _ _ z _ => zs.length - (intOf z).toNat)
  case atStart => exact ⟨_, _, _, [], [], [], 0, 0, 0, rfl, rfl, Nat.zero_le _, rfl, Nat.le_refl _, TR⟩
  case round =>
    obtain ⟨pv, gv, rv, pl, gl, ps, f, k, i, rfl, rfl, hi, rfl, hpl, H⟩ := hrel
    have hbase := H.base
    by_cases hlt : i < zs.length
    · obtain ⟨b, off, rfl, hb, z1⟩ := HC.out i hlt
      have z1 := (H.below.cell (p := ⟨b, off + i, none⟩) hb).trans z1
      generalize zs.getD i 0 = x at *
      have hpl2 : pl.length ≤ 300 := by omega
      have HH := Lib.hid H
      have HI := Lib.hid hlt
      have HPL := Lib.hid hpl
      have PB := Lib.hid (put_both H.ring x hbase)
      clear H hpl
      go_upto_region 10 with (fail)
      go_wp2_with fail
      refine PB.out.mono ?_
      rintro e w2 ⟨d, rv2, ps2, f2, k2, rfl, h2, m2, e2⟩
      obtain ⟨i1, i2, a1, a2', b2⟩ := HH.out.moved m2
      have hs2 := b2.size
      have T2 : Hid (RingAtI w2 w.heap.size w.heap.size (room + 1) rv2 ps2 f2 k2 ∧ Ints w2 w.heap.size pv pl ∧ Ints w2 w.heap.size gv gl ∧ Ap rv2 pv ∧ Ap rv2 gv ∧ Below w.heap.size w w2 ∧ cont 0 ps2 f2 k2 = cont 0 ps f k ++ (if d then [x] else [])) := Lib.hid ⟨h2, i1, i2, a1, a2', b2, e2⟩
      clear h2 m2 e2 i1 i2 a1 a2' b2
      go_upto_if 43 with (fail)
      go_cut [9] (fun y wx => ∃ (pv : Value) (pl : List Int), pv = y ∧ pl.length ≤ i + 1 ∧ Tri w wx (room + 1) pv gv rv2 pl gl ps2 f2 k2)
      case first =>
        obtain ⟨h2, i1, i2, a1, a2', b2, e2⟩ := T2.out
        have hp := HH.out.pg
        have hsame := HH.out.same
        rcases d with _ | d
        · have TT : Tri w w2 (room + 1) pv gv rv2 pl gl ps2 f2 k2 := ⟨h2, i1, i2, by rw [e2]; simpa using hsame, hp, a1, a2', b2⟩
          clear h2 i1 i2 a1 a2' b2 e2 hp hsame
          go_wp2
          go_meet
          case rel => exact ⟨pv, pl, rfl, by have := HPL.out; omega, TT⟩
        · have HO : w2.ownsRow w.heap.size 3 1 pv pl.length (pl.map (Value.int .i64)) := i1
          have FIN : Hid (∀ v3 w3, w3.ownsRow w.heap.size 3 1 v3 (pl.length + 1) (pl.map (Value.int .i64) ++ [.int .i64 x]) → (w2.alloc (.cells #[.int .i64 x] 3)).grownBy w3 pv.ownBlock → (v3.ownBlock = pv.ownBlock ∨ v3.ownBlock = some (w2.alloc (.cells #[.int .i64 x] 3)).heap.size) → Tri w w3 (room + 1) v3 gv rv2 (pl ++ [x]) gl ps2 f2 k2) := Lib.hid (fun v3 w3 ho hg hat => by
            have G := Gr.alloc _ hg hat
            obtain ⟨q1, q2⟩ := G.ring h2 i1 a1
            obtain ⟨q3, q4⟩ := G.row i2 hp.symm
            exact ⟨q1, Ints.of_append ho, q3, by rw [e2, hsame]; simp, q4.symm, q2, a2', G.below b2 i1 hs2⟩)
          clear h2 i1 i2 a1 a2' b2 e2 hp hsame
          go_wp2_with (at_builtin; refine wpList_append_own_at _ rfl _ _ 28 rfl w.heap.size 3 i0 (.int .i64 0) 1 8 Try.underlying28 hi0 hz0 hz1 hz2 rfl (by decide) pv _ _ rfl (HO.alloc _) ⟨w2.heap.size, 0, none⟩ 1 1 [.int .i64 x] rfl rfl (cells_one6 _ _ _) (fun x hx => by simp at hx; subst hx; rfl) (by unfold maxLen; omega) (by omega) (by simp; omega) ?_; intro v3 w3 ho3 hg3 hn3 hat3; clear hn3)
          go_meet
          case rel => exact ⟨v3, pl ++ [x], rfl, by rw [List.length_append]; have := HPL.out; simp; omega, FIN.out _ _ ho3 hg3 hat3⟩
      case rest =>
        obtain ⟨pv, pl, rfl, hpl, T⟩ := hcut
        clear T2
        have HPL2 := Lib.hid hpl
        have hl300 : pl.length ≤ 301 := by omega
        have hglpl : gl.length ≤ pl.length := by rw [T.same, List.length_append]; omega
        go_wp2
        go_loopw [10, 13] (fun x y wx => ∃ (gv rv : Value) (gl ps : List Int) (f k j : Nat), gv = x ∧ y = .int .i64 j ∧ j ≤ 3 ∧ gl.length ≤ pl.length ∧ Tri w wx (room + 1) pv gv rv pl gl ps f k) (fun _ y _ => 3 - (intOf y).toNat)
        case atStart => exact ⟨_, _, gl, ps2, f2, k2, 0, rfl, rfl, by omega, hglpl, T⟩
        case round =>
          clear T hglpl
          obtain ⟨gv, rv, gl, ps, f, k, j, rfl, rfl, hj, hgl, T⟩ := hrel
          by_cases hti : i < ts.length
          · obtain ⟨b2, off2, rfl, hb2, z2⟩ := HC2.out i hti
            have z2 := (T.below.cell (p := ⟨b2, off2 + i, none⟩) hb2).trans z2
            obtain ⟨t0, t1⟩ := HT.out i hti
            generalize ts.getD i 0 = t at *
            by_cases hjm : (j : Int) < t % 4
            · have TB := Lib.hid (take_both T.ring)
              have HT3 := Lib.hid T
              have hj3 : (j : Int) + 1 ≤ 3 := by omega
              clear T
              go_upto_region 15 with (fail)
              go_wp2_with fail
              refine TB.out.mono ?_
              rintro e w4 ⟨d, y, ps4, f4, k4, rfl, h4, m4, e4⟩
              obtain ⟨i1, i2, a1, a2', b4⟩ := HT3.out.moved m4
              have hs4 := b4.size
              have T4 : Hid (RingAtI w4 w.heap.size w.heap.size (room + 1) rv ps4 f4 k4 ∧ Ints w4 w.heap.size pv pl ∧ Ints w4 w.heap.size gv gl ∧ Ap rv pv ∧ Ap rv gv ∧ Below w.heap.size w w4 ∧ cont 0 ps f k = (if d then [y] else []) ++ cont 0 ps4 f4 k4) := Lib.hid ⟨h4, i1, i2, a1, a2', b4, e4⟩
              clear h4 m4 e4 i1 i2 a1 a2' b4
              obtain ⟨h2, i1, i2, a1, a2', b2', e2⟩ := T4.out
              have hp := HT3.out.pg
              have hsame := HT3.out.same
              rcases d with _ | d
              · have TT : Tri w w4 (room + 1) pv gv rv pl gl ps4 f4 k4 := ⟨h2, i1, i2, by rw [hsame, e2]; rfl, hp, a1, a2', b2'⟩
                clear h2 i1 i2 a1 a2' b2' e2 hp hsame
                go_wp2
                go_roundw
                case rel => exact ⟨gv, rv, gl, ps4, f4, k4, j + 1, rfl, by go_num, by omega, hgl, TT⟩
                case measure => simp [intOf] <;> omega
              · have HO : w4.ownsRow w.heap.size 3 1 gv gl.length (gl.map (Value.int .i64)) := i2
                have hlen : pl.length = gl.length + (1 + (cont 0 ps4 f4 k4).length) := by rw [hsame, List.length_append, e2]; simp; omega
                have HLEN := Lib.hid hlen
                have FIN : Hid (∀ v3 w3, w3.ownsRow w.heap.size 3 1 v3 (gl.length + 1) (gl.map (Value.int .i64) ++ [.int .i64 y]) → (w4.alloc (.cells #[.int .i64 y] 3)).grownBy w3 gv.ownBlock → (v3.ownBlock = gv.ownBlock ∨ v3.ownBlock = some (w4.alloc (.cells #[.int .i64 y] 3)).heap.size) → Tri w w3 (room + 1) pv v3 rv pl (gl ++ [y]) ps4 f4 k4) := Lib.hid (fun v3 w3 ho hg hat => by
                  have G := Gr.alloc _ hg hat
                  obtain ⟨q1, q2⟩ := G.ring h2 i2 a2'
                  obtain ⟨q3, q4⟩ := G.row i1 hp
                  exact ⟨q1, q3, Ints.of_append ho, by rw [hsame, e2]; simp, q4, a1, q2, G.below b2' i2 hs4⟩)
                clear h2 i1 i2 a1 a2' b2' e2 hp hsame hlen
                go_wp2_with (at_builtin; refine wpList_append_own_at _ rfl _ _ 28 rfl w.heap.size 3 i0 (.int .i64 0) 1 8 Try.underlying28 hi0 hz0 hz1 hz2 rfl (by decide) gv _ _ rfl (HO.alloc _) ⟨w4.heap.size, 0, none⟩ 1 1 [.int .i64 y] rfl rfl (cells_one6 _ _ _) (fun x hx => by simp at hx; subst hx; rfl) (by unfold maxLen; omega) (by omega) (by simp; omega) ?_; intro v3 w3 ho3 hg3 hn3 hat3; clear hn3)
                go_roundw
                case rel => exact ⟨v3, rv, gl ++ [y], ps4, f4, k4, j + 1, rfl, by go_num, by omega, by rw [List.length_append]; have := HLEN.out; simp; omega, FIN.out _ _ ho3 hg3 hat3⟩
                case measure => simp [intOf] <;> omega
            · go_wp2
              go_roundw
              case rel => exact ⟨pv, gv, rv, pl, gl, ps, f, k, i + 1, rfl, rfl, by have := HI.out; omega, by go_num, HPL2.out, T⟩
              case measure => have := HI.out; simp [intOf] <;> omega

          · go_wp2
            go_roundw
            case rel => exact ⟨pv, gv, rv, pl, gl, ps, f, k, i + 1, rfl, rfl, by have := HI.out; omega, by go_num, HPL2.out, T⟩
            case measure => have := HI.out; simp [intOf] <;> omega

    · obtain ⟨hpl3, hg3⟩ : pl.length ≤ 300 ∧ gl.length ≤ pl.length := ⟨by omega, by rw [H.same, List.length_append]; omega⟩
      have AL := Lib.hid (all_anyI H.ring)
      have HH := Lib.hid H
      clear H
      go_wp2_with fail
      refine AL.out.mono ?_
      rintro e w5 ⟨c5, rfl, ho5, hb5⟩
      have T5 := HH.out.on hb5
      have hs5 : w.heap.size ≤ w5.heap.size := T5.base
      have HO : w5.ownsRow w.heap.size 3 1 gv gl.length (gl.map (Value.int .i64)) := T5.got
      have hcl := ho5.cells (g := wr.heap.size) rfl
      have HCL := Lib.hid hcl
      have hkk : k ≤ 65536 := by have := HH.out.ring.le; have := HH.out.ring.lr; omega
      have HN1 : Hid (((cont 0 ps f k).map (Value.int .i64)).length = k * 1) := Lib.hid (by rw [List.length_map, cont_length, Nat.mul_one])
      have H1 : Hid (∀ u ∈ (cont 0 ps f k).map (Value.int .i64), u.oneCell' = true) := Lib.hid (fun u hu => by obtain ⟨y, _, rfl⟩ := List.mem_map.1 hu; rfl)
      have FIN : Hid (∀ v3 w3, w3.ownsRow w.heap.size 3 1 v3 (gl.length + k) (gl.map (Value.int .i64) ++ (cont 0 ps f k).map (Value.int .i64)) → w5.grownBy w3 gv.ownBlock → (v3.ownBlock = gv.ownBlock ∨ v3.ownBlock = some w5.heap.size) → Ints w3 w.heap.size pv pl ∧ Ints w3 w.heap.size v3 pl ∧ Below w.heap.size w w3) := Lib.hid (fun v3 w3 ho hg hat => by
        have G := Gr.of hg hat
        obtain ⟨q3, q4⟩ := G.row T5.put T5.pg
        refine ⟨q3, ?_, G.below T5.below T5.got hs5⟩
        have e := T5.same
        unfold Ints
        rw [e, List.map_append, List.length_append, cont_length]
        exact ho)
      clear hcl ho5 T5 hb5
      generalize (cont 0 ps f k).map (Value.int .i64) = cs at *
      go_wp2_with (at_builtin; refine wpList_append_own_at _ rfl _ _ 28 rfl w.heap.size 3 i0 (.int .i64 0) 1 8 Try.underlying28 hi0 hz0 hz1 hz2 rfl (by decide) gv _ _ rfl HO ⟨wr.heap.size, 0, none⟩ k c5 cs rfl HN1.out HCL.out H1.out (by unfold maxLen; omega) (by omega) hs5 ?_; intro v3 w3 ho3 hg3 hn3 hat3; clear hn3)
      have FF := Lib.hid (FIN.out _ _ ho3 hg3 hat3)
      clear ho3 hg3 hat3 HO
      go_wp2_with fail
      refine (same6 _ _ _ _ pl (by omega) _ FF.out.1 FF.out.2.1).mono ?_
      rintro e w6 ⟨rfl, b6⟩
      have LV := Lib.hid (lives6 w6)
      go_wp2_with fail
      refine LV.out.mono ?_
      rintro e w9 ⟨rfl, b9⟩
      go_wp2
      go_ret
      have d := FF.out.2.2
      exact ⟨rfl, (d.trans (b6.mono d.size)).trans (b9.mono (Nat.le_trans d.size b6.size))⟩

theorem walk_ringOrder (room : Int) (r0 : 0 ≤ room) (r1 : room ≤ 255) (a : Option Addr) (n c : Nat) (zs : List Int) {w : World} (hr : Row1 .i64 w a n zs) (hcap : n ≤ c) (a2 : Option Addr) (n2 c2 : Nat) (ts : List Int) (hr2 : Row1 .u8 w a2 n2 ts) (hcap2 : n2 ≤ c2) :
    Calls Try.prog 4 #[.int .u8 room, .slice a n c, .slice a2 n2 c2] w fun e w' => e = .returned (.bool true) ∧ Below w.heap.size w w' := by
  obtain ⟨hz, hm, hw, hc⟩ := hr
  obtain ⟨hz2, hm2, hw2, hc2⟩ := hr2
  by_cases h : n ≤ 300 ∧ n2 ≤ 300
  · obtain ⟨h1, h2⟩ := h
    subst hz hz2
    refine order6_at room r0 r1 a c zs h1 a2 c2 ts h2 (fun i hi => ?_) w (fun i hi => ?_) (fun i hi => ?_)
    · exact bounds_u8 (hw2 _ (by rw [List.getD_eq_getElem?_getD, List.getElem?_eq_getElem hi]; exact List.getElem_mem _))
    · obtain ⟨b, off, e, hb, hcell⟩ := hc (by omega)
      exact ⟨b, off, e, hb, hcell i hi⟩
    · obtain ⟨b, off, e, hb, hcell⟩ := hc2 (by omega)
      exact ⟨b, off, e, hb, hcell i hi⟩
  · clear hc hc2 hw hw2 hz hz2
    unfold maxLen at hm hm2
    have LV := Lib.hid (lives6 w)
    by_cases h1 : 300 < n
    · clear h
      go_enter Try.func4, Try.ntmps4
      go_wp2_with fail
      refine LV.out.mono ?_
      rintro e w9 ⟨rfl, b9⟩
      go_wp2
      go_ret
      exact ⟨rfl, b9⟩
    · have h2 : 300 < n2 := by omega
      have h1' : ¬ (300 : Int) < (n : Int) := by omega
      clear h
      go_enter Try.func4, Try.ntmps4
      go_wp2_with fail
      refine LV.out.mono ?_
      rintro e w9 ⟨rfl, b9⟩
      go_wp2
      go_ret
      exact ⟨rfl, b9⟩
end Go.Proofs.Ytdeehklegeeanaa
