/-
  Package pool: all handles of a queue, in order: the iterator that goes through them, and what collects them. What lay below the heap's end stands. No condition but that the pool is one that New made.
-/
import Derived.Test.YtmkgadndfiiacaaPoolI8
import Derived.Test.YtmkgadndfiiacaaPoolNil
import Derived.RangeFuncBox
import Derived.Maps.AppendAt
namespace Go.Proofs.Ytmkgadndfiiacaa
set_option linter.unusedVariables false
set_option linter.unusedSimpArgs false
open Go.ChangeShapes Go.WideShapes Go.ChangeAt Go.RowKit Go.Shelf
attribute [local go_sem] Oper.semAt_some

/-- All blocks below n₀ stand but block x. -/
structure BBut (n₀ x : Nat) (A B : World) : Prop where
  os : B.os = A.os
  tape : B.tape = A.tape
  output : B.output = A.output
  size : A.heap.size ≤ B.heap.size
  block : ∀ i, i < n₀ → i ≠ x → B.heap[i]? = A.heap[i]?
theorem BBut.refl (n₀ x : Nat) (A : World) : BBut n₀ x A A := ⟨rfl, rfl, rfl, Nat.le_refl _, fun _ _ _ => rfl⟩
theorem BBut.trans {n₀ x : Nat} {A B C : World} (h : BBut n₀ x A B) (k : BBut n₀ x B C) : BBut n₀ x A C :=
  ⟨k.os.trans h.os, k.tape.trans h.tape, k.output.trans h.output, Nat.le_trans h.size k.size, fun i hi hx => (k.block i hi hx).trans (h.block i hi hx)⟩
theorem BBut.of_below {n₀ x : Nat} {A B : World} (h : Below n₀ A B) : BBut n₀ x A B := ⟨h.os, h.tape, h.output, h.size, fun i hi _ => h.block i hi⟩
theorem BBut.grown {n₀ x : Nat} {A B C : World} {row : Option Nat} (h : BBut n₀ x A B) (hg : B.grownBy C row) (hn : n₀ ≤ B.heap.size) (hr : ∀ k, row = some k → n₀ ≤ k) : BBut n₀ x A C :=
  h.trans (.of_below ((Below.refl n₀ B).grown hg hn hr))
theorem ownFrom_bbut {β : Type} {n₀ x B : Nat} {w₀ : World} (hn : n₀ ≤ w₀.heap.size) (hB : n₀ ≤ B) : OwnFrom B (fun (_ : β) W => BBut n₀ x w₀ W) :=
  fun _ _ _ _ hs hg hr => hs.grown hg (Nat.le_trans hn hs.size) (fun k e => Nat.le_trans hB (hr k e).1)
theorem PoolAtI.bbut {A W : World} {base B : Nat} {most : Int} {ve vf vq : Value} {es : List EntI} {fr : List Int} {qs : List (Int × Int × Int)} (h : PoolAtI A base B most ve vf vq es fr qs) {n₀ x : Nat} (hb : BBut n₀ x A W) (hi : ∀ i, inP B ve vf vq i → i < n₀ ∧ i ≠ x) : PoolAtI W base B most ve vf vq es fr qs := by
  have hrow : ∀ {e : TypeId} {size n : Nat} {v : Value} {xs : List Value}, A.ownsRow base e size v n xs → (∀ i, v.ownBlock = some i → i < n₀ ∧ i ≠ x) → W.ownsRow base e size v n xs := by
    intro e size n v xs ho hh
    refine ⟨ho.1, ?_⟩
    rcases ho.2 with hh' | ⟨g, cap, cur, rfl, hb', hg, rest⟩
    · exact Or.inl hh'
    · exact Or.inr ⟨g, cap, cur, rfl, hb', (hb.block g (hh g rfl).1 (hh g rfl).2).trans hg, rest⟩
  exact ⟨(hb.block B (hi B (Or.inl rfl)).1 (hi B (Or.inl rfl)).2).trans h.blk, h.low, hrow h.oe (fun i e => hi i (Or.inr (Or.inl e))), hrow h.of (fun i e => hi i (Or.inr (Or.inr (Or.inl e)))), hrow h.oq (fun i e => hi i (Or.inr (Or.inr (Or.inr e)))), h.m0, h.m1, h.le, h.lf, h.fi⟩
/-- The handles from one on, so many. -/
def chainI (es : List EntI) : Int → Nat → List Int
  | _, 0 => []
  | h, n + 1 => h :: chainI es (((es[h.toNat]?).map EntI.nx).getD 0) n
theorem chainI_length (es : List EntI) : ∀ (h : Int) (n : Nat), (chainI es h n).length = n
  | _, 0 => rfl
  | h, n + 1 => by rw [chainI, List.length_cons, chainI_length]

set_option maxRecDepth 100000 in
set_option maxHeartbeats 2000000 in
theorem each_stopsI {w : World} {base B : Nat} {most : Int} {ve vf vq : Value} {es : List EntI} {fr : List Int} {qs : List (Int × Int × Int)} (h : PoolAtI w base B most ve vf vq es fr qs) (j : Nat) (hj : j < qs.length) (n n₀ s : Nat) (c : Nat) (hc : (qs[j]).2.2 = c) (hc1 : c < 65536)
    (hx : ∀ x ∈ chainI es (qs[j]).1 c, 0 ≤ x ∧ x < (es.length : Int)) (Bp Bq : Nat) (hp : w.heap[Bp]? = some (.cells #[.pointer (some ⟨B, 0, none⟩)] 95 (0, 0))) (hq : w.heap[Bq]? = some (.cells #[.int .i64 j] 3 (0, 0)))
    (hn : n₀ = w.heap.size) (hi : ∀ i, inP B ve vf vq i → i ≠ s) (hps : Bp ≠ s) (hqs : Bq ≠ s) :
    SeqStopsK Fence.wide n Try.prog 150 #[.pointer (some ⟨Bp, 0, none⟩), .pointer (some ⟨Bq, 0, none⟩)] (fun x : Int => #[Value.int .i64 x]) (BBut n₀ s) (fun ys => ys = chainI es (qs[j]).1 c) (fun pre => pre <+: chainI es (qs[j]).1 c) c w := fun l J Jx W hW hJ hJx hY h0 => by
  have hlt : ∀ i, inP B ve vf vq i → i < n₀ ∧ i ≠ s := fun i hh => ⟨by
    rw [hn]
    rcases hh with rfl | hh | hh | hh
    · exact (Array.getElem?_eq_some_iff.1 h.blk).1
    · exact (h.oe.lt i hh).2
    · exact (h.of.lt i hh).2
    · exact (h.oq.lt i hh).2, hi i hh⟩
  have hBp : Bp < n₀ := by rw [hn]; exact (Array.getElem?_eq_some_iff.1 hp).1
  have hBq : Bq < n₀ := by rw [hn]; exact (Array.getElem?_eq_some_iff.1 hq).1
  have hWb : BBut n₀ s w W := .of_below (hn ▸ hW)
  have FACT := Lib.hid (fun (V : World) (hV : BBut n₀ s w V) => (⟨h.bbut hV hlt, cell_of_row V Bp 0 _ _ (0, 0) ((hV.block Bp hBp hps).trans hp), cell_of_row V Bq 0 _ _ (0, 0) ((hV.block Bq hBq hqs).trans hq)⟩ :
    PoolAtI V base B most ve vf vq es fr qs ∧ V.cell? ⟨Bp, 0, none⟩ = some (.pointer (some ⟨B, 0, none⟩)) ∧ V.cell? ⟨Bq, 0, none⟩ = some (.int .i64 j)))
  obtain ⟨P, cp, cq⟩ := FACT.out W hWb
  have HS := Lib.hid (fun n => (callsIn_wide (n := n)).2 (hasP_inI P j hj))
  have hm1 := h.m1; have hle := h.le
  obtain ⟨c0, c1, c2, c3⟩ := P.cell
  obtain ⟨gq, kq, rfl, _, _⟩ := h.oq.form (by omega)
  obtain ⟨q0, q1, q2⟩ := P.quAt j hj
  have a0 : (0 : Int) ≤ j := by omega
  have a1 : (j : Int) < qs.length := by omega
  rw [hc] at q2
  have H0 := Lib.hid h0; have HJ := Lib.hid hJ; have HY := Lib.hid hY; have HWB := Lib.hid hWb; have HX := Lib.hid hx
  clear hJ hJx h0 hY hW hp hq h P hx hWb hc hi
  generalize qs[j] = qn at *
  obtain ⟨qf, ql, qc⟩ := qn
  dsimp only at q0 q1 q2 HX HY ⊢
  refine callsIn_of_wp Try.func150 rfl trivial ?_ rfl
  simp only [Try.ntmps150, List.size_toArray, List.length_cons, List.length_nil, Nat.reduceAdd, Nat.reduceSub, Array.replicate_succ, Array.replicate_zero, List.push_toArray, List.append_toArray, List.nil_append, List.cons_append]
  gi_wp2_with (refine ⟨trivial, (fun h => by cases h), ?_⟩; gi_at_call 119; refine (HS.out _).mono ?_; rintro e w3 ⟨rfl, rfl⟩)
  gi_quiet (fail)
  gi_wp2
  gi_quiet (fail)
  gi_wp2
  rename_i nd
  have H1 : Hid (J [] ((w3.drewN nd).drewN nq)) := Lib.hid (HJ.out _ _ _ none H0.out ⟨rfl, rfl, rfl, Nat.le_refl _, fun _ _ _ => rfl⟩ (fun r e => by cases e))
  have HW1 : Hid (BBut n₀ s w ((w3.drewN nd).drewN nq)) := Lib.hid ⟨HWB.out.os, HWB.out.tape, HWB.out.output, HWB.out.size, HWB.out.block⟩
  gi_loopw [4, 25] (fun p x wr => ∃ (pre : List Int) (hd : Int) (i : Nat), p = .int .u16 hd ∧ x = .int .u16 i ∧ pre.length = i ∧ i ≤ c ∧ chainI es qf c = pre ++ chainI es hd (c - i) ∧ Hid (BBut n₀ s w wr) ∧ Hid (J pre wr))
    (fun _ x _ => c - (intOf x).toNat)
  case atStart => exact ⟨[], qf, 0, rfl, rfl, rfl, Nat.zero_le _, by simp, HW1, H1⟩
  case round =>
    obtain ⟨pre, hd, i, rfl, rfl, hpl, hic, hch, hB, hJs⟩ := hrel
    by_cases hic2 : i = c
    · subst hic2
      have hl0 : ¬ (i : Int) < i := by omega
      rw [Nat.sub_self, show chainI es hd 0 = [] from rfl, List.append_nil] at hch
      have HCH := Lib.hid hch
      clear hch
      gi_wp2
      go_end0
      first
        | exact ⟨⟨_, rfl⟩, .inl ⟨pre, HCH.out.symm, hJs.out⟩⟩
        | exact ⟨⟨_, rfl⟩, .inl (HCH.out ▸ hJs.out)⟩
    · obtain ⟨m, hm⟩ : ∃ m, c - i = m + 1 := ⟨c - i - 1, by omega⟩
      rw [hm, show chainI es hd (m + 1) = hd :: chainI es (((es[hd.toNat]?).map EntI.nx).getD 0) m from rfl] at hch
      have hb := HX.out hd (by rw [hch]; simp)
      obtain ⟨k, rfl⟩ := Int.eq_ofNat_of_zero_le hb.1
      have hk : k < es.length := by have := hb.2; omega
      rw [Int.toNat_natCast, List.getElem?_eq_getElem hk] at hch
      simp only [Option.map_some, Option.getD_some] at hch
      have hil : (i : Int) < c := by omega
      have b0 : (0 : Int) ≤ k := by omega
      have b1 : (k : Int) < es.length := by omega
      have b2 : IntKind.i64.wrap (k : Int) = k := by rw [IntKind.wrap_i64]; omega
      have b3 : IntKind.u16.wrap ((i : Int) + 1) = ((i + 1 : Nat) : Int) := by rw [IntKind.wrap_u16]; omega
      obtain ⟨fn, tmps, assign, body, hy, hR⟩ := HY.out pre (k : Int) wr hJs.out (by omega)
      have HCH := Lib.hid hch
      have HB := hB
      clear hch hb
      gi_wp2
      refine ⟨(fun h => by cases h), hR.mono ?_⟩
      rintro e W3 (⟨rfl, hJ3, hk3⟩ | ⟨rfl, hJx3⟩)
      · have HJ3 := Lib.hid hJ3
        have HB3 := Lib.hid (HB.out.trans hk3)
        clear hJ3 hk3
        obtain ⟨P3, p3, q3⟩ := FACT.out W3 HB3.out
        obtain ⟨e0, e1, e2, e3⟩ := P3.cell
        obtain ⟨ge, ce, rfl, _, _⟩ := P3.oe.form (by omega)
        obtain ⟨k0, k1, k2, k3⟩ := P3.entAt k hk
        clear P3
        gi_wp2
        go_roundw
        case rel => exact ⟨pre ++ [(k : Int)], (es[k]).nx, i + 1, rfl, by first | rfl | (rw [← b3]; rfl), by simp [hpl], by omega, by rw [HCH.out, show c - (i + 1) = m by omega]; simp, HB3, HJ3⟩
        case measure => simp [intOf]; omega
      · gi_wp2
        refine bodyPost_ret (results_none rfl _ _ _) rfl ?_
        exact ⟨⟨_, rfl⟩, .inr ⟨pre ++ [(k : Int)], ⟨chainI es (es[k]).nx m, by rw [HCH.out]; simp⟩, hJx3⟩⟩
theorem own_lower7 {w : World} {b b2 : Nat} {t : TypeId} {z : Nat} {v : Value} {n : Nat} {xs : List Value} (h : w.ownsRow b t z v n xs) (hb : b2 ≤ b) : w.ownsRow b2 t z v n xs := by
  refine ⟨h.1, ?_⟩
  rcases h.2 with hh | ⟨g, cap, cur, e, hg, rest⟩
  · exact Or.inl hh
  · exact Or.inr ⟨g, cap, cur, e, Nat.le_trans hb hg, rest⟩
theorem queue_infoI : (Try.prog.info? 3).map (fun i => (i.zero, i.size, i.bytes)) = some (some (.int .i64 0), 1, 8) := by kernel_rfl
set_option maxRecDepth 100000 in
set_option maxHeartbeats 2000000 in
theorem queueP_in {w : World} {base B : Nat} {most : Int} {ve vf vq : Value} {es : List EntI} {fr : List Int} {qs : List (Int × Int × Int)} (h : PoolAtI w base B most ve vf vq es fr qs) (j : Nat) (hj : j < qs.length) (c : Nat) (hc : (qs[j]).2.2 = c) (hc1 : c < 65536)
    (hx : ∀ x ∈ chainI es (qs[j]).1 c, 0 ≤ x ∧ x < (es.length : Int)) :
    Calls Try.prog 65 #[.pointer (some ⟨B, 0, none⟩), .int .i64 j] w fun e W' => ∃ v, e = .returned v ∧ W'.ownsRow w.heap.size 3 1 v c ((chainI es (qs[j]).1 c).map (Value.int .i64)) ∧ Below w.heap.size w W' := by
  obtain ⟨i0, hi, hz0, hz1, hz2⟩ := info_parts queue_infoI
  refine (callsIn_wide (n := 3)).1 ?_
  refine callsIn_of_wp_marks Try.func65 rfl trivial ?_ rfl
  simp only [Try.ntmps65, List.size_toArray, List.length_cons, List.length_nil, Nat.reduceAdd, Nat.reduceSub, Array.replicate_succ, Array.replicate_zero, List.push_toArray, List.append_toArray, List.nil_append, List.cons_append]
  gi_wp2_with (refine ⟨trivial, ?_⟩; gi_at_call 120; refine (each_any j (some ⟨B, 0, none⟩) _ _).mono ?_; rintro e w' ⟨rfl, rfl⟩)
  have bS := Boxed.new w 102 (.slice none 0 0)
  have bP := Boxed.new (w.alloc (.cells #[.slice none 0 0] 102)) 95 (.pointer (some ⟨B, 0, none⟩))
  have bQ := Boxed.new ((w.alloc (.cells #[.slice none 0 0] 102)).alloc (.cells #[.pointer (some ⟨B, 0, none⟩)] 95)) 3 (.int .i64 j)
  simp only [World.size_alloc] at bP bQ
  obtain ⟨W0, hW0⟩ : ∃ W0, ((w.alloc (.cells #[.slice none 0 0] 102)).alloc (.cells #[.pointer (some ⟨B, 0, none⟩)] 95)).alloc (.cells #[.int .i64 j] 3) = W0 := ⟨_, rfl⟩
  have hsz : W0.heap.size = w.heap.size + 1 + 1 + 1 := by rw [← hW0]; simp
  have hB0 : Below w.heap.size w W0 := by rw [← hW0]; exact (((Below.refl _ w).alloc (Nat.le_refl _) _).alloc (by simp) _).alloc (by simp; omega) _
  have bS0 : Boxed W0 w.heap.size 102 (.slice none 0 0) := by rw [← hW0]; exact (bS.alloc _).alloc _
  have bP0 : Boxed W0 (w.heap.size + 1) 95 (.pointer (some ⟨B, 0, none⟩)) := by rw [← hW0]; exact bP.alloc _
  have bQ0 : Boxed W0 (w.heap.size + 1 + 1) 3 (.int .i64 j) := by rw [← hW0]; exact bQ
  rw [hW0] at *
  clear hW0 bS bP bQ
  have hin : ∀ i, inP B ve vf vq i → i < w.heap.size := fun i hh => by
    rcases hh with rfl | hh | hh | hh
    · exact (Array.getElem?_eq_some_iff.1 h.blk).1
    · exact (h.oe.lt i hh).2
    · exact (h.of.lt i hh).2
    · exact (h.oq.lt i hh).2
  have P0 : PoolAtI W0 base B most ve vf vq es fr qs := h.bbut (.of_below (x := w.heap.size) hB0) (fun i hh => ⟨hin i hh, by have := hin i hh; omega⟩)
  have hlen := chainI_length es (qs[j]).1 c
  have LN := Lib.hid hlen
  refine wpIn_rangeFunc_ownF rfl (by omega) (gf := 150) (lb := #[.pointer (some ⟨w.heap.size + 1, 0, none⟩), .pointer (some ⟨w.heap.size + 1 + 1, 0, none⟩)]) rfl trivial (enters_of Try.func150 (by kernel_rfl) rfl)
    (each_stopsI P0 j hj _ W0.heap.size w.heap.size c hc hc1 hx (w.heap.size + 1) (w.heap.size + 1 + 1) bP0 bQ0 rfl (fun i hh => by have := hin i hh; omega) (by omega) (by omega))
    (fun h k => h.trans k) (fun W l o o' hl ho h1 h2 => .of_below (belowK_b (w := W0) (Nat.le_refl _) W l o o' hl ho h1 h2)) (Below.refl _ _) (fun _ => rfl)
    (fun pre W => (∃ v, Boxed W w.heap.size 102 v ∧ W.ownsRow W0.heap.size 3 1 v pre.length (pre.map (Value.int .i64)) ∧ True) ∧ BBut W0.heap.size w.heap.size W0 W)
    (fun _ _ _ => False)
    (OwnFrom.and (Own.from (holdsRow_own W0.heap.size w.heap.size 102 3 1 (fun pre : List Int => pre.length) (fun pre => pre.map (Value.int .i64)) (fun pre v => True)) _) (ownFrom_bbut (Nat.le_refl _) (Nat.le_refl _)))
    (fun _ _ _ _ _ hs _ _ => hs)
    ⟨⟨_, bS0, World.ownsRow_nil _ _ _ _, trivial⟩, BBut.refl _ _ _⟩
    (fun x => { tmps := #[.pointer (some ⟨B, 0, none⟩), .int .i64 j, undef, undef, .slice none 0 0, .pointer (some ⟨w.heap.size, 0, none⟩), .int .i64 x, .pointer (some ⟨B, 0, none⟩), .int .i64 j, .func (.func 150) #[] #[.pointer (some ⟨w.heap.size + 1, 0, none⟩), .pointer (some ⟨w.heap.size + 1 + 1, 0, none⟩)], .int .i64 x, undef, undef, undef, undef, undef], defers := [] }) ?assign ?body ?done ?stop
  case assign =>
    intro l x W K hK
    gi_wp2
    exact hK
  case body =>
    rintro l pre x W ⟨⟨v, hv, hrow, -⟩, hB⟩ hlt
    have hcell := hv.cell
    have hlt' : pre.length < 65536 := by omega
    gi_wp2_with (gi_at_builtin; refine wpListIn_append_own _ rfl _ _ 102 rfl W0.heap.size 3 i0 (.int .i64 0) 1 8 Try.underlying102 hi hz0 hz1 hz2 rfl (by decide) _ _ _ rfl (hrow.alloc _) ⟨W.heap.size, 0, none⟩ 1 1 [.int .i64 x] rfl rfl (cell_one_new _ _ _) (by simp [Value.oneCell']) (by unfold maxLen; omega) (by omega) (by have := hB.size; simp; omega) ?_; intro v' w1 hown' hgrow _; obtain ⟨g', cap', rfl⟩ := ownsRow_succ hown'; obtain ⟨hv1, hv2, hr2, hk2, hb2⟩ := hv.appended (n₀ := 0) (by decide) (own_lower7 hrow (Nat.zero_le _)) (Nat.zero_le _) (Nat.zero_le _) (own_lower7 hown' (Nat.zero_le _)) hgrow; have hc1 := hv1.cell; have hf1 := hv1.frozen)
    have BB : BBut W0.heap.size w.heap.size W (w1.setCell ⟨w.heap.size, 0, none⟩ (.slice (some ⟨g', 0, none⟩) (pre.length + 1) cap')) :=
      ⟨hgrow.os, hgrow.tape, hgrow.output, by have := hgrow.size; simp [World.setCell] at this ⊢; omega, fun i hi hx => (Below.heap_setCell w1 ⟨w.heap.size, 0, none⟩ _ i hx).trans ((hgrow.block i (by have := hB.size; simp; omega) (fun e => by have := (hrow.lt i e.symm).1; omega)).trans (heap_alloc_old W _ (by have := hB.size; omega)))⟩
    have ROW := hown'.kept (grownBy_setCell' w1 w.heap.size (.slice (some ⟨g', 0, none⟩) (pre.length + 1) cap')) (.inr (hv1.not_row (by decide) hown').symm)
    exact ⟨hk2, BB, ⟨_, hv2, by simpa using ROW, trivial⟩, hB.trans BB⟩
  case done =>
    rintro D ys W hD rfl ⟨⟨v, hv, hrow, -⟩, hB⟩ hK
    have hcell := hv.cell
    gi_wp2
    refine ⟨by simp, .inl ⟨_, _, rfl, run_takeDeferred hK, ?_⟩⟩
    have hrow' := own_lower7 hrow (show w.heap.size ≤ W0.heap.size by omega)
    rw [LN.out] at hrow'
    have hBl : Below w.heap.size W0 W := ⟨hB.os, hB.tape, hB.output, hB.size, fun i hi => hB.block i (by omega) (by omega)⟩
    exact ⟨_, results_tmp rfl _ _ _, v, rfl, ownsRow_putObj hrow' _ hK rfl, hB0.trans (hBl.trans (belowK_b (w := W0) (by omega) W D _ _ hD hK rfl rfl))⟩
  case stop =>
    rintro D c pre W _ _ h _
    exact h.elim
end Go.Proofs.Ytmkgadndfiiacaa
