/-
  Package heappifo for numbers: all items of a heap, in order. What lay below the heap's end stands. No condition but that the heap is one that New made.
-/
import Derived.Test.YtkgiaijcgblpbaaHeapI7
import Derived.Test.YtkgiaijcgblpbaaHeapAllMath
import Derived.Test.YtkgiaijcgblpbaaRqI3
import Derived.Test.YtkgiaijcgblpbaaShelf
import Derived.Shelf.SlSortCmp.WholeK
import Derived.Shelf.SlicesE.Clone
namespace Go.Proofs.Ytkgiaijcgblpbaa
set_option linter.unusedVariables false
set_option linter.unusedSimpArgs false
open Go.ChangeShapes Go.WideShapes Go.ChangeAt Go.RowKit
attribute [local go_sem] alloc_drewN setCell_drewN

def kvH (e : Ent Int) : Int × Int := (e.rk, e.x)
theorem flat_get (es : List (Ent Int)) (j : Nat) (hj : j < es.length * 3) : (hrowI es)[j]? = some ((Go.Sort.flatK hcellI 3 es.toArray)[j]!) := by
  obtain ⟨q, r, rfl, hr⟩ : ∃ q r, j = q * 3 + r ∧ r < 3 := ⟨j / 3, j % 3, by omega, Nat.mod_lt _ (by omega)⟩
  have hq : q < es.length := by omega
  rw [hrow_atI es q r hq hr, Go.Sort.get_flatK _ _ _ _ (by simpa using hj)]
  have e1 : (q * 3 + r) / 3 = q := by omega
  have e2 : (q * 3 + r) % 3 = r := by omega
  rw [e1, e2, getElem!_pos es.toArray q (by simpa using hq)]
  simp only [List.getElem_toArray]
  match r, hr with
  | 0, _ => rfl
  | 1, _ => rfl
  | 2, _ => rfl
theorem sorts_call (es ms : List (Ent Int)) (m : Nat) (hm : es.length = m) (hp : es.Perm ms) (hs : Srt ms) (base g c : Nat) (W : World) (ho : W.ownsRow base 133 3 (.slice (some ⟨g, 0, none⟩) m c) m (hrowI es)) (hl : es.length ≤ 4096) (hb : base ≤ W.heap.size) :
    Calls Try.prog 74 #[.slice (some ⟨g, 0, none⟩) m c, .func (.func 75) #[] #[]] W fun e w' => e = .returned (.tuple #[]) ∧ Below base W w' ∧ g < w'.heap.size ∧
      ∀ i (hi : i < ms.length), w'.cell? ⟨g, i * 3, none⟩ = some (.int .u64 (ms[i]).rk) ∧ w'.cell? ⟨g, i * 3 + 1, none⟩ = some (.int .i64 (ms[i]).x) ∧ w'.cell? ⟨g, i * 3 + 2, none⟩ = some (.int .u64 (ms[i]).tn) := by
  subst hm
  have hlt := World.ownsRow.lt ho g rfl
  have hH : Go.Sort.HoldsK hcellI 3 W g 0 es.toArray := fun j hj => by
    have hj' : j < es.length * 3 := by simpa using hj
    rw [Nat.zero_add]
    exact ⟨(World.ownsRow.cellAt ho j (by omega)).trans (flat_get es j hj'), World.ownsRow.frozenAt ho j⟩
  have eg : ∀ args w, (callFunc 75 args).run Try.prog w = .ok (.enter 75 args) w := enters_of Try.func75 (by kernel_rfl) rfl
  have hcmp : Go.Proofs.CmpLays Try.prog 75 #[] hcellI 3 (fun a b : Ent Int => a.cmp b) g 0 es.toArray.size W := fun m os dk _ x y =>
    (hcompareGI x y _).mono (fun e w' ⟨he, q, os', hw⟩ => ⟨he, q, os', hw⟩)
  have hc := AnyQ.slices_SortFunc Try.laysSort 3 Try.isAgg133 Try.sizeOf133 hcellI (fun _ => rfl) (fun x v hv => by simp [hcellI] at hv; rcases hv with rfl | rfl | rfl <;> rfl) (fun a b : Ent Int => a.cmp b) ent_swo 75 #[] g 0 c es.toArray W eg hcmp hH hlt.2 (by simp; omega)
  have hsz : es.toArray.size = es.length := by simp
  rw [hsz] at hc
  refine Calls.mono hc ?_
  rintro e w' ⟨rfl, d', n, os, h1, h2, rfl⟩
  have hd : d'.toList = ms := sorted_is es.toArray d' ms (by rw [hsz]; exact h1) (by rw [hsz]; exact h2) (by simpa using hp) hs
  have hb2 := sort_below hcellI 3 W g 0 n base d' os hlt.1 hb
  have hds : d'.size = es.toArray.size := by rw [hsz]; exact h1.1
  have hK : Go.Sort.HoldsK hcellI 3 (sortWorldK hcellI 3 W g 0 n d' os) g 0 d' :=
    Go.Sort.holdsK_grow hcellI 3 _ os g 0 d' (by simpa [Go.Sort.putRowK] using hlt.2) (Go.Sort.holdsK_putRowK hcellI 3 (Go.Sort.ahead W n) g 0 es.toArray d' hH hds)
  refine ⟨rfl, hb2, Nat.lt_of_lt_of_le hlt.2 ?_, fun i hi => ?_⟩
  · simp [sortWorldK, Go.Sort.putRowK, Go.Sort.grow]
  have hi' : i < d'.size := by rw [← hd] at hi; simpa using hi
  have hx : d'[i]! = ms[i] := by
    rw [getElem!_pos d' i hi']
    have := List.getElem_of_eq hd (i := i) (by simpa using hi')
    simpa using this
  have hk := fun q (hq : q < 3) => (hK.cell hi' hq).1
  simp only [hx, Nat.zero_add] at hk
  exact ⟨hk 0 (by omega), hk 1 (by omega), hk 2 (by omega)⟩
theorem clones_call (es : List (Ent Int)) (m : Nat) (hm : es.length = m) (base : Nat) (v : Value) (w : World) (ho : w.ownsRow base 133 3 v m (hrowI es)) (h0 : 0 < es.length) (hl : es.length ≤ 4096) :
    Calls Try.prog 73 #[v] w fun e w' => ∃ g c, e = .returned (.slice (some ⟨g, 0, none⟩) m c) ∧ w'.ownsRow w.heap.size 133 3 (.slice (some ⟨g, 0, none⟩) m c) m (hrowI es) ∧ Below w.heap.size w w' := by
  subst hm
  obtain ⟨i0, hi, hz0, hz1, hz2⟩ := info_parts infoHI
  obtain ⟨g, c, rfl, _, hlt⟩ := ho.form h0
  have hc := AnyE.slices_Clone Try.laysClone i0 (.agg #[.int .u64 0, .int .i64 0, .int .u64 0]) 3 24 hi hz0 hz1 hz2 rfl (by decide) Try.sizeOf133 g 0 es.length c (hrowI es) w (hrow_lenI es) (by unfold maxLen; omega) (by omega)
    (fun j u hj => by
      rw [Nat.zero_add]
      have hjl : j < es.length * 3 := by rw [← hrow_lenI]; exact (List.getElem?_eq_some_iff.1 hj).1
      exact (World.ownsRow.cellAt ho j (by omega)).trans hj)
    (fun u hu => by
      unfold hrowI at hu
      obtain ⟨x, _, hx⟩ := List.mem_flatMap.1 hu
      simp [hcellI] at hx
      rcases hx with rfl | rfl | rfl <;> rfl)
  refine Calls.mono hc ?_
  rintro e w' ⟨v', rfl, ho', _, hb⟩
  have ho2 : w'.ownsRow w.heap.size 133 3 v' es.length (hrowI es) := ho'
  obtain ⟨g', c', rfl, _, _⟩ := ho2.form h0
  exact ⟨g', c', rfl, ho2, hb⟩
set_option maxRecDepth 100000 in
set_option maxHeartbeats 2000000 in
theorem allHI {w : World} {base B : Nat} {room pd : Int} {v : Value} {ms : List (Ent Int)} (h : HeapGI w base B room pd v ms) :
    Calls Try.prog 38 #[.pointer (some ⟨B, 0, none⟩)] w fun e w' => ∃ v', e = .returned v' ∧ w'.ownsRow w.heap.size 94 2 v' ms.length ((ms.map kvH).flatMap icellI) ∧ Below w.heap.size w w' := by
  have LN := Lib.hid (lenHI h)
  obtain ⟨es, h1, h2, h3, h4, h5, h6⟩ := h
  have hl3 := h3.length_eq
  rcases Nat.eq_zero_or_pos ms.length with h0 | h0
  · obtain rfl := List.eq_nil_of_length_eq_zero h0
    clear h1 h2 h3 h4 h5 h6 hl3
    go_enter Try.func38, Try.ntmps38
    go_wp2_with fail
    refine LN.out.mono ?_
    rintro e w' ⟨rfl, hw⟩
    have hw := hw.symm
    subst hw
    go_wp2
    go_ret
    exact ⟨_, rfl, World.ownsRow_nil _ _ _ _, Below.refl _ _⟩
  · obtain ⟨i0, hi, hz0, hz1, hz2⟩ := info_parts qinfoI
    have hle := h1.le; have hr1 := h1.r1
    obtain ⟨c0, c1, c2⟩ := h1.cell
    obtain ⟨n, hn⟩ : ∃ n, ms.length = n := ⟨_, rfl⟩
    have CL := Lib.hid (clones_call es n (by omega) base v w (by rw [← hn, ← hl3]; exact h1.own) (by omega) (by omega))
    have SC := Lib.hid (fun (g c : Nat) (W : World) ho hb => sorts_call es ms n (by omega) h3 h4 w.heap.size g c W ho (by omega) hb)
    have n0 : ¬ (n : Int) = 0 := by omega
    have hn4 : n ≤ 4096 := by omega
    have HN := Lib.hid hn
    rw [hn] at LN ⊢
    clear h1 h2 h3 h4 h5 h6 hl3 hle hr1 hn
    go_enter Try.func38, Try.ntmps38
    go_wp2_with fail
    refine LN.out.mono ?_
    rintro e w' ⟨rfl, hw⟩
    have hw := hw.symm
    subst hw
    go_wp2_with fail
    refine CL.out.mono ?_
    rintro e w1 ⟨g, c, rfl, ho1, hb1⟩
    have HO1 := Lib.hid ho1; have HB1 := Lib.hid hb1
    clear ho1 hb1
    go_wp2_with fail
    refine (SC.out g c w1 HO1.out HB1.out.size).mono ?_
    rintro e w2 ⟨rfl, hb2, hg2, hc2⟩
    have HB2 := Lib.hid (HB1.out.trans hb2); have HC2 := Lib.hid hc2
    have hgw := (World.ownsRow.lt HO1.out g rfl).1
    clear hb2 hc2
    go_wp2_with (at_make; go_loud (refine wpList_make_full _ rfl _ _ 68 rfl w.heap.size 94 i0 (.agg #[.int .u64 0, .int .i64 0]) 2 Try.underlying68 hi hz0 hz1 _ _ _ _ n rfl rfl rfl rfl (by rw [hz2]; omega) (by unfold maxLen; omega) HB2.out.size ?_); intro w3 ho3 hg3; have HO3 := Lib.hid ho3; have HG3 := Lib.hid hg3; clear ho3 hg3)
    have hml : ∀ i, i ≤ n → i ≤ ms.length := fun i hi => by rw [HN.out]; exact hi
    have P3 : Hid (w3.ownsRow w.heap.size 94 2 (.slice (some ⟨w2.heap.size, 0, none⟩) n n) n ((qpartI (ms.map kvH) n 0).flatMap icellI)) := by
      have e : (qpartI (ms.map kvH) n 0).flatMap icellI = (madeCells (Value.agg #[.int .u64 0, .int .i64 0]).cells (n * 2)).toList := by
        rw [qmadeI]
        unfold qpartI
        rw [List.take_zero, List.nil_append]
        rfl
      rw [e]; exact Lib.hid HO3.out
    have B3 : Hid (Below w.heap.size w w3) := Lib.hid (HB2.out.trans (((Below.refl _ _).grown HG3.out (Nat.le_refl _) (by simp) : Below w2.heap.size w2 w3).mono HB2.out.size))
    have K3 : Hid (w3.heap[g]? = w2.heap[g]?) := Lib.hid (((Below.refl _ _).grown HG3.out (Nat.le_refl _) (by simp) : Below w2.heap.size w2 w3).block g hg2)
    have HGO : Hid (∃ o, w2.heap[g]? = some o) := Lib.hid ⟨_, Array.getElem?_eq_getElem hg2⟩
    have hgL : g ≠ w2.heap.size := by omega
    have hLw : w.heap.size ≤ w2.heap.size := HB2.out.size
    clear HO3 HG3 CL SC LN
    generalize w2.heap.size = L at *
    go_loopw [22] (fun x wr => ∃ i : Nat, i ≤ n ∧ x = .int .i64 i ∧ wr.ownsRow w.heap.size 94 2 (.slice (some ⟨L, 0, none⟩) n n) n ((qpartI (ms.map kvH) n i).flatMap icellI) ∧ Below w.heap.size w wr ∧ wr.heap[g]? = w2.heap[g]?) (fun x _ => n - (intOf x).toNat)
    case atStart => exact ⟨0, Nat.zero_le _, rfl, P3.out, B3.out, K3.out⟩
    case round =>
      clear P3 B3 K3
      obtain ⟨i, him, rfl, ho, hb, hk⟩ := hrel
      by_cases hlt : i < n
      · obtain ⟨e0, e1, e2⟩ := HC2.out i (by rw [HN.out]; exact hlt)
        have hcell : ∀ o, wr.cell? ⟨g, o, none⟩ = w2.cell? ⟨g, o, none⟩ := fun o => by unfold World.cell?; rw [hk]
        have e0 := (hcell _).trans e0
        have e1 := (hcell _).trans e1
        have e2 := (hcell _).trans e2
        have hkl : (ms.map kvH).length = n := by rw [List.length_map]; exact HN.out
        have hgd : (ms.map kvH).getD i izI = ((ms[i]'(by rw [HN.out]; exact hlt)).rk, (ms[i]'(by rw [HN.out]; exact hlt)).x) := by
          rw [List.getD_eq_getElem?_getD, List.getElem?_map, List.getElem?_eq_getElem (by rw [HN.out]; exact hlt)]; rfl
        have hPl := qpart_lenI (ms.map kvH) n i hkl him
        have hwL : L < wr.heap.size := (World.ownsRow.lt ho L rfl).2
        have hgl : g < wr.heap.size := by
          obtain ⟨o, ho5⟩ := HGO.out
          exact (Array.getElem?_eq_some_iff.1 (hk.trans ho5)).1
        obtain ⟨wa, hwa⟩ : ∃ wa, wr.alloc (.cells #[.int .u64 (ms[i]'(by rw [HN.out]; exact hlt)).rk, .int .i64 (ms[i]'(by rw [HN.out]; exact hlt)).x, .int .u64 (ms[i]'(by rw [HN.out]; exact hlt)).tn] 133) = wa := ⟨_, rfl⟩
        have hoa : wa.ownsRow w.heap.size 94 2 (.slice (some ⟨L, 0, none⟩) n n) n ((qpartI (ms.map kvH) n i).flatMap icellI) := by rw [← hwa]; exact World.ownsRow.alloc ho _
        have hba : Below wr.heap.size wr wa := by rw [← hwa]; exact (Below.refl _ _).alloc (Nat.le_refl _) _
        have b0 : wa.cell? ⟨wr.heap.size, 0, none⟩ = some (.int .u64 (ms[i]'(by rw [HN.out]; exact hlt)).rk) := by rw [← hwa]; simp [go_sem]
        have b1 : wa.cell? ⟨wr.heap.size, 1, none⟩ = some (.int .i64 (ms[i]'(by rw [HN.out]; exact hlt)).x) := by rw [← hwa]; simp [go_sem]
        have hst := row_put (row_put hoa (i * 2) (.int .u64 ((ms.map kvH).getD i izI).1)) (i * 2 + 1) (.int .i64 ((ms.map kvH).getD i izI).2)
        rw [irow_setI _ i ((ms.map kvH).getD i izI) (by omega), qpart_setI _ n i hkl hlt, hgd] at hst
        have ST := Lib.hid hst
        have cd := hoa.cellAt (i * 2) (by omega)
        have cd2 := hoa.cellAt (i * 2 + 1) (by omega)
        obtain ⟨old, hold⟩ : ∃ old, ((qpartI (ms.map kvH) n i).flatMap icellI)[i * 2]? = some old := ⟨_, List.getElem?_eq_getElem (by rw [irow_lenI, hPl]; omega)⟩
        obtain ⟨old2, hold2⟩ : ∃ old, ((qpartI (ms.map kvH) n i).flatMap icellI)[i * 2 + 1]? = some old := ⟨_, List.getElem?_eq_getElem (by rw [irow_lenI, hPl]; omega)⟩
        rw [hold] at cd
        rw [hold2] at cd2
        have fd := hoa.frozenAt (i * 2)
        have fd2 := hoa.frozenAt (i * 2 + 1)
        have i0' : (0 : Int) ≤ (i : Int) := by omega
        have i1' : (i : Int) < (n : Int) := by omega
        have HBA := Lib.hid (hb.trans (hba.mono hb.size))
        have HKA : Hid (wa.heap[g]? = w2.heap[g]?) := Lib.hid ((hba.block g hgl).trans hk)
        clear hst ho hold hold2 hb hPl hoa hba hcell hgd hk
        generalize (ms[i]'(by rw [HN.out]; exact hlt)).rk = rk at *
        generalize (ms[i]'(by rw [HN.out]; exact hlt)).x = xx at *
        generalize (ms[i]'(by rw [HN.out]; exact hlt)).tn = tn at *
        dsimp only at ST
        go_wp2
        go_roundw
        case rel => exact ⟨i + 1, by omega, by go_num, ST.out, below_set (below_set HBA.out hLw) hLw, (Below.heap_setCell _ ⟨L, _, none⟩ _ g hgL).trans ((Below.heap_setCell _ ⟨L, _, none⟩ _ g hgL).trans HKA.out)⟩
        case measure => simp [intOf] <;> omega
      · have e : i = n := by omega
        subst e
        rw [qpart_allI _ _ (by rw [List.length_map]; exact HN.out)] at ho
        go_wp2
        go_ret
        exact ⟨_, rfl, ho, hb⟩
end Go.Proofs.Ytkgiaijcgblpbaa
