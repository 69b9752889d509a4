/-
  The law on operations that are read and put as they stood: true for any bytes. No condition.
-/
import Derived.Test.YtdlcipbehalfhaaOps11
import Derived.Test.YtdlcipbehalfhaaApp0
namespace Go.Proofs.Ytdlcipbehalfhaa
set_option linter.unusedVariables false
set_option linter.unusedSimpArgs false
open Go.ChangeShapes Go.WideShapes Go.ChangeAt Go.RowKit
attribute [-go_sem] run_index_string binOp_string_eql binOp_string_neq run_string_add_if run_slice_string_from_if run_slice_string_to_if
attribute [local go_sem] index_bt add_fits slice_from slice_to eql_str neq_str alloc_drewN setCell_drewN

theorem own_later {W V : World} {base size n : Nat} {e : TypeId} {v : Value} {xs : List Value} (h : W.ownsRow base e size v n xs) (hb : Below W.heap.size W V) : V.ownsRow base e size v n xs :=
  World.ownsRow.kept h (row := some V.heap.size) ⟨hb.os, hb.tape, hb.output, hb.size, fun k hk _ => hb.block k hk⟩ (Or.inr (fun e => by
    have := World.ownsRow.lt h _ e
    have := hb.size
    omega))
theorem ops_one (l : List Opn) : ∀ x ∈ l.flatMap Opn.cells, x.oneCell' = true := fun x hx => by
  obtain ⟨f, _, hx⟩ := List.mem_flatMap.1 hx
  simp only [Opn.cells, List.mem_cons, List.not_mem_nil, or_false] at hx
  rcases hx with rfl | rfl | rfl | rfl | rfl <;> rfl
theorem lit_none (w : World) (base : Nat) (h : base ≤ w.heap.size) : (w.alloc (.cells #[] 30)).ownsRow base 30 5 (.slice (some ⟨w.heap.size, 0, none⟩) 0 0) 0 [] :=
  World.ownsRow_lit (e := 30) (size := 5) (base := base) w #[] 0 h (Nat.zero_le _) rfl
theorem lit_noneG (w : World) (base : Nat) (h : base ≤ w.heap.size) (cs : Array Value) (hc : cs.size = 0) : (w.alloc (.cells cs 30)).ownsRow base 30 5 (.slice (some ⟨w.heap.size, 0, none⟩) 0 0) 0 [] := by
  have : cs = #[] := Array.eq_empty_of_size_eq_zero hc
  subst this
  exact lit_none w base h
theorem SRow.join {w : World} {base : Nat} {v : Value} {l m : List Opn} {n k : Nat} (hl : l.length = n) (hm : m.length = k) (h : w.ownsRow base 30 5 v (n + k) (l.flatMap Opn.cells ++ m.flatMap Opn.cells)) : SRow w v (l ++ m) := by
  subst hl hm
  rw [← List.flatMap_append, ← List.length_append] at h
  exact SRow.of_own h
theorem not_torn {l : List Opn} (h : ∀ x ∈ l, x.right = true ∧ x.ok) (n : Nat) (hn : n < l.length) : ((l.getD n Opn.nil).k == 5) = false := by
  have hm : l.getD n Opn.nil ∈ l := by rw [List.getD_eq_getElem?_getD, List.getElem?_eq_getElem hn]; exact List.getElem_mem _
  rcases Opn.right_cases _ (h _ hm).1 with ⟨f, i, n, e⟩ | e | e | ⟨t, e⟩ | ⟨n, e, _⟩ <;> rw [e] <;> rfl
set_option maxRecDepth 100000 in
set_option maxHeartbeats 8000000 in
theorem only_whole (s t : ByteArray) (hs : s.size ≤ 2000) (ht : t.size ≤ 2000) (hall : ∀ x ∈ oread s, x.right = true ∧ x.ok) (hput : oput (oread s) = s) (w : World) :
    Calls Try.prog 5 #[.string s, .string t] w fun e w' => e = .returned (.bool true) ∧ Below w.heap.size w w' := by
  obtain ⟨i0, hi, hz0, hz1, hz2⟩ := info_parts infoO
  have LV := Lib.hid (fun W => lives25 W)
  have g1 : decide ((2000 : Int) < (s.size : Int)) = false := decide_eq_false (by omega)
  have g2 : decide ((2000 : Int) < (t.size : Int)) = false := decide_eq_false (by omega)
  have RD := Lib.hid (fun W => ops_read s (by omega) W)
  have RT := Lib.hid (fun W => ops_read t (by omega) W)
  have RB := Lib.hid (fun W => ops_read (s ++ t) (by rw [ByteArray.size_append]; omega) W)
  have hls := oread_len s
  have hlt := oread_len t
  have hj : oread (s ++ t) = oread s ++ oread t := by
    have := oread_put (oread s) t hall
    rw [hput] at this
    exact this
  rw [hj] at RB
  clear hj
  have hfit : Fits s t := ⟨by omega⟩
  have NT := Lib.hid (fun n hn => not_torn hall n hn)
  have PW := Lib.hid (fun (W : World) (v : Value) (h : SRow W v (oread s)) => ops_put (oread s) (by omega) (fun x hx => (hall x hx).2) h #[.string s, .int .i64 0] (fun _ => by rw [hput]) (fun x => by
    rw [allR_all _ fun y hy => (hall y hy).1] at x
    cases x))
  obtain ⟨L, hL⟩ : ∃ L, oread s = L := ⟨_, rfl⟩
  obtain ⟨M, hM⟩ : ∃ M, oread t = M := ⟨_, rfl⟩
  rw [hL] at RD RB hls NT PW
  rw [hM] at RT RB hlt
  have SM := Lib.hid (fun (W : World) (v1 v2 : Value) h1 h2 => same25 (w := W) (v1 := v1) (v2 := v2) (l := L ++ M) (by rw [List.length_append]; omega) h1 h2)
  clear hall hput hL hM
  go_enter Try.func5, Try.ntmps5
  go_wp2_with fail
  refine (RD.out _).mono ?_
  rintro e w1 ⟨v1, rfl, ho1, h1⟩
  unfold ORow at ho1
  have HB1 := Lib.hid h1
  clear h1
  have PW1 := Lib.hid (PW.out _ _ (SRow.of_own ho1))
  clear PW
  rcases own_ops ho1 with ⟨rfl, hLn⟩ | ⟨g, cap, rfl, hg, hcap, hcs⟩
  · subst hLn
    have PW2 := Lib.hid (show Calls Try.prog 21 #[.slice (none) 0 0] w1 _ from PW1.out)
    clear PW1 NT
    go_wp2_with fail
    refine (PW2.out).mono ?_
    rintro e w2 ⟨rfl, h2⟩
    have HB2 := Lib.hid (HB1.out.trans (h2.mono HB1.out.size))
    clear h2 ho1
    have OL := Lib.hid (lit_none w2 w.heap.size HB2.out.size)
    go_wp2_with (at_builtin; refine wpList_append_own_zero rfl _ _ 24 rfl w.heap.size 30 i0 5 Try.underlying24 hi _ 0 [] rfl OL.out (none) 0 rfl ?_)
    refine (RT.out _).mono ?_
    rintro e w4 ⟨v2, rfl, ho5, h4⟩
    unfold ORow at ho5
    have HO4 := Lib.hid (own_later OL.out h4)
    have HB4 := Lib.hid ((HB2.out.alloc HB2.out.size _).trans (h4.mono (by have := HB2.out.size; simp; omega)))
    clear h4 OL
    rcases own_ops ho5 with ⟨rfl, hMn⟩ | ⟨g2, cap2, rfl, hg2, hcap2, -⟩
    · subst hMn
      go_wp2_with (at_builtin; refine wpList_append_own_zero rfl _ _ 24 rfl w.heap.size 30 i0 5 Try.underlying24 hi _ 0 _ rfl HO4.out none 0 rfl ?_)
      have HB5 := HB4
      have SJ := Lib.hid (SRow.of_own (l := []) (by exact HO4.out))
      rw [List.append_nil] at SM RB
      refine (RB.out _).mono ?_
      rintro e w6 ⟨v6, rfl, ho6, h6⟩
      have S6 := Lib.hid (SRow.of_own ho6)
      have S7 := Lib.hid (SJ.out.later h6)
      have HB6 := Lib.hid (HB5.out.trans (h6.mono HB5.out.size))
      clear h6 ho6
      go_wp2_with fail
      refine (SM.out _ _ _ S6.out S7.out).mono ?_
      rintro e w7 ⟨rfl, h7⟩
      have HB7 := Lib.hid (HB6.out.trans (h7.mono HB6.out.size))
      clear h7
      go_wp2_with fail
      refine (LV.out _).mono ?_
      rintro e w9 ⟨rfl, h9⟩
      go_wp2
      go_ret
      exact ⟨rfl, HB7.out.trans (h9.mono HB7.out.size)⟩
    · have GC2 := Lib.hid (World.ownsRow.cells ho5 (g := g2) rfl)
      obtain ⟨K, hK⟩ : ∃ K, M.length = K := ⟨_, rfl⟩
      have hxl2 : (M.flatMap Opn.cells).length = K * 5 := by rw [← hK]; exact ho5.1
      have HXL2 := Lib.hid hxl2
      rw [hK] at hcap2 hlt ⊢
      have HK := Lib.hid hK
      clear hK hxl2 ho5
      go_wp2_with (at_builtin; refine wpList_append_own _ rfl _ _ 24 rfl w.heap.size 30 i0 (.agg #[.int .i64 0, .int .u32 0, .int .u32 0, .int .u64 0, .int .u64 0]) 5 32 Try.underlying24 hi hz0 hz1 hz2 rfl (by decide) _ 0 _ rfl HO4.out ⟨g2, 0, none⟩ K cap2 (M.flatMap Opn.cells) rfl HXL2.out GC2.out (ops_one M) (by unfold maxLen; omega) (by omega) (by have := HB4.out.size; omega) ?_; intro v'' w5 hown'' hgrow5 hnil5; clear hnil5)
      have HB5 := Lib.hid (HB4.out.grown hgrow5 (by have := HB4.out.size; omega) (fun g hg => (World.ownsRow.lt HO4.out g hg).1))
      have SJ := Lib.hid (SRow.join (l := []) (m := M) rfl HK.out hown'')
      refine (RB.out _).mono ?_
      rintro e w6 ⟨v6, rfl, ho6, h6⟩
      have S6 := Lib.hid (SRow.of_own ho6)
      have S7 := Lib.hid (SJ.out.later h6)
      have HB6 := Lib.hid (HB5.out.trans (h6.mono HB5.out.size))
      clear h6 ho6
      go_wp2_with fail
      refine (SM.out _ _ _ S6.out S7.out).mono ?_
      rintro e w7 ⟨rfl, h7⟩
      have HB7 := Lib.hid (HB6.out.trans (h7.mono HB6.out.size))
      clear h7
      go_wp2_with fail
      refine (LV.out _).mono ?_
      rintro e w9 ⟨rfl, h9⟩
      go_wp2
      go_ret
      exact ⟨rfl, HB7.out.trans (h9.mono HB7.out.size)⟩
  · by_cases hL0 : 0 < L.length
    · obtain ⟨N, hN⟩ : ∃ N, L.length = N := ⟨_, rfl⟩
      have hxl : (L.flatMap Opn.cells).length = N * 5 := by rw [← hN]; exact ho1.1
      have HXL := Lib.hid hxl
      have HO1 := Lib.hid (show w1.ownsRow w.heap.size 30 5 (.slice (some ⟨g, 0, none⟩) N cap) N (L.flatMap Opn.cells) by rw [← hN]; exact ho1)
      rw [hN] at hcap hls PW1 ⊢
      have HN := Lib.hid hN
      have hN0 : 0 < N := by rw [← hN]; exact hL0
      obtain ⟨ck, -⟩ := hcs (N - 1) (by rw [hN]; omega)
      have hnt := NT.out (N - 1) (by rw [hN]; omega)
      obtain ⟨kk, hkk⟩ : ∃ kk, (L.getD (N - 1) Opn.nil).k = kk := ⟨_, rfl⟩
      rw [hkk] at ck hnt
      have ck : w1.cell? ⟨g, (N - 1) * 5, none⟩ = some (.int .i64 kk) := by
        have e : 0 + (N - 1) * 5 = (N - 1) * 5 := by omega
        rw [e] at ck
        exact ck
      obtain ⟨N1, hN1⟩ : ∃ N1, N = N1 + 1 := ⟨N - 1, by omega⟩
      subst hN1
      have eN : N1 + 1 - 1 = N1 := by omega
      rw [eN] at ck
      clear hN hxl ho1 hcs hkk NT eN hL0
      go_wp2_with fail
      refine (PW1.out).mono ?_
      rintro e w2 ⟨rfl, h2⟩
      have HB2 := Lib.hid (HB1.out.trans (h2.mono HB1.out.size))
      have HO2 := Lib.hid (own_later HO1.out h2)
      clear h2 ck
      have OL := Lib.hid (lit_none w2 w.heap.size HB2.out.size)
      have GC := Lib.hid (World.ownsRow.cells (World.ownsRow.alloc HO2.out (.cells #[] 30)) (g := g) rfl)
      go_wp2_with (at_builtin; refine wpList_append_own _ rfl _ _ 24 rfl w.heap.size 30 i0 (.agg #[.int .i64 0, .int .u32 0, .int .u32 0, .int .u64 0, .int .u64 0]) 5 32 Try.underlying24 hi hz0 hz1 hz2 rfl (by decide) _ 0 [] rfl OL.out ⟨g, 0, none⟩ (N1 + 1) cap (L.flatMap Opn.cells) rfl HXL.out GC.out (ops_one L) (by unfold maxLen; omega) (by omega) (by have := HB2.out.size; simp; omega) ?_; intro v' w3 hown' hgrow3 hnil3; clear hnil3)
      refine (RT.out _).mono ?_
      rintro e w4 ⟨v2, rfl, ho5, h4⟩
      unfold ORow at ho5
      have hown3 : w3.ownsRow w.heap.size 30 5 v' (N1 + 1) (L.flatMap Opn.cells) := by
        have e : 0 + (N1 + 1) = N1 + 1 := Nat.zero_add _
        rw [e] at hown'
        exact hown'
      have HO4 := Lib.hid (own_later hown3 h4)
      have HB3 := Lib.hid ((HB2.out.alloc HB2.out.size _).grown hgrow3 (by have := HB2.out.size; simp; omega) (fun g hg => (World.ownsRow.lt OL.out g hg).1))
      have HB4 := Lib.hid (HB3.out.trans (h4.mono HB3.out.size))
      clear h4 OL hown3 hown' hgrow3 GC
      rcases own_ops ho5 with ⟨rfl, hMn⟩ | ⟨g2, cap2, rfl, hg2, hcap2, -⟩
      · subst hMn
        go_wp2_with (at_builtin; refine wpList_append_own_zero rfl _ _ 24 rfl w.heap.size 30 i0 5 Try.underlying24 hi _ (N1 + 1) _ rfl HO4.out none 0 rfl ?_)
        have HB5 := HB4
        have SJ := Lib.hid (SRow.of_own (l := L) (by rw [HN.out]; exact HO4.out))
        rw [List.append_nil] at SM RB
        refine (RB.out _).mono ?_
        rintro e w6 ⟨v6, rfl, ho6, h6⟩
        have S6 := Lib.hid (SRow.of_own ho6)
        have S7 := Lib.hid (SJ.out.later h6)
        have HB6 := Lib.hid (HB5.out.trans (h6.mono HB5.out.size))
        clear h6 ho6
        go_wp2_with fail
        refine (SM.out _ _ _ S6.out S7.out).mono ?_
        rintro e w7 ⟨rfl, h7⟩
        have HB7 := Lib.hid (HB6.out.trans (h7.mono HB6.out.size))
        clear h7
        go_wp2_with fail
        refine (LV.out _).mono ?_
        rintro e w9 ⟨rfl, h9⟩
        go_wp2
        go_ret
        exact ⟨rfl, HB7.out.trans (h9.mono HB7.out.size)⟩
      · have GC2 := Lib.hid (World.ownsRow.cells ho5 (g := g2) rfl)
        obtain ⟨K, hK⟩ : ∃ K, M.length = K := ⟨_, rfl⟩
        have hxl2 : (M.flatMap Opn.cells).length = K * 5 := by rw [← hK]; exact ho5.1
        have HXL2 := Lib.hid hxl2
        rw [hK] at hcap2 hlt ⊢
        have HK := Lib.hid hK
        clear hK hxl2 ho5
        go_wp2_with (at_builtin; refine wpList_append_own _ rfl _ _ 24 rfl w.heap.size 30 i0 (.agg #[.int .i64 0, .int .u32 0, .int .u32 0, .int .u64 0, .int .u64 0]) 5 32 Try.underlying24 hi hz0 hz1 hz2 rfl (by decide) _ (N1 + 1) _ rfl HO4.out ⟨g2, 0, none⟩ K cap2 (M.flatMap Opn.cells) rfl HXL2.out GC2.out (ops_one M) (by unfold maxLen; omega) (by omega) (by have := HB4.out.size; omega) ?_; intro v'' w5 hown'' hgrow5 hnil5; clear hnil5)
        have HB5 := Lib.hid (HB4.out.grown hgrow5 (by have := HB4.out.size; omega) (fun g hg => (World.ownsRow.lt HO4.out g hg).1))
        have SJ := Lib.hid (SRow.join (l := L) (m := M) HN.out HK.out hown'')
        refine (RB.out _).mono ?_
        rintro e w6 ⟨v6, rfl, ho6, h6⟩
        have S6 := Lib.hid (SRow.of_own ho6)
        have S7 := Lib.hid (SJ.out.later h6)
        have HB6 := Lib.hid (HB5.out.trans (h6.mono HB5.out.size))
        clear h6 ho6
        go_wp2_with fail
        refine (SM.out _ _ _ S6.out S7.out).mono ?_
        rintro e w7 ⟨rfl, h7⟩
        have HB7 := Lib.hid (HB6.out.trans (h7.mono HB6.out.size))
        clear h7
        go_wp2_with fail
        refine (LV.out _).mono ?_
        rintro e w9 ⟨rfl, h9⟩
        go_wp2
        go_ret
        exact ⟨rfl, HB7.out.trans (h9.mono HB7.out.size)⟩
    · have hLn : L = [] := List.length_eq_zero_iff.1 (by omega)
      clear hcs hL0
      subst hLn
      have hl0 : ([] : List Opn).length = 0 := rfl
      rw [hl0] at hcap ho1 ⊢
      have PW2 := Lib.hid (show Calls Try.prog 21 #[.slice (some ⟨g, 0, none⟩) 0 cap] w1 _ from PW1.out)
      clear PW1 NT
      go_wp2_with fail
      refine (PW2.out).mono ?_
      rintro e w2 ⟨rfl, h2⟩
      have HB2 := Lib.hid (HB1.out.trans (h2.mono HB1.out.size))
      clear h2 ho1
      have OL := Lib.hid (lit_none w2 w.heap.size HB2.out.size)
      go_wp2_with (at_builtin; refine wpList_append_own_zero rfl _ _ 24 rfl w.heap.size 30 i0 5 Try.underlying24 hi _ 0 [] rfl OL.out (some ⟨g, 0, none⟩) cap rfl ?_)
      refine (RT.out _).mono ?_
      rintro e w4 ⟨v2, rfl, ho5, h4⟩
      unfold ORow at ho5
      have HO4 := Lib.hid (own_later OL.out h4)
      have HB4 := Lib.hid ((HB2.out.alloc HB2.out.size _).trans (h4.mono (by have := HB2.out.size; simp; omega)))
      clear h4 OL
      rcases own_ops ho5 with ⟨rfl, hMn⟩ | ⟨g2, cap2, rfl, hg2, hcap2, -⟩
      · subst hMn
        go_wp2_with (at_builtin; refine wpList_append_own_zero rfl _ _ 24 rfl w.heap.size 30 i0 5 Try.underlying24 hi _ 0 _ rfl HO4.out none 0 rfl ?_)
        have HB5 := HB4
        have SJ := Lib.hid (SRow.of_own (l := []) (by exact HO4.out))
        rw [List.append_nil] at SM RB
        refine (RB.out _).mono ?_
        rintro e w6 ⟨v6, rfl, ho6, h6⟩
        have S6 := Lib.hid (SRow.of_own ho6)
        have S7 := Lib.hid (SJ.out.later h6)
        have HB6 := Lib.hid (HB5.out.trans (h6.mono HB5.out.size))
        clear h6 ho6
        go_wp2_with fail
        refine (SM.out _ _ _ S6.out S7.out).mono ?_
        rintro e w7 ⟨rfl, h7⟩
        have HB7 := Lib.hid (HB6.out.trans (h7.mono HB6.out.size))
        clear h7
        go_wp2_with fail
        refine (LV.out _).mono ?_
        rintro e w9 ⟨rfl, h9⟩
        go_wp2
        go_ret
        exact ⟨rfl, HB7.out.trans (h9.mono HB7.out.size)⟩
      · have GC2 := Lib.hid (World.ownsRow.cells ho5 (g := g2) rfl)
        obtain ⟨K, hK⟩ : ∃ K, M.length = K := ⟨_, rfl⟩
        have hxl2 : (M.flatMap Opn.cells).length = K * 5 := by rw [← hK]; exact ho5.1
        have HXL2 := Lib.hid hxl2
        rw [hK] at hcap2 hlt ⊢
        have HK := Lib.hid hK
        clear hK hxl2 ho5
        go_wp2_with (at_builtin; refine wpList_append_own _ rfl _ _ 24 rfl w.heap.size 30 i0 (.agg #[.int .i64 0, .int .u32 0, .int .u32 0, .int .u64 0, .int .u64 0]) 5 32 Try.underlying24 hi hz0 hz1 hz2 rfl (by decide) _ 0 _ rfl HO4.out ⟨g2, 0, none⟩ K cap2 (M.flatMap Opn.cells) rfl HXL2.out GC2.out (ops_one M) (by unfold maxLen; omega) (by omega) (by have := HB4.out.size; omega) ?_; intro v'' w5 hown'' hgrow5 hnil5; clear hnil5)
        have HB5 := Lib.hid (HB4.out.grown hgrow5 (by have := HB4.out.size; omega) (fun g hg => (World.ownsRow.lt HO4.out g hg).1))
        have SJ := Lib.hid (SRow.join (l := []) (m := M) rfl HK.out hown'')
        refine (RB.out _).mono ?_
        rintro e w6 ⟨v6, rfl, ho6, h6⟩
        have S6 := Lib.hid (SRow.of_own ho6)
        have S7 := Lib.hid (SJ.out.later h6)
        have HB6 := Lib.hid (HB5.out.trans (h6.mono HB5.out.size))
        clear h6 ho6
        go_wp2_with fail
        refine (SM.out _ _ _ S6.out S7.out).mono ?_
        rintro e w7 ⟨rfl, h7⟩
        have HB7 := Lib.hid (HB6.out.trans (h7.mono HB6.out.size))
        clear h7
        go_wp2_with fail
        refine (LV.out _).mono ?_
        rintro e w9 ⟨rfl, h9⟩
        go_wp2
        go_ret
        exact ⟨rfl, HB7.out.trans (h9.mono HB7.out.size)⟩
end Go.Proofs.Ytdlcipbehalfhaa
