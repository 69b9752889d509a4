/-
  A pool with what holds of its lists: each thing that is done with it, in one word. No block turns but the pool's own. No condition but that the pool is one that New made.
-/
import Derived.Test.YtmkgadndfiiacaaPoolInv
namespace Go.Proofs.Ytmkgadndfiiacaa
set_option linter.unusedVariables false
set_option linter.unusedSimpArgs false
open Go.ChangeShapes Go.WideShapes Go.ChangeAt Go.RowKit
attribute [local go_sem] alloc_drewN setCell_drewN

theorem take_fullP {w : World} {base B : Nat} {most : Int} {ve vf vq : Value} {es : List EntI} {fr : List Int} {qs : List (Int × Int × Int)} (h : PoolAtI w base B most ve vf vq es fr qs) (hl : ((es.length - fr.length : Nat) : Int) = most) (x : Int) :
    Calls Try.prog 109 #[.pointer (some ⟨B, 0, none⟩), .int .i64 x] w fun e w' => e = .returned (.tuple #[.int .i64 0, .bool false]) ∧ ∃ n, w' = w.drewN n := by
  have MD := Lib.hid (fun n => madePI (h.drewN n))
  have LN := Lib.hid (fun n => lenPI (h.drewN n))
  rw [hl] at LN
  obtain ⟨c0, c1, c2, c3⟩ := h.cell
  clear h hl
  go_enter Try.func109, Try.ntmps109
  go_wp2
  go_quiet ((first | (go_at_call 117; exact Calls.quiet_of_same (MD.out _)) | (go_at_call 59; exact Calls.quiet_of (LN.out _))))
  go_wp2
  go_ret2
  exact ⟨rfl, _, rfl⟩
theorem new_noP (most q : Int) (h : most < 1 ∨ 4096 < most ∨ q < 0 ∨ 262144 < q) (w : World) :
    Calls Try.prog 56 #[.int .i64 most, .int .i64 q] w fun e w' => e = .returned (.tuple #[.pointer none, .int .i64 6]) ∧ w = w' := by
  have h' : most < 1 ∨ (¬ most < 1 ∧ 4096 < most) ∨ (¬ most < 1 ∧ ¬ 4096 < most ∧ q < 0) ∨ (¬ most < 1 ∧ ¬ 4096 < most ∧ ¬ q < 0 ∧ 262144 < q) := by omega
  clear h
  rcases h' with h | ⟨h1, h2⟩ | ⟨h1, h2, h3⟩ | ⟨h1, h2, h3, h4⟩
  all_goals
    go_enter Try.func56, Try.ntmps56
    go_wp2
    go_ret2
    exact ⟨rfl, rfl⟩
/-- A pool with what holds of its lists. -/
structure PoolG (w : World) (base B : Nat) (most : Int) (ve vf vq : Value) (es : List EntI) (fr : List Int) (qs : List (Int × Int × Int)) (Ls : List (List Int)) : Prop where
  mem : PoolAtI w base B most ve vf vq es fr qs
  inv : PInv es fr qs Ls
theorem PoolG.drewN {w : World} {base B : Nat} {most : Int} {ve vf vq : Value} {es : List EntI} {fr : List Int} {qs : List (Int × Int × Int)} {Ls : List (List Int)} (h : PoolG w base B most ve vf vq es fr qs Ls) (n : Nat) : PoolG (w.drewN n) base B most ve vf vq es fr qs Ls := ⟨h.mem.drewN n, h.inv⟩
/-- What a handle is taken as. -/
def Took (es : List EntI) (fr : List Int) (x : Int) (k : Nat) (es' : List EntI) (fr' : List Int) : Prop :=
  (fr = [] ∧ k = es.length ∧ es' = es ++ [⟨x, true, false, 0⟩] ∧ fr' = []) ∨ (fr = fr' ++ [(k : Int)] ∧ es' = es.set k ⟨x, true, false, 0⟩)
theorem takeG {w : World} {base B : Nat} {most : Int} {ve vf vq : Value} {es : List EntI} {fr : List Int} {qs : List (Int × Int × Int)} {Ls : List (List Int)} (h : PoolG w base B most ve vf vq es fr qs Ls) (x : Int) (hbase : base ≤ w.heap.size) :
    Calls Try.prog 109 #[.pointer (some ⟨B, 0, none⟩), .int .i64 x] w fun e w' => ∃ (a : Int) (d : Bool), e = .returned (.tuple #[.int .i64 a, .bool d]) ∧
      ((d = false ∧ a = 0 ∧ ((es.length - fr.length : Nat) : Int) = most ∧ ∃ n, w' = w.drewN n) ∨
       (d = true ∧ ((es.length - fr.length : Nat) : Int) < most ∧ ∃ k : Nat, a = k ∧ ∃ ve' vf' es' fr', Took es fr x k es' fr' ∧ PoolG w' base B most ve' vf' vq es' fr' qs Ls ∧ MvS w w' (inP B ve vf vq) (inP B ve' vf' vq))) := by
  have hm := h.mem
  have h1 := hm.le; have h2 := hm.lf
  by_cases hfull : ((es.length - fr.length : Nat) : Int) = most
  · refine (take_fullP hm hfull x).mono ?_
    rintro e w' ⟨rfl, hw⟩
    exact ⟨0, false, rfl, Or.inl ⟨rfl, rfl, hfull, hw⟩⟩
  · have hlt : ((es.length - fr.length : Nat) : Int) < most := by omega
    rcases List.eq_nil_or_concat fr with hf | ⟨fs, y, hf⟩
    · subst hf
      refine (take_newPI hm (by simpa using hlt) x hbase).mono ?_
      rintro e w' ⟨rfl, ve', p, m⟩
      exact ⟨_, true, rfl, Or.inr ⟨rfl, hlt, es.length, rfl, ve', vf, _, [], Or.inl ⟨rfl, rfl, rfl, rfl⟩, ⟨p, h.inv.takeNew x⟩, m⟩⟩
    · have hf' : fr = fs ++ [y] := by simpa using hf
      subst hf'
      obtain ⟨k, rfl⟩ := Int.eq_ofNat_of_zero_le (hm.fi y (by simp)).1
      refine (take_freePI hm x).mono ?_
      rintro e w' ⟨rfl, vf', p, m⟩
      exact ⟨_, true, rfl, Or.inr ⟨rfl, hlt, k, rfl, ve, vf', _, fs, Or.inr ⟨rfl, rfl⟩, ⟨p, h.inv.takeFree x⟩, m⟩⟩
theorem giveG {w : World} {base B : Nat} {most : Int} {ve vf vq : Value} {es : List EntI} {fr : List Int} {qs : List (Int × Int × Int)} {Ls : List (List Int)} (h : PoolG w base B most ve vf vq es fr qs Ls) (x : Int) (hbase : base ≤ w.heap.size) :
    Calls Try.prog 111 #[.pointer (some ⟨B, 0, none⟩), .int .i64 x] w fun e w' => ∃ (a c : Int), e = .returned (.tuple #[.int .i64 a, .int .i64 c]) ∧
      ((c = 7 ∧ a = 0 ∧ tkOfI es x = false ∧ w' = w) ∨ (c = 9 ∧ a = 0 ∧ tkOfI es x = true ∧ x ∈ Ls.flatten ∧ w' = w) ∨
       (c = 0 ∧ x ∉ Ls.flatten ∧ ∃ k : Nat, x = k ∧ ∃ hk : k < es.length, (es[k]).tk = true ∧ a = (es[k]).x ∧ ∃ vf', PoolG w' base B most ve vf' vq (es.set k ⟨0, false, false, 0⟩) (fr ++ [(k : Int)]) qs Ls ∧ MvS w w' (inP B ve vf vq) (inP B ve vf' vq))) := by
  have hm := h.mem
  cases ht : tkOfI es x with
  | false =>
    refine (give_nonePI hm x ht).mono ?_
    rintro e w' ⟨rfl, hw⟩
    exact ⟨0, 7, rfl, Or.inl ⟨rfl, rfl, rfl, hw⟩⟩
  | true =>
    obtain ⟨k, rfl, hk, htk⟩ := tkOf_trueI ht
    cases hq : (es[k]).qd with
    | true =>
      refine (give_statePI hm k hk htk hq).mono ?_
      rintro e w' ⟨rfl, hw⟩
      exact ⟨0, 9, rfl, Or.inr (Or.inl ⟨rfl, rfl, rfl, (h.inv.qm k hk).1 hq, hw⟩)⟩
    | false =>
      refine (give_okPI hm k hk htk hq (h.inv.free_lt k hk htk) hbase).mono ?_
      rintro e w' ⟨rfl, vf', p, m⟩
      exact ⟨_, 0, rfl, Or.inr (Or.inr ⟨rfl, (fun hx => by rw [(h.inv.qm k hk).2 hx] at hq; cases hq), k, rfl, hk, htk, rfl, vf', ⟨p, h.inv.give hk htk hq⟩, m⟩)⟩
theorem PInv.count_lt {es : List EntI} {fr : List Int} {qs : List (Int × Int × Int)} {Ls : List (List Int)} (h : PInv es fr qs Ls) (j : Nat) (hj' : j < Ls.length) : (Ls[j]).length ≤ es.length := by
  obtain ⟨A, C, hLs, hA, hset⟩ := flat_split Ls j hj'
  have hfl : Ls.flatten = A.flatten ++ (Ls[j] ++ C.flatten) := by
    conv => lhs; rw [hLs]
    simp
  have hn := h.qn
  rw [hfl, List.nodup_append] at hn
  exact nodup_bound es.length Ls[j] (List.nodup_append.1 hn.2.1).1 (fun x hx => by
    obtain ⟨i, rfl, hi, _⟩ := h.qt x (h.mem_flat hj' hx)
    omega)
theorem popG {w : World} {base B : Nat} {most : Int} {ve vf vq : Value} {es : List EntI} {fr : List Int} {qs : List (Int × Int × Int)} {Ls : List (List Int)} (h : PoolG w base B most ve vf vq es fr qs Ls) (x : Int) :
    Calls Try.prog 115 #[.pointer (some ⟨B, 0, none⟩), .int .i64 x] w fun e w' => ∃ (a : Int) (d : Bool), e = .returned (.tuple #[.int .i64 a, .bool d]) ∧
      ((d = false ∧ a = 0 ∧ ((x < 0 ∨ (qs.length : Int) ≤ x) ∨ ∃ j : Nat, x = j ∧ ∃ hj : j < Ls.length, Ls[j] = []) ∧ ∃ n, w' = w.drewN n) ∨
       (d = true ∧ ∃ j : Nat, x = j ∧ ∃ (hj : j < qs.length) (hj' : j < Ls.length), ∃ (k : Nat) (rest : List Int), a = k ∧ Ls[j] = (k : Int) :: rest ∧ ∃ hk : k < es.length, PoolG w' base B most ve vf vq (es.set k ⟨(es[k]).x, (es[k]).tk, false, (es[k]).nx⟩) fr (qs.set j ((es[k]).nx, (qs[j]).2.1, (qs[j]).2.2 - 1)) (Ls.set j rest) ∧ MvS w w' (inP B ve vf vq) (inP B ve vf vq))) := by
  have hm := h.mem
  by_cases hx : x < 0 ∨ (qs.length : Int) ≤ x
  · refine (popP_noneI hm x (Or.inl hx)).mono ?_
    rintro e w' ⟨rfl, hw⟩
    exact ⟨0, false, rfl, Or.inl ⟨rfl, rfl, Or.inl hx, hw⟩⟩
  · obtain ⟨j, rfl⟩ := Int.eq_ofNat_of_zero_le (show 0 ≤ x by omega)
    have hj : j < qs.length := by omega
    have hj' : j < Ls.length := by rw [h.inv.ll]; exact hj
    obtain ⟨c1, c2, c3⟩ := h.inv.qc j hj hj'
    have hcl := h.inv.count_lt j hj'
    cases hL : Ls[j] with
    | nil =>
      refine (popP_noneI hm j (Or.inr ⟨j, rfl, hj, by rw [c1, hL]; rfl⟩)).mono ?_
      rintro e w' ⟨rfl, hw⟩
      exact ⟨0, false, rfl, Or.inl ⟨rfl, rfl, Or.inr ⟨j, rfl, hj', hL⟩, hw⟩⟩
    | cons y rest =>
      rw [hL] at c1 c2 hcl
      obtain ⟨k, rfl, hk, _⟩ := h.inv.qt y (h.inv.mem_flat hj' (by rw [hL]; simp))
      rw [List.length_cons] at c1 c2 hcl
      rw [chainI_succ] at c2
      injection c2 with c4 c5
      have h1 := hm.le; have h2 := hm.m1
      refine (popP_someI hm j hj (by omega) (by omega) k hk c4.symm).mono ?_
      rintro e w' ⟨rfl, p, m⟩
      exact ⟨k, true, rfl, Or.inr ⟨rfl, j, rfl, hj, hj', k, rest, rfl, hL, hk, ⟨p, h.inv.pop j hj hj' k hk rest hL⟩, m⟩⟩
theorem appendG {w : World} {base B : Nat} {most : Int} {ve vf vq : Value} {es : List EntI} {fr : List Int} {qs : List (Int × Int × Int)} {Ls : List (List Int)} (h : PoolG w base B most ve vf vq es fr qs Ls) (x y : Int) :
    Calls Try.prog 113 #[.pointer (some ⟨B, 0, none⟩), .int .i64 x, .int .i64 y] w fun e w' => ∃ c : Int, e = .returned (.int .i64 c) ∧
      ((c = 6 ∧ (x < 0 ∨ (qs.length : Int) ≤ x) ∧ w' = w) ∨
       ∃ j : Nat, x = j ∧ ∃ (hj : j < qs.length) (hj' : j < Ls.length),
        ((c = 7 ∧ tkOfI es y = false ∧ w' = w) ∨ (c = 8 ∧ tkOfI es y = true ∧ y ∈ Ls.flatten ∧ w' = w) ∨
         (c = 0 ∧ tkOfI es y = true ∧ y ∉ Ls.flatten ∧ ∃ es' qs', PoolG w' base B most ve vf vq es' fr qs' (Ls.set j (Ls[j] ++ [y])) ∧ qs'.length = qs.length ∧ es'.length = es.length ∧ (∀ i (hi : i < es.length) (hi' : i < es'.length), (es'[i]).x = (es[i]).x ∧ (es'[i]).tk = (es[i]).tk) ∧ MvS w w' (inP B ve vf vq) (inP B ve vf vq)))) := by
  have hm := h.mem
  by_cases hx : x < 0 ∨ (qs.length : Int) ≤ x
  · refine (append_argPI hm x y hx).mono ?_
    rintro e w' ⟨rfl, hw⟩
    exact ⟨6, rfl, Or.inl ⟨rfl, hx, hw⟩⟩
  · obtain ⟨j, rfl⟩ := Int.eq_ofNat_of_zero_le (show 0 ≤ x by omega)
    have hj : j < qs.length := by omega
    have hj' : j < Ls.length := by rw [h.inv.ll]; exact hj
    cases ht : tkOfI es y with
    | false =>
      refine (append_nonePI hm j hj y ht).mono ?_
      rintro e w' ⟨rfl, hw⟩
      exact ⟨7, rfl, Or.inr ⟨j, rfl, hj, hj', Or.inl ⟨rfl, rfl, hw⟩⟩⟩
    | true =>
      obtain ⟨k, rfl, hk, htk⟩ := tkOf_trueI ht
      cases hq : (es[k]).qd with
      | true =>
        refine (append_therePI hm j hj k hk htk hq).mono ?_
        rintro e w' ⟨rfl, hw⟩
        exact ⟨8, rfl, Or.inr ⟨j, rfl, hj, hj', Or.inr (Or.inl ⟨rfl, rfl, (h.inv.qm k hk).1 hq, hw⟩)⟩⟩
      | false =>
        have hkn : (k : Int) ∉ Ls.flatten := fun hx => by rw [(h.inv.qm k hk).2 hx] at hq; cases hq
        obtain ⟨c1, c2, c3⟩ := h.inv.qc j hj hj'
        have hcl := h.inv.count_lt j hj'
        have h1 := hm.le; have h2 := hm.m1
        by_cases hL : Ls[j] = []
        · refine (append_firstPI hm j hj k hk htk hq (by rw [c1, hL]; rfl)).mono ?_
          rintro e w' ⟨rfl, p, m⟩
          refine ⟨0, rfl, Or.inr ⟨j, rfl, hj, hj', Or.inr (Or.inr ⟨rfl, rfl, hkn, _, _, ⟨p, by rw [hL]; exact h.inv.appFirst j hj hj' k hk htk hq hL⟩, by rw [List.length_set], by rw [List.length_set], fun i hi hi' => ?_, m⟩)⟩⟩
          by_cases hik : k = i
          · subst hik; rw [List.getElem_set_self]; exact ⟨rfl, rfl⟩
          · rw [List.getElem_set_ne hik]; exact ⟨rfl, rfl⟩
        · have hla := c3 hL
          have hlm : (qs[j]).2.1 ∈ Ls[j] := List.mem_of_getLast? hla
          obtain ⟨l, hle, hl, _⟩ := h.inv.qt _ (h.inv.mem_flat hj' hlm)
          have hlk : l ≠ k := fun e => hkn (by rw [← e, ← hle]; exact h.inv.mem_flat hj' hlm)
          have hpos : 0 < (Ls[j]).length := List.length_pos_of_mem hlm
          refine (append_nextPI hm j hj k hk htk hq (by omega) (by omega) l hl hlk hle).mono ?_
          rintro e w' ⟨rfl, p, m⟩
          refine ⟨0, rfl, Or.inr ⟨j, rfl, hj, hj', Or.inr (Or.inr ⟨rfl, rfl, hkn, _, _, ⟨p, h.inv.appNext j hj hj' k hk htk hq l hl hlk (by rw [hla, hle])⟩, by rw [List.length_set], by rw [List.length_set, List.length_set], fun i hi hi' => ?_, m⟩)⟩⟩
          by_cases hik : k = i
          · subst hik; rw [List.getElem_set_self]; exact ⟨rfl, rfl⟩
          · rw [List.getElem_set_ne hik]
            by_cases hil : l = i
            · subst hil; rw [List.getElem_set_self]; exact ⟨rfl, rfl⟩
            · rw [List.getElem_set_ne hil]; exact ⟨rfl, rfl⟩
theorem getG {w : World} {base B : Nat} {most : Int} {ve vf vq : Value} {es : List EntI} {fr : List Int} {qs : List (Int × Int × Int)} {Ls : List (List Int)} (h : PoolG w base B most ve vf vq es fr qs Ls) (x : Int) :
    Calls Try.prog 60 #[.pointer (some ⟨B, 0, none⟩), .int .i64 x] w fun e w' => ∃ (a : Int) (d : Bool), e = .returned (.tuple #[.int .i64 a, .bool d]) ∧ w' = w ∧ d = tkOfI es x ∧
      ((d = false ∧ a = 0) ∨ (d = true ∧ ∃ k : Nat, x = k ∧ ∃ hk : k < es.length, a = (es[k]).x)) := by
  have hm := h.mem
  cases ht : tkOfI es x with
  | false =>
    refine (getP_noI hm x ht).mono ?_
    rintro e w' ⟨rfl, hw⟩
    exact ⟨0, false, rfl, hw, rfl, Or.inl ⟨rfl, rfl⟩⟩
  | true =>
    obtain ⟨k, rfl, hk, htk⟩ := tkOf_trueI ht
    refine (getP_inI hm k hk htk).mono ?_
    rintro e w' ⟨rfl, hw⟩
    exact ⟨_, true, rfl, hw, rfl, Or.inr ⟨rfl, k, rfl, hk, rfl⟩⟩
/-- What stands in a queue; nothing in one that there is not. -/
def inQ (Ls : List (List Int)) (x : Int) : List Int := if 0 ≤ x then Ls.getD x.toNat [] else []
theorem queueG {w : World} {base B : Nat} {most : Int} {ve vf vq : Value} {es : List EntI} {fr : List Int} {qs : List (Int × Int × Int)} {Ls : List (List Int)} (h : PoolG w base B most ve vf vq es fr qs Ls) (x : Int) :
    Calls Try.prog 65 #[.pointer (some ⟨B, 0, none⟩), .int .i64 x] w fun e w' => ∃ v, e = .returned v ∧ w'.ownsRow w.heap.size 3 1 v (inQ Ls x).length ((inQ Ls x).map (Value.int .i64)) ∧ Below w.heap.size w w' := by
  have hm := h.mem
  by_cases hx : x < 0 ∨ (qs.length : Int) ≤ x
  · have hq : inQ Ls x = [] := by
      unfold inQ
      by_cases h0 : 0 ≤ x
      · rw [if_pos h0, List.getD_eq_getElem?_getD, List.getElem?_eq_none (by rw [h.inv.ll]; omega)]; rfl
      · rw [if_neg h0]
    refine (queueP_out hm x hx).mono ?_
    rintro e w' ⟨rfl, hb⟩
    exact ⟨_, rfl, by rw [hq]; exact World.ownsRow_nil _ _ _ _, hb⟩
  · obtain ⟨j, rfl⟩ := Int.eq_ofNat_of_zero_le (show 0 ≤ x by omega)
    have hj : j < qs.length := by omega
    have hj' : j < Ls.length := by rw [h.inv.ll]; exact hj
    obtain ⟨c1, c2, c3⟩ := h.inv.qc j hj hj'
    have hcl := h.inv.count_lt j hj'
    have h1 := hm.le; have h2 := hm.m1
    have hq : inQ Ls (j : Int) = Ls[j] := by
      unfold inQ
      rw [if_pos (by omega), Int.toNat_natCast, List.getD_eq_getElem?_getD, List.getElem?_eq_getElem hj']; rfl
    refine (queueP_in hm j hj _ c1 (by omega) (fun y hy => ?_)).mono ?_
    · rw [← c2] at hy
      obtain ⟨i, rfl, hi, _⟩ := h.inv.qt y (h.inv.mem_flat hj' hy)
      omega
    · rintro e w' ⟨v, rfl, ho, hb⟩
      rw [← c2] at ho
      exact ⟨v, rfl, by rw [hq]; exact ho, hb⟩
theorem headG {w : World} {base B : Nat} {most : Int} {ve vf vq : Value} {es : List EntI} {fr : List Int} {qs : List (Int × Int × Int)} {Ls : List (List Int)} (h : PoolG w base B most ve vf vq es fr qs Ls) (x : Int) :
    Calls Try.prog 63 #[.pointer (some ⟨B, 0, none⟩), .int .i64 x] w fun e w' => ∃ (a : Int) (d : Bool), e = .returned (.tuple #[.int .i64 a, .bool d]) ∧ ((d = false ∧ a = 0 ∧ inQ Ls x = []) ∨ (d = true ∧ ∃ rest, inQ Ls x = a :: rest)) ∧ ∃ n, w' = w.drewN n := by
  have hm := h.mem
  by_cases hx : x < 0 ∨ (qs.length : Int) ≤ x
  · have hq : inQ Ls x = [] := by
      unfold inQ
      by_cases h0 : 0 ≤ x
      · rw [if_pos h0, List.getD_eq_getElem?_getD, List.getElem?_eq_none (by rw [h.inv.ll]; omega)]; rfl
      · rw [if_neg h0]
    refine (headP_outI hm x hx).mono ?_
    rintro e w' ⟨rfl, hw⟩
    exact ⟨0, false, rfl, Or.inl ⟨rfl, rfl, hq⟩, hw⟩
  · obtain ⟨j, rfl⟩ := Int.eq_ofNat_of_zero_le (show 0 ≤ x by omega)
    have hj : j < qs.length := by omega
    have hj' : j < Ls.length := by rw [h.inv.ll]; exact hj
    have hq : inQ Ls (j : Int) = Ls[j] := by
      unfold inQ
      rw [if_pos (by omega), Int.toNat_natCast, List.getD_eq_getElem?_getD, List.getElem?_eq_getElem hj']; rfl
    obtain ⟨c1, c2, c3⟩ := h.inv.qc j hj hj'
    cases hL : Ls[j] with
    | nil =>
      refine (headP_noneI hm j hj (by rw [c1, hL]; rfl)).mono ?_
      rintro e w' ⟨rfl, hw⟩
      exact ⟨0, false, rfl, Or.inl ⟨rfl, rfl, by rw [hq, hL]⟩, hw⟩
    | cons y rest =>
      rw [hL] at c1 c2
      obtain ⟨k, rfl, hk, _⟩ := h.inv.qt y (h.inv.mem_flat hj' (by rw [hL]; simp))
      rw [List.length_cons] at c1 c2
      rw [chainI_succ] at c2
      injection c2 with c4 c5
      have h1 := hm.le; have h2 := hm.m1
      refine (headP_someI hm j hj (by omega) (by omega) (by omega)).mono ?_
      rintro e w' ⟨rfl, hw⟩
      exact ⟨_, true, rfl, Or.inr ⟨rfl, rest, by rw [hq, hL, ← c4]⟩, hw⟩
theorem PoolG.start {w : World} {base B : Nat} {most : Int} {vq : Value} {m : Nat} (h : PoolAtI w base B most (.slice none 0 0) (.slice none 0 0) vq [] [] (List.replicate m (0, 0, 0))) : PoolG w base B most (.slice none 0 0) (.slice none 0 0) vq [] [] (List.replicate m (0, 0, 0)) (List.replicate m []) := ⟨h, PInv.start m⟩
end Go.Proofs.Ytmkgadndfiiacaa
