/-
  Layer 35: the document's answer: its box in memory, what is asked and done with it. No block turns but its own two. No condition but that it has room for at most 4096.
-/
import Derived.Test.YtfjhcmihjffknaaMl8
import Derived.Test.YtfjhcmihjffknaaMailI4
import Derived.Deep.AppendLies
namespace Go.Proofs.Ytfjhcmihjffknaa
set_option linter.unusedVariables false
set_option linter.unusedSimpArgs false
open Go.ChangeShapes Go.WideShapes Go.ChangeAt Go.RowKit
attribute [local go_sem] alloc_drewN setCell_drewN

/-- The answer's box: its room, whether it is shut, its row. -/
structure R35 (w : World) (base M room : Nat) (sh : Bool) (l : List Int) (vl : Value) : Prop where
  blk : w.heap[M]? = some (.cells #[.int .i64 room, .bool sh, vl] 32 (0, 0))
  low : base ≤ M
  own : Ints w base vl l
  le : l.length ≤ room
  r1 : room ≤ 4096
def inR35 (M : Nat) (vl : Value) (j : Nat) : Prop := j = M ∨ vl.ownBlock = some j
section
variable {w w' : World} {base M room : Nat} {sh : Bool} {l : List Int} {vl : Value}
theorem R35.keep (h : R35 w base M room sh l vl) (hk : ∀ j, inR35 M vl j → w'.heap[j]? = w.heap[j]?) : R35 w' base M room sh l vl :=
  ⟨(hk M (Or.inl rfl)).trans h.blk, h.low, own_on35 h.own (fun j hj => hk j (Or.inr hj)), h.le, h.r1⟩
theorem R35.inlt (h : R35 w base M room sh l vl) {j : Nat} (hj : inR35 M vl j) : base ≤ j ∧ j < w.heap.size := by
  rcases hj with rfl | hj
  · exact ⟨h.low, (Array.getElem?_eq_some_iff.1 h.blk).1⟩
  · exact World.ownsRow.lt h.own j hj
theorem R35.below (h : R35 w base M room sh l vl) (hb : Below w.heap.size w w') : R35 w' base M room sh l vl := h.keep (fun j hj => hb.block j (h.inlt hj).2)
theorem R35.cell (h : R35 w base M room sh l vl) : w.cell? ⟨M, 0, none⟩ = some (.int .i64 room) ∧ w.cell? ⟨M, 1, none⟩ = some (.bool sh) ∧ w.cell? ⟨M, 2, none⟩ = some vl ∧ w.frozen? ⟨M, 1, none⟩ = false :=
  ⟨cell_of_row w M 0 _ _ (0, 0) h.blk, cell_of_row w M 1 _ _ (0, 0) h.blk, cell_of_row w M 2 _ _ (0, 0) h.blk, frozen_of_row w M 1 _ _ h.blk⟩
theorem R35.ne (h : R35 w base M room sh l vl) : vl.ownBlock ≠ some M := own_ne_blk h.own h.blk (by decide)
/-- Its row is another one: its own, grown, or a new one. -/
theorem R35.put (h : R35 w base M room sh l vl) {w2 : World} {v' : Value} {l' : List Int} (m : MvS w w2 (fun j => vl.ownBlock = some j) (fun j => v'.ownBlock = some j)) (hi : Ints w2 base v' l') (hl : l'.length ≤ room) :
    w2.heap[M]? = some (.cells #[.int .i64 room, .bool sh, vl] 32 (0, 0)) ∧ R35 (w2.setCell ⟨M, 2, none⟩ v') base M room sh l' v' ∧ MvS w (w2.setCell ⟨M, 2, none⟩ v') (inR35 M vl) (inR35 M v') := by
  have hM := (h.inlt (Or.inl rfl)).2
  have h2 : w2.heap[M]? = some (.cells #[.int .i64 room, .bool sh, vl] 32 (0, 0)) := (m.block M hM h.ne).trans h.blk
  have hne := own_ne_blk hi h2 (by decide)
  refine ⟨h2, ⟨by simpa using heap_set h2 2 v', h.low, own_on35 hi (fun j hj => Below.heap_setCell w2 _ _ j (fun (e : j = M) => hne (by rw [← e]; exact hj))), hl, h.r1⟩, ⟨m.os, m.tape, m.output, Nat.le_trans m.size (by simp), fun j hj hn => ?_, fun j hj => ?_⟩⟩
  · exact (Below.heap_setCell w2 _ _ j (fun e => hn (Or.inl e))).trans (m.block j hj (fun e => hn (Or.inr e)))
  · rcases hj with rfl | hj
    · exact Or.inr (Or.inl rfl)
    · exact (m.own j hj).imp id Or.inr
theorem R35.shutM (h : R35 w base M room sh l vl) : R35 (w.setCell ⟨M, 1, none⟩ (.bool true)) base M room true l vl ∧ MvS w (w.setCell ⟨M, 1, none⟩ (.bool true)) (inR35 M vl) (inR35 M vl) := by
  refine ⟨⟨by simpa using heap_set h.blk 1 (.bool true), h.low, own_on35 h.own (fun j hj => Below.heap_setCell w _ _ j (fun (e : j = M) => h.ne (by rw [← e]; exact hj))), h.le, h.r1⟩, ⟨rfl, rfl, rfl, by simp, fun j hj hn => Below.heap_setCell w _ _ j (fun e => hn (Or.inl e)), fun j hj => Or.inr hj⟩⟩
end
theorem grown_mvs {w w1 w2 : World} {v v' : Value} (hb : Below w.heap.size w w1) (hg : w1.grownBy w2 v.ownBlock) (hat : v'.ownBlock = v.ownBlock ∨ v'.ownBlock = some w1.heap.size) : MvS w w2 (fun j => v.ownBlock = some j) (fun j => v'.ownBlock = some j) :=
  ⟨hg.os.trans hb.os, hg.tape.trans hb.tape, hg.output.trans hb.output, Nat.le_trans hb.size hg.size, fun j hj hn => (hg.block j (Nat.lt_of_lt_of_le hj hb.size) (fun e => hn e.symm)).trans (hb.block j hj), fun j hj => by
    rcases hat with e | e
    · exact Or.inr (e ▸ hj)
    · left
      rw [e] at hj
      injection hj with hj
      have := hb.size
      omega⟩
set_option maxRecDepth 100000 in
theorem rmay35 (w : World) (room : Int) : Calls Try.prog 12 #[.int .i64 room] w fun e w' => e = .returned (.bool (decide (1 ≤ room ∧ room ≤ 4096))) ∧ w = w' := by
  by_cases h1 : 1 ≤ room
  · by_cases h2 : room ≤ 4096
    · rw [decide_eq_true ⟨h1, h2⟩]
      go_enter Try.func12, Try.ntmps12
      go_wp2
      go_ret
      exact ⟨rfl, rfl⟩
    · rw [decide_eq_false (fun h => h2 h.2)]
      go_enter Try.func12, Try.ntmps12
      go_wp2
      go_ret
      exact ⟨rfl, rfl⟩
  · rw [decide_eq_false (fun h => h1 h.1)]
    go_enter Try.func12, Try.ntmps12
    go_wp2
    go_ret
    exact ⟨rfl, rfl⟩
section
variable {w : World} {base M room : Nat} {sh : Bool} {l : List Int} {vl : Value}
set_option maxRecDepth 100000 in
set_option maxHeartbeats 2000000 in
theorem rsend35 (h : R35 w base M room sh l vl) (x : Int) : Calls Try.prog 21 #[.pointer (some ⟨M, 0, none⟩), .int .i64 x] w fun e w' => e = .returned (.bool (!sh && decide (l.length < room))) ∧ ∃ vl', R35 w' base M room sh (if sh = false ∧ l.length < room then l ++ [x] else l) vl' ∧ MvS w w' (inR35 M vl) (inR35 M vl') := by
  obtain ⟨a, c, hv, -, -⟩ := h.own.form
  obtain ⟨n, hn⟩ : ∃ n, l.length = n := ⟨_, rfl⟩
  rw [hn] at hv
  subst hv
  obtain ⟨c0, c1, c2, f1⟩ := h.cell
  have HH := Lib.hid h
  have HN := Lib.hid hn
  by_cases hsh : sh = true
  · subst hsh
    have FIN := Lib.hid (show R35 (w.drewN 0) base M room true l (.slice a n c) from h)
    rw [if_neg (fun e => by cases e.1)]
    clear h
    go_enter Try.func21, Try.ntmps21
    go_wp2
    go_quiet (fail)
    go_wp2
    go_ret
    exact ⟨rfl, _, HH.out.keep (fun j hj => rfl), (MvS.refl _ _).drewN _⟩
  · have hsf : sh = false := by simpa using hsh
    subst hsf
    by_cases hlt : n < room
    · rw [if_pos ⟨rfl, by rw [hn]; exact hlt⟩, hn, decide_eq_true hlt]
      have z1 : ¬ (room : Int) ≤ (n : Int) := by omega
      have LR := Lib.hid (show n < 4096 by have := h.r1; omega)
      have PUT := Lib.hid (fun (q : Nat) (v' : Value) (w2 : World) (hi : Ints w2 base v' (l ++ [x])) (hg : ((w.drewN q).alloc (.cells #[.int .i64 x] 3)).grownBy w2 (Value.slice a n c).ownBlock) (hat : v'.ownBlock = (Value.slice a n c).ownBlock ∨ v'.ownBlock = some ((w.drewN q).alloc (.cells #[.int .i64 x] 3)).heap.size) => h.put (grown_mvs ((below_drewN q (Below.refl w.heap.size w)).alloc (Nat.le_refl _) (.cells #[.int .i64 x] 3)) hg hat) hi (by rw [List.length_append, hn]; simp; omega))
      have OW := Lib.hid (fun (q : Nat) => (h.own.below (((below_drewN q (Below.refl w.heap.size w)).alloc (Nat.le_refl _) (.cells #[.int .i64 x] 3)))))
      have BM := Lib.hid (show base ≤ w.heap.size from Nat.le_trans h.low (Nat.le_of_lt (h.inlt (Or.inl rfl)).2))
      clear h hlt hn
      go_enter Try.func21, Try.ntmps21
      go_wp2
      go_quiet (fail)
      go_wp2_with (at_builtin; refine wpList_append_ints rfl _ _ rfl base w.heap.size (Value.slice a n c) _ l [x] rfl rfl (OW.out _) (ints_one _ x) (by have := LR.out; have := HN.out; simp; omega) (by have := BM.out; simp; omega) ?_; intro v3 w3 hi3 hg3 hat3; obtain ⟨a3, c3, hv3, -, -⟩ := hi3.form; subst hv3; have P3 := PUT.out _ _ w3 hi3 hg3 hat3; obtain ⟨q9, hq9⟩ : ∃ q, (l ++ [x]).length = q := ⟨_, rfl⟩; rw [hq9] at P3; rw [hq9]; clear hq9; have KC := cell_of_row w3 M 2 _ _ (0, 0) P3.1; have KF : w3.frozen? ⟨M, 2, none⟩ = false := frozen_of_row w3 M 2 _ _ P3.1; have FIN := Lib.hid P3.2; clear P3 hi3 hg3 hat3)
      go_ret
      exact ⟨rfl, _, FIN.out.1, FIN.out.2⟩
    · rw [if_neg (fun e => hlt (by rw [← hn]; exact e.2)), hn, decide_eq_false hlt]
      have z1 : (room : Int) ≤ (n : Int) := by omega
      clear h
      go_enter Try.func21, Try.ntmps21
      go_wp2
      go_quiet (fail)
      go_wp2
      go_ret
      exact ⟨rfl, _, HH.out.keep (fun j hj => rfl), (MvS.refl _ _).drewN _⟩
set_option maxRecDepth 100000 in
set_option maxHeartbeats 2000000 in
theorem rtake35 (h : R35 w base M room sh l vl) : Calls Try.prog 15 #[.pointer (some ⟨M, 0, none⟩)] w fun e w' => e = .returned (.tuple #[.int .i64 (l.headD 0), .bool (decide (l ≠ []))]) ∧ ∃ vl', R35 w' base M room sh l.tail vl' ∧ MvS w w' (inR35 M vl) (inR35 M vl') := by
  obtain ⟨i0, hi0, hz0, hz1, hz2⟩ := info_parts infoInt
  obtain ⟨a, c, hv, -, hcell⟩ := h.own.form
  subst hv
  obtain ⟨c0, c1, c2, f1⟩ := h.cell
  have HH := Lib.hid h
  cases l with
  | nil =>
    clear h hcell
    go_enter Try.func15, Try.ntmps15
    go_wp2
    go_ret2
    exact ⟨rfl, _, HH.out, MvS.refl _ _⟩
  | cons y l =>
    obtain ⟨g, rfl, hg, cg⟩ := hcell 0 (by simp)
    have cg : w.cell? ⟨g, 0, none⟩ = some (.int .i64 y) := cg
    obtain ⟨n, hn⟩ : ∃ n, l.length = n := ⟨_, rfl⟩
    have hn1 : (y :: l).length = n + 1 := by simp [hn]
    have LR := Lib.hid (show n + 1 ≤ 4096 by have := h.le; have := h.r1; omega)
    have hcap : n + 1 ≤ c := by
      obtain ⟨_, _, he, hc, _⟩ := h.own.form
      cases he
      rw [hn1] at hc
      exact hc
    have HC := Lib.hid (show ∀ (ad : Addr), (c = 1 ∨ ad = ⟨g, 1, none⟩) → ∀ j u, (l.map (Value.int .i64))[j]? = some u → w.cell? (ad.add j) = some u from fun ad had j u hu => by
      rcases had with hc1 | rfl
      · have hl0 : l = [] := List.length_eq_zero_iff.1 (by omega)
        rw [hl0] at hu
        simp at hu
      have hj : j < l.length := by
        have := (List.getElem?_eq_some_iff.1 hu).1
        simpa using this
      obtain ⟨g2, e2, -, c2⟩ := hcell (j + 1) (Nat.succ_lt_succ hj)
      cases e2
      have e : ((⟨g, 1, none⟩ : Addr).add j) = ⟨g, j + 1, none⟩ := by rw [Go.WideShapes.add_plain, Nat.add_comm 1 j]
      rw [e, c2]
      rw [List.getElem?_map, List.getElem?_eq_getElem hj] at hu
      simp only [Option.map_some, Option.some.injEq] at hu
      rw [← hu, List.getD_cons_succ, List.getD_eq_getElem?_getD, List.getElem?_eq_getElem hj]
      rfl)
    have PUT := Lib.hid (fun (v' : Value) (w2 : World) (hi : Ints w2 base v' l) (hg : w.grownBy w2 (Value.slice none 0 0).ownBlock) (hat : v'.ownBlock = (Value.slice none 0 0).ownBlock ∨ v'.ownBlock = some w.heap.size) => h.put (⟨hg.os, hg.tape, hg.output, hg.size, fun j hj hn => hg.block j hj (fun e => by cases e), fun j hj => by
      rcases hat with e | e
      · rw [e] at hj; cases hj
      · left; rw [e] at hj; injection hj with hj; omega⟩ : MvS w w2 (fun j => (Value.slice (some ⟨g, 0, none⟩) (y :: l).length c).ownBlock = some j) (fun j => v'.ownBlock = some j)) hi (by have := h.le; simp at this; omega))
    have BM := Lib.hid (show base ≤ w.heap.size from Nat.le_trans h.low (Nat.le_of_lt (h.inlt (Or.inl rfl)).2))
    have HN := Lib.hid hn
    rw [hn1] at c2
    have z1 : (0 : Int) < (n : Int) + 1 := by omega
    have zz : ((n : Int) + 1 == 0) = false := by
      rw [beq_eq_false_iff_ne]
      omega
    rw [decide_eq_true (List.cons_ne_nil _ _)]
    clear h hcell hg hn hn1
    by_cases hc1 : c = 1
    all_goals
      go_enter Try.func15, Try.ntmps15
      go_wp2_with (at_builtin; refine wpList_append_own_at _ rfl _ _ 30 rfl base 3 i0 (.int .i64 0) 1 8 Try.underlying30 hi0 hz0 hz1 hz2 rfl (by decide) (.slice none 0 0) 0 [] rfl (World.ownsRow_nil _ _ _ _) _ n _ (l.map (Value.int .i64)) rfl (by rw [List.length_map, HN.out, Nat.mul_one]) (HC.out _ (by first | exact Or.inl hc1 | exact Or.inr rfl)) (fun u hu => by obtain ⟨y, _, rfl⟩ := List.mem_map.1 hu; rfl) (by have := LR.out; unfold maxLen; omega) (by have := LR.out; omega) BM.out ?_; intro v3 w3 ho3 hg3 hn3 hat3; clear hn3; have hi3 : Ints w3 base v3 l := (by unfold Ints; rw [HN.out]; simpa using ho3); obtain ⟨a3, c3, hv3, -, -⟩ := hi3.form; subst hv3; have P3 := PUT.out _ w3 hi3 hg3 hat3; rw [HN.out] at P3; rw [HN.out]; have KC := cell_of_row w3 M 2 _ _ (0, 0) P3.1; have KF : w3.frozen? ⟨M, 2, none⟩ = false := frozen_of_row w3 M 2 _ _ P3.1; have FIN := Lib.hid P3.2; clear P3 hi3 ho3 hg3 hat3)
      go_ret2
      exact ⟨rfl, _, FIN.out.1, FIN.out.2⟩
end
def lenOf35 : Value → Nat
  | .slice _ n _ => n
  | _ => 0
section
variable {w : World} {base M room : Nat} {sh : Bool} {l : List Int} {vl : Value}
set_option maxRecDepth 100000 in
set_option maxHeartbeats 2000000 in
theorem rsome35 (h : R35 w base M room sh l vl) (n : Int) : Calls Try.prog 18 #[.pointer (some ⟨M, 0, none⟩), .int .i64 n] w fun e w' => ∃ v, e = .returned v ∧ Ints w' w.heap.size v (l.take n.toNat) ∧ ∃ vl', R35 w' base M room sh (l.drop n.toNat) vl' ∧ MvS w w' (inR35 M vl) (inR35 M vl') := by
  obtain ⟨k, hk⟩ : ∃ k : Nat, min n.toNat l.length = k := ⟨_, rfl⟩
  have HMK := Lib.hid (show k ≤ l.length ∧ (0 < n → (k : Int) ≤ n) ∧ (n ≤ 0 → k = 0) ∧ (k = l.length ∨ ((k : Int) = n ∨ k = 0 ∧ n ≤ 0)) by omega)
  have HT := Lib.hid (show l.take n.toNat = l.take k ∧ l.drop n.toNat = l.drop k by
    rcases Nat.le_total n.toNat l.length with h1 | h1
    · have e : k = n.toNat := by omega
      rw [e]; exact ⟨rfl, rfl⟩
    · have e : k = l.length := by omega
      rw [e, List.take_of_length_le h1, List.take_of_length_le (Nat.le_refl _), List.drop_of_length_le h1, List.drop_of_length_le (Nat.le_refl _)]
      exact ⟨rfl, rfl⟩)
  have H0 := Lib.hid h
  have HL := Lib.hid (show l.length ≤ 4096 from Nat.le_trans h.le h.r1)
  clear h hk
  go_enter Try.func18, Try.ntmps18
  go_wp2
  go_loopw [5] (fun vo wr => ∃ (i : Nat) (vl1 : Value), i ≤ k ∧ Hid (Ints wr w.heap.size vo (l.take i)) ∧ Hid (R35 wr base M room sh (l.drop i) vl1) ∧ Hid (MvS w wr (inR35 M vl) (inR35 M vl1)) ∧ Hid (∀ j, vo.ownBlock = some j → ¬ inR35 M vl1 j) ∧ lenOf35 vo = i) (fun v _ => k - lenOf35 v)
  case atStart => exact ⟨0, vl, Nat.zero_le _, Ints.nil _ _, H0, MvS.refl _ _, (fun j hj => by cases hj), rfl⟩
  case round =>
    obtain ⟨i, vl1, hi, HU, HR, HM, HA, hlen⟩ := hrel
    clear hlen
    have LE := Lib.hid (show (l.take i).length = i by rw [List.length_take]; have := HMK.out; omega)
    have LD := Lib.hid (show (l.drop i).length = l.length - i from List.length_drop)
    obtain ⟨ao, co, hve, -, -⟩ := HU.out.form
    rw [LE.out] at hve
    subst hve
    obtain ⟨av, cv, hvl, -, -⟩ := HR.out.own.form
    rw [LD.out] at hvl
    subst hvl
    obtain ⟨c0, c1, c2, f1⟩ := HR.out.cell
    have hsub : ((l.length - i : Nat) : Int) = (l.length : Int) - i := by have := HMK.out; omega
    obtain ⟨q, hq⟩ : ∃ q, l.length - i = q := ⟨_, rfl⟩
    rw [hq] at c2 hsub HR HM HA
    have HQ := Lib.hid hsub
    clear hq hsub
    by_cases hlt : i < k
    · obtain ⟨d1, d2, d3, d4⟩ := drop_head l i (by have := HMK.out; omega)
      have TK := rtake35 HR.out
      rw [d1, decide_eq_true d2, d3] at TK
      have TK := Lib.hid TK
      have D4 := Lib.hid d4
      have z1 : (0 : Int) < q := by have := HMK.out; have := HQ.out; omega
      have z2 : (i : Int) < n := by have := HMK.out; omega
      have KM := Lib.hid (show k ≤ 4096 by have := HL.out; have := HMK.out; omega)
      obtain ⟨y, hy⟩ : ∃ y, l.getD i 0 = y := ⟨_, rfl⟩
      rw [hy] at TK D4
      clear hy d1 d2 d3 d4
      go_wp2_with fail
      refine TK.out.mono ?_
      rintro e w2 ⟨rfl, vl2, r2, m2⟩
      have R2 := Lib.hid r2
      have M2 := Lib.hid (HM.out.trans m2)
      have I2 := Lib.hid (show Ints w2 w.heap.size (.slice ao i co) (l.take i) from own_on35 HU.out (fun j hj => m2.block j (World.ownsRow.lt HU.out j hj).2 (HA.out j hj)))
      have A2 := Lib.hid (show ∀ j, (Value.slice ao i co).ownBlock = some j → ¬ inR35 M vl2 j from fun j hj hin => by
        rcases m2.own j hin with h1 | h1
        · have := (World.ownsRow.lt HU.out j hj).2
          omega
        · exact HA.out j hj h1)
      have Z2 := Lib.hid M2.out.size
      clear r2 m2 TK HR HM HA HU c0 c1 c2 f1
      go_wp2_with (at_builtin; refine wpList_append_ints rfl _ _ rfl w.heap.size w2.heap.size (Value.slice ao i co) _ (l.take i) [y] rfl rfl (I2.out.below ((Below.refl _ w2).alloc (Nat.le_refl _) _)) (ints_one w2 y) (by have := LE.out; have := KM.out; simp only [List.length_singleton]; omega) (by have := Z2.out; simp; omega) ?_; intro v3 w3 hi3 hg3 hat3; have HI3 := Lib.hid hi3; have HG3 := Lib.hid hg3; have HT3 := Lib.hid hat3; clear hi3 hg3 hat3)
      have hrow : ∀ r, (Value.slice ao i co).ownBlock = some r → w.heap.size ≤ r := fun r hr => (World.ownsRow.lt I2.out r hr).1
      have M3 := Lib.hid ((M2.out.alloc35 (.cells #[.int .i64 y] 3)).grown35 HG3.out hrow)
      have R3 := Lib.hid (R2.out.keep (w' := w3) (fun j hj => by
        have h1 := R2.out.inlt hj
        exact (HG3.out.block j (by simp; omega) (fun e => A2.out j e.symm hj)).trans (Below.heap_alloc w2 _ j h1.2)))
      have A3 := Lib.hid (show ∀ j, v3.ownBlock = some j → ¬ inR35 M vl2 j from fun j hj hin => by
        rcases HT3.out with e | e
        · exact A2.out j (e ▸ hj) hin
        · have h1 := R2.out.inlt hin
          rw [e] at hj
          injection hj with hj
          simp at hj
          omega)
      have LV := Lib.hid (show lenOf35 v3 = i + 1 by
        obtain ⟨a3, c3, hv3, -, -⟩ := HI3.out.form
        rw [hv3]
        show (l.take i ++ [y]).length = i + 1
        rw [List.length_append, LE.out]
        rfl)
      clear HG3 HT3 hrow R2 M2 A2
      go_wp2
      go_roundw
      case rel => exact ⟨i + 1, vl2, by omega, by rw [← D4.out]; exact HI3, R3, M3, A3, LV.out⟩
      case measure => rw [LV.out]; simp [lenOf35] <;> omega
    · have hik : i = k := by omega
      have FIN : ∃ v, (Value.slice ao i co) = v ∧ Ints wr w.heap.size v (l.take n.toNat) ∧ ∃ vl', R35 wr base M room sh (l.drop n.toNat) vl' ∧ MvS w wr (inR35 M vl) (inR35 M vl') := by
        rw [HT.out.1, HT.out.2, ← hik]
        exact ⟨_, rfl, HU.out, _, HR.out, HM.out⟩
      have FIN := Lib.hid FIN
      have zk : (q : Nat) = 0 ∨ ¬ (i : Int) < n := by have := HMK.out; have := HQ.out; omega
      clear hik hlt hi
      by_cases hq0 : q = 0
      · subst hq0
        go_wp2
        go_ret
        obtain ⟨v, hv, f2⟩ := FIN.out
        exact ⟨v, by rw [← hv]; rfl, f2⟩
      · have z1 : (0 : Int) < q := by omega
        have z2 : ¬ (i : Int) < n := by rcases zk with h | h <;> omega
        clear zk
        go_wp2
        go_ret
        obtain ⟨v, hv, f2⟩ := FIN.out
        exact ⟨v, by rw [← hv]; rfl, f2⟩
end
end Go.Proofs.Ytfjhcmihjffknaa
