/-
  Layer 15: a table and the answer's entries, that stand together in memory: what is put, set, dropped and asked of each. No condition.
-/
import Derived.Test.YtcieggckmpabnaaFlowTl
import Derived.Test.YtcieggckmpabnaaR15S
import Derived.Test.YtcieggckmpabnaaR15D
namespace Go.Proofs.Ytcieggckmpabnaa
set_option linter.unusedVariables false
set_option linter.unusedSimpArgs false
open Go.ChangeShapes Go.WideShapes Go.ChangeAt Go.RowKit

/-- A table, a box of the caller's, and the answer's entries in that. -/
structure Two15 (w V : World) (n₀ B L : Nat) (room : Int) (v vl : Value) (es : List FeI) (xs : List (Int × Int)) : Prop where
  tb : TbAtI V n₀ B room v es
  bx : Boxed V L 28 vl
  ls : Its15 V n₀ vl xs
  low : n₀ ≤ L
  size : n₀ ≤ V.heap.size
  b : Below n₀ w V
theorem its15_keep {V V' : World} {base : Nat} {v : Value} {xs : List (Int × Int)} (h : Its15 V base v xs) (hk : ∀ j, v.ownBlock = some j → V'.heap[j]? = V.heap[j]?) : Its15 V' base v xs := by
  rcases h with ⟨h1, h2⟩
  refine ⟨h1, ?_⟩
  rcases h2 with ⟨rfl, h0⟩ | ⟨g, cap, cur, rfl, hb, hg, rest⟩
  · exact Or.inl ⟨rfl, h0⟩
  · exact Or.inr ⟨g, cap, cur, rfl, hb, (hk g rfl).trans hg, rest⟩
theorem its15_base {V : World} {base base' : Nat} {v : Value} {xs : List (Int × Int)} (h : Its15 V base v xs) (hb : base' ≤ base) : Its15 V base' v xs := by
  rcases h with ⟨h1, h2⟩
  refine ⟨h1, ?_⟩
  rcases h2 with ⟨rfl, h0⟩ | ⟨g, cap, cur, rfl, hg, rest⟩
  · exact Or.inl ⟨rfl, h0⟩
  · exact Or.inr ⟨g, cap, cur, rfl, Nat.le_trans hb hg, rest⟩
section
variable {w V : World} {n₀ B L : Nat} {room : Int} {v vl : Value} {es : List FeI} {xs : List (Int × Int)}
theorem Two15.below {V' : World} (h : Two15 w V n₀ B L room v vl es xs) (hb : Below V.heap.size V V') : Two15 w V' n₀ B L room v vl es xs :=
  ⟨h.tb.below hb, (hb.block _ h.bx.lt).trans h.bx, h.ls.below hb, h.low, Nat.le_trans h.size hb.size, h.b.trans (hb.mono h.size)⟩
theorem Two15.drewN (h : Two15 w V n₀ B L room v vl es xs) (n : Nat) : Two15 w (V.drewN n) n₀ B L room v vl es xs := h.below (below_drewN n (Below.refl _ V))
theorem Two15.put (h : Two15 w V n₀ B L room v vl es xs) {vl' : Value} {xs' : List (Int × Int)} (hl : Its15 V n₀ vl' xs') : Two15 w (V.setCell ⟨L, 0, none⟩ vl') n₀ B L room v vl' es xs' := by
  have hh : ∀ j, j ≠ L → (V.setCell ⟨L, 0, none⟩ vl').heap[j]? = V.heap[j]? := fun j hj => Below.heap_setCell V ⟨L, 0, none⟩ vl' j hj
  have hLB : L ≠ B := by
    intro e
    have h1 : V.heap[L]? = some (.cells #[vl] 28 (0, 0)) := h.bx
    have h2 := h.tb.blk
    rw [← e, h1] at h2
    injection h2 with h2
    injection h2 with h2 _ _
    have := congrArg Array.size h2
    simp at this
  have hLv : v.ownBlock ≠ some L := own_ne_blk (show V.ownsRow n₀ 162 2 v es.length (fesI es) from h.tb.fe) h.bx (by decide)
  have hLl : vl'.ownBlock ≠ some L := own_ne_blk (show V.ownsRow n₀ 39 2 vl' xs'.length (xs'.flatMap itc15) from hl) h.bx (by decide)
  refine ⟨h.tb.keep (fun j hj => hh j ?_), h.bx.set vl', its15_keep hl (fun j hj => hh j (fun e => hLl (e ▸ hj))), h.low, by simpa [World.setCell] using h.size, h.b.setCell (p := ⟨L, 0, none⟩) h.low _⟩
  rcases hj with rfl | hj
  · exact fun e => hLB e.symm
  · exact fun e => hLv (e ▸ hj)
theorem Two15.moved {V' : World} {v' : Value} {es' : List FeI} (h : Two15 w V n₀ B L room v vl es xs) (ht : TbAtI V' n₀ B room v' es') (m : MvS V V' (inTb B v) (inTb B v')) : Two15 w V' n₀ B L room v' vl es' xs := by
  have hLB : L ≠ B := by
    intro e
    have h1 : V.heap[L]? = some (.cells #[vl] 28 (0, 0)) := h.bx
    have h2 := h.tb.blk
    rw [← e, h1] at h2
    injection h2 with h2
    injection h2 with h2 _ _
    have := congrArg Array.size h2
    simp at this
  have hLv : v.ownBlock ≠ some L := own_ne_blk (show V.ownsRow n₀ 162 2 v es.length (fesI es) from h.tb.fe) h.bx (by decide)
  have hlB : vl.ownBlock ≠ some B := own_ne_blk (show V.ownsRow n₀ 39 2 vl xs.length (xs.flatMap itc15) from h.ls) h.tb.blk (by decide)
  have hlv := row_apart (show V.ownsRow n₀ 39 2 vl xs.length (xs.flatMap itc15) from h.ls) (show V.ownsRow n₀ 162 2 v es.length (fesI es) from h.tb.fe) (by decide)
  refine ⟨ht, (m.block L h.bx.lt ?_).trans h.bx, its15_keep h.ls (fun j hj => m.block j (World.ownsRow.lt (show V.ownsRow n₀ 39 2 vl xs.length (xs.flatMap itc15) from h.ls) j hj).2 ?_), h.low, Nat.le_trans h.size m.size, m.below h.b (fun j hj => (h.tb.inlt hj).1) h.size⟩
  · rintro (e | e)
    · exact hLB e
    · exact hLv e
  · rintro (e | e)
    · exact hlB (e ▸ hj)
    · rcases hlv with h0 | h0
      · rw [h0] at hj; cases hj
      · exact h0 (hj.trans e.symm)
theorem Two15.le (h : Two15 w V n₀ B L room v vl es (prs es)) : (prs es).length ≤ 100000 := by
  have := h.tb.le; have := h.tb.r1
  rw [prs_len]; omega

/-- What Put answers, and what stands behind it. -/
def pcode (es : List FeI) (room id : Int) : Int := if isF (es.map FeI.id) id = true then 8 else if (es.length : Int) < room then 0 else 20
def pes (es : List FeI) (room id x : Int) : List FeI := if isF (es.map FeI.id) id = true then es else if (es.length : Int) < room then es.take (lessC (es.map FeI.id) id) ++ ⟨id, x⟩ :: es.drop (lessC (es.map FeI.id) id) else es
def ses (es : List FeI) (id x : Int) : List FeI := if isF (es.map FeI.id) id = true then es.set (lessC (es.map FeI.id) id) ⟨id, x⟩ else es
def des (es : List FeI) (id : Int) : List FeI := if isF (es.map FeI.id) id = true then es.take (lessC (es.map FeI.id) id) ++ es.drop (lessC (es.map FeI.id) id + 1) else es
def dval (es : List FeI) (id : Int) : Int := if isF (es.map FeI.id) id = true then (es.getD (lessC (es.map FeI.id) id) FeI.nil).x else 0

theorem two_put (tb : TbAtI V n₀ B room v es) (size : n₀ ≤ V.heap.size) (id x : Int) :
    Calls Try.prog 71 #[.pointer (some ⟨B, 0, none⟩), .int .u32 id, .int .i64 x] V fun e V' => ∃ v', e = .returned (.int .i64 (pcode es room id)) ∧ TbAtI V' n₀ B room v' (pes es room id x) ∧ MvS V V' (inTb B v) (inTb B v') := by
  unfold pcode pes
  cases hf : isF (es.map FeI.id) id with
  | true =>
    refine (tput_thereI tb id x hf).mono ?_
    rintro e V' ⟨rfl, hb⟩
    exact ⟨v, by simp, by simpa using tb.below hb, MvS.of_below _ hb⟩
  | false =>
    by_cases hl : (es.length : Int) < room
    · refine (tput_okI tb size id x hf hl).mono ?_
      rintro e V' ⟨rfl, v', ht', m⟩
      exact ⟨v', by simp [hl], by simpa [hl] using ht', m⟩
    · have := tb.le
      refine (tput_fullI tb id x hf (by omega)).mono ?_
      rintro e V' ⟨rfl, hb⟩
      exact ⟨v, by simp [hl], by simpa [hl] using tb.below hb, MvS.of_below _ hb⟩
theorem two_set (tb : TbAtI V n₀ B room v es) (size : n₀ ≤ V.heap.size) (id x : Int) :
    Calls Try.prog 73 #[.pointer (some ⟨B, 0, none⟩), .int .u32 id, .int .i64 x] V fun e V' => ∃ v', e = .returned (.bool (isF (es.map FeI.id) id)) ∧ TbAtI V' n₀ B room v' (ses es id x) ∧ MvS V V' (inTb B v) (inTb B v') := by
  unfold ses
  cases hf : isF (es.map FeI.id) id with
  | true =>
    refine (tset_atI tb id x hf).mono ?_
    rintro e V' ⟨rfl, ht', m⟩
    exact ⟨v, rfl, by simpa using ht', m⟩
  | false =>
    refine (tset_noI tb id x hf).mono ?_
    rintro e V' ⟨rfl, hb⟩
    exact ⟨v, rfl, by simpa using tb.below hb, MvS.of_below _ hb⟩
theorem two_drop (tb : TbAtI V n₀ B room v es) (size : n₀ ≤ V.heap.size) (id : Int) :
    Calls Try.prog 75 #[.pointer (some ⟨B, 0, none⟩), .int .u32 id] V fun e V' => ∃ v', e = .returned (.tuple #[.int .i64 (dval es id), .bool (isF (es.map FeI.id) id)]) ∧ TbAtI V' n₀ B room v' (des es id) ∧ MvS V V' (inTb B v) (inTb B v') := by
  unfold dval des
  cases hf : isF (es.map FeI.id) id with
  | true =>
    refine (tdrop_atI tb size id hf).mono ?_
    rintro e V' ⟨rfl, v', ht', m⟩
    exact ⟨v', by simp, by simpa using ht', m⟩
  | false =>
    refine (tdrop_noI tb id hf).mono ?_
    rintro e V' ⟨rfl, hb⟩
    exact ⟨v, by simp, by simpa using tb.below hb, MvS.of_below _ hb⟩
theorem two_get (h : Two15 w V n₀ B L room v vl es xs) (id : Int) :
    Calls Try.prog 15 #[.pointer (some ⟨B, 0, none⟩), .int .u32 id] V fun e V' => e = .returned (.tuple #[.int .i64 (dval es id), .bool (isF (es.map FeI.id) id)]) ∧ Two15 w V' n₀ B L room v vl es xs := by
  unfold dval
  cases hf : isF (es.map FeI.id) id with
  | true =>
    refine (tget_atI h.tb id hf).mono ?_
    rintro e V' ⟨rfl, hb⟩
    exact ⟨by simp, h.below hb⟩
  | false =>
    refine (tget_noI h.tb id hf).mono ?_
    rintro e V' ⟨rfl, hb⟩
    exact ⟨by simp, h.below hb⟩

theorem ans_put (h : Two15 w V n₀ B L room v vl es (prs es)) (id x : Int) :
    Calls Try.prog 70 #[vl, .int .i64 room, .int .u32 id, .int .i64 x] V fun e V' => ∃ vl', e = .returned (.tuple #[vl', .int .i64 (pcode es room id)]) ∧ Two15 w V' n₀ B L room v vl es (prs es) ∧ Its15 V' n₀ vl' (prs (pes es room id x)) ∧ Below V.heap.size V V' := by
  unfold pcode pes
  cases hf : isF (es.map FeI.id) id with
  | true =>
    refine (put15_there n₀ vl (prs es) id x room h.le V h.ls (prs_yes hf)).mono ?_
    rintro e V' ⟨rfl, rfl⟩
    exact ⟨vl, by simp, h, by simpa using h.ls, Below.refl _ _⟩
  | false =>
    by_cases hl : (es.length : Int) < room
    · refine (put15_ok n₀ vl (prs es) id x room (by rw [prs_len]; exact hl) h.le V h.ls (prs_no h.tb.so hf)).mono ?_
      rintro e V' ⟨vl', rfl, hi, hb⟩
      rw [prs_ins h.tb.so hf] at hi
      exact ⟨vl', by simp [hl], h.below hb, by simpa [hl] using its15_base hi h.size, hb⟩
    · refine (put15_full n₀ vl (prs es) id x room h.le V h.ls (prs_no h.tb.so hf) (by rw [prs_len]; omega)).mono ?_
      rintro e V' ⟨rfl, rfl⟩
      exact ⟨vl, by simp [hl], h, by simpa [hl] using h.ls, Below.refl _ _⟩
theorem ans_set (h : Two15 w V n₀ B L room v vl es (prs es)) (id x : Int) :
    Calls Try.prog 72 #[vl, .int .u32 id, .int .i64 x] V fun e V' => ∃ vl', e = .returned (.tuple #[vl', .bool (isF (es.map FeI.id) id)]) ∧ Two15 w V' n₀ B L room v vl es (prs es) ∧ Its15 V' n₀ vl' (prs (ses es id x)) ∧ Below V.heap.size V V' := by
  unfold ses
  cases hf : isF (es.map FeI.id) id with
  | true =>
    refine (set15_at n₀ vl (prs es) id x h.le V h.ls (prs_yes hf)).mono ?_
    rintro e V' ⟨k, hk, he, vl', rfl, hi, hb⟩
    obtain ⟨_, hk2, _⟩ := prs_at h.tb.so hk he
    subst hk2
    rw [prs_set] at hi
    exact ⟨vl', by simp, h.below hb, by simpa using its15_base hi h.size, hb⟩
  | false =>
    refine (set15_no n₀ vl (prs es) id x h.le V h.ls (prs_no h.tb.so hf)).mono ?_
    rintro e V' ⟨rfl, rfl⟩
    exact ⟨vl, by simp, h, by simpa using h.ls, Below.refl _ _⟩
theorem ans_drop (h : Two15 w V n₀ B L room v vl es (prs es)) (id : Int) :
    Calls Try.prog 74 #[vl, .int .u32 id] V fun e V' => ∃ vl', e = .returned (.tuple #[vl', .int .i64 (dval es id), .bool (isF (es.map FeI.id) id)]) ∧ Two15 w V' n₀ B L room v vl es (prs es) ∧ Its15 V' n₀ vl' (prs (des es id)) ∧ Below V.heap.size V V' := by
  unfold des dval
  cases hf : isF (es.map FeI.id) id with
  | true =>
    refine (drop15_at n₀ vl (prs es) id h.le V h.ls (prs_yes hf)).mono ?_
    rintro e V' ⟨k, hk, he, vl', rfl, hi, hb⟩
    obtain ⟨_, hk2, hx⟩ := prs_at h.tb.so hk he
    rw [hx]
    subst hk2
    rw [prs_del] at hi
    exact ⟨vl', by simp, h.below hb, by simpa using its15_base hi h.size, hb⟩
  | false =>
    refine (drop15_no n₀ vl (prs es) id h.le V h.ls (prs_no h.tb.so hf)).mono ?_
    rintro e V' ⟨rfl, rfl⟩
    exact ⟨vl, by simp, h, by simpa using h.ls, Below.refl _ _⟩
/-- Where a number is. -/
def fat (es : List FeI) (id : Int) : Int := if isF (es.map FeI.id) id = true then (lessC (es.map FeI.id) id : Nat) else -1
theorem ans_find (h : Two15 w V n₀ B L room v vl es (prs es)) (id : Int) :
    Calls Try.prog 16 #[vl, .int .u32 id] V fun e V' => e = .returned (.int .i64 (fat es id)) ∧ V' = V := by
  refine (find15 h.ls h.le id).mono ?_
  rintro e V' ⟨r, rfl, hf, rfl⟩
  refine ⟨?_, rfl⟩
  unfold fat
  rcases hf with ⟨k, hk, rfl, he⟩ | ⟨rfl, hno⟩
  · obtain ⟨h1, h2, _⟩ := prs_at h.tb.so hk he
    rw [if_pos h1, h2]
  · rw [if_neg]
    intro hF
    obtain ⟨m, hm, he⟩ := prs_yes hF
    exact hno m hm he
end
end Go.Proofs.Ytcieggckmpabnaa
