/-
  A table and the answer's row side by side: what each thing that is done leaves of both. No condition but that New made the table.
-/
import Derived.Test.YtfjhcmihjffknaaTrAm
import Derived.Test.YtfjhcmihjffknaaR32P
import Derived.Test.YtfjhcmihjffknaaR32D
import Derived.Test.YtfjhcmihjffknaaR32F
namespace Go.Proofs.Ytfjhcmihjffknaa
set_option linter.unusedVariables false
set_option linter.unusedSimpArgs false
open Go.ChangeShapes Go.WideShapes Go.ChangeAt Go.RowKit

theorem own_same32 {w w' : World} {base : Nat} {v : Value} {xs : List (Int × Int × Int)} (h : Its32 w base v xs) (hk : ∀ j, v.ownBlock = some j → w'.heap[j]? = w.heap[j]?) : Its32 w' base v xs := by
  unfold Its32 at h ⊢
  refine ⟨h.1, ?_⟩
  rcases h.2 with hh | ⟨g, cap, cur, rfl, hb', hg, rest⟩
  · exact Or.inl hh
  · exact Or.inr ⟨g, cap, cur, rfl, hb', (hk g rfl).trans hg, rest⟩
/-- A table and a row that hold the same. -/
def P32 (w0 w : World) (T : Nat) (t : Tr) (v : Value) : Prop := ∃ bs, TabW w w0.heap.size T t bs ∧ Below w0.heap.size w0 w ∧ (∃ B, w0.heap.size ≤ B ∧ Its32 w B v (tlist t)) ∧ ∀ g, v.ownBlock = some g → g ∉ T :: bs
section
variable {w0 w w' : World} {T : Nat} {t : Tr} {v : Value} {a n : Int}
theorem TabW.on {base : Nat} {bs : List Nat} (h : TabW w base T t bs) (hb : Below w.heap.size w w') : TabW w' base T t bs := ⟨h.1.below hb, h.2⟩
theorem P32.on (h : P32 w0 w T t v) (hb : Below w.heap.size w w') : P32 w0 w' T t v := by
  obtain ⟨bs, h1, h2, ⟨B, h3, h4⟩, h5⟩ := h
  exact ⟨bs, h1.on hb, h2.trans (hb.mono h2.size), ⟨B, h3, h4.below hb⟩, h5⟩
theorem P32.bel (h : P32 w0 w T t v) : Below w0.heap.size w0 w := by obtain ⟨bs, h1, h2, -⟩ := h; exact h2
theorem P32.row (h : P32 w0 w T t v) : ∃ B, w0.heap.size ≤ B ∧ Its32 w B v (tlist t) := by obtain ⟨bs, h1, h2, h3, -⟩ := h; exact h3
theorem P32.wf (h : P32 w0 w T t v) : Wf t := by obtain ⟨bs, h1, h2, -⟩ := h; exact h1.2.1
theorem P32.tab (h : P32 w0 w T t v) : ∃ bs, TabW w w0.heap.size T t bs := by obtain ⟨bs, h1, h2, -⟩ := h; exact ⟨bs, h1⟩
theorem tget_mem {x : Int} (hw : Wf t) : tget a n t = some x ↔ (a, n, x) ∈ tlist t := by
  rw [mem_tat hw]
  unfold tget
  generalize tat a n t = o
  constructor
  · intro h
    split at h
    · simp only [Option.some.injEq] at h
      rw [h]
    · cases h
  · rintro rfl
    rfl
theorem tget_no (hw : Wf t) : tget a n t = none ↔ ∀ m ∈ tlist t, ¬ (m.1 = a ∧ m.2.1 = n) := by
  constructor
  · rintro h ⟨m1, m2, m3⟩ hm ⟨h1, h2⟩
    dsimp only at h1 h2
    subst h1 h2
    rw [(tget_mem hw).2 hm] at h
    cases h
  · intro h
    cases hg : tget a n t with
    | none => rfl
    | some x => exact absurd ⟨rfl, rfl⟩ (h _ ((tget_mem hw).1 hg))
theorem P32bel {bs : List Nat} {S : Nat → Prop} (h2 : Below w0.heap.size w0 w) (h1 : TabW w w0.heap.size T t bs) (hm : MvS w w' (fun j => j ∈ T :: bs) S) : Below w0.heap.size w0 w' := by
  refine ⟨hm.os.trans h2.os, hm.tape.trans h2.tape, hm.output.trans h2.output, Nat.le_trans h2.size hm.size, fun j hj => (hm.block j (Nat.lt_of_lt_of_le hj h2.size) (fun hh => ?_)).trans (h2.block j hj)⟩
  obtain ⟨-, k1, -, -, B', -, k2⟩ := h1.1
  rcases List.mem_cons.1 hh with rfl | hh
  · omega
  · have := (k2.inlt j hh).1; omega
/-- A row made anew beside a table that turns. -/
theorem P32.turn {bs bs' : List Nat} {t' : Tr} {W W' : World} {v' : Value} {B : Nat} (h2 : Below w0.heap.size w0 w) (hW : Below w.heap.size w W) (h1 : TabW w w0.heap.size T t bs) (hT : TabW W' w0.heap.size T t' bs') (hm : MvS W W' (fun j => j ∈ T :: bs) (fun j => j ∈ T :: bs')) (hB : w0.heap.size ≤ B) (hr : Its32 W B v' (tlist t')) (hv : ∀ g, v'.ownBlock = some g → g ∉ T :: bs) : P32 w0 W' T t' v' := by
  have hin : ∀ j ∈ T :: bs, w0.heap.size ≤ j := by
    intro j hj
    obtain ⟨-, k1, -, -, B', -, k2⟩ := h1.1
    rcases List.mem_cons.1 hj with rfl | hj
    · exact k1
    · exact (k2.inlt j hj).1
  refine ⟨bs', hT, ?_, ⟨B, hB, own_same32 hr (fun j hj => hm.block j (World.ownsRow.lt hr j hj).2 (hv j hj))⟩, ?_⟩
  · have hb := h2.trans (hW.mono h2.size)
    exact ⟨hm.os.trans hb.os, hm.tape.trans hb.tape, hm.output.trans hb.output, Nat.le_trans hb.size hm.size, fun j hj => (hm.block j (Nat.lt_of_lt_of_le hj hb.size) (fun hh => by have := hin j hh; omega)).trans (hb.block j hj)⟩
  · intro g hg hmem
    rcases hm.own g hmem with h | h
    · have := (World.ownsRow.lt hr g hg).2; omega
    · exact hv g hg h
/-- What the table answers to a Put, behind the answer's own. -/
def NextP (N : Nat) (w0 w' : World) (T : Nat) (t : Tr) (a n x c : Int) (v' : Value) : Prop := ∀ W, Below w'.heap.size w' W → Calls Try.prog 35 #[.pointer (some ⟨T, 0, none⟩), .agg #[.int .u32 a, .int .i64 n], .int .i64 x] W fun e w'' => e = .returned (.int .i64 c) ∧ (∃ t', P32 w0 w'' T t' v' ∧ tsz t' ≤ tsz t + 1) ∧ ∀ j, N ≤ j → j < W.heap.size → w''.heap[j]? = W.heap[j]?
/-- What the answer drops, behind the table's own. -/
def NextD (w0 w' : World) (T : Nat) (t : Tr) (v : Value) (a n y : Int) (b : Bool) : Prop := ∀ W, Below w'.heap.size w' W → Calls Try.prog 41 #[v, .agg #[.int .u32 a, .int .i64 n]] W fun e w'' => ∃ v', e = .returned (.tuple #[v', .int .i64 y, .bool b]) ∧ (∃ t', P32 w0 w'' T t' v' ∧ tsz t' ≤ tsz t + 1) ∧ Below W.heap.size W w''
theorem root_put (x : Int) (ha : 0 ≤ a ∧ a ≤ 4294967295) (hr : RtP a n) (h3 : ∃ th x0 l r, t = .nd 0 0 th x0 l r) : rootOk a n t ∧ ∃ th x0 l r, tputF a n x t = .nd 0 0 th x0 l r := by
  obtain ⟨th, x0, l, r, rfl⟩ := h3
  refine ⟨Or.inr (root_covers ha hr), ?_⟩
  unfold tputF
  split
  · exact ⟨_, _, _, _, rfl⟩
  · rw [if_pos (root_covers ha hr)]
    split <;> exact ⟨_, _, _, _, rfl⟩
theorem root_drop (a n : Int) (h3 : ∃ th x0 l r, t = .nd 0 0 th x0 l r) : ∃ th x0 l r, tdrop a n t = .nd 0 0 th x0 l r := by
  obtain ⟨th, x0, l, r, rfl⟩ := h3
  unfold tdrop
  split
  · exact ⟨_, _, _, _, rfl⟩
  · split <;> exact ⟨_, _, _, _, rfl⟩
theorem row_apart32 {bs : List Nat} {B : Nat} {W : World} {v' : Value} {xs : List (Int × Int × Int)} (h1 : TabW w w0.heap.size T t bs) (hB : w.heap.size ≤ B) (hr : Its32 W B v' xs) : ∀ g, v'.ownBlock = some g → g ∉ T :: bs := by
  intro g hg hj
  have h := (World.ownsRow.lt hr g hg).1
  obtain ⟨-, k1, -, -, B', k3, k2⟩ := h1.1
  rcases List.mem_cons.1 hj with rfl | hj
  · have := (Array.getElem?_eq_some_iff.1 k3).1; omega
  · have := (k2.inlt g hj).2; omega
theorem P32.len (h : P32 w0 w T t v) : (tlist t).length ≤ 4096 := by
  obtain ⟨bs, h1, -⟩ := h
  have := h1.1.2.2.1
  have := tlist_len t
  omega
theorem P32.inlt (h : P32 w0 w T t v) : ∃ bs, TabW w w0.heap.size T t bs ∧ (∀ j ∈ T :: bs, j < w.heap.size) := by
  obtain ⟨bs, h1, -⟩ := h
  refine ⟨bs, h1, fun j hj => ?_⟩
  obtain ⟨-, k1, -, -, B', k3, k2⟩ := h1.1
  rcases List.mem_cons.1 hj with rfl | hj
  · exact (Array.getElem?_eq_some_iff.1 k3).1
  · exact (k2.inlt j hj).2
theorem P32.put {w1 : World} (h0 : P32 w0 w1 T t v) (hw1 : Below w1.heap.size w1 w) (ha : 0 ≤ a ∧ a ≤ 4294967295) (hn : -9223372036854775808 ≤ n ∧ n ≤ 9223372036854775807) (hs : tsz t < 4096) (x : Int) :
    Calls Try.prog 42 #[v, .agg #[.int .u32 a, .int .i64 n], .int .i64 x] w fun e w' => ∃ v' c, e = .returned (.tuple #[v', .int .i64 c]) ∧ NextP w1.heap.size w0 w' T t a n x c v' ∧ Below w.heap.size w w' := by
  have hP := h0.on hw1
  obtain ⟨bs, h1, h2, ⟨B, h3, h4⟩, h5⟩ := h0
  have hin : ∀ j ∈ T :: bs, j < w1.heap.size := by
    intro j hj
    obtain ⟨-, k1, -, -, B', k3, k2⟩ := h1.1
    rcases List.mem_cons.1 hj with rfl | hj
    · exact (Array.getElem?_eq_some_iff.1 k3).1
    · exact (k2.inlt j hj).2
  have h1 := h1.on hw1
  have h2 := h2.trans (hw1.mono h2.size)
  have h4 := h4.below hw1
  have hl := tlist_len t
  have hw := h1.2.1
  by_cases hR : RtP a n
  · cases hg : tget a n t with
    | some z =>
      refine (put32_there ha.1 ha.2 hn.1 hn.2 B v (tlist t) x w h4 (by omega) hR ⟨_, (tget_mem hw).1 hg, rfl, rfl⟩).mono fun e w' ⟨g1, g2⟩ => ⟨v, 8, g1, ?_, g2⟩
      intro W hW
      exact (tput_there ((h1.on g2).on hW).1 ha hn hR x hg).mono fun e w'' ⟨k1, k2⟩ => ⟨k1, ⟨t, ((hP.on g2).on hW).on k2, by omega⟩, fun j _ hj => k2.block j hj⟩
    | none =>
      have hno := (tget_no hw).1 hg
      refine (put32_ok ha.1 ha.2 hn.1 hn.2 B v (tlist t) x w h4 (by omega) hR hno).mono fun e w' ⟨v', g1, ⟨B', g2, g3⟩, g4⟩ => ⟨v', 0, g1, ?_, g4⟩
      intro W hW
      obtain ⟨hro, hrt⟩ := root_put x ha hR h1.2.2
      have hT := (h1.on g4).on hW
      refine (tput_okF hT.1 ha hR x hg hs hw hro).mono fun e w'' ⟨k1, bs', k2, k3⟩ => ⟨k1, ⟨tputF a n x t, ?_, by rw [tsz_put hR hg]; omega⟩, fun j hj hj2 => k3.block j hj2 (fun hh => by have := hin j hh; omega)⟩
      have hz : tsz (tputF a n x t) = tsz t + 1 := tsz_put hR hg
      have hT' : TabW w'' w0.heap.size T (tputF a n x t) bs' := ⟨by rw [hz]; exact k2, wf_put ha hR hw, hrt⟩
      have hb := h2.trans (g4.mono h2.size)
      refine P32.turn hb hW (h1.on g4) hT' k3 (Nat.le_trans h2.size g2) (B := B') (v' := v') ?_ (row_apart32 h1 g2 g3)
      rw [put_list hw (wf_put ha hR hw) (fun y hy => hno _ hy ⟨rfl, rfl⟩)]
      exact g3.below hW
  · refine (put32_wrong ha.1 ha.2 hn.1 hn.2 v x w hR).mono fun e w' ⟨g1, g2⟩ => ⟨v, 6, g1, ?_, g2⟩
    intro W hW
    exact (tput_wrong ((h1.on g2).on hW).1 ha hn hR x).mono fun e w'' ⟨k1, k2⟩ => ⟨k1, ⟨t, ((hP.on g2).on hW).on k2, by omega⟩, fun j _ hj => k2.block j hj⟩
theorem P32.drop {w1 : World} (h0 : P32 w0 w1 T t v) (hw1 : Below w1.heap.size w1 w) (ha : 0 ≤ a ∧ a ≤ 4294967295) (hn : -9223372036854775808 ≤ n ∧ n ≤ 9223372036854775807) :
    Calls Try.prog 33 #[.pointer (some ⟨T, 0, none⟩), .agg #[.int .u32 a, .int .i64 n]] w fun e w' => ∃ y b, e = .returned (.tuple #[.int .i64 y, .bool b]) ∧ NextD w0 w' T t v a n y b ∧ Below w0.heap.size w0 w' ∧ (∀ j, w1.heap.size ≤ j → j < w.heap.size → w'.heap[j]? = w.heap[j]?) := by
  have hP := h0.on hw1
  have hlen := hP.len
  obtain ⟨bs, h1, h2, ⟨B, h3, h4⟩, h5⟩ := h0
  have hin : ∀ j ∈ T :: bs, j < w1.heap.size := by
    intro j hj
    obtain ⟨-, k1, -, -, B', k3, k2⟩ := h1.1
    rcases List.mem_cons.1 hj with rfl | hj
    · exact (Array.getElem?_eq_some_iff.1 k3).1
    · exact (k2.inlt j hj).2
  have h1 := h1.on hw1
  have h2 := h2.trans (hw1.mono h2.size)
  have h4 := h4.below hw1
  have hw := h1.2.1
  cases hg : tget a n t with
  | none =>
    have hno := (tget_no hw).1 hg
    refine (tdrop_none h1.1 ha hn hg).mono fun e w' ⟨g1, g2⟩ => ⟨0, false, g1, ?_, h2.trans (g2.mono h2.size), fun j _ hj => g2.block j hj⟩
    intro W hW
    exact (drop32_no B v (tlist t) a n (by omega) W ((h4.below g2).below hW) hno).mono fun e w'' ⟨k1, k2⟩ => ⟨v, k1, ⟨t, ((hP.on g2).on hW).on k2, by omega⟩, k2⟩
  | some z =>
    have hm := (tget_mem hw).1 hg
    refine (tdrop_ok h1.1 ha hn hg (tsz_pos hg)).mono fun e w' ⟨g1, bs', g2, g3⟩ => ⟨z, true, g1, ?_, P32bel h2 h1 g3, fun j hj hj2 => g3.block j hj2 (fun hh => by have := hin j hh; omega)⟩
    intro W hW
    have hz := tsz_drop hg
    have hT' : TabW w' w0.heap.size T (tdrop a n t) bs' := ⟨by rw [hz]; exact g2, wf_drop a n hw, root_drop a n h1.2.2⟩
    have hr' : Its32 w' B v (tlist t) := own_same32 h4 (fun j hj => g3.block j (World.ownsRow.lt h4 j hj).2 (h5 j hj))
    refine (drop32_at B v (tlist t) a n (by omega) W (hr'.below hW) ⟨_, hm, rfl, rfl⟩).mono fun e w'' ⟨k, hk, k1, v', k2, ⟨B', k3, k4⟩, k5⟩ => ?_
    have hk' : (tlist t)[k]? = some (a, n, (tlist t)[k].2.2) := by
      rw [List.getElem?_eq_getElem hk, ← k1.1, ← k1.2]
    have he : (tlist t)[k].2.2 = z := sorted_key (tlist_sorted hw) (List.mem_of_getElem? hk') hm
    refine ⟨v', by rw [← he]; exact k2, ⟨tdrop a n t, ?_, by omega⟩, k5⟩
    have hb0 : Below w0.heap.size w0 W := (P32bel h2 h1 g3).trans (hW.mono (Nat.le_trans h2.size g3.size))
    refine ⟨bs', (hT'.on hW).on k5, hb0.trans (k5.mono hb0.size), ⟨B', Nat.le_trans hb0.size k3, ?_⟩, row_apart32 (hT'.on hW) k3 k4⟩
    rw [drop_list hw hk']
    exact k4
theorem P32.find {q : Int} (h : P32 w0 w T t v) (hq : 0 ≤ q ∧ q ≤ 4294967295) {fb fm fx : Int} {fi : Bool} (hf : fnd (tfind q t) = (fb, fm, fx, fi)) : Calls Try.prog 34 #[.pointer (some ⟨T, 0, none⟩), .int .u32 q] w fun e w' => e = .returned (.tuple #[.agg #[.int .u32 fb, .int .i64 fm], .int .i64 fx, .bool fi]) ∧ Below w.heap.size w w' := by
  obtain ⟨bs, h1⟩ := h.tab
  cases hz : tfind q t with
  | none =>
    rw [hz] at hf
    obtain ⟨rfl, rfl, rfl, rfl⟩ : 0 = fb ∧ 0 = fm ∧ 0 = fx ∧ false = fi := by simpa [fnd] using hf
    exact tfind_none h1.1 hq hz
  | some z =>
    rw [hz] at hf
    obtain ⟨z1, z2, z3⟩ := z
    obtain ⟨rfl, rfl, rfl, rfl⟩ : z1 = fb ∧ z2 = fm ∧ z3 = fx ∧ true = fi := by simpa [fnd] using hf
    exact tfind_some h1.1 hq hz
/-- What both find is the same. -/
theorem fnd_bst {q r fb fm fx : Int} {fi : Bool} (hw : Wf t) (hq : 0 ≤ q) (hb : bst32 (tlist t) q r) (hf : fnd (tfind q t) = (fb, fm, fx, fi)) : (fi = false ∧ r = -1 ∧ fb = 0 ∧ fm = 0 ∧ fx = 0) ∨ (fi = true ∧ ∃ k : Nat, ∃ h : k < (tlist t).length, r = k ∧ (tlist t)[k] = (fb, fm, fx)) := by
  rcases hb with ⟨hr, hno⟩ | ⟨k, hk, hr, hs, hall⟩
  · cases hz : tfind q t with
    | none =>
      rw [hz] at hf
      obtain ⟨rfl, rfl, rfl, rfl⟩ : 0 = fb ∧ 0 = fm ∧ 0 = fx ∧ false = fi := by simpa [fnd] using hf
      exact Or.inl ⟨rfl, hr, rfl, rfl, rfl⟩
    | some z =>
      obtain ⟨z1, z2, z3⟩ := z
      exact absurd (tfind_has hz) (hno _ (tfind_mem hz))
  · obtain ⟨z, hz, hle⟩ := tfind_best hq hw _ (List.getElem_mem hk) hs
    rw [hz] at hf
    obtain ⟨z1, z2, z3⟩ := z
    obtain ⟨rfl, rfl, rfl, rfl⟩ : z1 = fb ∧ z2 = fm ∧ z3 = fx ∧ true = fi := by simpa [fnd] using hf
    have hm := tfind_mem hz
    have hh := tfind_has hz
    have h2 := hall _ hm hh
    refine Or.inr ⟨rfl, k, hk, hr, ?_⟩
    have hmk := List.getElem_mem hk
    generalize (tlist t)[k] = e at *
    obtain ⟨e1, e2, e3⟩ := e
    dsimp only at hle h2 hs
    obtain rfl : e2 = z2 := by omega
    obtain rfl : e1 = z1 := has_same hs hh
    rw [sorted_key (tlist_sorted hw) hmk hm]
end
end Go.Proofs.Ytfjhcmihjffknaa
