/-
  Package trie: trees, in memory; where the node of a prefix is. No condition but that the tree stands.
-/
import Derived.Test.YtfjhcmihjffknaaTr3
namespace Go.Proofs.Ytfjhcmihjffknaa
set_option linter.unusedVariables false
set_option linter.unusedSimpArgs false
open Go.ChangeShapes Go.WideShapes Go.ChangeAt Go.RowKit

/-- A tree of prefixes: a node's prefix, whether it has an element, the element, the trees below. -/
inductive Tr where
  | nil : Tr
  | nd (a n : Int) (th : Bool) (x : Int) (l r : Tr) : Tr
/-- A tree in memory: its root's place, its blocks. -/
def TrAt (w : World) (base : Nat) : Tr → Value → List Nat → Prop
  | .nil, v, bs => v = .pointer none ∧ bs = []
  | .nd a n th x l r, v, bs => ∃ B vl vr bl br, v = .pointer (some ⟨B, 0, none⟩) ∧ bs = B :: (bl ++ br) ∧ base ≤ B ∧ (0 ≤ a ∧ a ≤ 4294967295) ∧ (0 ≤ n ∧ n ≤ 32) ∧ NodeAt w B a n th x vl vr ∧ TrAt w base l vl bl ∧ TrAt w base r vr br ∧ (B :: (bl ++ br)).Nodup
theorem TrAt.inlt {w : World} {base : Nat} : ∀ {t : Tr} {v : Value} {bs : List Nat}, TrAt w base t v bs → ∀ j ∈ bs, base ≤ j ∧ j < w.heap.size
  | .nil, v, bs, h, j, hj => by
    rw [h.2] at hj
    cases hj
  | .nd a n th x l r, v, bs, h, j, hj => by
    obtain ⟨B, vl, vr, bl, br, rfl, rfl, h1, -, -, h2, h3, h4, -⟩ := h
    rw [List.mem_cons, List.mem_append] at hj
    rcases hj with rfl | hj | hj
    · exact ⟨h1, (Array.getElem?_eq_some_iff.1 h2).1⟩
    · exact h3.inlt j hj
    · exact h4.inlt j hj
theorem TrAt.keep {w w' : World} {base : Nat} : ∀ {t : Tr} {v : Value} {bs : List Nat}, TrAt w base t v bs → (∀ j ∈ bs, w'.heap[j]? = w.heap[j]?) → TrAt w' base t v bs
  | .nil, v, bs, h, _ => h
  | .nd a n th x l r, v, bs, h, hk => by
    obtain ⟨B, vl, vr, bl, br, rfl, rfl, h1, h5, h6, h2, h3, h4, h7⟩ := h
    exact ⟨B, vl, vr, bl, br, rfl, rfl, h1, h5, h6, (hk B (by simp)).trans h2, h3.keep (fun j hj => hk j (by simp [hj])), h4.keep (fun j hj => hk j (by simp [hj])), h7⟩
theorem TrAt.below {w w' : World} {base : Nat} {t : Tr} {v : Value} {bs : List Nat} (h : TrAt w base t v bs) (hb : Below w.heap.size w w') : TrAt w' base t v bs := h.keep (fun j hj => hb.block j (h.inlt j hj).2)
/-- The node of a prefix: whether it has an element, and the element. -/
def tat (a n : Int) : Tr → Option (Bool × Int)
  | .nil => none
  | .nd b m th x l r => if CvP b m a n then (if b = a ∧ m = n then some (th, x) else if brn m a = 0 then tat a n l else tat a n r) else none
def AtR (w : World) : Option (Bool × Int) → Value → Prop
  | none, v => v = .pointer none
  | some z, v => ∃ B b m vl vr, v = .pointer (some ⟨B, 0, none⟩) ∧ NodeAt w B b m z.1 z.2 vl vr
theorem at_any {base : Nat} {a n : Int} (ha : 0 ≤ a ∧ a ≤ 4294967295) (hn : -9223372036854775808 ≤ n ∧ n ≤ 9223372036854775807) : ∀ (t : Tr) {w : World} {v : Value} {bs : List Nat}, TrAt w base t v bs → ∀ W, Below w.heap.size w W →
    Calls Try.prog 84 #[v, .agg #[.int .u32 a, .int .i64 n]] W fun e w' => (∃ v', e = .returned v' ∧ AtR w (tat a n t) v') ∧ Below W.heap.size W w'
  | .nil, w, v, bs, h, W, hb => by
    obtain ⟨rfl, -⟩ := h
    exact (at_nil a n W).mono fun e w' ⟨h1, h2⟩ => ⟨⟨_, h1, rfl⟩, h2⟩
  | .nd b m th x l r, w, v, bs, h, W, hb => by
    obtain ⟨B, vl, vr, bl, br, rfl, -, h1, h5, h6, h2, h3, h4, h7⟩ := h
    have hN : NodeAt W B b m th x vl vr := h2.below hb
    unfold tat
    by_cases hc : CvP b m a n
    · rw [if_pos hc]
      by_cases he : b = a ∧ m = n
      · rw [if_pos he]
        obtain ⟨rfl, rfl⟩ := he
        exact (at_this hN h5 h6 hc).mono fun e w' ⟨g1, g2⟩ => ⟨⟨_, g1, B, b, m, vl, vr, rfl, h2⟩, g2⟩
      · rw [if_neg he]
        rcases brn_bit m a with h0 | h0
        · rw [if_pos h0]
          exact at_down0 hN h5 h6 ha hn hc he h0 (R := AtR w (tat a n l)) (fun W' hw => at_any ha hn l h3 W' (hb.trans (hw.mono hb.size)))
        · rw [if_neg (by omega)]
          exact at_down1 hN h5 h6 ha hn hc he h0 (R := AtR w (tat a n r)) (fun W' hw => at_any ha hn r h4 W' (hb.trans (hw.mono hb.size)))
    · rw [if_neg hc]
      exact (at_not hN h5 h6 ha hn hc).mono fun e w' ⟨g1, g2⟩ => ⟨⟨_, g1, rfl⟩, g2⟩
end Go.Proofs.Ytfjhcmihjffknaa
