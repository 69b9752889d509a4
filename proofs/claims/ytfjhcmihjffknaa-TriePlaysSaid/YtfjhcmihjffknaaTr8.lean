/-
  Package trie: what is found, put and dropped in a tree. No condition but that the tree stands, and, where a thing is put, that no two branches part anew.
-/
import Derived.Test.YtfjhcmihjffknaaTr4
import Derived.Test.YtfjhcmihjffknaaTr5
import Derived.Test.YtfjhcmihjffknaaTr7
namespace Go.Proofs.Ytfjhcmihjffknaa
set_option linter.unusedVariables false
set_option linter.unusedSimpArgs false
open Go.ChangeShapes Go.WideShapes Go.ChangeAt Go.RowKit

/-- The longest prefix that has an address, and its element. -/
def tfind (a : Int) : Tr → Option (Int × Int × Int)
  | .nil => none
  | .nd b m th x l r => if HsP b m a then (match (if brn m a = 0 then tfind a l else tfind a r) with
    | some z => some z
    | none => if th then some (b, m, x) else none) else none
def FdR (w : World) : Option (Int × Int × Int) → Value → Prop
  | none, v => v = .pointer none
  | some z, v => ∃ B th vl vr, v = .pointer (some ⟨B, 0, none⟩) ∧ NodeAt w B z.1 z.2.1 th z.2.2 vl vr
theorem find_any {base : Nat} {a : Int} (ha : 0 ≤ a ∧ a ≤ 4294967295) : ∀ (t : Tr) {w : World} {v : Value} {bs : List Nat}, TrAt w base t v bs → ∀ W, Below w.heap.size w W →
    Calls Try.prog 65 #[v, .int .u32 a] W fun e w' => (∃ v', e = .returned v' ∧ FdR w (tfind a t) v') ∧ Below W.heap.size W w'
  | .nil, w, v, bs, h, W, hb => by
    obtain ⟨rfl, -⟩ := h
    exact (find_nil a W).mono fun e w' ⟨h1, h2⟩ => ⟨⟨_, h1, rfl⟩, h2⟩
  | .nd b m th x l r, w, v, bs, h, W, hb => by
    obtain ⟨B, vl, vr, bl, br, rfl, -, h1, h5, h6, h2, h3, h4, h7⟩ := h
    have hN : NodeAt W B b m th x vl vr := h2.below hb
    unfold tfind
    by_cases hc : HsP b m a
    · rw [if_pos hc]
      have ihl := fun W' hw => find_any ha l h3 W' (hb.trans (Below.mono hw hb.size))
      have ihr := fun W' hw => find_any ha r h4 W' (hb.trans (Below.mono hw hb.size))
      rcases brn_bit m a with h0 | h0
      · rw [if_pos h0]
        cases hz : tfind a l with
        | none =>
          rw [hz] at ihl
          refine (find_none0 hN h5 h6 ha hc h0 (fun W' hw => (ihl W' hw).mono fun e w' ⟨⟨v', g1, g2⟩, g3⟩ => ⟨by rw [g1]; exact congrArg Ending.returned g2, g3⟩)).mono fun e w' ⟨g1, g2⟩ => ⟨⟨_, g1, ?_⟩, g2⟩
          cases th
          · rfl
          · exact ⟨B, true, vl, vr, rfl, h2⟩
        | some z =>
          rw [hz] at ihl
          exact (find_some0 hN h5 h6 ha hc h0 (R := fun B2 => FdR w (some z) (.pointer (some ⟨B2, 0, none⟩))) (fun W' hw => (ihl W' hw).mono fun e w' ⟨⟨v', g1, g2⟩, g3⟩ => by
            obtain ⟨B2, th2, vl2, vr2, rfl, g4⟩ := g2
            exact ⟨⟨B2, g1, B2, th2, vl2, vr2, rfl, g4⟩, g3⟩)).mono fun e w' ⟨⟨B2, g1, g4⟩, g2⟩ => ⟨⟨_, g1, g4⟩, g2⟩
      · rw [if_neg (by omega)]
        cases hz : tfind a r with
        | none =>
          rw [hz] at ihr
          refine (find_none1 hN h5 h6 ha hc h0 (fun W' hw => (ihr W' hw).mono fun e w' ⟨⟨v', g1, g2⟩, g3⟩ => ⟨by rw [g1]; exact congrArg Ending.returned g2, g3⟩)).mono fun e w' ⟨g1, g2⟩ => ⟨⟨_, g1, ?_⟩, g2⟩
          cases th
          · rfl
          · exact ⟨B, true, vl, vr, rfl, h2⟩
        | some z =>
          rw [hz] at ihr
          exact (find_some1 hN h5 h6 ha hc h0 (R := fun B2 => FdR w (some z) (.pointer (some ⟨B2, 0, none⟩))) (fun W' hw => (ihr W' hw).mono fun e w' ⟨⟨v', g1, g2⟩, g3⟩ => by
            obtain ⟨B2, th2, vl2, vr2, rfl, g4⟩ := g2
            exact ⟨⟨B2, g1, B2, th2, vl2, vr2, rfl, g4⟩, g3⟩)).mono fun e w' ⟨⟨B2, g1, g4⟩, g2⟩ => ⟨⟨_, g1, g4⟩, g2⟩
    · rw [if_neg hc]
      exact (find_not hN h5 h6 ha hc).mono fun e w' ⟨g1, g2⟩ => ⟨⟨_, g1, rfl⟩, g2⟩
theorem TrAt.nodup {w : World} {base : Nat} {t : Tr} {v : Value} {bs : List Nat} (h : TrAt w base t v bs) : bs.Nodup := by
  cases t with
  | nil => rw [h.2]; exact List.nodup_nil
  | nd a n th x l r =>
    obtain ⟨B, vl, vr, bl, br, rfl, rfl, h1, h5, h6, h2, h3, h4, h7⟩ := h
    exact h7
/-- A place is none just where its tree is. -/
theorem TrAt.isp {w : World} {base : Nat} {t : Tr} {v : Value} {bs : List Nat} (h : TrAt w base t v bs) : ∃ p, v = .pointer p ∧ (p = none ↔ t = .nil) := by
  cases t with
  | nil => exact ⟨none, h.1, by simp⟩
  | nd a n th x l r =>
    obtain ⟨B, vl, vr, bl, br, rfl, -⟩ := h
    exact ⟨_, rfl, by simp⟩
section
variable {w W w3 : World} {base B : Nat} {b m : Int} {th : Bool} {y : Int} {l r t' : Tr} {vl vr : Value} {bl br bc : List Nat} {p : Option Addr}
theorem TrAt.child0 (hN : NodeAt w B b m th y vl vr) (hl : TrAt w base l vl bl) (hr : TrAt w base r vr br) (hd : (B :: (bl ++ br)).Nodup) (hW : Below w.heap.size w W) (hT : TrAt w3 base t' (.pointer p) bc) (hm : MvS W w3 (fun j => j ∈ bl) (fun j => j ∈ bc)) (hB : w3.heap[B]? = W.heap[B]?) :
    NodeAt (w3.setCell ⟨B, 4, none⟩ (.pointer p)) B b m th y (.pointer p) vr ∧ TrAt (w3.setCell ⟨B, 4, none⟩ (.pointer p)) base t' (.pointer p) bc ∧ TrAt (w3.setCell ⟨B, 4, none⟩ (.pointer p)) base r vr br ∧ (B :: (bc ++ br)).Nodup ∧
    MvS w (w3.setCell ⟨B, 4, none⟩ (.pointer p)) (fun j => j ∈ B :: (bl ++ br)) (fun j => j ∈ B :: (bc ++ br)) := by
  rw [List.nodup_cons, List.nodup_append, List.mem_append] at hd
  obtain ⟨d1, d2, d3, d4⟩ := hd
  have hBl : B < w.heap.size := (Array.getElem?_eq_some_iff.1 hN).1
  have h3 : NodeAt w3 B b m th y vl vr := hB.trans (hN.below hW)
  have hset : ∀ j, j ≠ B → (w3.setCell ⟨B, 4, none⟩ (.pointer p)).heap[j]? = w3.heap[j]? := fun j hj => Below.heap_setCell w3 _ _ j hj
  have hBc : B ∉ bc := fun h => by
    rcases hm.own B h with h1 | h1
    · have := hW.size; omega
    · exact d1 (Or.inl h1)
  have hbrW : ∀ j ∈ br, j < w.heap.size ∧ w3.heap[j]? = W.heap[j]? := fun j hj => ⟨(hr.inlt j hj).2, hm.block j (Nat.lt_of_lt_of_le (hr.inlt j hj).2 hW.size) (fun h => d4 j h j hj rfl)⟩
  refine ⟨by simpa [NodeAt] using heap_set h3 4 (.pointer p), hT.keep (fun j hj => hset j (fun e => hBc (e ▸ hj))), hr.keep (fun j hj => (hset j (fun e => d1 (Or.inr (e ▸ hj)))).trans ((hbrW j hj).2.trans (hW.block j (hbrW j hj).1))), ?_, ?_⟩
  · rw [List.nodup_cons, List.nodup_append, List.mem_append]
    refine ⟨fun h => h.elim hBc (fun h => d1 (Or.inr h)), hT.nodup, d3, fun x hx z hz e => ?_⟩
    subst e
    rcases hm.own x hx with h1 | h1
    · have := (hbrW x hz).1; have := hW.size; omega
    · exact d4 x h1 x hz rfl
  · refine ⟨hm.os.trans hW.os, hm.tape.trans hW.tape, hm.output.trans hW.output, by simpa using Nat.le_trans hW.size hm.size, fun j hj hn => ?_, fun j hj => ?_⟩
    · rw [List.mem_cons, List.mem_append] at hn
      exact (hset j (fun e => hn (Or.inl e))).trans ((hm.block j (Nat.lt_of_lt_of_le hj hW.size) (fun h => hn (Or.inr (Or.inl h)))).trans (hW.block j hj))
    · rw [List.mem_cons, List.mem_append] at hj
      rcases hj with rfl | hj | hj
      · exact Or.inr (by simp)
      · rcases hm.own j hj with h1 | h1
        · exact Or.inl (Nat.le_trans hW.size h1)
        · exact Or.inr (by simp [h1])
      · exact Or.inr (by simp [hj])
theorem TrAt.child1 (hN : NodeAt w B b m th y vl vr) (hl : TrAt w base l vl bl) (hr : TrAt w base r vr br) (hd : (B :: (bl ++ br)).Nodup) (hW : Below w.heap.size w W) (hT : TrAt w3 base t' (.pointer p) bc) (hm : MvS W w3 (fun j => j ∈ br) (fun j => j ∈ bc)) (hB : w3.heap[B]? = W.heap[B]?) :
    NodeAt (w3.setCell ⟨B, 5, none⟩ (.pointer p)) B b m th y vl (.pointer p) ∧ TrAt (w3.setCell ⟨B, 5, none⟩ (.pointer p)) base t' (.pointer p) bc ∧ TrAt (w3.setCell ⟨B, 5, none⟩ (.pointer p)) base l vl bl ∧ (B :: (bl ++ bc)).Nodup ∧
    MvS w (w3.setCell ⟨B, 5, none⟩ (.pointer p)) (fun j => j ∈ B :: (bl ++ br)) (fun j => j ∈ B :: (bl ++ bc)) := by
  rw [List.nodup_cons, List.nodup_append, List.mem_append] at hd
  obtain ⟨d1, d2, d3, d4⟩ := hd
  have hBl : B < w.heap.size := (Array.getElem?_eq_some_iff.1 hN).1
  have h3 : NodeAt w3 B b m th y vl vr := hB.trans (hN.below hW)
  have hset : ∀ j, j ≠ B → (w3.setCell ⟨B, 5, none⟩ (.pointer p)).heap[j]? = w3.heap[j]? := fun j hj => Below.heap_setCell w3 _ _ j hj
  have hBc : B ∉ bc := fun h => by
    rcases hm.own B h with h1 | h1
    · have := hW.size; omega
    · exact d1 (Or.inr h1)
  have hbrW : ∀ j ∈ bl, j < w.heap.size ∧ w3.heap[j]? = W.heap[j]? := fun j hj => ⟨(hl.inlt j hj).2, hm.block j (Nat.lt_of_lt_of_le (hl.inlt j hj).2 hW.size) (fun h => d4 j hj j h rfl)⟩
  refine ⟨by simpa [NodeAt] using heap_set h3 5 (.pointer p), hT.keep (fun j hj => hset j (fun e => hBc (e ▸ hj))), hl.keep (fun j hj => (hset j (fun e => d1 (Or.inl (e ▸ hj)))).trans ((hbrW j hj).2.trans (hW.block j (hbrW j hj).1))), ?_, ?_⟩
  · rw [List.nodup_cons, List.nodup_append, List.mem_append]
    refine ⟨fun h => h.elim (fun h => d1 (Or.inl h)) hBc, d2, hT.nodup, fun x hx z hz e => ?_⟩
    subst e
    rcases hm.own x hz with h1 | h1
    · have := (hbrW x hx).1; have := hW.size; omega
    · exact d4 x hx x h1 rfl
  · refine ⟨hm.os.trans hW.os, hm.tape.trans hW.tape, hm.output.trans hW.output, by simpa using Nat.le_trans hW.size hm.size, fun j hj hn => ?_, fun j hj => ?_⟩
    · rw [List.mem_cons, List.mem_append] at hn
      exact (hset j (fun e => hn (Or.inl e))).trans ((hm.block j (Nat.lt_of_lt_of_le hj hW.size) (fun h => hn (Or.inr (Or.inr h)))).trans (hW.block j hj))
    · rw [List.mem_cons, List.mem_append] at hj
      rcases hj with rfl | hj | hj
      · exact Or.inr (by simp)
      · exact Or.inr (by simp [hj])
      · rcases hm.own j hj with h1 | h1
        · exact Or.inl (Nat.le_trans hW.size h1)
        · exact Or.inr (by simp [h1])
end
end Go.Proofs.Ytfjhcmihjffknaa
