/-
  Package trie: what is put into a tree, and dropped from it. No condition but that the tree stands, and, where a thing is put, that no two branches part anew.
-/
import Derived.Test.YtfjhcmihjffknaaTr8
namespace Go.Proofs.Ytfjhcmihjffknaa
set_option linter.unusedVariables false
set_option linter.unusedSimpArgs false
open Go.ChangeShapes Go.WideShapes Go.ChangeAt Go.RowKit

/-- A thing put under a prefix, where no branches part. -/
def tput (a n x : Int) : Tr → Tr
  | .nil => .nd a n true x .nil .nil
  | .nd b m th y l r => if b = a ∧ m = n then .nd b m true x l r else if brn m a = 0 then .nd b m th y (tput a n x l) r else .nd b m th y l (tput a n x r)
def noFork (a n : Int) : Tr → Prop
  | .nil => True
  | .nd b m th y l r => (b = a ∧ m = n) ∨ (CvP b m a n ∧ (if brn m a = 0 then noFork a n l else noFork a n r))
def Tr.isNil : Tr → Bool
  | .nil => true
  | .nd _ _ _ _ _ _ => false
/-- What comes in place of a node that may go. -/
def tshr : Tr → Tr
  | .nil => .nil
  | .nd b m th y l r => if th || (!l.isNil && !r.isNil) then .nd b m th y l r else if !l.isNil then l else r
/-- A tree behind a drop, its own node kept. -/
def tdrop (a n : Int) : Tr → Tr
  | .nil => .nil
  | .nd b m th y l r => if b = a ∧ m = n then .nd b m false 0 l r else if brn m a = 0 then .nd b m th y (tshr (tdrop a n l)) r else .nd b m th y l (tshr (tdrop a n r))
theorem mvs_mem {w w' : World} {A C : List Nat} {P Q : Nat → Prop} (m : MvS w w' P Q) (h : ∀ j, P j → j ∈ A) (k : ∀ j ∈ C, Q j ∨ j ∈ A) : MvS w w' (fun j => j ∈ A) (fun j => j ∈ C) :=
  ⟨m.os, m.tape, m.output, m.size, fun j hj hn => m.block j hj (fun hp => hn (h j hp)), fun j hj => by
    rcases k j hj with h1 | h1
    · exact (m.own j h1).imp id (h j)
    · exact Or.inr h1⟩
theorem put_any {base : Nat} {a n : Int} (ha : 0 ≤ a ∧ a ≤ 4294967295) (hn : 0 ≤ n ∧ n ≤ 32) (x : Int) : ∀ (t : Tr) {w : World} {v : Value} {bs : List Nat}, TrAt w base t v bs → noFork a n t → base ≤ w.heap.size →
    Calls Try.prog 67 #[v, .agg #[.int .u32 a, .int .i64 n], .int .i64 x] w fun e w' => ∃ p bs', e = .returned (.pointer p) ∧ TrAt w' base (tput a n x t) (.pointer p) bs' ∧ MvS w w' (fun j => j ∈ bs) (fun j => j ∈ bs') ∧ (t.isNil = false → v = .pointer p)
  | .nil, w, v, bs, h, _, hb => by
    obtain ⟨rfl, rfl⟩ := h
    refine (put_nil a n x w).mono fun e w' ⟨h1, h2, h3⟩ => ⟨_, [w.heap.size + 1], h1, ⟨w.heap.size + 1, _, _, [], [], rfl, rfl, by omega, ha, hn, h2, ⟨rfl, rfl⟩, ⟨rfl, rfl⟩, by simp⟩, ?_, fun h => by cases h⟩
    exact ⟨h3.os, h3.tape, h3.output, h3.size, fun j hj _ => h3.block j hj, fun j hj => by
      rw [List.mem_singleton] at hj
      exact Or.inl (by omega)⟩
  | .nd b m th y l r, w, v, bs, h, hf, hb => by
    obtain ⟨B, vl, vr, bl, br, rfl, rfl, h1, h5, h6, h2, h3, h4, h7⟩ := h
    unfold tput
    by_cases he : b = a ∧ m = n
    · rw [if_pos he]
      obtain ⟨rfl, rfl⟩ := he
      refine (put_this h2 x).mono fun e w' ⟨g1, g2, g3⟩ => ⟨_, B :: (bl ++ br), g1, ?_, mvs_mem g3 (fun j hj => by rw [hj]; simp) (fun j hj => Or.inr hj), fun _ => rfl⟩
      have hd := h7
      rw [List.nodup_cons, List.mem_append] at hd
      exact ⟨B, vl, vr, bl, br, rfl, rfl, h1, h5, h6, g2, h3.keep (fun j hj => g3.block j (h3.inlt j hj).2 (fun e => hd.1 (Or.inl (e ▸ hj)))), h4.keep (fun j hj => g3.block j (h4.inlt j hj).2 (fun e => hd.1 (Or.inr (e ▸ hj)))), h7⟩
    · rw [if_neg he]
      obtain ⟨hc, hf⟩ := hf.resolve_left he
      have hd := h7
      rw [List.nodup_cons, List.mem_append] at hd
      have hBl := (Array.getElem?_eq_some_iff.1 h2).1
      rcases brn_bit m a with h0 | h0
      · rw [if_pos h0] at hf ⊢
        refine (put_down0 h2 h5 h6 ha (by omega) hc he h0 x (Q := fun W w3 p => ∃ bs', TrAt w3 base (tput a n x l) (.pointer p) bs' ∧ MvS W w3 (fun j => j ∈ bl) (fun j => j ∈ bs')) (fun W hW => (put_any ha hn x l (h3.below hW) hf (Nat.le_trans hb hW.size)).mono fun e w' ⟨p, bs', g1, g2, g3, _⟩ => ⟨p, g1, g3.block B (Nat.lt_of_lt_of_le hBl hW.size) (fun hm => hd.1 (Or.inl hm)), bs', g2, g3⟩)).mono fun e w' ⟨g1, W, w3, p, hW, ⟨bs', hT, hm⟩, hB, hw'⟩ => ?_
        subst hw'
        obtain ⟨c1, c2, c3, c4, c5⟩ := TrAt.child0 h2 h3 h4 h7 hW hT hm hB
        exact ⟨_, B :: (bs' ++ br), g1, ⟨B, .pointer p, vr, bs', br, rfl, rfl, h1, h5, h6, c1, c2, c3, c4⟩, c5, fun _ => rfl⟩
      · rw [if_neg (by omega)] at hf ⊢
        refine (put_down1 h2 h5 h6 ha (by omega) hc he h0 x (Q := fun W w3 p => ∃ bs', TrAt w3 base (tput a n x r) (.pointer p) bs' ∧ MvS W w3 (fun j => j ∈ br) (fun j => j ∈ bs')) (fun W hW => (put_any ha hn x r (h4.below hW) hf (Nat.le_trans hb hW.size)).mono fun e w' ⟨p, bs', g1, g2, g3, _⟩ => ⟨p, g1, g3.block B (Nat.lt_of_lt_of_le hBl hW.size) (fun hm => hd.1 (Or.inr hm)), bs', g2, g3⟩)).mono fun e w' ⟨g1, W, w3, p, hW, ⟨bs', hT, hm⟩, hB, hw'⟩ => ?_
        subst hw'
        obtain ⟨c1, c2, c3, c4, c5⟩ := TrAt.child1 h2 h3 h4 h7 hW hT hm hB
        exact ⟨_, B :: (bl ++ bs'), g1, ⟨B, vl, .pointer p, bl, bs', rfl, rfl, h1, h5, h6, c1, c3, c2, c4⟩, c5, fun _ => rfl⟩
/-- What comes in place of a node, in memory. -/
theorem TrAt.shrunk {w : World} {base B : Nat} {b m : Int} {th : Bool} {y : Int} {l r : Tr} {pl pr : Option Addr} {bl br : List Nat} (h1 : base ≤ B) (h5 : 0 ≤ b ∧ b ≤ 4294967295) (h6 : 0 ≤ m ∧ m ≤ 32) (h2 : NodeAt w B b m th y (.pointer pl) (.pointer pr)) (h3 : TrAt w base l (.pointer pl) bl) (h4 : TrAt w base r (.pointer pr) br) (h7 : (B :: (bl ++ br)).Nodup) :
    ∃ bs, TrAt w base (tshr (.nd b m th y l r)) (.pointer (shr th pl pr B)) bs ∧ ∀ j ∈ bs, j ∈ B :: (bl ++ br) := by
  have il : pl.isSome = !l.isNil := by
    obtain ⟨p, e, hp⟩ := h3.isp
    cases e
    cases l with
    | nil => rw [hp.2 rfl]; rfl
    | nd a n th x l r =>
      cases pl with
      | none => cases hp.1 rfl
      | some q => rfl
  have ir : pr.isSome = !r.isNil := by
    obtain ⟨p, e, hp⟩ := h4.isp
    cases e
    cases r with
    | nil => rw [hp.2 rfl]; rfl
    | nd a n th x l r =>
      cases pr with
      | none => cases hp.1 rfl
      | some q => rfl
  simp only [tshr, shr]
  rw [il, ir]
  by_cases hk : (th || (!l.isNil && !r.isNil)) = true
  · rw [if_pos hk, if_pos hk]
    exact ⟨B :: (bl ++ br), ⟨B, _, _, bl, br, rfl, rfl, h1, h5, h6, h2, h3, h4, h7⟩, fun j hj => hj⟩
  · rw [if_neg hk, if_neg hk]
    by_cases hl : (!l.isNil) = true
    · rw [if_pos hl, if_pos hl]
      exact ⟨bl, h3, fun j hj => by simp [hj]⟩
    · rw [if_neg hl, if_neg hl]
      exact ⟨br, h4, fun j hj => by simp [hj]⟩
theorem drop_any {base : Nat} {a n : Int} (ha : 0 ≤ a ∧ a ≤ 4294967295) : ∀ (t : Tr) {w : World} {v : Value} {bs : List Nat}, TrAt w base t v bs → tat a n t ≠ none →
    Calls Try.prog 63 #[v, .agg #[.int .u32 a, .int .i64 n]] w fun e w' => (∃ p bs', e = .returned (.pointer p) ∧ TrAt w' base (tshr (tdrop a n t)) (.pointer p) bs' ∧ MvS w w' (fun j => j ∈ bs) (fun j => j ∈ bs')) ∧ ∃ bs', TrAt w' base (tdrop a n t) v bs' ∧ MvS w w' (fun j => j ∈ bs) (fun j => j ∈ bs')
  | .nil, w, v, bs, h, hp => absurd rfl hp
  | .nd b m th y l r, w, v, bs, h, hp => by
    obtain ⟨B, vl, vr, bl, br, rfl, rfl, h1, h5, h6, h2, h3, h4, h7⟩ := h
    obtain ⟨pl, rfl, -⟩ := h3.isp
    obtain ⟨pr, rfl, -⟩ := h4.isp
    have hd := h7
    rw [List.nodup_cons, List.mem_append] at hd
    have hBl := (Array.getElem?_eq_some_iff.1 h2).1
    have both : ∀ {w' : World} {th' : Bool} {y' : Int} {l' r' : Tr} {ql qr : Option Addr} {bl' br' : List Nat}, NodeAt w' B b m th' y' (.pointer ql) (.pointer qr) → TrAt w' base l' (.pointer ql) bl' → TrAt w' base r' (.pointer qr) br' → (B :: (bl' ++ br')).Nodup → MvS w w' (fun j => j ∈ B :: (bl ++ br)) (fun j => j ∈ B :: (bl' ++ br')) →
        (∃ p bs', Ending.returned (.pointer (shr th' ql qr B)) = .returned (.pointer p) ∧ TrAt w' base (tshr (.nd b m th' y' l' r')) (.pointer p) bs' ∧ MvS w w' (fun j => j ∈ B :: (bl ++ br)) (fun j => j ∈ bs')) ∧ ∃ bs', TrAt w' base (.nd b m th' y' l' r') (.pointer (some ⟨B, 0, none⟩)) bs' ∧ MvS w w' (fun j => j ∈ B :: (bl ++ br)) (fun j => j ∈ bs') := by
      intro w' th' y' l' r' ql qr bl' br' g1 g2 g3 g4 g5
      obtain ⟨bs', k1, k2⟩ := TrAt.shrunk h1 h5 h6 g1 g2 g3 g4
      exact ⟨⟨_, bs', rfl, k1, ⟨g5.os, g5.tape, g5.output, g5.size, g5.block, fun j hj => g5.own j (k2 j hj)⟩⟩, _, ⟨B, _, _, bl', br', rfl, rfl, h1, h5, h6, g1, g2, g3, g4⟩, g5⟩
    unfold tat at hp
    unfold tdrop
    by_cases he : b = a ∧ m = n
    · rw [if_pos he]
      obtain ⟨rfl, rfl⟩ := he
      refine (drop_this h2).mono fun e w' ⟨g1, g2, g3⟩ => ?_
      rw [g1]
      exact both g2 (h3.keep (fun j hj => g3.block j (h3.inlt j hj).2 (fun e => hd.1 (Or.inl (e ▸ hj))))) (h4.keep (fun j hj => g3.block j (h4.inlt j hj).2 (fun e => hd.1 (Or.inr (e ▸ hj))))) h7 (mvs_mem g3 (fun j hj => by rw [hj]; simp) (fun j hj => Or.inr hj))
    · rw [if_neg he]
      by_cases hc : CvP b m a n
      · rw [if_pos hc, if_neg he] at hp
        rcases brn_bit m a with h0 | h0
        · rw [if_pos h0] at hp ⊢
          refine (drop_down0 h2 h6 ha he h0 (Q := fun W w3 p => ∃ bs', TrAt w3 base (tshr (tdrop a n l)) (.pointer p) bs' ∧ MvS W w3 (fun j => j ∈ bl) (fun j => j ∈ bs')) (fun W hW => (drop_any ha l (h3.below hW) hp).mono fun e w' ⟨⟨p, bs', g1, g2, g3⟩, _⟩ => ⟨p, g1, g3.block B (Nat.lt_of_lt_of_le hBl hW.size) (fun hm => hd.1 (Or.inl hm)), bs', g2, g3⟩)).mono fun e w' ⟨W, w3, p, g1, hW, ⟨bs', hT, hm⟩, hB, hw'⟩ => ?_
          subst hw'
          obtain ⟨c1, c2, c3, c4, c5⟩ := TrAt.child0 h2 h3 h4 h7 hW hT hm hB
          rw [g1]
          exact both c1 c2 c3 c4 c5
        · rw [if_neg (by omega)] at hp ⊢
          refine (drop_down1 h2 h6 ha he h0 (Q := fun W w3 p => ∃ bs', TrAt w3 base (tshr (tdrop a n r)) (.pointer p) bs' ∧ MvS W w3 (fun j => j ∈ br) (fun j => j ∈ bs')) (fun W hW => (drop_any ha r (h4.below hW) hp).mono fun e w' ⟨⟨p, bs', g1, g2, g3⟩, _⟩ => ⟨p, g1, g3.block B (Nat.lt_of_lt_of_le hBl hW.size) (fun hm => hd.1 (Or.inr hm)), bs', g2, g3⟩)).mono fun e w' ⟨W, w3, p, g1, hW, ⟨bs', hT, hm⟩, hB, hw'⟩ => ?_
          subst hw'
          obtain ⟨c1, c2, c3, c4, c5⟩ := TrAt.child1 h2 h3 h4 h7 hW hT hm hB
          rw [g1]
          exact both c1 c3 c2 c4 c5
      · rw [if_neg hc] at hp
        exact absurd rfl hp
end Go.Proofs.Ytfjhcmihjffknaa
