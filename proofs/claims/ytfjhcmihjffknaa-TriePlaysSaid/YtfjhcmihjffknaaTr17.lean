/-
  Package trie: a thing is put into a tree that is well formed. No condition but that the tree stands and the prefix is right.
-/
import Derived.Test.YtfjhcmihjffknaaTr16
namespace Go.Proofs.Ytfjhcmihjffknaa
set_option linter.unusedVariables false
set_option linter.unusedSimpArgs false
open Go.ChangeShapes Go.WideShapes Go.ChangeAt Go.RowKit

theorem fork_mvs {w V w' : World} {F : Nat} {X Y bs : List Nat} (hV : Below w.heap.size w V) (hF : w.heap.size ≤ F) (m : MvS V w' (fun j => j ∈ F :: X) (fun j => j ∈ Y)) (hX : ∀ j ∈ X, j ∈ bs) : MvS w w' (fun j => j ∈ bs) (fun j => j ∈ Y) :=
  ⟨m.os.trans hV.os, m.tape.trans hV.tape, m.output.trans hV.output, Nat.le_trans hV.size m.size, fun j hj hn => (m.block j (Nat.lt_of_lt_of_le hj hV.size) (fun hin => by
    rw [List.mem_cons] at hin
    rcases hin with e | e
    · omega
    · exact hn (hX j e))).trans (hV.block j hj), fun j hj => by
    rcases m.own j hj with e | e
    · exact Or.inl (Nat.le_trans hV.size e)
    · rw [List.mem_cons] at e
      rcases e with e | e
      · exact Or.inl (by omega)
      · exact Or.inr (hX j e)⟩
theorem leaf_at {w w3 : World} {base : Nat} {a n x : Int} {k : Nat} (ha : 0 ≤ a ∧ a ≤ 4294967295) (hn : 0 ≤ n ∧ n ≤ 32) (hk : w.heap.size ≤ k) (hb : base ≤ w.heap.size) (h : NodeAt w3 k a n true x (.pointer none) (.pointer none)) (h3 : Below w.heap.size w w3) : TrAt w3 base (.nd a n true x .nil .nil) (.pointer (some ⟨k, 0, none⟩)) [k] ∧ MvS w w3 (fun j => j ∈ ([] : List Nat)) (fun j => j ∈ [k]) :=
  ⟨⟨k, _, _, [], [], rfl, rfl, by omega, ha, hn, h, ⟨rfl, rfl⟩, ⟨rfl, rfl⟩, by simp⟩, ⟨h3.os, h3.tape, h3.output, h3.size, fun j hj _ => h3.block j hj, fun j hj => by
    rw [List.mem_singleton] at hj
    exact Or.inl (by omega)⟩⟩
section
variable {base : Nat} {a n x : Int} (ha : 0 ≤ a ∧ a ≤ 4294967295) (hr : RtP a n)
include ha hr
theorem fork_any {w : World} {B : Nat} {b m : Int} {th : Bool} {y : Int} {l r : Tr} {bs : List Nat} (h : TrAt w base (.nd b m th y l r) (.pointer (some ⟨B, 0, none⟩)) bs) (hp : RtP b m) (hb : base ≤ w.heap.size) (he : ¬ (b = a ∧ m = n)) (hc : ¬ CvP b m a n) :
    Calls Try.prog 67 #[.pointer (some ⟨B, 0, none⟩), .agg #[.int .u32 a, .int .i64 n], .int .i64 x] w fun e w' => ∃ p, e = .returned (.pointer p) ∧ ∃ bs', TrAt w' base (forkT a n x b m (.nd b m th y l r)) (.pointer p) bs' ∧ MvS w w' (fun j => j ∈ bs) (fun j => j ∈ bs') := by
  have h0 := h
  obtain ⟨B', vl, vr, bl, br, e0, -, h1, h5, h6, h2, h3, h4, h7⟩ := h
  simp only [Value.pointer.injEq, Option.some.injEq, Addr.mk.injEq, and_true] at e0
  subst e0
  obtain ⟨f1, f2⟩ := fork_is ha hr h5 hp he hc
  have hlt : ∀ j ∈ bs, j < w.heap.size := fun j hj => (h0.inlt j hj).2
  generalize htt : (Tr.nd b m th y l r) = t at *
  unfold forkT
  have hn := hr.1
  rcases brn_bit (comN b m a n) b with hx | hx
  · refine put_fork0 h2 h5 hp ha hr hc he hx x (fun V F hV hF hN => ?_)
    have hFn : F ∉ bs := fun hin => by have := hlt F hin; omega
    have hFl : F < V.heap.size := (Array.getElem?_eq_some_iff.1 hN).1
    have t0 : TrAt V base t (.pointer (some ⟨B, 0, none⟩)) bs := h0.below hV
    by_cases e : comN b m a n = n
    · rw [if_pos e]
      obtain ⟨k1, k2, k3⟩ := f1 e
      rw [e] at hx hN
      rw [k1] at hN
      rw [if_pos hx]
      refine (put_this hN x).mono fun e w' ⟨g1, g2, g3⟩ => ⟨_, g1, F :: (bs ++ []), ⟨F, _, _, bs, [], rfl, rfl, by omega, ha, hr.1, g2, t0.keep (fun j hj => g3.block j (t0.inlt j hj).2 (fun e => hFn (e ▸ hj))), ⟨rfl, rfl⟩, by rw [List.append_nil, List.nodup_cons]; exact ⟨hFn, h0.nodup⟩⟩, ?_⟩
      exact fork_mvs (X := bs ++ []) hV hF (mvs_mem g3 (fun j hj => by rw [hj]; simp) (fun j hj => Or.inr hj)) (fun j hj => by simpa using hj)
    · rw [if_neg e]
      obtain ⟨k1, k2, k3, k4, k5, k6, k7⟩ := f2 e
      rw [if_pos hx]
      have hj : brn (comN b m a n) a = 1 := by rcases brn_bit (comN b m a n) a with h | h <;> omega
      refine (put_down1 hN k7 k6.1 ha (by omega) k5 (fun h => e h.2) hj x (Q := fun W w3 p => p = some ⟨W.heap.size + 1, 0, none⟩ ∧ NodeAt w3 (W.heap.size + 1) a n true x (.pointer none) (.pointer none) ∧ Below W.heap.size W w3) (fun W hW => (put_nil a n x W).mono fun e w' ⟨g1, g2, g3⟩ => ⟨_, g1, g3.block F (Nat.lt_of_lt_of_le hFl hW.size), rfl, g2, g3⟩)).mono fun e w' ⟨g1, W, w3, p, hW, ⟨hp', hL, hB3⟩, hB, hw'⟩ => ?_
      subst hp' hw'
      obtain ⟨q1, q2⟩ := leaf_at (base := base) ha hr.1 (Nat.le_succ _) (Nat.le_trans hb (Nat.le_trans hV.size hW.size)) hL hB3
      obtain ⟨c1, c2, c3, c4, c5⟩ := TrAt.child1 hN t0 (show TrAt V base .nil (.pointer none) [] from ⟨rfl, rfl⟩) (by rw [List.append_nil, List.nodup_cons]; exact ⟨hFn, h0.nodup⟩) hW q1 q2 hB
      exact ⟨_, g1, F :: (bs ++ [W.heap.size + 1]), ⟨F, _, _, bs, [W.heap.size + 1], rfl, rfl, by omega, k7, k6.1, c1, c3, c2, c4⟩, fork_mvs (X := bs ++ []) hV hF c5 (fun j hj => by simpa using hj)⟩
  · refine put_fork1 h2 h5 hp ha hr hc he hx x (fun V F hV hF hN => ?_)
    have hFn : F ∉ bs := fun hin => by have := hlt F hin; omega
    have hFl : F < V.heap.size := (Array.getElem?_eq_some_iff.1 hN).1
    have t0 : TrAt V base t (.pointer (some ⟨B, 0, none⟩)) bs := h0.below hV
    by_cases e : comN b m a n = n
    · rw [if_pos e]
      obtain ⟨k1, k2, k3⟩ := f1 e
      rw [e] at hx hN
      rw [k1] at hN
      rw [if_neg (by omega)]
      refine (put_this hN x).mono fun e w' ⟨g1, g2, g3⟩ => ⟨_, g1, F :: ([] ++ bs), ⟨F, _, _, [], bs, rfl, rfl, by omega, ha, hr.1, g2, ⟨rfl, rfl⟩, t0.keep (fun j hj => g3.block j (t0.inlt j hj).2 (fun e => hFn (e ▸ hj))), by rw [List.nil_append, List.nodup_cons]; exact ⟨hFn, h0.nodup⟩⟩, ?_⟩
      exact fork_mvs (X := [] ++ bs) hV hF (mvs_mem g3 (fun j hj => by rw [hj]; simp) (fun j hj => Or.inr hj)) (fun j hj => by simpa using hj)
    · rw [if_neg e]
      obtain ⟨k1, k2, k3, k4, k5, k6, k7⟩ := f2 e
      rw [if_neg (by omega)]
      have hj : brn (comN b m a n) a = 0 := by rcases brn_bit (comN b m a n) a with h | h <;> omega
      refine (put_down0 hN k7 k6.1 ha (by omega) k5 (fun h => e h.2) hj x (Q := fun W w3 p => p = some ⟨W.heap.size + 1, 0, none⟩ ∧ NodeAt w3 (W.heap.size + 1) a n true x (.pointer none) (.pointer none) ∧ Below W.heap.size W w3) (fun W hW => (put_nil a n x W).mono fun e w' ⟨g1, g2, g3⟩ => ⟨_, g1, g3.block F (Nat.lt_of_lt_of_le hFl hW.size), rfl, g2, g3⟩)).mono fun e w' ⟨g1, W, w3, p, hW, ⟨hp', hL, hB3⟩, hB, hw'⟩ => ?_
      subst hp' hw'
      obtain ⟨q1, q2⟩ := leaf_at (base := base) ha hr.1 (Nat.le_succ _) (Nat.le_trans hb (Nat.le_trans hV.size hW.size)) hL hB3
      obtain ⟨c1, c2, c3, c4, c5⟩ := TrAt.child0 hN (show TrAt V base .nil (.pointer none) [] from ⟨rfl, rfl⟩) t0 (by rw [List.nil_append, List.nodup_cons]; exact ⟨hFn, h0.nodup⟩) hW q1 q2 hB
      exact ⟨_, g1, F :: ([W.heap.size + 1] ++ bs), ⟨F, _, _, [W.heap.size + 1], bs, rfl, rfl, by omega, k7, k6.1, c1, c2, c3, c4⟩, fork_mvs (X := [] ++ bs) hV hF c5 (fun j hj => by simpa using hj)⟩
/-- Nothing comes in place of a node that covers the prefix. -/
def rootOk (a n : Int) : Tr → Prop
  | .nil => False
  | .nd b m _ _ _ _ => (b = a ∧ m = n) ∨ CvP b m a n
theorem put_anyF : ∀ (t : Tr) {w : World} {v : Value} {bs : List Nat}, TrAt w base t v bs → Wf t → base ≤ w.heap.size →
    Calls Try.prog 67 #[v, .agg #[.int .u32 a, .int .i64 n], .int .i64 x] w fun e w' => ∃ p, e = .returned (.pointer p) ∧ ∃ bs', TrAt w' base (tputF a n x t) (.pointer p) bs' ∧ MvS w w' (fun j => j ∈ bs) (fun j => j ∈ bs') ∧ (rootOk a n t → v = .pointer p)
  | .nil, w, v, bs, h, _, hb => by
    obtain ⟨rfl, rfl⟩ := h
    refine (put_nil a n x w).mono fun e w' ⟨h1, h2, h3⟩ => ?_
    obtain ⟨q1, q2⟩ := leaf_at (base := base) ha hr.1 (Nat.le_succ _) hb h2 h3
    exact ⟨_, h1, _, q1, q2, fun h => h.elim⟩
  | .nd b m th y l r, w, v, bs, h, hw, hb => by
    have h0 := h
    have hn := hr.1
    obtain ⟨B, vl, vr, bl, br, rfl, rfl, h1, h5, h6, h2, h3, h4, h7⟩ := h
    obtain ⟨w1, w2, w3, w4, w5, w6⟩ := hw
    have hd := h7
    rw [List.nodup_cons, List.mem_append] at hd
    have hBl := (Array.getElem?_eq_some_iff.1 h2).1
    unfold tputF
    by_cases he : b = a ∧ m = n
    · rw [if_pos he]
      obtain ⟨rfl, rfl⟩ := he
      refine (put_this h2 x).mono fun e w' ⟨g1, g2, g3⟩ => ⟨_, g1, B :: (bl ++ br), ?_, mvs_mem g3 (fun j hj => by rw [hj]; simp) (fun j hj => Or.inr hj), fun _ => rfl⟩
      exact ⟨B, vl, vr, bl, br, rfl, rfl, h1, h5, h6, g2, h3.keep (fun j hj => g3.block j (h3.inlt j hj).2 (fun e => hd.1 (Or.inl (e ▸ hj)))), h4.keep (fun j hj => g3.block j (h4.inlt j hj).2 (fun e => hd.1 (Or.inr (e ▸ hj)))), h7⟩
    · rw [if_neg he]
      by_cases hc : CvP b m a n
      · rw [if_pos hc]
        rcases brn_bit m a with h0 | h0
        · rw [if_pos h0]
          refine (put_down0 h2 h5 h6 ha (by omega) hc he h0 x (Q := fun W w3 p => ∃ bs', TrAt w3 base (tputF a n x l) (.pointer p) bs' ∧ MvS W w3 (fun j => j ∈ bl) (fun j => j ∈ bs')) (fun W hW => (put_anyF l (h3.below hW) w5 (Nat.le_trans hb hW.size)).mono fun e w' ⟨p, g1, bs', g2, g3, _⟩ => ⟨p, g1, g3.block B (Nat.lt_of_lt_of_le hBl hW.size) (fun hm => hd.1 (Or.inl hm)), bs', g2, g3⟩)).mono fun e w' ⟨g1, W, w3, p, hW, ⟨bs', hT, hm⟩, hB, hw'⟩ => ?_
          subst hw'
          obtain ⟨c1, c2, c3, c4, c5⟩ := TrAt.child0 h2 h3 h4 h7 hW hT hm hB
          exact ⟨_, g1, B :: (bs' ++ br), ⟨B, .pointer p, vr, bs', br, rfl, rfl, h1, h5, h6, c1, c2, c3, c4⟩, c5, fun _ => rfl⟩
        · rw [if_neg (by omega)]
          refine (put_down1 h2 h5 h6 ha (by omega) hc he h0 x (Q := fun W w3 p => ∃ bs', TrAt w3 base (tputF a n x r) (.pointer p) bs' ∧ MvS W w3 (fun j => j ∈ br) (fun j => j ∈ bs')) (fun W hW => (put_anyF r (h4.below hW) w6 (Nat.le_trans hb hW.size)).mono fun e w' ⟨p, g1, bs', g2, g3, _⟩ => ⟨p, g1, g3.block B (Nat.lt_of_lt_of_le hBl hW.size) (fun hm => hd.1 (Or.inr hm)), bs', g2, g3⟩)).mono fun e w' ⟨g1, W, w3, p, hW, ⟨bs', hT, hm⟩, hB, hw'⟩ => ?_
          subst hw'
          obtain ⟨c1, c2, c3, c4, c5⟩ := TrAt.child1 h2 h3 h4 h7 hW hT hm hB
          exact ⟨_, g1, B :: (bl ++ bs'), ⟨B, vl, .pointer p, bl, bs', rfl, rfl, h1, h5, h6, c1, c3, c2, c4⟩, c5, fun _ => rfl⟩
      · rw [if_neg hc]
        exact (fork_any ha hr h0 w1 hb he hc).mono fun e w' ⟨p, g1, bs', g2, g3⟩ => ⟨p, g1, bs', g2, g3, fun h => absurd (h.resolve_left he) hc⟩
end
end Go.Proofs.Ytfjhcmihjffknaa
