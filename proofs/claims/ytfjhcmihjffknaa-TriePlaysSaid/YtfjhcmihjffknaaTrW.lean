/-
  Trees of prefixes that are well formed; what an address finds in them as prefixes come and go that do not have it. Plain words on trees. No condition.
-/
import Derived.Test.YtfjhcmihjffknaaTrM
import Derived.Test.YtfjhcmihjffknaaTr10
namespace Go.Proofs.Ytfjhcmihjffknaa
set_option linter.unusedVariables false
set_option linter.unusedSimpArgs false
open Go.RowKit

/-- Where a prefix is put that parts from a node's. -/
def forkT (a n x b m : Int) (t : Tr) : Tr :=
  if comN b m a n = n then (if brn n b = 0 then .nd a n true x t .nil else .nd a n true x .nil t)
  else (if brn (comN b m a n) b = 0 then .nd (comA b m a n) (comN b m a n) false 0 t (.nd a n true x .nil .nil) else .nd (comA b m a n) (comN b m a n) false 0 (.nd a n true x .nil .nil) t)
/-- A thing put under a prefix. -/
def tputF (a n x : Int) : Tr → Tr
  | .nil => .nd a n true x .nil .nil
  | .nd b m th y l r => if b = a ∧ m = n then .nd b m true x l r else if CvP b m a n then (if brn m a = 0 then .nd b m th y (tputF a n x l) r else .nd b m th y l (tputF a n x r)) else forkT a n x b m (.nd b m th y l r)
/-- The root's prefix lies behind another one, by its next bit. -/
def Inn (b m i : Int) : Tr → Prop
  | .nil => True
  | .nd c k _ _ _ _ => CvP b m c k ∧ m < k ∧ brn m c = i
def Wf : Tr → Prop
  | .nil => True
  | .nd b m _ _ l r => RtP b m ∧ (0 ≤ b ∧ b ≤ 4294967295) ∧ Inn b m 0 l ∧ Inn b m 1 r ∧ Wf l ∧ Wf r
theorem tfind_has {q : Int} : ∀ {t : Tr} {c k x : Int}, tfind q t = some (c, k, x) → HsP c k q
  | .nil, c, k, x, h => by cases h
  | .nd b m th y l r, c, k, x, h => by
    unfold tfind at h
    by_cases hc : HsP b m q
    · rw [if_pos hc] at h
      have key : ∀ o : Option (Int × Int × Int), (∀ c k x, o = some (c, k, x) → HsP c k q) → (match o with | some z => some z | none => if th then some (b, m, y) else none) = some (c, k, x) → HsP c k q := by
        intro o ho hm
        cases o with
        | some z =>
          simp only [Option.some.injEq] at hm
          exact ho c k x (by rw [hm])
        | none =>
          cases th
          · cases hm
          · simp only [if_true, Option.some.injEq, Prod.mk.injEq] at hm
            obtain ⟨rfl, rfl, -⟩ := hm
            exact hc
      refine key _ (fun c k x ho => ?_) h
      split at ho
      · exact tfind_has ho
      · exact tfind_has ho
    · rw [if_neg hc] at h
      cases h
/-- An address that a branch's prefixes cannot have finds nothing there. -/
theorem tfind_out {q b m i : Int} (hq : 0 ≤ q) (hp : RtP b m) {t : Tr} (hi : Inn b m i t) (hw : Wf t) (hn : ¬ (HsP b m q ∧ brn m q = i)) : tfind q t = none := by
  cases t with
  | nil => rfl
  | nd c k th y l r =>
    obtain ⟨h1, h2, h3⟩ := hi
    unfold tfind
    rw [if_neg (fun h => hn ⟨has_more h1 h, by rw [brn_has h hw.2.1.1 hq hp.1.1 h2, h3]⟩)]
theorem find_skip (q c k : Int) (l r : Tr) (x : Int) : tfind q (.nd c k false x l r) = if HsP c k q then (if brn k q = 0 then tfind q l else tfind q r) else none := by
  rw [tfind]
  by_cases h : HsP c k q
  · rw [if_pos h, if_pos h]
    generalize (if brn k q = 0 then tfind q l else tfind q r) = o
    cases o <;> rfl
  · rw [if_neg h, if_neg h]
theorem right_same {b a n : Int} (h1 : RtP b n) (h2 : RtP a n) (h : b / (pw n : Int) = a / (pw n : Int)) : b = a := by
  rw [mul_of_mod h1.2, mul_of_mod h2.2, h]
section
variable {a n x q : Int} (ha : 0 ≤ a ∧ a ≤ 4294967295) (hr : RtP a n)
include ha hr
/-- What the fork is. -/
theorem fork_is {b m : Int} (hb : 0 ≤ b ∧ b ≤ 4294967295) (hp : RtP b m) (he : ¬ (b = a ∧ m = n)) (hc : ¬ CvP b m a n) :
    (comN b m a n = n → comA b m a n = a ∧ CvP a n b m ∧ n < m) ∧ (comN b m a n ≠ n → comN b m a n < m ∧ comN b m a n < n ∧ brn (comN b m a n) b ≠ brn (comN b m a n) a ∧ CvP (comA b m a n) (comN b m a n) b m ∧ CvP (comA b m a n) (comN b m a n) a n ∧ RtP (comA b m a n) (comN b m a n) ∧ (0 ≤ comA b m a n ∧ comA b m a n ≤ 4294967295)) := by
  obtain ⟨⟨g1, g2, g3⟩, g4, g5⟩ := com_at hb ha hp hr
  obtain ⟨c1, c2⟩ := com_covers hb ha hp hr
  obtain ⟨r1, r2⟩ := com_right hb ha hp hr
  have hm : comN b m a n ≠ m := fun e => by
    rw [e] at c1 c2 r1
    have e2 : comA b m a n = b := right_same r1 hp c1.2.2.2
    rw [e2] at c2
    exact hc c2
  refine ⟨fun e => ?_, fun e => ⟨by omega, by omega, (g5.resolve_left hm).resolve_left e, c1, c2, r1, r2.1, by omega⟩⟩
  rw [e] at c1 c2 r1 hm g2
  have e2 : comA b m a n = a := right_same r1 hr c2.2.2.2
  rw [e2] at c1
  exact ⟨e2, c1, by omega⟩
theorem tfind_put (hq : 0 ≤ q) (hn : ¬ HsP a n q) : ∀ {t : Tr}, Wf t → tfind q (tputF a n x t) = tfind q t
  | .nil, _ => by
    unfold tputF tfind
    rw [if_neg hn]
  | .nd b m th y l r, hw => by
    have hw' := hw
    obtain ⟨w1, w2, w3, w4, w5, w6⟩ := hw
    unfold tputF
    by_cases he : b = a ∧ m = n
    · rw [if_pos he]
      obtain ⟨rfl, rfl⟩ := he
      unfold tfind
      rw [if_neg hn, if_neg hn]
    · rw [if_neg he]
      by_cases hc : CvP b m a n
      · rw [if_pos hc]
        split
        · unfold tfind
          rw [tfind_put hq hn w5]
        · unfold tfind
          rw [tfind_put hq hn w6]
      · rw [if_neg hc]
        obtain ⟨f1, f2⟩ := fork_is ha hr w2 w1 he hc
        unfold forkT
        by_cases e : comN b m a n = n
        · rw [if_pos e]
          obtain ⟨-, k2, k3⟩ := f1 e
          have hb' : ¬ HsP b m q := fun h => hn (has_more k2 h)
          have e2 : tfind q (.nd b m th y l r) = none := by
            unfold tfind
            rw [if_neg hb']
          rw [e2]
          split
          · unfold tfind
            rw [if_neg hn]
          · unfold tfind
            rw [if_neg hn]
        · rw [if_neg e]
          obtain ⟨k1, k2, k3, k4, k5, k6, k7⟩ := f2 e
          have leaf : tfind q (.nd a n true x .nil .nil) = none := by
            unfold tfind
            rw [if_neg hn]
          have this : ¬ (HsP (comA b m a n) (comN b m a n) q ∧ brn (comN b m a n) q = brn (comN b m a n) b) → tfind q (.nd b m th y l r) = none := fun h => by
            unfold tfind
            rw [if_neg (fun h1 => h ⟨has_more k4 h1, brn_has h1 w2.1 hq k6.1.1 k1⟩)]
          rcases brn_bit (comN b m a n) b with hb0 | hb0
          · rw [if_pos hb0, find_skip, leaf]
            by_cases h1 : HsP (comA b m a n) (comN b m a n) q
            · rw [if_pos h1]
              by_cases h2 : brn (comN b m a n) q = 0
              · rw [if_pos h2]
              · rw [if_neg h2, this (fun h => h2 (by rw [h.2, hb0]))]
            · rw [if_neg h1, this (fun h => h1 h.1)]
          · rw [if_neg (by omega), find_skip, leaf]
            by_cases h1 : HsP (comA b m a n) (comN b m a n) q
            · rw [if_pos h1]
              by_cases h2 : brn (comN b m a n) q = 0
              · rw [if_pos h2, this (fun h => by omega)]
              · rw [if_neg h2]
            · rw [if_neg h1, this (fun h => h1 h.1)]
theorem inn_put {b m i : Int} (hb : 0 ≤ b ∧ b ≤ 4294967295) (hp : RtP b m) {t : Tr} (hi : Inn b m i t) (hw : Wf t) (hc : CvP b m a n) (hmn : m < n) (hbr : brn m a = i) : Inn b m i (tputF a n x t) := by
  cases t with
  | nil => exact ⟨hc, hmn, hbr⟩
  | nd c k th y l r =>
    obtain ⟨i1, i2, i3⟩ := hi
    obtain ⟨w1, w2, w3, w4, w5, w6⟩ := hw
    unfold tputF
    by_cases he : c = a ∧ k = n
    · rw [if_pos he]
      exact ⟨i1, i2, i3⟩
    · rw [if_neg he]
      by_cases hcc : CvP c k a n
      · rw [if_pos hcc]
        split
        · exact ⟨i1, i2, i3⟩
        · exact ⟨i1, i2, i3⟩
      · rw [if_neg hcc]
        obtain ⟨f1, f2⟩ := fork_is ha hr w2 w1 he hcc
        unfold forkT
        by_cases e : comN c k a n = n
        · rw [if_pos e]
          split
          · exact ⟨hc, hmn, hbr⟩
          · exact ⟨hc, hmn, hbr⟩
        · rw [if_neg e]
          obtain ⟨k1, k2, k3, k4, k5, k6, k7⟩ := f2 e
          have hk32 := w1.1.2
          have al : m + 1 ≤ alike c a := by
            refine (alike_is w2.1 w2.2 ha.1 ha.2 (by have := hp.1.1; omega) (by omega)).1 ?_
            refine more_alike w2.1 ha.1 hp.1.1 (by omega) ?_ (by rw [i3, hbr])
            rw [← i1.2.2.2, hc.2.2.2]
          have hcn : m < comN c k a n := by
            have : comN c k a n = min (min k n) (alike c a) := rfl
            omega
          have hcov : CvP b m (comA c k a n) (comN c k a n) := by
            refine ⟨k6, by omega, hp, ?_⟩
            have d := k4.2.2.2
            rw [pw_div hp.1.1 (Int.le_of_lt hcn) k6.1.2 (x := comA c k a n), d, ← pw_div hp.1.1 (Int.le_of_lt hcn) k6.1.2]
            exact i1.2.2.2
          have hbit : brn m (comA c k a n) = i := by
            rw [← i3]
            exact (brn_has k4.2.2 k7.1 w2.1 hp.1.1 hcn).symm
          split
          · exact ⟨hcov, hcn, hbit⟩
          · exact ⟨hcov, hcn, hbit⟩
theorem wf_put : ∀ {t : Tr}, Wf t → Wf (tputF a n x t)
  | .nil, _ => ⟨hr, ha, trivial, trivial, trivial, trivial⟩
  | .nd b m th y l r, hw => by
    have hw' := hw
    obtain ⟨w1, w2, w3, w4, w5, w6⟩ := hw
    unfold tputF
    by_cases he : b = a ∧ m = n
    · rw [if_pos he]
      exact ⟨w1, w2, w3, w4, w5, w6⟩
    · rw [if_neg he]
      by_cases hc : CvP b m a n
      · rw [if_pos hc]
        have hmn : m < n := by
          have h1 := hc.2.1
          by_cases e : m = n
          · subst e
            exact absurd ⟨right_same w1 hr hc.2.2.2, rfl⟩ he
          · omega
        rcases brn_bit m a with h0 | h0
        · rw [if_pos h0]
          exact ⟨w1, w2, inn_put ha hr w2 w1 w3 w5 hc hmn h0, w4, wf_put w5, w6⟩
        · rw [if_neg (by omega)]
          exact ⟨w1, w2, w3, inn_put ha hr w2 w1 w4 w6 hc hmn h0, w5, wf_put w6⟩
      · rw [if_neg hc]
        obtain ⟨f1, f2⟩ := fork_is ha hr w2 w1 he hc
        unfold forkT
        by_cases e : comN b m a n = n
        · rw [if_pos e]
          obtain ⟨-, k2, k3⟩ := f1 e
          rcases brn_bit n b with h0 | h0
          · rw [if_pos h0]
            exact ⟨hr, ha, ⟨k2, k3, h0⟩, trivial, hw', trivial⟩
          · rw [if_neg (by omega)]
            exact ⟨hr, ha, trivial, ⟨k2, k3, h0⟩, trivial, hw'⟩
        · rw [if_neg e]
          obtain ⟨k1, k2, k3, k4, k5, k6, k7⟩ := f2 e
          have hleaf : Wf (.nd a n true x .nil .nil) := ⟨hr, ha, trivial, trivial, trivial, trivial⟩
          rcases brn_bit (comN b m a n) b with h0 | h0
          · rw [if_pos h0]
            exact ⟨k6, k7, ⟨k4, k1, h0⟩, ⟨k5, k2, by rcases brn_bit (comN b m a n) a with h | h <;> omega⟩, hw', hleaf⟩
          · rw [if_neg (by omega)]
            exact ⟨k6, k7, ⟨k5, k2, by rcases brn_bit (comN b m a n) a with h | h <;> omega⟩, ⟨k4, k1, h0⟩, hleaf, hw'⟩
end
end Go.Proofs.Ytfjhcmihjffknaa
