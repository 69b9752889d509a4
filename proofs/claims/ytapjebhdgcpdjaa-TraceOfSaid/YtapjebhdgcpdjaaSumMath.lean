/-
  The sums of layer 5, over plain numbers: the sum in a ring of 65535, and the checksum of two halves. No Go in it. No condition.
-/
import Derived.Test.YtapjebhdgcpdjaaStr
namespace Go.Proofs.Ytapjebhdgcpdjaa
set_option linter.unusedVariables false
set_option linter.unusedSimpArgs false
open Go.ChangeShapes Go.WideShapes Go.ChangeAt Go.RowKit

/-- The sum in a ring. -/
def rg (a b : Int) : Int := if a + b ≤ 65535 then a + b else a + b - 65535
/-- A number's place in the ring; 0 stays apart. -/
def nm (n : Int) : Int := if n ≤ 0 then 0 else (n - 1) % 65535 + 1
theorem nm_bd (n : Int) : 0 ≤ nm n ∧ nm n ≤ 65535 := by unfold nm; split <;> omega
theorem rg_bd (a b : Int) (a0 : 0 ≤ a) (a1 : a ≤ 65535) (b0 : 0 ≤ b) (b1 : b ≤ 65535) : 0 ≤ rg a b ∧ rg a b ≤ 65535 := by unfold rg; split <;> omega
theorem rg_nm (n w : Int) (hn : 0 ≤ n) (h0 : 0 ≤ w) (h1 : w ≤ 65535) : rg (nm n) w = nm (n + w) := by
  unfold rg nm; split <;> split <;> split <;> omega
/-- The word at an even place. -/
def wd (s : ByteArray) (k : Nat) : Int := bt s ((2 * k : Nat) : Int) * 256 + bt s ((2 * k + 1 : Nat) : Int)
theorem wd_bd (s : ByteArray) (k : Nat) : 0 ≤ wd s k ∧ wd s k ≤ 65535 := by
  unfold wd
  have := bt_bd s ((2 * k : Nat) : Int)
  have := bt_bd s ((2 * k + 1 : Nat) : Int)
  omega
/-- The sum of the first words. -/
def tot (s : ByteArray) : Nat → Int
  | 0 => 0
  | k + 1 => tot s k + wd s k
theorem tot_nonneg (s : ByteArray) : ∀ k, 0 ≤ tot s k
  | 0 => Int.le_refl _
  | k + 1 => by
    have := tot_nonneg s k
    have := wd_bd s k
    show 0 ≤ tot s k + wd s k
    omega
theorem tot_word (s : ByteArray) (j : Nat) : ∀ k, j < k → wd s j ≤ tot s k
  | 0, h => by omega
  | k + 1, h => by
    have h0 := tot_nonneg s k
    have h1 := wd_bd s k
    show wd s j ≤ tot s k + wd s k
    by_cases e : j = k
    · subst e; omega
    · have := tot_word s j k (by omega)
      omega
/-- The sum of all words. -/
def all (s : ByteArray) : Int := tot s ((s.size + 1) / 2)
/-- The checksum of a row. -/
def inet (s : ByteArray) : Int := 65535 - nm (all s)
/-- A checksum with a word changed. -/
def upd (n a b : Int) : Int := 65535 - rg (rg (65535 - n) (65535 - a)) b
theorem all_nonneg (s : ByteArray) : 0 ≤ all s := tot_nonneg s _
theorem inet_bd (s : ByteArray) : 0 ≤ inet s ∧ inet s ≤ 65535 := by
  have := nm_bd (all s)
  unfold inet; omega
theorem tot_agree (s t : ByteArray) (j : Nat) (h : ∀ i : Nat, i ≠ 2 * j → i ≠ 2 * j + 1 → bt t i = bt s i) :
    ∀ k, tot t k = if j < k then tot s k - wd s j + wd t j else tot s k
  | 0 => by rw [if_neg (by omega)]; rfl
  | k + 1 => by
    have ih := tot_agree s t j h k
    show tot t k + wd t k = _
    by_cases e : j = k
    · subst e
      rw [if_neg (by omega)] at ih
      rw [ih, if_pos (by omega)]
      show _ = tot s j + wd s j - wd s j + wd t j
      omega
    · have ek : wd t k = wd s k := by
        unfold wd
        rw [h (2 * k) (by omega) (by omega), h (2 * k + 1) (by omega) (by omega)]
      rw [ih, ek]
      by_cases hj : j < k
      · rw [if_pos hj, if_pos (by omega)]
        show _ = tot s k + wd s k - wd s j + wd t j
        omega
      · rw [if_neg hj, if_neg (by omega)]
        rfl
theorem all_agree (s t : ByteArray) (j : Nat) (hs : t.size = s.size) (hj : 2 * j < s.size) (h : ∀ i : Nat, i ≠ 2 * j → i ≠ 2 * j + 1 → bt t i = bt s i) :
    all t = all s - wd s j + wd t j := by
  unfold all
  rw [hs, tot_agree s t j h, if_pos (by omega)]
theorem word_le (s : ByteArray) (j : Nat) (hj : 2 * j < s.size) : wd s j ≤ all s := tot_word s j _ (by omega)
theorem upd_agree (s t : ByteArray) (j : Nat) (hs : t.size = s.size) (hj : 2 * j < s.size) (h : ∀ i : Nat, i ≠ 2 * j → i ≠ 2 * j + 1 → bt t i = bt s i) :
    upd (inet s) (wd s j) (wd t j) = if all t = 0 then 0 else inet t := by
  have e := all_agree s t j hs hj h
  have h1 := wd_bd s j
  have h2 := wd_bd t j
  have h3 := word_le s j hj
  have h4 := all_nonneg s
  have h5 := all_nonneg t
  unfold upd inet
  have e1 : (65535 : Int) - (65535 - nm (all s)) = nm (all s) := by omega
  rw [e1, rg_nm _ _ h4 (by omega) (by omega), rg_nm _ _ (by omega) h2.1 h2.2]
  have e2 : all s + (65535 - wd s j) + wd t j = all t + 65535 := by omega
  rw [e2]
  unfold nm
  split
  · omega
  · split
    · omega
    · split <;> omega
theorem inet_nought (s : ByteArray) (h : all s = 0) : inet s = 65535 := by
  unfold inet; rw [h]; rfl
theorem own_nought (s t : ByteArray) (j : Nat) (hs : t.size = s.size) (hj : 2 * j < s.size) (h : ∀ i : Nat, i ≠ 2 * j → i ≠ 2 * j + 1 → bt t i = bt s i) (h0 : wd s j = 0) (h1 : wd t j = inet s) :
    inet t = 0 := by
  have e := all_agree s t j hs hj h
  have h4 := all_nonneg s
  rw [h0, h1] at e
  unfold inet at *
  unfold nm at *
  split at e <;> split <;> omega
theorem all_zero_iff (s : ByteArray) : (∀ i : Nat, i < s.size → bt s i = 0) ↔ all s = 0 := by
  constructor
  · intro h
    have hb : ∀ i : Nat, bt s i = 0 := fun i => by
      by_cases hi : i < s.size
      · exact h i hi
      · exact bt_out s i (by omega)
    have : ∀ k, tot s k = 0 := by
      intro k
      induction k with
      | zero => rfl
      | succ k ih =>
        show tot s k + wd s k = 0
        unfold wd
        rw [ih, hb, hb]; rfl
    exact this _
  · intro h i hi
    have h1 := word_le s (i / 2) (by omega)
    have h2 := wd_bd s (i / 2)
    have h3 : wd s (i / 2) = 0 := by omega
    unfold wd at h3
    have b1 := bt_bd s ((2 * (i / 2) : Nat) : Int)
    have b2 := bt_bd s ((2 * (i / 2) + 1 : Nat) : Int)
    by_cases e : i = 2 * (i / 2)
    · rw [e]; omega
    · have e : i = 2 * (i / 2) + 1 := by omega
      rw [e]; omega

/-- The lower half behind so many bytes. -/
def lowN (s : ByteArray) (l : Int) : Nat → Int
  | 0 => l
  | k + 1 => (lowN s l k + bt s k) % 65521
/-- The upper half behind so many bytes. -/
def highN (s : ByteArray) (l h : Int) : Nat → Int
  | 0 => h
  | k + 1 => (highN s l h k + lowN s l (k + 1)) % 65521
theorem lowN_bd (s : ByteArray) (l : Int) (h0 : 0 ≤ l) (h1 : l < 65521) : ∀ k, 0 ≤ lowN s l k ∧ lowN s l k < 65521
  | 0 => ⟨h0, h1⟩
  | k + 1 => by show 0 ≤ (lowN s l k + bt s k) % 65521 ∧ (lowN s l k + bt s k) % 65521 < 65521; omega
theorem highN_bd (s : ByteArray) (l h : Int) (h0 : 0 ≤ h) (h1 : h < 65521) : ∀ k, 0 ≤ highN s l h k ∧ highN s l h k < 65521
  | 0 => ⟨h0, h1⟩
  | k + 1 => by show 0 ≤ (highN s l h k + lowN s l (k + 1)) % 65521 ∧ (highN s l h k + lowN s l (k + 1)) % 65521 < 65521; omega
/-- A checksum gone on over a string. -/
def mor (n : Int) (s : ByteArray) : Int := highN s (n % 65536 % 65521) (n / 65536 % 65521) s.size * 65536 + lowN s (n % 65536 % 65521) s.size
theorem mor_bd (n : Int) (s : ByteArray) : 0 ≤ mor n s ∧ mor n s ≤ 4294967295 := by
  have := lowN_bd s (n % 65536 % 65521) (by omega) (by omega) s.size
  have := highN_bd s (n % 65536 % 65521) (n / 65536 % 65521) (by omega) (by omega) s.size
  unfold mor; omega
theorem lowN_append (a b : ByteArray) (l : Int) : ∀ k, k ≤ a.size → lowN (a ++ b) l k = lowN a l k
  | 0, _ => rfl
  | k + 1, h => by
    show (lowN (a ++ b) l k + bt (a ++ b) k) % 65521 = (lowN a l k + bt a k) % 65521
    rw [lowN_append a b l k (by omega), bt_append, if_pos (by omega)]
theorem highN_append (a b : ByteArray) (l h : Int) : ∀ k, k ≤ a.size → highN (a ++ b) l h k = highN a l h k
  | 0, _ => rfl
  | k + 1, hk => by
    show (highN (a ++ b) l h k + lowN (a ++ b) l (k + 1)) % 65521 = (highN a l h k + lowN a l (k + 1)) % 65521
    rw [highN_append a b l h k (by omega), lowN_append a b l (k + 1) hk]
theorem lowN_behind (a b : ByteArray) (l : Int) : ∀ k, lowN (a ++ b) l (a.size + k) = lowN b (lowN a l a.size) k
  | 0 => lowN_append a b l a.size (Nat.le_refl _)
  | k + 1 => by
    show (lowN (a ++ b) l (a.size + k) + bt (a ++ b) ((a.size + k : Nat) : Int)) % 65521 = (lowN b (lowN a l a.size) k + bt b k) % 65521
    rw [lowN_behind a b l k, bt_append, if_neg (by omega)]
    congr 3
    omega
theorem highN_behind (a b : ByteArray) (l h : Int) : ∀ k, highN (a ++ b) l h (a.size + k) = highN b (lowN a l a.size) (highN a l h a.size) k
  | 0 => highN_append a b l h a.size (Nat.le_refl _)
  | k + 1 => by
    show (highN (a ++ b) l h (a.size + k) + lowN (a ++ b) l (a.size + (k + 1))) % 65521 = (highN b (lowN a l a.size) (highN a l h a.size) k + lowN b (lowN a l a.size) (k + 1)) % 65521
    rw [highN_behind a b l h k, lowN_behind a b l (k + 1)]
theorem mor_append (n : Int) (a b : ByteArray) : mor (mor n a) b = mor n (a ++ b) := by
  have h1 := lowN_bd a (n % 65536 % 65521) (by omega) (by omega) a.size
  have h2 := highN_bd a (n % 65536 % 65521) (n / 65536 % 65521) (by omega) (by omega) a.size
  have e1 : mor n a % 65536 % 65521 = lowN a (n % 65536 % 65521) a.size := by unfold mor; omega
  have e2 : mor n a / 65536 % 65521 = highN a (n % 65536 % 65521) (n / 65536 % 65521) a.size := by unfold mor; omega
  show highN b (mor n a % 65536 % 65521) (mor n a / 65536 % 65521) b.size * 65536 + lowN b (mor n a % 65536 % 65521) b.size = highN (a ++ b) _ _ (a ++ b).size * 65536 + lowN (a ++ b) _ (a ++ b).size
  rw [e1, e2, ByteArray.size_append, highN_behind, lowN_behind]
theorem mor_one_empty (s : ByteArray) (h : s.size = 0) : mor 1 s = 1 := by unfold mor; rw [h]; rfl
/-- One byte changed: another lower half. -/
theorem lowN_agree (s t : ByteArray) (j : Nat) (l : Int) (h : ∀ i : Nat, i ≠ j → bt t i = bt s i) :
    ∀ k, (k ≤ j → lowN t l k = lowN s l k) ∧ (j < k → (lowN t l k - lowN s l k - (bt t j - bt s j)) % 65521 = 0)
  | 0 => ⟨fun _ => rfl, fun h => by omega⟩
  | k + 1 => by
    obtain ⟨i1, i2⟩ := lowN_agree s t j l h k
    refine ⟨fun hk => ?_, fun hk => ?_⟩
    · show (lowN t l k + bt t k) % 65521 = (lowN s l k + bt s k) % 65521
      rw [i1 (by omega), h k (by omega)]
    · show ((lowN t l k + bt t k) % 65521 - (lowN s l k + bt s k) % 65521 - (bt t j - bt s j)) % 65521 = 0
      by_cases e : j = k
      · subst e
        rw [i1 (Nat.le_refl _)]
        omega
      · have := i2 (by omega)
        rw [h k (by omega)]
        omega
theorem mor_apart (n : Int) (s t : ByteArray) (j : Nat) (hs : t.size = s.size) (hj : j < s.size) (h : ∀ i : Nat, i ≠ j → bt t i = bt s i) (hb : bt t j ≠ bt s j) : mor n t ≠ mor n s := by
  have h1 := (lowN_agree s t j (n % 65536 % 65521) h s.size).2 hj
  have b1 := bt_bd s j
  have b2 := bt_bd t j
  have l1 := lowN_bd s (n % 65536 % 65521) (by omega) (by omega) s.size
  have l2 := lowN_bd t (n % 65536 % 65521) (by omega) (by omega) s.size
  intro e
  unfold mor at e
  rw [hs] at e
  omega
end Go.Proofs.Ytapjebhdgcpdjaa
