/-
  Records as bytes, layer 39, over plain numbers and strings: which ones have an encoding, what it is, which records bytes begin with; what is put is read as it was, cut off what is whole is read, and of bytes of which one is another one what stands ahead of it. No Go in it. No condition.
-/
import Derived.Test.YtapjebhdgcpdjaaWireBackMath2
import Derived.Test.YtapjebhdgcpdjaaWalk5
namespace Go.Proofs.Ytapjebhdgcpdjaa
set_option linter.unusedVariables false
set_option linter.unusedSimpArgs false
open Go.ChangeShapes Go.WideShapes Go.ChangeAt Go.RowKit

/-- A record: its time, kind, flow, number, length and code. -/
structure Rec where
  t : Int
  k : Int
  f : Int
  i : Int
  n : Int
  c : Int
deriving DecidableEq
def Rec.ok (x : Rec) : Prop := (0 ≤ x.t ∧ x.t ≤ 18446744073709551615) ∧ (-9223372036854775808 ≤ x.k ∧ x.k ≤ 9223372036854775807) ∧ (0 ≤ x.f ∧ x.f ≤ 4294967295) ∧ (0 ≤ x.i ∧ x.i ≤ 4294967295) ∧ (0 ≤ x.n ∧ x.n ≤ 18446744073709551615) ∧ (-9223372036854775808 ≤ x.c ∧ x.c ≤ 9223372036854775807)
def Rec.nil : Rec := ⟨0, 0, 0, 0, 0, 0⟩
def Rec.rt (x : Rec) : Prop := (0 ≤ x.k ∧ x.k ≤ 5) ∧ (0 ≤ x.c ∧ x.c ≤ 31)
instance (x : Rec) : Decidable x.rt := by unfold Rec.rt; infer_instance
def Rec.fds (x : Rec) : List Fd := [⟨4, x.t, ⟨#[]⟩⟩, ⟨1, x.k, ⟨#[]⟩⟩, ⟨3, x.f, ⟨#[]⟩⟩, ⟨3, x.i, ⟨#[]⟩⟩, ⟨4, x.n, ⟨#[]⟩⟩, ⟨1, x.c, ⟨#[]⟩⟩]
/-- A record's bytes, those of some. -/
def Rec.one (x : Rec) : ByteArray := seal4 (pb x.fds)
def tput (l : List Rec) : ByteArray := cat (l.map Rec.one)
/-- The number of bytes from a place on. -/
def num (s : ByteArray) (a : Nat) : Nat → Int
  | 0 => 0
  | i + 1 => num s a i * 256 + bt s ((a + i : Nat) : Int)
/-- The record that the bytes from a place on say. -/
def dec (s : ByteArray) (a : Nat) : Rec := ⟨num s a 8, bt s ((a + 8 : Nat) : Int), num s (a + 9) 4, num s (a + 13) 4, num s (a + 17) 8, bt s ((a + 25 : Nat) : Int)⟩
/-- Whether the next 30 bytes are a right record's. -/
def good (s : ByteArray) (a : Nat) : Prop := a + 30 ≤ s.size ∧ (dec s a).rt ∧ (dec s a).one = s.extract a (a + 30)
instance (s : ByteArray) (a : Nat) : Decidable (good s a) := by unfold good; infer_instance
/-- How many records bytes begin with; which ones. -/
def IsRd (s : ByteArray) (k : Nat) : Prop := (∀ j, j < k → good s (30 * j)) ∧ ¬ good s (30 * k)
def rl (s : ByteArray) (k : Nat) : List Rec := (List.range k).map fun j => dec s (30 * j)
theorem isrd_one {s : ByteArray} {k m : Nat} (h : IsRd s k) (h2 : IsRd s m) : k = m := by
  rcases Nat.lt_trichotomy k m with x | x | x
  · exact absurd (h2.1 k x) h.2
  · exact x
  · exact absurd (h.1 m x) h2.2
theorem isrd_size {s : ByteArray} {k : Nat} (h : IsRd s k) : 30 * k ≤ s.size := by
  rcases Nat.eq_zero_or_pos k with rfl | hk
  · exact Nat.zero_le _
  · have := (h.1 (k - 1) (by omega)).1
    omega
theorem rl_len (s : ByteArray) (k : Nat) : (rl s k).length = k := by unfold rl; simp
theorem rl_snoc (s : ByteArray) (k : Nat) : rl s (k + 1) = rl s k ++ [dec s (30 * k)] := by unfold rl; rw [List.range_succ, List.map_append]; rfl
theorem rl_getD (s : ByteArray) (k j : Nat) (h : j < k) : (rl s k).getD j Rec.nil = dec s (30 * j) := by
  unfold rl
  rw [List.getD_eq_getElem?_getD, List.getElem?_map, List.getElem?_range h]; rfl
theorem num_bd (s : ByteArray) (a : Nat) : ∀ i, 0 ≤ num s a i ∧ num s a i < 256 ^ i
  | 0 => ⟨Int.le_refl _, by show (0 : Int) < 256 ^ 0; decide⟩
  | i + 1 => by
    have ih := num_bd s a i
    have b := bt_bd s ((a + i : Nat) : Int)
    show 0 ≤ num s a i * 256 + bt s ((a + i : Nat) : Int) ∧ num s a i * 256 + bt s ((a + i : Nat) : Int) < 256 ^ (i + 1)
    rw [Int.pow_succ]
    omega
theorem num8 (s : ByteArray) (a : Nat) : 0 ≤ num s a 8 ∧ num s a 8 ≤ 18446744073709551615 := by
  have h := num_bd s a 8
  have : (256 : Int) ^ 8 = 18446744073709551616 := by decide
  omega
theorem num4 (s : ByteArray) (a : Nat) : 0 ≤ num s a 4 ∧ num s a 4 ≤ 4294967295 := by
  have h := num_bd s a 4
  have : (256 : Int) ^ 4 = 4294967296 := by decide
  omega
theorem dec_ok (s : ByteArray) (a : Nat) : (dec s a).ok := by
  have b1 := bt_bd s ((a + 8 : Nat) : Int)
  have b2 := bt_bd s ((a + 25 : Nat) : Int)
  have e8 : (dec s a).k = bt s ((a + 8 : Nat) : Int) := rfl
  have e25 : (dec s a).c = bt s ((a + 25 : Nat) : Int) := rfl
  refine ⟨num8 _ _, ?_, num4 _ _, num4 _ _, num8 _ _, ?_⟩
  · rw [e8]; omega
  · rw [e25]; omega
/-- Its kind and its code are bytes. -/
theorem dec_bytes (s : ByteArray) (a : Nat) : (0 ≤ (dec s a).k ∧ (dec s a).k ≤ 255) ∧ (0 ≤ (dec s a).c ∧ (dec s a).c ≤ 255) := by
  have b1 := bt_bd s ((a + 8 : Nat) : Int)
  have b2 := bt_bd s ((a + 25 : Nat) : Int)
  have e8 : (dec s a).k = bt s ((a + 8 : Nat) : Int) := rfl
  have e25 : (dec s a).c = bt s ((a + 25 : Nat) : Int) := rfl
  rw [e8, e25]
  exact ⟨b1, b2⟩
theorem be_num (s : ByteArray) (d : Nat) : ∀ z, d + z ≤ s.size → be (s.extract d s.size) z = num s d z
  | 0, _ => rfl
  | z + 1, h => by
    show be (s.extract d s.size) z * 256 + bt (s.extract d s.size) z = num s d z * 256 + bt s ((d + z : Nat) : Int)
    rw [be_num s d z (by omega), bt_extract _ _ _ _ (by omega)]
theorem num_agree (s x : ByteArray) (d e : Nat) : ∀ z, (∀ j, j < z → bt s ((d + j : Nat) : Int) = bt x ((e + j : Nat) : Int)) → num s d z = num x e z
  | 0, _ => rfl
  | z + 1, h => by
    show num s d z * 256 + bt s ((d + z : Nat) : Int) = num x e z * 256 + bt x ((e + z : Nat) : Int)
    rw [num_agree s x d e z (fun j hj => h j (by omega)), h z (by omega)]
/-- A record is as its bytes are. -/
theorem dec_agree (s x : ByteArray) (d e : Nat) (h : ∀ j, j < 26 → bt s ((d + j : Nat) : Int) = bt x ((e + j : Nat) : Int)) : dec s d = dec x e := by
  have g : ∀ o z, o + z ≤ 26 → num s (d + o) z = num x (e + o) z := fun o z hz => num_agree s x (d + o) (e + o) z (fun j hj => by
    have := h (o + j) (by omega)
    rwa [← Nat.add_assoc, ← Nat.add_assoc] at this)
  have b8 := h 8 (by omega)
  have b25 := h 25 (by omega)
  have n0 := g 0 8 (by omega)
  have n9 := g 9 4 (by omega)
  have n13 := g 13 4 (by omega)
  have n17 := g 17 8 (by omega)
  rw [Nat.add_zero, Nat.add_zero] at n0
  unfold dec
  rw [n0, n9, n13, n17, b8, b25]
theorem good_agree (s x : ByteArray) (d e : Nat) (hs : d + 30 ≤ s.size) (hx : e + 30 ≤ x.size) (h : ∀ j, j < 30 → bt s ((d + j : Nat) : Int) = bt x ((e + j : Nat) : Int)) : good s d ↔ good x e := by
  have hd := dec_agree s x d e (fun j hj => h j (by omega))
  have he : s.extract d (d + 30) = x.extract e (e + 30) := by
    have s1 := size_ext s d (d + 30) hs
    have s2 := size_ext x e (e + 30) hx
    refine str_ext (by omega) fun j hj => ?_
    rw [bt_extract _ _ _ _ (by omega), bt_extract _ _ _ _ (by omega)]
    exact h j (by omega)
  unfold good
  rw [hd, he]
  exact ⟨fun x => ⟨hx, x.2⟩, fun x => ⟨hs, x.2⟩⟩
/-- The same 30 bytes, alone. -/
theorem good_alone (s : ByteArray) (d : Nat) (h : d + 30 ≤ s.size) : (good (s.extract d (d + 30)) 0 ↔ good s d) ∧ dec (s.extract d (d + 30)) 0 = dec s d := by
  have z := size_ext s d (d + 30) h
  have a : ∀ j, j < 30 → bt (s.extract d (d + 30)) ((0 + j : Nat) : Int) = bt s ((d + j : Nat) : Int) := fun j hj => by
    rw [Nat.zero_add, bt_extract _ _ _ _ (by omega)]
  exact ⟨good_agree _ _ _ _ (by omega) h a, dec_agree _ _ _ _ (fun j hj => a j (by omega))⟩
theorem tk_fix (s : ByteArray) (k : Int) (k1 : 1 ≤ k) (k4 : k ≤ 4) (h : wk k ≤ s.size) : tk s k = (⟨k, be s (wk k), ⟨#[]⟩⟩, wk k, 0) := by
  unfold tk
  rw [if_neg (by omega), if_pos k4, if_neg (by omega)]
theorem tl_fix (s : ByteArray) (k : Int) (ks : List Int) (d e z : Nat) (fl : List Fd) (hz : wk k = z) (k1 : 1 ≤ k) (k4 : k ≤ 4) (h : d + z ≤ s.size) (ih : tl s ks (d + z) = (fl, e, 0)) : tl s (k :: ks) d = (⟨k, num s d z, ⟨#[]⟩⟩ :: fl, e, 0) := by
  subst hz
  have sz := size_ext s d s.size (Nat.le_refl _)
  unfold tl
  rw [tk_fix _ k k1 k4 (by omega), be_num s d _ h]
  simp only
  rw [if_neg (by simp), ih]
  simp only
  rw [if_neg (by simp)]
theorem num_one (s : ByteArray) (a : Nat) : num s a 1 = bt s (a : Int) := by
  show (0 : Int) * 256 + bt s ((a + 0 : Nat) : Int) = _
  rw [Nat.add_zero]; omega
/-- What the fields of 26 bytes are. -/
theorem tl_dec (s : ByteArray) (h : s.size = 26) : tl s [4, 1, 3, 3, 4, 1] 0 = ((dec s 0).fds, 26, 0) := by
  have e6 : tl s [] 26 = ([], 26, 0) := rfl
  have e5 := tl_fix s 1 [] 25 26 1 _ rfl (by omega) (by omega) (by omega) e6
  have e4 := tl_fix s 4 _ 17 26 8 _ rfl (by omega) (by omega) (by omega) e5
  have e3 := tl_fix s 3 _ 13 26 4 _ rfl (by omega) (by omega) (by omega) e4
  have e2 := tl_fix s 3 _ 9 26 4 _ rfl (by omega) (by omega) (by omega) e3
  have e1 := tl_fix s 1 _ 8 26 1 _ rfl (by omega) (by omega) (by omega) e2
  have e0 := tl_fix s 4 _ 0 26 8 _ rfl (by omega) (by omega) (by omega) e1
  rw [num_one, num_one] at e0
  rw [e0]
  rfl
theorem pb_dec (s : ByteArray) (h : s.size = 26) : pb (dec s 0).fds = s := by
  have := (tl_only s _ _ 0 26 (by omega) (tl_dec s h)).2.1
  rw [this]
  refine str_ext (by rw [size_ext _ _ _ (by omega)]; omega) fun k hk => ?_
  rw [size_ext _ _ _ (by omega)] at hk
  rw [bt_extract _ _ _ _ (by omega), Nat.zero_add]
theorem pb_fds (x : Rec) : pb x.fds = hib x.t 8 ++ (hib x.k 1 ++ (hib x.f 4 ++ (hib x.i 4 ++ (hib x.n 8 ++ hib x.c 1)))) := by
  unfold Rec.fds
  rw [pb_cons, pb_cons, pb_cons, pb_cons, pb_cons, pb_cons]
  have : pb [] = ByteArray.empty := rfl
  rw [this, empty_right]
  rfl
theorem pb_26 (x : Rec) : (pb x.fds).size = 26 := by
  rw [pb_fds]
  simp only [ByteArray.size_append, hib_size]
theorem one_30 (x : Rec) : x.one.size = 30 := by
  unfold Rec.one seal4
  rw [ByteArray.size_append, pb_26, four_size]
/-- The bytes of a right record say it. -/
theorem erb (n : Int) (h : n ≤ 255) : er ⟨1, n, ⟨#[]⟩⟩ = 0 := by
  unfold er
  simp only
  rw [if_neg (by omega), if_neg (by rintro (⟨h, _⟩ | ⟨_, h⟩); exact absurd h (by decide); exact h rfl), if_neg (by rintro ⟨_, h2⟩; rw [show wk 1 = 1 from rfl] at h2; omega), if_neg (by decide)]
theorem erw (n : Int) (h : n ≤ 4294967295) : er ⟨3, n, ⟨#[]⟩⟩ = 0 := by
  unfold er
  simp only
  rw [if_neg (by omega), if_neg (by rintro (⟨h, _⟩ | ⟨_, h⟩); exact absurd h (by decide); exact h rfl), if_neg (by rintro ⟨_, h2⟩; rw [show wk 3 = 4 from rfl] at h2; omega), if_neg (by decide)]
theorem erl (n : Int) (h : n ≤ 18446744073709551615) : er ⟨4, n, ⟨#[]⟩⟩ = 0 := by
  unfold er
  simp only
  rw [if_neg (by omega), if_neg (by rintro (⟨h, _⟩ | ⟨_, h⟩); exact absurd h (by decide); exact h rfl), if_neg (by rintro ⟨_, h2⟩; rw [show wk 4 = 8 from rfl] at h2; omega), if_neg (by decide)]
theorem fds_er (x : Rec) (hx : x.ok) (hr : x.rt) : ∀ f ∈ x.fds, er f = 0 ∧ 0 ≤ f.n ∧ f.n ≤ 18446744073709551615 := by
  obtain ⟨a, b, c, d, e, g⟩ := hx
  obtain ⟨r1, r2⟩ := hr
  intro f hf
  unfold Rec.fds at hf
  simp only [List.mem_cons, List.not_mem_nil, or_false] at hf
  rcases hf with rfl | rfl | rfl | rfl | rfl | rfl
  · exact ⟨erl _ a.2, a.1, a.2⟩
  · exact ⟨erb _ (by omega), r1.1, by show x.k ≤ _; omega⟩
  · exact ⟨erw _ c.2, c.1, by show x.f ≤ _; omega⟩
  · exact ⟨erw _ d.2, d.1, by show x.i ≤ _; omega⟩
  · exact ⟨erl _ e.2, e.1, e.2⟩
  · exact ⟨erb _ (by omega), r2.1, by show x.c ≤ _; omega⟩
theorem dec_pb (x : Rec) (hx : x.ok) (hr : x.rt) : dec (pb x.fds) 0 = x := by
  have hb : Beg (pb x.fds) (pb x.fds) 0 := by
    have := beg_self (pb x.fds) ByteArray.empty
    rwa [empty_right] at this
  have h1 := tl_put (pb x.fds) x.fds 0 (fds_er x hx hr) hb
  have hk : x.fds.map Fd.k = [4, 1, 3, 3, 4, 1] := rfl
  rw [hk, tl_dec _ (pb_26 x)] at h1
  have h2 := (Prod.mk.inj h1).1
  generalize dec (pb x.fds) 0 = y at h2
  obtain ⟨a, b, c, d, e, f⟩ := y
  obtain ⟨a', b', c', d', e', f'⟩ := x
  unfold Rec.fds at h2
  simp only [List.cons.injEq, Fd.mk.injEq, true_and, and_true] at h2
  obtain ⟨rfl, rfl, rfl, rfl, rfl, rfl⟩ := h2
  rfl
theorem one_low (x : Rec) (j : Nat) (h : j < 26) : bt x.one j = bt (pb x.fds) j := by
  unfold Rec.one seal4
  rw [bt_append, pb_26, if_pos h]
/-- Where a right record's bytes stand, it is read. -/
theorem good_one (x : Rec) (hx : x.ok) (hr : x.rt) (s : ByteArray) (d : Nat) (hd : d + 30 ≤ s.size) (h : ∀ j, j < 30 → bt s ((d + j : Nat) : Int) = bt x.one j) : good s d ∧ dec s d = x := by
  have e : dec s d = x := (dec_agree s (pb x.fds) d 0 fun j hj => by rw [h j (by omega), one_low x j hj, Nat.zero_add]).trans (dec_pb x hx hr)
  refine ⟨⟨hd, by rw [e]; exact hr, ?_⟩, e⟩
  rw [e]
  have z := size_ext s d (d + 30) hd
  have z2 := one_30 x
  refine str_ext (by omega) fun j hj => ?_
  rw [bt_extract _ _ _ _ (by omega), h j (by omega)]
theorem tput_cons (x : Rec) (l : List Rec) : tput (x :: l) = x.one ++ tput l := by
  show (l.map Rec.one).foldl (· ++ ·) (ByteArray.empty ++ x.one) = _
  rw [cat_from, empty_left]; rfl
theorem tput_nil : tput [] = ByteArray.empty := rfl
theorem tput_size (l : List Rec) : (tput l).size = 30 * l.length := by
  induction l with
  | nil => rfl
  | cons x l ih => rw [tput_cons, ByteArray.size_append, one_30, ih, List.length_cons]; omega
theorem tput_append (l m : List Rec) : tput (l ++ m) = tput l ++ tput m := by
  induction l with
  | nil => rw [List.nil_append, tput_nil, empty_left]
  | cons x l ih => rw [List.cons_append, tput_cons, tput_cons, ih, ByteArray.append_assoc]
theorem tput_snoc (l : List Rec) (x : Rec) : tput (l ++ [x]) = tput l ++ x.one := by
  rw [tput_append, tput_cons, tput_nil, empty_right]
theorem tput_bt : ∀ (l : List Rec) (j i : Nat), j < l.length → i < 30 → bt (tput l) ((30 * j + i : Nat) : Int) = bt (l.getD j Rec.nil).one i
  | [], j, i, h, _ => absurd h (by simp)
  | x :: l, 0, i, h, hi => by
    rw [tput_cons, bt_append, one_30, if_pos (by omega)]
    rw [Nat.mul_zero, Nat.zero_add]; rfl
  | x :: l, j + 1, i, h, hi => by
    rw [List.length_cons] at h
    rw [tput_cons, bt_append, one_30, if_neg (by omega)]
    have e : 30 * (j + 1) + i - 30 = 30 * j + i := by omega
    rw [e, tput_bt l j i (by omega) hi]; rfl
def allRt (l : List Rec) : Prop := ∀ x ∈ l, x.ok ∧ x.rt
theorem getD_mem_rec {l : List Rec} {j : Nat} (h : j < l.length) : l.getD j Rec.nil ∈ l := by
  rw [List.getD_eq_getElem?_getD, List.getElem?_eq_getElem h]; exact List.getElem_mem _
/-- As far as the bytes are those of records, these are read. -/
theorem reads_some (l : List Rec) (hl : allRt l) (s : ByteArray) (m : Nat) (hm : m ≤ l.length) (hs : 30 * m ≤ s.size) (h : ∀ k, k < 30 * m → bt s (k : Nat) = bt (tput l) (k : Nat)) : (∀ j, j < m → good s (30 * j)) ∧ rl s m = l.take m := by
  have g : ∀ j, j < m → good s (30 * j) ∧ dec s (30 * j) = l.getD j Rec.nil := fun j hj =>
    good_one _ (hl _ (getD_mem_rec (by omega))).1 (hl _ (getD_mem_rec (by omega))).2 s (30 * j) (by omega) fun i hi => by
      rw [h (30 * j + i) (by omega), tput_bt l j i (by omega) hi]
  refine ⟨fun j hj => (g j hj).1, ?_⟩
  have z := rl_len s m
  refine List.ext_getElem? fun j => ?_
  by_cases hj : j < m
  · have e := rl_getD s m j hj
    rw [(g j hj).2, List.getD_eq_getElem?_getD, List.getD_eq_getElem?_getD] at e
    rw [List.getElem?_take, if_pos hj]
    rw [List.getElem?_eq_getElem (by omega), List.getElem?_eq_getElem (by omega)] at e ⊢
    exact congrArg some e
  · rw [List.getElem?_eq_none (by omega), List.getElem?_eq_none (by rw [List.length_take]; omega)]
theorem isrd_put (l : List Rec) (hl : allRt l) (r : ByteArray) (hr : r.size < 30) : IsRd (tput l ++ r) l.length ∧ rl (tput l ++ r) l.length = l := by
  have z := tput_size l
  have z2 : (tput l ++ r).size = (tput l).size + r.size := ByteArray.size_append
  have h := reads_some l hl (tput l ++ r) l.length (Nat.le_refl _) (by omega) fun k hk => by rw [bt_append, if_pos (by omega)]
  exact ⟨⟨h.1, fun g => by have := g.1; omega⟩, by rw [h.2, List.take_length]⟩
theorem isrd_cut (l : List Rec) (hl : allRt l) (k : Nat) (hk : k ≤ 30 * l.length) : IsRd ((tput l).extract 0 k) (k / 30) ∧ rl ((tput l).extract 0 k) (k / 30) = l.take (k / 30) := by
  have z := tput_size l
  have z2 := size_ext (tput l) 0 k (by omega)
  have h := reads_some l hl ((tput l).extract 0 k) (k / 30) (by omega) (by omega) fun i hi => by rw [bt_extract _ _ _ _ (by omega), Nat.zero_add]
  exact ⟨⟨h.1, fun g => by have := g.1; omega⟩, h.2⟩
/-- Of a record's bytes of which one is another one no record is read. -/
theorem bad_one (y z : Rec) (i : Nat) (hi : i < 30) (h : ∀ j : Nat, j < 30 → j ≠ i → bt z.one j = bt y.one j) : z.one = y.one := by
  have p1 := pb_26 y
  have p2 := pb_26 z
  have low1 := one_low y
  have low2 := one_low z
  have hm : ∀ p q : ByteArray, ∀ j : Nat, p.size = 26 → q.size = 26 → j < 26 → (∀ x : Nat, x ≠ j → bt p x = bt q x) → bt p j ≠ bt q j → mor 1 p ≠ mor 1 q := fun p q j hp hq hj hx hb => mor_apart 1 q p j (by omega) (by omega) hx hb
  have hz : z.one = pb z.fds ++ four (mor 1 (pb z.fds)) := rfl
  have hy : y.one = pb y.fds ++ four (mor 1 (pb y.fds)) := rfl
  generalize pb z.fds = p at *
  generalize pb y.fds = q at *
  obtain ⟨a0, a1⟩ := mor_bd 1 p
  obtain ⟨b0, b1⟩ := mor_bd 1 q
  have hpq : p = q → mor 1 p = mor 1 q := fun e => by rw [e]
  have hm2 := hm p q i p2 p1
  generalize mor 1 p = m at *
  generalize mor 1 q = n at *
  clear hm
  have four_at : ∀ j : Nat, j < 4 → bt (four m) j = bt z.one ((26 + j : Nat) : Int) ∧ bt (four n) j = bt y.one ((26 + j : Nat) : Int) := fun j hj => by
    rw [hz, hy, bt_append, bt_append, p1, p2, if_neg (by omega), if_neg (by omega)]
    have e : 26 + j - 26 = j := by omega
    rw [e]
    exact ⟨rfl, rfl⟩
  by_cases h26 : i < 26
  · have hf : four m = four n := by
      refine str_ext (by rw [four_size, four_size]) fun j hj => ?_
      rw [four_size] at hj
      rw [(four_at j hj).1, (four_at j hj).2]
      exact h _ (by omega) (by omega)
    have hmn := four_inj _ _ a0 a1 b0 b1 hf
    have hp : ∀ j : Nat, j ≠ i → bt p j = bt q j := fun j hj => by
      by_cases hj2 : j < 26
      · rw [← low2 j hj2, ← low1 j hj2]; exact h j (by omega) hj
      · rw [bt_out _ _ (by omega), bt_out _ _ (by omega)]
    by_cases hb : bt p i = bt q i
    · have : p = q := str_ext (by omega) fun j _ => by
        by_cases hj : j = i
        · rw [hj]; exact hb
        · exact hp j hj
      rw [hz, hy, this, hmn]
    · exact absurd hmn (hm2 h26 hp hb)
  · have hpq2 : p = q := str_ext (by omega) fun j hj => by
      rw [← low2 j (by omega), ← low1 j (by omega)]
      exact h j (by omega) (by omega)
    rw [hz, hy, hpq2, hpq hpq2]
theorem isrd_wth (l : List Rec) (hl : allRt l) (k : Nat) (c : UInt8) (hk : k < 30 * l.length) (hc : wth (tput l) k c ≠ tput l) : IsRd (wth (tput l) k c) (k / 30) ∧ rl (wth (tput l) k c) (k / 30) = l.take (k / 30) := by
  have z := tput_size l
  have z2 := wth_size (tput l) k c (by omega)
  have h := reads_some l hl (wth (tput l) k c) (k / 30) (by omega) (by omega) fun i hi => by rw [wth_bt _ _ _ (by omega), if_neg (by omega)]
  refine ⟨⟨h.1, fun g => hc ?_⟩, h.2⟩
  obtain ⟨g1, g2, g3⟩ := g
  have zx := size_ext (wth (tput l) k c) (30 * (k / 30)) (30 * (k / 30) + 30) g1
  have e : ∀ j : Nat, j < 30 → bt (dec (wth (tput l) k c) (30 * (k / 30))).one j = if 30 * (k / 30) + j = k then (c.toNat : Int) else bt (l.getD (k / 30) Rec.nil).one j := fun j hj => by
    rw [g3, bt_extract _ _ _ _ (by omega), wth_bt _ _ _ (by omega)]
    split
    · rfl
    · exact tput_bt l (k / 30) j (by omega) hj
  have hb := bad_one (l.getD (k / 30) Rec.nil) (dec (wth (tput l) k c) (30 * (k / 30))) (k - 30 * (k / 30)) (by omega) fun j hj hn => by
    rw [e j hj, if_neg (by omega)]
  refine str_ext z2 fun i hi => ?_
  rw [wth_bt _ _ _ (by omega)]
  split
  · rename_i hik
    subst hik
    have e2 := e (i - 30 * (i / 30)) (by omega)
    rw [if_pos (by omega), hb, ← tput_bt l (i / 30) (i - 30 * (i / 30)) (by omega) (by omega)] at e2
    have e3 : 30 * (i / 30) + (i - 30 * (i / 30)) = i := by omega
    rw [e3] at e2
    exact e2.symm
  · rfl
/-- Sealed, the bytes are a right record's if what they say is right; not sealed, they are none's. -/
theorem good_seal (s : ByteArray) (hs : s.size = 30) (h : 4 ≤ s.size ∧ seal4 (s.extract 0 (s.size - 4)) = s) : dec (s.extract 0 (s.size - 4)) 0 = dec s 0 ∧ (good s 0 ↔ (dec s 0).rt) := by
  have e26 : s.size - 4 = 26 := by omega
  rw [e26] at h ⊢
  have zi := size_ext s 0 26 (by omega)
  have e : dec (s.extract 0 26) 0 = dec s 0 := dec_agree _ _ _ _ fun j hj => by
    rw [Nat.zero_add, bt_extract _ _ _ _ (by omega), Nat.zero_add]
  refine ⟨e, fun g => g.2.1, fun g => ⟨by omega, g, ?_⟩⟩
  have hx : s.extract 0 (0 + 30) = s := str_ext (by rw [size_ext _ _ _ (by omega)]; omega) fun k hk => by
    rw [size_ext _ _ _ (by omega)] at hk
    rw [bt_extract _ _ _ _ (by omega), Nat.zero_add]
  rw [hx]
  unfold Rec.one
  rw [← e, pb_dec _ (by omega)]
  exact h.2
theorem good_sealed (s : ByteArray) (hs : s.size = 30) (g : good s 0) : 4 ≤ s.size ∧ seal4 (s.extract 0 (s.size - 4)) = s := by
  have e26 : s.size - 4 = 26 := by omega
  rw [e26]
  have hx : s.extract 0 (0 + 30) = s := str_ext (by rw [size_ext _ _ _ (by omega)]; omega) fun k hk => by
    rw [size_ext _ _ _ (by omega)] at hk
    rw [bt_extract _ _ _ _ (by omega), Nat.zero_add]
  have h := g.2.2
  rw [hx] at h
  unfold Rec.one at h
  have z := pb_26 (dec s 0)
  refine ⟨by omega, ?_⟩
  have h2 : s.extract 0 26 = pb (dec s 0).fds := by
    conv => lhs; rw [← h]
    unfold seal4
    have := ext_left (pb (dec s 0).fds) (four (mor 1 (pb (dec s 0).fds)))
    rw [z] at this
    exact this
  rw [h2]
  exact h
end Go.Proofs.Ytapjebhdgcpdjaa
