/-
  Operations as bytes, layer 25, over plain numbers and strings: which ones have an encoding, what it is, what bytes say; what is put is read as it was, and in no other way. No Go in it. No condition.
-/
import Derived.Test.YtapjebhdgcpdjaaWireBackMath2
namespace Go.Proofs.Ytapjebhdgcpdjaa
set_option linter.unusedVariables false
set_option linter.unusedSimpArgs false
open Go.ChangeShapes Go.WideShapes Go.ChangeAt Go.RowKit

/-- An operation: its kind, a flow, a number of its own, a length, ticks. -/
structure Opn where
  k : Int
  fl : Int
  nr : Int
  ln : Int
  ti : Int
deriving DecidableEq
def Opn.ok (x : Opn) : Prop := (-9223372036854775808 ≤ x.k ∧ x.k ≤ 9223372036854775807) ∧ (0 ≤ x.fl ∧ x.fl ≤ 4294967295) ∧ (0 ≤ x.nr ∧ x.nr ≤ 4294967295) ∧ (0 ≤ x.ln ∧ x.ln ≤ 18446744073709551615) ∧ (0 ≤ x.ti ∧ x.ti ≤ 18446744073709551615)
def Opn.nil : Opn := ⟨0, 0, 0, 0, 0⟩
def Opn.torn : Opn := ⟨5, 0, 0, 0, 0⟩
/-- Whether one has an encoding. -/
def Opn.right (x : Opn) : Bool :=
  if x.k = 1 then decide (x.ti = 0)
  else if x.fl ≠ 0 ∨ x.nr ≠ 0 then false
  else if x.k = 0 then decide (x.ti = 0 ∧ x.ln < 256 ∧ (x.ln = 0 ∨ 4 < x.ln))
  else if x.k = 3 then decide (x.ln = 0)
  else decide ((x.k = 2 ∨ x.k = 4) ∧ x.ln = 0 ∧ x.ti = 0)
theorem Opn.right_cases (x : Opn) (h : x.right = true) : (∃ d i n, x = ⟨1, d, i, n, 0⟩) ∨ x = ⟨2, 0, 0, 0, 0⟩ ∨ x = ⟨4, 0, 0, 0, 0⟩ ∨ (∃ t, x = ⟨3, 0, 0, 0, t⟩) ∨ (∃ n, x = ⟨0, 0, 0, n, 0⟩ ∧ n < 256 ∧ (n = 0 ∨ 4 < n)) := by
  obtain ⟨k, d, i, n, t⟩ := x
  unfold Opn.right at h
  simp only at h
  by_cases h1 : k = 1
  · rw [if_pos h1] at h
    have := of_decide_eq_true h
    subst h1 this
    exact Or.inl ⟨d, i, n, rfl⟩
  · rw [if_neg h1] at h
    by_cases h2 : d ≠ 0 ∨ i ≠ 0
    · rw [if_pos h2] at h; cases h
    · rw [if_neg h2] at h
      have hd : d = 0 := by omega
      have hi : i = 0 := by omega
      subst hd hi
      by_cases h3 : k = 0
      · rw [if_pos h3] at h
        obtain ⟨ht, hn⟩ := of_decide_eq_true h
        subst h3 ht
        exact Or.inr (Or.inr (Or.inr (Or.inr ⟨n, rfl, hn⟩)))
      · rw [if_neg h3] at h
        by_cases h4 : k = 3
        · rw [if_pos h4] at h
          have := of_decide_eq_true h
          subst h4 this
          exact Or.inr (Or.inr (Or.inr (Or.inl ⟨t, rfl⟩)))
        · rw [if_neg h4] at h
          obtain ⟨hk, hn, ht⟩ := of_decide_eq_true h
          subst hn ht
          rcases hk with rfl | rfl
          · exact Or.inr (Or.inl rfl)
          · exact Or.inr (Or.inr (Or.inl rfl))
/-- The first byte, and the fields behind it. -/
def Opn.first (x : Opn) : Int := if x.k = 0 then x.ln else x.k
def Opn.rest (x : Opn) : List Fd := if x.k = 1 then [⟨3, x.fl, ⟨#[]⟩⟩, ⟨3, x.nr, ⟨#[]⟩⟩, ⟨5, x.ln, ⟨#[]⟩⟩] else if x.k = 3 then [⟨5, x.ti, ⟨#[]⟩⟩] else []
def Opn.fds (x : Opn) : List Fd := ⟨1, x.first, ⟨#[]⟩⟩ :: x.rest
/-- All operations' fields, their bytes. -/
def ofds (l : List Opn) : List Fd := l.flatMap Opn.fds
def oput (l : List Opn) : ByteArray := pb (ofds l)
/-- The kinds of the fields behind a first byte; the operation of it and of such fields. -/
def okinds (b : Int) : List Int := if b = 1 then [3, 3, 5] else if b = 3 then [5] else []
def oper (b : Int) (l : List Fd) : Opn := if b = 1 then ⟨1, (l.getD 0 Fd.nil).n, (l.getD 1 Fd.nil).n, (l.getD 2 Fd.nil).n, 0⟩ else if b = 3 then ⟨3, 0, 0, 0, (l.getD 0 Fd.nil).n⟩ else ⟨b, 0, 0, 0, 0⟩
/-- What stands at the beginning of bytes: the operation, how many bytes it has. -/
def otake (s : ByteArray) : Opn × Nat :=
  if bt s (0 : Nat) = 0 ∨ 4 < bt s (0 : Nat) then (⟨0, 0, 0, bt s (0 : Nat), 0⟩, 1)
  else if (tl (s.extract 1 s.size) (okinds (bt s (0 : Nat))) 0).2.2 ≠ 0 then (Opn.torn, s.size)
  else (oper (bt s (0 : Nat)) (tl (s.extract 1 s.size) (okinds (bt s (0 : Nat))) 0).1, 1 + (tl (s.extract 1 s.size) (okinds (bt s (0 : Nat))) 0).2.1)
def oreadN : Nat → ByteArray → List Opn
  | 0, _ => []
  | m + 1, s => if s.size = 0 then [] else (otake s).1 :: oreadN m (s.extract (otake s).2 s.size)
/-- The operations that bytes consist of. -/
def oread (s : ByteArray) : List Opn := oreadN s.size s

theorem pb_append (a b : List Fd) : pb (a ++ b) = pb a ++ pb b := by
  induction a with
  | nil => rw [List.nil_append]; exact (empty_left _).symm
  | cons f a ih => rw [List.cons_append, pb_cons, pb_cons, ih, ByteArray.append_assoc]
theorem oput_cons (x : Opn) (l : List Opn) : oput (x :: l) = pb x.fds ++ oput l := by
  unfold oput ofds
  rw [List.flatMap_cons, pb_append]
theorem oput_append (a b : List Opn) : oput (a ++ b) = oput a ++ oput b := by
  unfold oput ofds
  rw [List.flatMap_append, pb_append]
theorem oput_one (x : Opn) : oput [x] = pb x.fds := by
  rw [oput_cons]; exact empty_right _
theorem wk1 : wk 1 = 1 := rfl
theorem wk3 : wk 3 = 4 := rfl
theorem er_byte (n : Int) (h : n < 256) : er ⟨1, n, ⟨#[]⟩⟩ = 0 := by
  unfold er
  simp only
  rw [if_neg (by omega), if_neg (by rintro (⟨h, _⟩ | ⟨_, h⟩); exact absurd h (by decide); exact h rfl), if_neg (by rintro ⟨_, h2⟩; rw [wk1] at h2; omega), if_neg (by decide)]
theorem er_word (n : Int) (h : n < 4294967296) : er ⟨3, n, ⟨#[]⟩⟩ = 0 := by
  unfold er
  simp only
  rw [if_neg (by omega), if_neg (by rintro (⟨h, _⟩ | ⟨_, h⟩); exact absurd h (by decide); exact h rfl), if_neg (by rintro ⟨_, h2⟩; rw [wk3] at h2; omega), if_neg (by decide)]
theorem er_var (n : Int) : er ⟨5, n, ⟨#[]⟩⟩ = 0 := by
  unfold er
  simp only
  rw [if_neg (by omega), if_neg (by rintro (⟨h, _⟩ | ⟨_, h⟩); exact absurd h (by decide); exact h rfl), if_neg (by rintro ⟨h2, _⟩; exact absurd h2 (by decide)), if_neg (by decide)]
theorem right_fds (x : Opn) (h : x.right = true) (hk : x.ok) : ∀ f ∈ x.fds, er f = 0 ∧ 0 ≤ f.n ∧ f.n ≤ 18446744073709551615 := by
  obtain ⟨_, o1, o2, o3, o4⟩ := hk
  rcases x.right_cases h with ⟨d, i, n, rfl⟩ | rfl | rfl | ⟨t, rfl⟩ | ⟨n, rfl, hn, _⟩
  · simp only at o1 o2 o3 o4
    intro f hf
    have hf : f ∈ ([⟨1, 1, ⟨#[]⟩⟩, ⟨3, d, ⟨#[]⟩⟩, ⟨3, i, ⟨#[]⟩⟩, ⟨5, n, ⟨#[]⟩⟩] : List Fd) := hf
    simp only [List.mem_cons, List.not_mem_nil, or_false] at hf
    rcases hf with rfl | rfl | rfl | rfl
    · exact ⟨er_byte 1 (by omega), by show (0 : Int) ≤ 1; omega, by show (1 : Int) ≤ _; omega⟩
    · exact ⟨er_word d (by omega), o1.1, by show d ≤ _; omega⟩
    · exact ⟨er_word i (by omega), o2.1, by show i ≤ _; omega⟩
    · exact ⟨er_var n, o3⟩
  · intro f hf
    have hf : f ∈ ([⟨1, 2, ⟨#[]⟩⟩] : List Fd) := hf
    simp only [List.mem_cons, List.not_mem_nil, or_false] at hf
    subst hf
    exact ⟨er_byte 2 (by omega), by show (0 : Int) ≤ 2; omega, by show (2 : Int) ≤ _; omega⟩
  · intro f hf
    have hf : f ∈ ([⟨1, 4, ⟨#[]⟩⟩] : List Fd) := hf
    simp only [List.mem_cons, List.not_mem_nil, or_false] at hf
    subst hf
    exact ⟨er_byte 4 (by omega), by show (0 : Int) ≤ 4; omega, by show (4 : Int) ≤ _; omega⟩
  · simp only at o1 o2 o3 o4
    intro f hf
    have hf : f ∈ ([⟨1, 3, ⟨#[]⟩⟩, ⟨5, t, ⟨#[]⟩⟩] : List Fd) := hf
    simp only [List.mem_cons, List.not_mem_nil, or_false] at hf
    rcases hf with rfl | rfl
    · exact ⟨er_byte 3 (by omega), by show (0 : Int) ≤ 3; omega, by show (3 : Int) ≤ _; omega⟩
    · exact ⟨er_var t, o4⟩
  · simp only at o1 o2 o3 o4
    intro f hf
    have hf : f ∈ ([⟨1, n, ⟨#[]⟩⟩] : List Fd) := hf
    simp only [List.mem_cons, List.not_mem_nil, or_false] at hf
    subst hf
    exact ⟨er_byte n hn, o3⟩
theorem hib_one (b : Int) (h0 : 0 ≤ b) (h1 : b ≤ 255) : hib b 1 = chrs [b] := by
  show (⟨#[]⟩ : ByteArray) ++ chrs [b % 256] = _
  rw [show b % 256 = b by omega]
  exact empty_left _
theorem enc_byte (b : Int) (h0 : 0 ≤ b) (h1 : b ≤ 255) : enc ⟨1, b, ⟨#[]⟩⟩ = chrs [b] := by
  unfold enc
  simp only
  rw [if_neg (by decide), if_neg (by decide), wk1, hib_one b h0 h1]
theorem chrs_one (b : Int) : (chrs [b]).size = 1 := by rw [chrs_size]; rfl
theorem extract_zero (a b : ByteArray) : (a ++ b).extract a.size (a ++ b).size = b := by
  refine str_ext (by rw [size_ext _ _ _ (Nat.le_refl _), ByteArray.size_append]; omega) fun k hk => ?_
  rw [size_ext _ _ _ (Nat.le_refl _), ByteArray.size_append] at hk
  rw [bt_extract _ _ _ _ (by rw [ByteArray.size_append]; omega), bt_append, if_neg (by omega)]
  congr 1
  omega
/-- What is put ahead is taken. -/
theorem otake_put (x : Opn) (h : x.right = true) (hk : x.ok) (r : ByteArray) : otake (pb x.fds ++ r) = (x, (pb x.fds).size) ∧ 1 ≤ (pb x.fds).size := by
  have hf := right_fds x h hk
  have b01 : 0 ≤ x.first ∧ x.first ≤ 255 := by
    have := hf _ (List.mem_cons_self ..)
    have e := er_range _ this.1
    have := e.2.2.2.2.2 (by show (1 : Int) ≤ 4; omega)
    have g : x.first < 256 ^ wk 1 := this
    rw [wk1] at g
    have g0 : 0 ≤ x.first := (hf _ (List.mem_cons_self ..)).2.1
    omega
  have ep : pb x.fds = chrs [x.first] ++ pb x.rest := by
    show pb (_ :: _) = _
    rw [pb_cons, enc_byte _ b01.1 b01.2]
  have es : pb x.fds ++ r = chrs [x.first] ++ (pb x.rest ++ r) := by rw [ep, ByteArray.append_assoc]
  have eb : bt (pb x.fds ++ r) (0 : Nat) = x.first := by
    rw [es, bt_append, if_pos (by rw [chrs_one]; omega), chrs_bt _ b01.1 b01.2]
  have ex : (pb x.fds ++ r).extract 1 (pb x.fds ++ r).size = pb x.rest ++ r := by
    rw [es]
    have := extract_zero (chrs [x.first]) (pb x.rest ++ r)
    rw [chrs_one] at this
    exact this
  have sz : (pb x.fds).size = 1 + (pb x.rest).size := by rw [ep, ByteArray.size_append, chrs_one]
  have ht := tl_put (pb x.rest ++ r) x.rest 0 (fun f hf' => hf f (List.mem_cons_of_mem _ hf')) (beg_self _ _)
  refine ⟨?_, by omega⟩
  unfold otake
  rw [eb, ex]
  rcases x.right_cases h with ⟨d, i, n, rfl⟩ | rfl | rfl | ⟨t, rfl⟩ | ⟨n, rfl, hn, hn2⟩
  · have e1 : (Opn.mk 1 d i n 0).first = 1 := rfl
    rw [e1]
    have e2 : okinds 1 = (Opn.mk 1 d i n 0).rest.map Fd.k := rfl
    rw [e2, ht, if_neg (by omega), if_neg (by simp)]
    rw [sz, Nat.zero_add]
    rfl
  · have e1 : (Opn.mk 2 0 0 0 0).first = 2 := rfl
    rw [e1]
    have e2 : okinds 2 = (Opn.mk 2 0 0 0 0).rest.map Fd.k := rfl
    rw [e2, ht, if_neg (by omega), if_neg (by simp)]
    rw [sz, Nat.zero_add]
    rfl
  · have e1 : (Opn.mk 4 0 0 0 0).first = 4 := rfl
    rw [e1]
    have e2 : okinds 4 = (Opn.mk 4 0 0 0 0).rest.map Fd.k := rfl
    rw [e2, ht, if_neg (by omega), if_neg (by simp)]
    rw [sz, Nat.zero_add]
    rfl
  · have e1 : (Opn.mk 3 0 0 0 t).first = 3 := rfl
    rw [e1]
    have e2 : okinds 3 = (Opn.mk 3 0 0 0 t).rest.map Fd.k := rfl
    rw [e2, ht, if_neg (by omega), if_neg (by simp)]
    rw [sz, Nat.zero_add]
    rfl
  · have e1 : (Opn.mk 0 0 0 n 0).first = n := rfl
    have e3 : (pb (Opn.mk 0 0 0 n 0).rest).size = 0 := rfl
    rw [e1, if_pos (by omega), sz, e3]
theorem len_three {α : Type} {l : List α} (h : l.length = 3) : ∃ a b c, l = [a, b, c] := by
  match l, h with
  | [a, b, c], _ => exact ⟨a, b, c, rfl⟩
theorem len_one {α : Type} {l : List α} (h : l.length = 1) : ∃ a, l = [a] := by
  match l, h with
  | [a], _ => exact ⟨a, rfl⟩
theorem tl_kinds (s : ByteArray) : ∀ (ks : List Int) (d : Nat), (tl s ks d).2.2 = 0 → (tl s ks d).1.map Fd.k = ks
  | [], d, _ => rfl
  | k :: ks, d, h => by
    have hb := tk_back (s.extract d s.size) k
    unfold tl at h ⊢
    by_cases h1 : (tk (s.extract d s.size) k).2.2 = 0
    · rw [if_neg (by simpa using h1)] at h ⊢
      by_cases h2 : (tl s ks (d + (tk (s.extract d s.size) k).2.1)).2.2 = 0
      · rw [if_neg (by simpa using h2)]
        show _ :: List.map Fd.k _ = _
        rw [tl_kinds s ks _ h2, (hb h1).2.2.1]
      · rw [if_pos (by simpa using h2)] at h
        exact absurd h h2
    · rw [if_pos (by simpa using h1)] at h
      exact absurd h h1
theorem oext_one (s : ByteArray) (h : 0 < s.size) : chrs [bt s (0 : Nat)] = s.extract 0 1 := by
  have b := bt_bd s (0 : Nat)
  refine str_ext (by rw [chrs_one, size_ext _ _ _ (by omega)]) fun k hk => ?_
  rw [chrs_one] at hk
  have : k = 0 := by omega
  subst this
  rw [chrs_bt _ b.1 b.2, bt_extract _ _ _ _ (by omega)]
theorem oext_two (s : ByteArray) (e : Nat) (h : 0 < s.size) (he : e ≤ s.size - 1) : s.extract 0 1 ++ (s.extract 1 s.size).extract 0 e = s.extract 0 (1 + e) := by
  have z1 : (s.extract 0 1).size = 1 := by rw [size_ext _ _ _ (by omega)]
  have z2 : (s.extract 1 s.size).size = s.size - 1 := size_ext _ _ _ (Nat.le_refl _)
  refine str_ext (by rw [ByteArray.size_append, z1, size_ext _ _ _ (by omega), size_ext _ _ _ (by omega)]; omega) fun k hk => ?_
  rw [ByteArray.size_append, z1, size_ext _ _ _ (by omega)] at hk
  rw [bt_append, z1, bt_extract s 0 (1 + e) k (by omega)]
  split
  · rw [bt_extract _ _ _ _ (by omega)]
  · rw [bt_extract _ _ _ _ (by omega), bt_extract _ _ _ _ (by omega)]
    congr 1
    omega
/-- What is taken, but torn, has just these bytes. -/
theorem otake_back (s : ByteArray) (h : 0 < s.size) : otake s = (Opn.torn, s.size) ∨ ((otake s).1.right = true ∧ (otake s).1.ok ∧ pb (otake s).1.fds = s.extract 0 (otake s).2 ∧ 1 ≤ (otake s).2 ∧ (otake s).2 ≤ s.size) := by
  have b := bt_bd s (0 : Nat)
  have x1 := oext_one s h
  unfold otake
  generalize hbb : bt s (0 : Nat) = bb at *
  by_cases h1 : bb = 0 ∨ 4 < bb
  · rw [if_pos h1]
    right
    refine ⟨?_, ⟨⟨by show (-9223372036854775808 : Int) ≤ 0; omega, by show (0 : Int) ≤ _; omega⟩, ⟨by show (0 : Int) ≤ 0; omega, by show (0 : Int) ≤ _; omega⟩, ⟨by show (0 : Int) ≤ 0; omega, by show (0 : Int) ≤ _; omega⟩, ⟨b.1, by show bb ≤ _; omega⟩, ⟨by show (0 : Int) ≤ 0; omega, by show (0 : Int) ≤ _; omega⟩⟩, ?_, Nat.le_refl 1, h⟩
    · show decide ((0 : Int) = 0 ∧ bb < 256 ∧ (bb = 0 ∨ 4 < bb)) = true
      exact decide_eq_true ⟨rfl, by omega, h1⟩
    · show pb [⟨1, bb, ⟨#[]⟩⟩] = s.extract 0 1
      rw [pb_cons, enc_byte _ b.1 b.2, x1]
      exact empty_right _
  · rw [if_neg h1]
    by_cases h2 : (tl (s.extract 1 s.size) (okinds bb) 0).2.2 = 0
    · rw [if_neg (by simpa using h2)]
      right
      have hk := tl_kinds _ _ _ h2
      obtain ⟨hf, hp, _, hd⟩ := tl_only (s.extract 1 s.size) (okinds bb) (tl (s.extract 1 s.size) (okinds bb) 0).1 0 (tl (s.extract 1 s.size) (okinds bb) 0).2.1 (Nat.zero_le _) (by rw [← h2])
      generalize (tl (s.extract 1 s.size) (okinds bb) 0).1 = fl at *
      generalize (tl (s.extract 1 s.size) (okinds bb) 0).2.1 = e at *
      rw [size_ext _ _ _ (Nat.le_refl _)] at hd
      have sh : ∀ f ∈ fl, f.s = ⟨#[]⟩ ∧ (f.k = 3 → f.n ≤ 4294967295) ∧ 0 ≤ f.n ∧ f.n ≤ 18446744073709551615 := by
        intro f hm
        obtain ⟨j1, j2, j3, _⟩ := hf f hm
        have hr := er_range f j1
        have k6 : f.k = 3 ∨ f.k = 5 := by
          unfold okinds at j2
          split at j2
          · simp at j2; omega
          · split at j2
            · simp at j2; omega
            · cases j2
        refine ⟨hr.2.2.2.2.1 (by omega), fun h3 => ?_, j3⟩
        have := hr.2.2.2.2.2 (by omega)
        rw [h3, wk3] at this
        omega
      have hx : (oper bb fl).right = true ∧ (oper bb fl).ok ∧ (oper bb fl).fds = ⟨1, bb, ⟨#[]⟩⟩ :: fl := by
        by_cases e1 : bb = 1
        · subst e1
          have hk : fl.map Fd.k = [3, 3, 5] := hk
          obtain ⟨f0, f1, f2, rfl⟩ := len_three (l := fl) (by have := congrArg List.length hk; simpa using this)
          · obtain ⟨k0, n0, s0⟩ := f0
            obtain ⟨k1, n1, s1⟩ := f1
            obtain ⟨k2, n2, s2⟩ := f2
            simp only [List.map_cons, List.map_nil, List.cons.injEq, and_true] at hk
            obtain ⟨rfl, rfl, rfl⟩ := hk
            obtain ⟨a0, a1, a2, a3⟩ := sh ⟨3, n0, s0⟩ (by simp)
            obtain ⟨c0, c1, c2, c3⟩ := sh ⟨3, n1, s1⟩ (by simp)
            obtain ⟨d0, d1, d2, d3⟩ := sh ⟨5, n2, s2⟩ (by simp)
            simp only at a0 a1 a2 a3 c0 c1 c2 c3 d0 d1 d2 d3
            subst a0 c0 d0
            refine ⟨rfl, ⟨⟨by show (-9223372036854775808 : Int) ≤ 1; omega, by show (1 : Int) ≤ _; omega⟩, ⟨a2, a1 (by first | trivial | rfl)⟩, ⟨c2, c1 (by first | trivial | rfl)⟩, ⟨d2, d3⟩, ⟨by show (0 : Int) ≤ 0; omega, by show (0 : Int) ≤ _; omega⟩⟩, rfl⟩
        · by_cases e3 : bb = 3
          · subst e3
            have hk : fl.map Fd.k = [5] := hk
            obtain ⟨f0, rfl⟩ := len_one (l := fl) (by have := congrArg List.length hk; simpa using this)
            · obtain ⟨k0, n0, s0⟩ := f0
              simp only [List.map_cons, List.map_nil, List.cons.injEq, and_true] at hk
              subst hk
              obtain ⟨a0, a1, a2, a3⟩ := sh ⟨5, n0, s0⟩ (by simp)
              simp only at a0 a1 a2 a3
              subst a0
              refine ⟨rfl, ⟨⟨by show (-9223372036854775808 : Int) ≤ 3; omega, by show (3 : Int) ≤ _; omega⟩, ⟨by show (0 : Int) ≤ 0; omega, by show (0 : Int) ≤ _; omega⟩, ⟨by show (0 : Int) ≤ 0; omega, by show (0 : Int) ≤ _; omega⟩, ⟨by show (0 : Int) ≤ 0; omega, by show (0 : Int) ≤ _; omega⟩, ⟨a2, a3⟩⟩, rfl⟩
          · have e24 : bb = 2 ∨ bb = 4 := by omega
            have e0 : okinds bb = [] := by unfold okinds; rw [if_neg e1, if_neg e3]
            rw [e0] at hk
            have hz : fl = [] := List.map_eq_nil_iff.1 hk
            subst hz
            rcases e24 with rfl | rfl
            · exact ⟨rfl, ⟨⟨by show (-9223372036854775808 : Int) ≤ 2; omega, by show (2 : Int) ≤ _; omega⟩, ⟨by show (0 : Int) ≤ 0; omega, by show (0 : Int) ≤ _; omega⟩, ⟨by show (0 : Int) ≤ 0; omega, by show (0 : Int) ≤ _; omega⟩, ⟨by show (0 : Int) ≤ 0; omega, by show (0 : Int) ≤ _; omega⟩, ⟨by show (0 : Int) ≤ 0; omega, by show (0 : Int) ≤ _; omega⟩⟩, rfl⟩
            · exact ⟨rfl, ⟨⟨by show (-9223372036854775808 : Int) ≤ 4; omega, by show (4 : Int) ≤ _; omega⟩, ⟨by show (0 : Int) ≤ 0; omega, by show (0 : Int) ≤ _; omega⟩, ⟨by show (0 : Int) ≤ 0; omega, by show (0 : Int) ≤ _; omega⟩, ⟨by show (0 : Int) ≤ 0; omega, by show (0 : Int) ≤ _; omega⟩, ⟨by show (0 : Int) ≤ 0; omega, by show (0 : Int) ≤ _; omega⟩⟩, rfl⟩
      refine ⟨hx.1, hx.2.1, ?_, by show 1 ≤ 1 + e; omega, by show 1 + e ≤ s.size; omega⟩
      show pb (oper bb fl).fds = s.extract 0 (1 + e)
      rw [hx.2.2, pb_cons, enc_byte _ b.1 b.2, hp, x1]
      exact oext_two s e h hd
    · rw [if_pos (by simpa using h2)]
      exact Or.inl rfl
theorem otake_le (s : ByteArray) (h : 0 < s.size) : 1 ≤ (otake s).2 ∧ (otake s).2 ≤ s.size := by
  rcases otake_back s h with h1 | h1
  · rw [h1]; exact ⟨h, Nat.le_refl _⟩
  · exact ⟨h1.2.2.2.1, h1.2.2.2.2⟩
theorem oreadN_fuel : ∀ (m : Nat) (s : ByteArray), s.size ≤ m → oreadN m s = oread s
  | 0, s, h => by
    unfold oread
    have : s.size = 0 := by omega
    rw [this]
  | m + 1, s, h => by
    by_cases hz : s.size = 0
    · unfold oread
      rw [hz]
      unfold oreadN
      rw [if_pos hz]
    · have hl := otake_le s (by omega)
      obtain ⟨q, hq⟩ : ∃ q, s.size = q + 1 := ⟨s.size - 1, by omega⟩
      have hsz : (s.extract (otake s).2 s.size).size = s.size - (otake s).2 := size_ext _ _ _ (Nat.le_refl _)
      unfold oread
      rw [hq]
      show (if s.size = 0 then [] else (otake s).1 :: oreadN m (s.extract (otake s).2 s.size)) = (if s.size = 0 then [] else (otake s).1 :: oreadN q (s.extract (otake s).2 s.size))
      rw [if_neg hz, if_neg hz, oreadN_fuel m _ (by omega), oreadN_fuel q _ (by omega)]
theorem oread_nil (s : ByteArray) (h : s.size = 0) : oread s = [] := by unfold oread; rw [h]; rfl
theorem oread_step (s : ByteArray) (h : 0 < s.size) : oread s = (otake s).1 :: oread (s.extract (otake s).2 s.size) := by
  have hl := otake_le s h
  obtain ⟨q, hq⟩ : ∃ q, s.size = q + 1 := ⟨s.size - 1, by omega⟩
  have hsz : (s.extract (otake s).2 s.size).size = s.size - (otake s).2 := size_ext _ _ _ (Nat.le_refl _)
  have := oreadN_fuel (q + 1) s (by omega)
  rw [← this]
  show (if s.size = 0 then [] else (otake s).1 :: oreadN q (s.extract (otake s).2 s.size)) = _
  rw [if_neg (by omega), oreadN_fuel q _ (by omega)]
theorem oread_len (s : ByteArray) : (oread s).length ≤ s.size := by
  suffices ∀ (m : Nat) (s : ByteArray), s.size ≤ m → (oread s).length ≤ s.size from this s.size s (Nat.le_refl _)
  intro m
  induction m with
  | zero => intro s h; rw [oread_nil s (by omega)]; exact Nat.zero_le _
  | succ m ih =>
    intro s h
    by_cases hz : s.size = 0
    · rw [oread_nil s hz]; exact Nat.zero_le _
    · have hl := otake_le s (by omega)
      have hsz : (s.extract (otake s).2 s.size).size = s.size - (otake s).2 := size_ext _ _ _ (Nat.le_refl _)
      rw [oread_step s (by omega), List.length_cons]
      have := ih (s.extract (otake s).2 s.size) (by omega)
      omega
/-- What is put ahead is read. -/
theorem oread_put (l : List Opn) (r : ByteArray) (h : ∀ x ∈ l, x.right = true ∧ x.ok) : oread (oput l ++ r) = l ++ oread r := by
  induction l with
  | nil => rw [show oput [] ++ r = r from empty_left r]; rfl
  | cons x l ih =>
    obtain ⟨h1, h2⟩ := h x (by simp)
    rw [oput_cons, ByteArray.append_assoc]
    obtain ⟨e1, e2⟩ := otake_put x h1 h2 (oput l ++ r)
    rw [oread_step _ (by rw [ByteArray.size_append]; omega), e1, extract_zero, ih fun y hy => h y (by simp [hy])]
    rfl
theorem oread_put' (l : List Opn) (h : ∀ x ∈ l, x.right = true ∧ x.ok) : oread (oput l) = l := by
  have := oread_put l ByteArray.empty h
  rw [empty_right, oread_nil ByteArray.empty rfl, List.append_nil] at this
  exact this
/-- What is read, but for an end that is torn, is put as it stood. -/
theorem oread_only (s : ByteArray) : ((∀ x ∈ oread s, x.right = true ∧ x.ok) ∧ oput (oread s) = s) ∨
    ∃ l n, oread s = l ++ [Opn.torn] ∧ (∀ x ∈ l, x.right = true ∧ x.ok) ∧ n < s.size ∧ oput l = s.extract 0 n := by
  suffices ∀ (m : Nat) (s : ByteArray), s.size ≤ m → ((∀ x ∈ oread s, x.right = true ∧ x.ok) ∧ oput (oread s) = s) ∨
    ∃ l n, oread s = l ++ [Opn.torn] ∧ (∀ x ∈ l, x.right = true ∧ x.ok) ∧ n < s.size ∧ oput l = s.extract 0 n from this s.size s (Nat.le_refl _)
  intro m
  induction m with
  | zero =>
    intro s h
    left
    rw [oread_nil s (by omega)]
    exact ⟨fun x hx => (by cases hx), str_ext (by show 0 = _; omega) (fun k hk => absurd hk (by show ¬ k < 0; omega))⟩
  | succ m ih =>
    intro s h
    by_cases hz : s.size = 0
    · left
      rw [oread_nil s (by omega)]
      exact ⟨fun x hx => (by cases hx), str_ext (by show 0 = _; omega) (fun k hk => absurd hk (by show ¬ k < 0; omega))⟩
    · have hsz : (s.extract (otake s).2 s.size).size = s.size - (otake s).2 := size_ext _ _ _ (Nat.le_refl _)
      rcases otake_back s (by omega) with e | ⟨e1, e2, e3, e4, e5⟩
      · right
        refine ⟨[], 0, ?_, fun x hx => (by cases hx), by omega, ?_⟩
        · rw [oread_step s (by omega), e]
          rw [oread_nil _ (by rw [size_ext _ _ _ (Nat.le_refl _)]; exact Nat.sub_self _)]
          rfl
        · exact str_ext (by rw [size_ext _ _ _ (by omega)]; rfl) (fun k hk => absurd hk (by show ¬ k < 0; omega))
      · have join : ∀ n, n ≤ s.size - (otake s).2 → s.extract 0 (otake s).2 ++ (s.extract (otake s).2 s.size).extract 0 n = s.extract 0 ((otake s).2 + n) := by
          intro n hn
          have z1 : (s.extract 0 (otake s).2).size = (otake s).2 := by rw [size_ext _ _ _ e5]; omega
          refine str_ext (by rw [ByteArray.size_append, z1, size_ext _ _ _ (by omega), size_ext _ _ _ (by omega)]; omega) fun k hk => ?_
          rw [ByteArray.size_append, z1, size_ext _ _ _ (by omega)] at hk
          rw [bt_append, z1, bt_extract s 0 ((otake s).2 + n) k (by omega)]
          split
          · rw [bt_extract _ _ _ _ (by omega)]
          · rw [bt_extract _ _ _ _ (by omega), bt_extract _ _ _ _ (by omega)]
            congr 1
            omega
        rcases ih (s.extract (otake s).2 s.size) (by omega) with ⟨i1, i2⟩ | ⟨l, n, i1, i2, i3, i4⟩
        · left
          rw [oread_step s (by omega)]
          refine ⟨fun x hx => ?_, ?_⟩
          · rcases List.mem_cons.1 hx with rfl | hx
            · exact ⟨e1, e2⟩
            · exact i1 x hx
          · rw [oput_cons, i2, e3]
            have := join (s.size - (otake s).2) (Nat.le_refl _)
            have z : (s.extract (otake s).2 s.size).extract 0 (s.size - (otake s).2) = s.extract (otake s).2 s.size := by
              refine str_ext (by rw [size_ext _ _ _ (by omega), hsz]; omega) fun k hk => ?_
              rw [size_ext _ _ _ (by omega)] at hk
              rw [bt_extract _ _ _ _ (by omega), Nat.zero_add]
            rw [z] at this
            rw [this, show (otake s).2 + (s.size - (otake s).2) = s.size by omega]
            exact str_ext (by rw [size_ext _ _ _ (by omega)]; omega) fun k hk => by
              rw [size_ext _ _ _ (by omega)] at hk
              rw [bt_extract _ _ _ _ (by omega), Nat.zero_add]
        · right
          refine ⟨(otake s).1 :: l, (otake s).2 + n, ?_, fun x hx => ?_, by omega, ?_⟩
          · rw [oread_step s (by omega), i1]; rfl
          · rcases List.mem_cons.1 hx with rfl | hx
            · exact ⟨e1, e2⟩
            · exact i2 x hx
          · rw [oput_cons, e3, i4]
            exact join n (by omega)
end Go.Proofs.Ytapjebhdgcpdjaa
