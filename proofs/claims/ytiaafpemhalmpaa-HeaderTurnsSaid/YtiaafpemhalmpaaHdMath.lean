/-
  Layer 33: a datagram as bytes: what is put, which bytes are one, what is taken, marked and hopped of it. Plain laws on bytes and numbers, no condition.
-/
import Derived.Test.YtiaafpemhalmpaaWireMath
import Derived.Test.YtiaafpemhalmpaaSumCat
namespace Go.Proofs.Ytiaafpemhalmpaa
set_option linter.unusedVariables false
set_option linter.unusedSimpArgs false
open Go.ChangeShapes Go.WideShapes Go.ChangeAt Go.RowKit

/-- A header's numbers. -/
structure Hdr where
  d : Int
  i : Int
  t : Int
  s : Int
  q : Int
  x : Int
  y : Int
structure Hdr.ok (h : Hdr) : Prop where
  d : 0 ≤ h.d ∧ h.d ≤ 63
  i : 0 ≤ h.i ∧ h.i ≤ 65535
  t : 0 ≤ h.t ∧ h.t ≤ 255
  s : 0 ≤ h.s ∧ h.s ≤ 4294967295
  q : 0 ≤ h.q ∧ h.q ≤ 4294967295
  x : 0 ≤ h.x ∧ h.x ≤ 65535
  y : 0 ≤ h.y ∧ h.y ≤ 65535
def Hdr.nil : Hdr := ⟨0, 0, 0, 0, 0, 0, 0⟩
/-- The bytes ahead of a body of n bytes, with a checksum. -/
def hb (h : Hdr) (n c : Int) : List Int :=
  [69, 4 * h.d, (n + 28) / 256, (n + 28) % 256, h.i / 256, h.i % 256, 0, 0, h.t, 17, c / 256, c % 256,
   h.s / 16777216, h.s / 65536 % 256, h.s / 256 % 256, h.s % 256, h.q / 16777216, h.q / 65536 % 256, h.q / 256 % 256, h.q % 256,
   h.x / 256, h.x % 256, h.y / 256, h.y % 256, (n + 8) / 256, (n + 8) % 256, 0, 0]
theorem hb_len (h : Hdr) (n c : Int) : (hb h n c).length = 28 := rfl
theorem hb_bd {h : Hdr} (k : h.ok) {n c : Int} (n0 : 0 ≤ n) (n1 : n ≤ 65507) (c0 : 0 ≤ c) (c1 : c ≤ 65535) : ∀ z ∈ hb h n c, 0 ≤ z ∧ z ≤ 255 := by
  obtain ⟨d, i, t, s, q, x, y⟩ := k
  intro z hz
  simp only [hb, List.mem_cons, List.not_mem_nil, or_false] at hz
  rcases hz with rfl | rfl | rfl | rfl | rfl | rfl | rfl | rfl | rfl | rfl | rfl | rfl | rfl | rfl | rfl | rfl | rfl | rfl | rfl | rfl | rfl | rfl | rfl | rfl | rfl | rfl | rfl | rfl <;> constructor <;> omega
theorem bt_chrs (l : List Int) (hl : ∀ z ∈ l, 0 ≤ z ∧ z ≤ 255) (k : Nat) : bt (chrs l) (k : Nat) = l.getD k 0 := by
  rw [bt_nat]
  show (((l.map fun n => UInt8.ofNat n.toNat).getD k 0).toNat : Int) = _
  by_cases h : k < l.length
  · rw [List.getD_eq_getElem?_getD, List.getElem?_map, List.getElem?_eq_getElem h, List.getD_eq_getElem?_getD, List.getElem?_eq_getElem h]
    exact byte_of _ (hl _ (List.getElem_mem _)).1 (hl _ (List.getElem_mem _)).2
  · rw [List.getD_eq_getElem?_getD, List.getElem?_eq_none (by simpa using h), List.getD_eq_getElem?_getD, List.getElem?_eq_none (by omega)]
    rfl
def hd (h : Hdr) (n c : Int) : ByteArray := chrs (hb h n c)
theorem hd_size (h : Hdr) (n c : Int) : (hd h n c).size = 28 := by unfold hd; rw [chrs_size]; rfl
/-- What the words ahead of the checksum's end add up to, without the checksum. -/
def tn (h : Hdr) (n : Int) : Int := 69 * 256 + 4 * h.d + (n + 28) + h.i + (h.t * 256 + 17) + h.s / 65536 + h.s % 65536 + h.q / 65536 + h.q % 65536
theorem hd_bt {h : Hdr} (k : h.ok) {n c : Int} (n0 : 0 ≤ n) (n1 : n ≤ 65507) (c0 : 0 ≤ c) (c1 : c ≤ 65535) (b : ByteArray) (j : Nat) : bt (hd h n c ++ b) (j : Nat) = if j < 28 then (hb h n c).getD j 0 else bt b ((j - 28 : Nat) : Int) := by
  rw [bt_append, hd_size]
  split
  · exact bt_chrs _ (hb_bd k n0 n1 c0 c1) j
  · rfl
theorem tot_ten (s : ByteArray) : tot s 10 = wd s 0 + wd s 1 + wd s 2 + wd s 3 + wd s 4 + wd s 5 + wd s 6 + wd s 7 + wd s 8 + wd s 9 := by
  simp only [tot]; omega
theorem hd_tot {h : Hdr} (k : h.ok) {n c : Int} (n0 : 0 ≤ n) (n1 : n ≤ 65507) (c0 : 0 ≤ c) (c1 : c ≤ 65535) (b : ByteArray) : tot (hd h n c ++ b) 10 = tn h n + c := by
  have H := hd_bt k n0 n1 c0 c1 b
  rw [tot_ten]
  simp only [wd, H]
  simp [hb, tn]
  have := k.s; have := k.q; have := k.i
  omega
theorem tot_same (s t : ByteArray) : ∀ k, (∀ j : Nat, j < 2 * k → bt s j = bt t j) → tot s k = tot t k
  | 0, _ => rfl
  | k + 1, h => by
    show tot s k + wd s k = tot t k + wd t k
    rw [tot_same s t k (fun j hj => h j (by omega))]
    unfold wd
    rw [h (2 * k) (by omega), h (2 * k + 1) (by omega)]
/-- The checksum of a header and a body of n bytes. -/
def cs (h : Hdr) (n : Int) : Int := 65535 - nm (tn h n)
theorem tn_pos {h : Hdr} (k : h.ok) {n : Int} (n0 : 0 ≤ n) : 0 < tn h n := by
  obtain ⟨d, i, t, s, q, x, y⟩ := k
  unfold tn; omega
theorem cs_bd (h : Hdr) (n : Int) : 0 ≤ cs h n ∧ cs h n ≤ 65535 := by
  have := nm_bd (tn h n); unfold cs; omega
theorem inet_hd {h : Hdr} (k : h.ok) {n : Int} (n0 : 0 ≤ n) (n1 : n ≤ 65507) : inet ((hd h n 0).extract 0 20) = cs h n := by
  have e : all ((hd h n 0).extract 0 20) = tot (hd h n 0 ++ ⟨#[]⟩) 10 := by
    unfold all
    rw [size_ext _ _ _ (by rw [hd_size]; omega)]
    refine tot_same _ _ 10 (fun j hj => ?_)
    rw [bt_append, hd_size, if_pos (by omega)]
    have := bt_extract (hd h n 0) 0 20 j (by omega)
    rw [Nat.zero_add] at this
    exact this
  unfold inet cs
  rw [e, hd_tot k n0 n1 (by omega) (by omega), Int.add_zero]
/-- A datagram. -/
def pf (h : Hdr) (b : ByteArray) : ByteArray := hd h b.size (cs h b.size) ++ b
theorem pf_size (h : Hdr) (b : ByteArray) : (pf h b).size = 28 + b.size := by unfold pf; rw [ByteArray.size_append, hd_size]
theorem pf_body (h : Hdr) (b : ByteArray) : (pf h b).extract 28 (pf h b).size = b := by
  have := ext_right (hd h b.size (cs h b.size)) b
  rw [hd_size] at this
  exact this
theorem pf_head (h : Hdr) (b : ByteArray) : (pf h b).extract 0 28 = hd h b.size (cs h b.size) := by
  have := ext_left (hd h b.size (cs h b.size)) b
  rw [hd_size] at this
  exact this
theorem pf_bt {h : Hdr} (k : h.ok) {b : ByteArray} (hb1 : b.size ≤ 65507) (j : Nat) : bt (pf h b) (j : Nat) = if j < 28 then (hb h b.size (cs h b.size)).getD j 0 else bt b ((j - 28 : Nat) : Int) :=
  hd_bt k (by omega) (by omega) (cs_bd _ _).1 (cs_bd _ _).2 b j
/-- The header that bytes say. -/
def rdh (s : ByteArray) : Hdr := ⟨bt s (1 : Nat) / 4, bt s (4 : Nat) * 256 + bt s (5 : Nat), bt s (8 : Nat), (bt s (12 : Nat) * 256 + bt s (13 : Nat)) * 65536 + (bt s (14 : Nat) * 256 + bt s (15 : Nat)), (bt s (16 : Nat) * 256 + bt s (17 : Nat)) * 65536 + (bt s (18 : Nat) * 256 + bt s (19 : Nat)), bt s (20 : Nat) * 256 + bt s (21 : Nat), bt s (22 : Nat) * 256 + bt s (23 : Nat)⟩
theorem rdh_ok (s : ByteArray) : (rdh s).ok := by
  have h := fun j : Nat => bt_bd s j
  have h1 := h 1; have h4 := h 4; have h5 := h 5; have h8 := h 8; have h12 := h 12; have h13 := h 13; have h14 := h 14; have h15 := h 15
  have h16 := h 16; have h17 := h 17; have h18 := h 18; have h19 := h 19; have h20 := h 20; have h21 := h 21; have h22 := h 22; have h23 := h 23
  clear h
  unfold rdh
  refine ⟨?_, ?_, ?_, ?_, ?_, ?_, ?_⟩ <;> simp only <;> omega
def ckh (s : ByteArray) : Int := bt s (10 : Nat) * 256 + bt s (11 : Nat)
theorem ckh_bd (s : ByteArray) : 0 ≤ ckh s ∧ ckh s ≤ 65535 := by
  have h1 := bt_bd s (10 : Nat); have h2 := bt_bd s (11 : Nat)
  unfold ckh; omega
/-- Whether bytes are a datagram, whatever the checksum is. -/
def Fmh (s : ByteArray) : Prop := (s.extract 28 s.size).size ≤ 65507 ∧ s.extract 0 28 = hd (rdh s) (s.extract 28 s.size).size (ckh s)
instance (s : ByteArray) : Decidable (Fmh s) := by unfold Fmh; exact inferInstance
/-- What is wrong with a datagram; 0: nothing. -/
def tke (s : ByteArray) : Int := if s.size < 28 then 2 else if ¬ Fmh s then 3 else if ckh s ≠ cs (rdh s) (s.extract 28 s.size).size then 11 else 0
theorem body_size (s : ByteArray) : (s.extract 28 s.size).size = s.size - 28 := size_ext _ _ _ (Nat.le_refl _)
theorem cut_join (s : ByteArray) (h : 28 ≤ s.size) : s.extract 0 28 ++ s.extract 28 s.size = s := by
  have e0 : (s.extract 0 28).size = 28 := by rw [size_ext _ _ _ h]
  refine str_ext (by rw [ByteArray.size_append, e0, body_size]; omega) (fun j hj => ?_)
  rw [bt_append, e0]
  split
  · have := bt_extract s 0 28 j (by omega)
    rw [Nat.zero_add] at this; exact this
  · by_cases hj2 : j < s.size
    · have := bt_extract s 28 s.size (j - 28) (by omega)
      rw [this, show 28 + (j - 28) = j by omega]
    · rw [bt_out s j (by omega), bt_extract_out _ _ _ _ (by omega)]
theorem put_take {s : ByteArray} (h : tke s = 0) : pf (rdh s) (s.extract 28 s.size) = s ∧ (s.extract 28 s.size).size ≤ 65507 ∧ 28 ≤ s.size := by
  unfold tke at h
  by_cases h1 : s.size < 28
  · rw [if_pos h1] at h; cases h
  · rw [if_neg h1] at h
    by_cases h2 : Fmh s
    · rw [if_neg (fun x => x h2)] at h
      by_cases h3 : ckh s = cs (rdh s) (s.extract 28 s.size).size
      · refine ⟨?_, h2.1, by omega⟩
        unfold pf
        rw [← h3, ← h2.2]
        exact cut_join s (by omega)
      · rw [if_pos h3] at h; cases h
    · rw [if_pos h2] at h; cases h
theorem take_put {h : Hdr} (k : h.ok) {b : ByteArray} (hb1 : b.size ≤ 65507) : rdh (pf h b) = h ∧ tke (pf h b) = 0 ∧ (pf h b).extract 28 (pf h b).size = b := by
  have H := pf_bt k hb1
  obtain ⟨d, i, t, s, q, x, y⟩ := k
  have G : ∀ j : Nat, j < 28 → bt (pf h b) j = (hb h b.size (cs h b.size)).getD j 0 := fun j hj => by rw [H j, if_pos hj]
  have e1 : rdh (pf h b) = h := by
    unfold rdh
    rw [G 1 (by decide), G 4 (by decide), G 5 (by decide), G 8 (by decide), G 12 (by decide), G 13 (by decide), G 14 (by decide), G 15 (by decide), G 16 (by decide), G 17 (by decide), G 18 (by decide), G 19 (by decide), G 20 (by decide), G 21 (by decide), G 22 (by decide), G 23 (by decide)]
    show (⟨4 * h.d / 4, h.i / 256 * 256 + h.i % 256, h.t, (h.s / 16777216 * 256 + h.s / 65536 % 256) * 65536 + (h.s / 256 % 256 * 256 + h.s % 256), (h.q / 16777216 * 256 + h.q / 65536 % 256) * 65536 + (h.q / 256 % 256 * 256 + h.q % 256), h.x / 256 * 256 + h.x % 256, h.y / 256 * 256 + h.y % 256⟩ : Hdr) = h
    obtain ⟨hd, hi, ht, hs, hq, hx, hy⟩ := h
    simp only at d i t s q x y
    simp only [Hdr.mk.injEq]
    refine ⟨?_, ?_, trivial, ?_, ?_, ?_, ?_⟩ <;> omega
  have e2 : ckh (pf h b) = cs h b.size := by
    unfold ckh
    rw [G 10 (by decide), G 11 (by decide)]
    have := cs_bd h b.size
    show cs h b.size / 256 * 256 + cs h b.size % 256 = _
    omega
  refine ⟨e1, ?_, pf_body h b⟩
  unfold tke
  rw [if_neg (by rw [pf_size]; omega)]
  have f : Fmh (pf h b) := ⟨by rw [pf_body]; exact hb1, by rw [pf_body, pf_head, e1, e2]⟩
  rw [if_neg (fun z => z f), if_neg (fun z => z (by rw [pf_body, e1, e2]))]
/-- The answer's way to see the form: but for the checksum. -/
theorem form_ref (s : ByteArray) (h : 28 ≤ s.size) (h1 : (s.extract 28 s.size).size ≤ 65507) :
    (pf (rdh s) (s.extract 28 s.size)).extract 0 10 ++ (pf (rdh s) (s.extract 28 s.size)).extract 12 (pf (rdh s) (s.extract 28 s.size)).size = s.extract 0 10 ++ s.extract 12 s.size ↔ Fmh s := by
  have k := rdh_ok s
  have H := pf_bt k h1
  have Z := pf_size (rdh s) (s.extract 28 s.size)
  have hz := body_size s
  have C := hd_bt k (n := (s.extract 28 s.size).size) (by omega) (by omega) (ckh_bd s).1 (ckh_bd s).2 ⟨#[]⟩
  have c0 := ckh_bd s
  have k10 := bt_bd s (10 : Nat); have k11 := bt_bd s (11 : Nat)
  generalize hW : pf (rdh s) (s.extract 28 s.size) = W at *
  have w0 : (W.extract 0 10).size = 10 := by rw [size_ext _ _ _ (by omega)]
  have s0 : (s.extract 0 10).size = 10 := by rw [size_ext _ _ _ (by omega)]
  have w1 : (W.extract 12 W.size).size = W.size - 12 := size_ext _ _ _ (Nat.le_refl _)
  have s1 : (s.extract 12 s.size).size = s.size - 12 := size_ext _ _ _ (Nat.le_refl _)
  have hn : ∀ j : Nat, j < 28 → j ≠ 10 → j ≠ 11 → (hb (rdh s) (s.extract 28 s.size).size (cs (rdh s) (s.extract 28 s.size).size)).getD j 0 = (hb (rdh s) (s.extract 28 s.size).size (ckh s)).getD j 0 := fun j hj n10 n11 => by
    match j, hj, n10, n11 with
    | 0, _, _, _ => rfl
    | 1, _, _, _ => rfl
    | 2, _, _, _ => rfl
    | 3, _, _, _ => rfl
    | 4, _, _, _ => rfl
    | 5, _, _, _ => rfl
    | 6, _, _, _ => rfl
    | 7, _, _, _ => rfl
    | 8, _, _, _ => rfl
    | 9, _, _, _ => rfl
    | 12, _, _, _ => rfl
    | 13, _, _, _ => rfl
    | 14, _, _, _ => rfl
    | 15, _, _, _ => rfl
    | 16, _, _, _ => rfl
    | 17, _, _, _ => rfl
    | 18, _, _, _ => rfl
    | 19, _, _, _ => rfl
    | 20, _, _, _ => rfl
    | 21, _, _, _ => rfl
    | 22, _, _, _ => rfl
    | 23, _, _, _ => rfl
    | 24, _, _, _ => rfl
    | 25, _, _, _ => rfl
    | 26, _, _, _ => rfl
    | 27, _, _, _ => rfl
    | z + 28, hz28, _, _ => exact absurd hz28 (by omega)
  constructor
  · intro e
    refine ⟨h1, str_ext (by rw [size_ext _ _ _ h, hd_size]) (fun j hj => ?_)⟩
    rw [size_ext _ _ _ h] at hj
    have hj : j < 28 := by omega
    have a1 := bt_extract s 0 28 j (by omega)
    rw [Nat.zero_add] at a1
    rw [a1]
    have a2 := C j
    rw [bt_append, hd_size, if_pos hj, if_pos hj] at a2
    rw [a2]
    by_cases j10 : j = 10
    · subst j10
      show bt s (10 : Nat) = ckh s / 256
      unfold ckh; omega
    · by_cases j11 : j = 11
      · subst j11
        show bt s (11 : Nat) = ckh s % 256
        unfold ckh; omega
      · rw [← hn j hj j10 j11]
        have a3 := H j
        rw [if_pos hj] at a3
        rw [← a3]
        by_cases jl : j < 10
        · have b1 := congrArg (fun z => bt z (j : Nat)) e
          rw [bt_append, bt_append, w0, s0, if_pos jl, if_pos jl] at b1
          have b2 := bt_extract W 0 10 j (by omega)
          have b3 := bt_extract s 0 10 j (by omega)
          rw [Nat.zero_add] at b2 b3
          rw [b2, b3] at b1
          exact b1.symm
        · have b1 := congrArg (fun z => bt z ((j - 2 : Nat) : Int)) e
          rw [bt_append, bt_append, w0, s0, if_neg (by omega), if_neg (by omega)] at b1
          have b2 := bt_extract W 12 W.size (j - 2 - 10) (by omega)
          have b3 := bt_extract s 12 s.size (j - 2 - 10) (by omega)
          rw [show 12 + (j - 2 - 10) = j by omega] at b2 b3
          rw [b2, b3] at b1
          exact b1.symm
  · intro f
    have heads : ∀ j : Nat, j < 28 → bt s j = (hb (rdh s) (s.extract 28 s.size).size (ckh s)).getD j 0 := fun j hj => by
      have a1 := bt_extract s 0 28 j (by omega)
      rw [Nat.zero_add] at a1
      rw [← a1, f.2]
      have a2 := C j
      rw [bt_append, hd_size, if_pos hj, if_pos hj] at a2
      exact a2
    have same : ∀ j : Nat, j ≠ 10 → j ≠ 11 → bt W j = bt s j := fun j n10 n11 => by
      rw [H j]
      by_cases hj : j < 28
      · rw [if_pos hj, heads j hj, hn j hj n10 n11]
      · rw [if_neg hj]
        by_cases hj2 : j < s.size
        · have := bt_extract s 28 s.size (j - 28) (by omega)
          rw [this, show 28 + (j - 28) = j by omega]
        · rw [bt_out s j (by omega), bt_extract_out _ _ _ _ (by omega)]
    refine str_ext (by rw [ByteArray.size_append, ByteArray.size_append, w0, s0, w1, s1]; omega) (fun j hj => ?_)
    rw [bt_append, bt_append, w0, s0]
    rw [ByteArray.size_append, w0, w1] at hj
    by_cases jl : j < 10
    · rw [if_pos jl, if_pos jl]
      have b2 := bt_extract W 0 10 j (by omega)
      have b3 := bt_extract s 0 10 j (by omega)
      rw [Nat.zero_add] at b2 b3
      rw [b2, b3]
      exact same j (by omega) (by omega)
    · rw [if_neg jl, if_neg jl]
      have b2 := bt_extract W 12 W.size (j - 10) (by omega)
      have b3 := bt_extract s 12 s.size (j - 10) (by omega)
      rw [b2, b3]
      exact same (12 + (j - 10)) (by omega) (by omega)
theorem sum_ref (s : ByteArray) (h : 28 ≤ s.size) (f : Fmh s) : pf (rdh s) (s.extract 28 s.size) = s ↔ ckh s = cs (rdh s) (s.extract 28 s.size).size := by
  constructor
  · intro e
    have H := pf_bt (rdh_ok s) f.1
    rw [e] at H
    have c0 := cs_bd (rdh s) (s.extract 28 s.size).size
    unfold ckh
    rw [H 10, H 11]
    show cs (rdh s) (s.extract 28 s.size).size / 256 * 256 + cs (rdh s) (s.extract 28 s.size).size % 256 = _
    omega
  · intro e
    unfold pf
    rw [← e, ← f.2]
    exact cut_join s h
theorem tke_cases (s : ByteArray) : tke s = 0 ∨ tke s = 2 ∨ tke s = 3 ∨ tke s = 11 := by
  unfold tke
  split
  · exact Or.inr (Or.inl rfl)
  · split
    · exact Or.inr (Or.inr (Or.inl rfl))
    · split
      · exact Or.inr (Or.inr (Or.inr rfl))
      · exact Or.inl rfl
/-- What is one adds up to nothing in a ring. -/
theorem one_ring {s : ByteArray} (h : tke s = 0) : tot s 10 % 65535 = 0 ∧ 0 < tot s 10 := by
  obtain ⟨e, hs, hz⟩ := put_take h
  have k := rdh_ok s
  have c := cs_bd (rdh s) (s.extract 28 s.size).size
  have t := hd_tot k (n := (s.extract 28 s.size).size) (by omega) (by omega) c.1 c.2 (s.extract 28 s.size)
  have e2 : hd (rdh s) (s.extract 28 s.size).size (cs (rdh s) (s.extract 28 s.size).size) ++ s.extract 28 s.size = s := e
  rw [e2] at t
  have p := tn_pos k (n := (s.extract 28 s.size).size) (by omega)
  rw [t]
  unfold cs
  unfold nm
  rw [if_neg (by omega)]
  omega
/-- One byte of the first twenty that is another one: no datagram. -/
theorem finds_one {s : ByteArray} (h : tke s = 0) (k : Nat) (hk : k < 20) (c : UInt8) (hne : wth s k c ≠ s) : tke (wth s k c) ≠ 0 := by
  intro h2
  have hz := (put_take h).2.2
  have r1 := one_ring h
  have r2 := one_ring h2
  have B := wth_bt s k c (by omega)
  have hb : bt (wth s k c) k ≠ bt s k := wth_same s k c (by omega) hne
  have a := tot_agree s (wth s k c) (k / 2) (fun i n0 n1 => by rw [B i, if_neg (by omega)]) 10
  rw [if_pos (by omega)] at a
  have b1 := bt_bd (wth s k c) k
  have b2 := bt_bd s k
  rcases Nat.mod_two_eq_zero_or_one k with e | e
  · have e1 : 2 * (k / 2) = k := by omega
    have o : bt (wth s k c) ((2 * (k / 2) + 1 : Nat) : Int) = bt s ((2 * (k / 2) + 1 : Nat) : Int) := by rw [B, if_neg (by omega)]
    unfold wd at a
    rw [o, e1] at a
    omega
  · have e1 : 2 * (k / 2) + 1 = k := by omega
    have o : bt (wth s k c) ((2 * (k / 2) : Nat) : Int) = bt s ((2 * (k / 2) : Nat) : Int) := by rw [B, if_neg (by omega)]
    unfold wd at a
    rw [o, e1] at a
    omega
end Go.Proofs.Ytiaafpemhalmpaa
