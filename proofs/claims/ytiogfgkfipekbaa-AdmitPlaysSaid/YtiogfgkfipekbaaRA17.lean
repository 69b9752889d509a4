/-
  The document's answer for layer 16 (pacemakerref16), as layer 17 asks it (where a flow is, why flows may not be); the document's answer for layer 17: a gate in memory, sums of what waits, a gate and the answer side by side, what waits of all. No condition but that there are at most 100 flows (Find), from 1 to 64 (Flows), and that sums fit.
-/
import Derived.Test.YtiogfgkfipekbaaAdm13a
import Derived.Test.YtiogfgkfipekbaaU64s
import Derived.Maps.AppendAt
namespace Go.Proofs.Ytiogfgkfipekbaa
set_option linter.unusedVariables false
set_option linter.unusedSimpArgs false
open Go.ChangeShapes Go.WideShapes Go.ChangeAt Go.RowKit
attribute [local go_sem] alloc_drewN setCell_drewN

def distF (fs : List Fl) (n : Nat) : Prop := ∀ a b, a < b → b < n → (fs.getD a Fl.nil).id ≠ (fs.getD b Fl.nil).id
theorem distF_more {fs : List Fl} {i : Nat} (h : distF fs i) (h2 : ∀ j, j < i → ¬ (fs.getD j Fl.nil).id = (fs.getD i Fl.nil).id) : distF fs (i + 1) := fun a b hab hb => by
  by_cases e : b = i
  · rw [e] at hab ⊢; exact h2 a hab
  · exact h a b hab (by omega)
theorem RowFl.okR {w : World} {a : Option Addr} {n : Nat} {fs : List Fl} (h : RowFl w a n fs) (i : Nat) (hi : i < n) : (fs.getD i Fl.nil).ok := by
  rw [List.getD_eq_getElem?_getD, List.getElem?_eq_getElem (by rw [h.1]; exact hi)]
  exact h.2.2.1 _ (List.getElem_mem _)
set_option maxHeartbeats 1000000 in
theorem find16_no {w : World} {a : Option Addr} {n : Nat} {fs : List Fl} (hr : RowFl w a n fs) (c : Nat) (hn : n ≤ 100) (id : Int) (h2 : ∀ q, q < n → ¬ (fs.getD q Fl.nil).id = id) :
    Calls Try.prog 51 #[.slice a n c, .int .u32 id] w fun e w' => e = .returned (.int .i64 (-1)) ∧ w' = w := by
  have HR := Lib.hid hr; have H2 := Lib.hid h2
  clear hr h2
  go_enter Try.func51, Try.ntmps51
  go_wp2
  go_loopw [5] (fun z wr => ∃ i : Nat, i ≤ n ∧ z = .int .i64 i ∧ wr = w) (fun z _ => n - (intOf z).toNat)
  case atStart => exact ⟨0, Nat.zero_le _, rfl, rfl⟩
  case round =>
    obtain ⟨i, hi, rfl, rfl⟩ := hrel
    by_cases hlt : i < n
    · have z0 : (0 : Int) ≤ i := by omega
      have z1 : (i : Int) < n := by omega
      obtain ⟨b, off, rfl, hblt, c0, c1, c2, c3, c4⟩ := HR.out.atR (Below.refl _ _) i hlt
      have hne := H2.out i hlt
      obtain ⟨y, hy⟩ : ∃ y, (fs.getD i Fl.nil).id = y := ⟨_, rfl⟩
      rw [hy] at c0 hne
      clear hy
      go_wp2
      go_roundw
      case rel => exact ⟨i + 1, by omega, by go_num, by first | rfl | trivial⟩
      case measure => simp [intOf] <;> omega
    · obtain rfl : i = n := by omega
      go_wp2
      go_ret
      exact ⟨by simp, by simp⟩
theorem getD_set {α : Type} (l : List α) (i j : Nat) (x d : α) (hi : i < l.length) : (l.set i x).getD j d = if i = j then x else l.getD j d := by
  simp only [List.getD_eq_getElem?_getD, List.getElem?_set]
  by_cases e : i = j
  · rw [if_pos e, if_pos e, if_pos (by omega)]; rfl
  · rw [if_neg e, if_neg e]
def FlowsP (fs : List Fl) (code : Int) : Prop := (distF fs fs.length ∧ code = 0) ∨ (¬ distF fs fs.length ∧ code = 30)
set_option maxHeartbeats 2000000 in
theorem flows16 {w : World} {a : Option Addr} {n : Nat} {fs : List Fl} (hr : RowFl w a n fs) (c : Nat) (hn0 : 1 ≤ n) (hn1 : n ≤ 64) :
    Calls Try.prog 49 #[.slice a n c] w fun e w' => ∃ code, e = .returned (.int .i64 code) ∧ FlowsP fs code ∧ Below w.heap.size w w' := by
  have HR := Lib.hid hr
  have HL := Lib.hid hr.1
  have q1 : ¬ (n : Int) < 1 := by omega
  have q2 : ¬ 64 < (n : Int) := by omega
  clear hr
  go_enter Try.func49, Try.ntmps49
  go_wp2
  go_loopw [3] (fun z wr => ∃ (i q : Nat), i ≤ n ∧ z = .int .i64 i ∧ distF fs i ∧ wr = w.drewN q) (fun z _ => n - (intOf z).toNat)
  case atStart => exact ⟨0, 0, Nat.zero_le _, rfl, fun a b _ h => absurd h (Nat.not_lt_zero _), rfl⟩
  case round =>
    obtain ⟨i, q, hi, rfl, hd, rfl⟩ := hrel
    have HD := Lib.hid hd
    clear hd
    by_cases hlt : i < n
    · have z0 : (0 : Int) ≤ i := by omega
      have z1 : (i : Int) < n := by omega
      go_wp2
      go_loopw [4] (fun z wr => ∃ (k q : Nat), k ≤ i ∧ z = .int .i64 k ∧ Hid (∀ j, j < k → ¬ (fs.getD j Fl.nil).id = (fs.getD i Fl.nil).id) ∧ wr = w.drewN q) (fun z _ => i - (intOf z).toNat)
      case atStart => exact ⟨0, q, Nat.zero_le _, rfl, Lib.hid (fun j h => absurd h (Nat.not_lt_zero _)), rfl⟩
      case round =>
        obtain ⟨k, q2, hk, rfl, HN, rfl⟩ := hrel
        by_cases hlt2 : k < i
        · have y0 : (0 : Int) ≤ k := by omega
          have y1 : (k : Int) < n := by omega
          obtain ⟨b, off, rfl, hblt, c0, -, -, -, -⟩ := HR.out.atR (Below.refl _ w) i hlt
          obtain ⟨b2, off2, e2, hblt2, d0, -, -, -, -⟩ := HR.out.atR (Below.refl _ w) k (by omega)
          obtain ⟨rfl, rfl⟩ : b = b2 ∧ off = off2 := by injection e2 with e2; injection e2 with e3 e4 e5; exact ⟨e3, e4⟩
          clear e2
          by_cases e : (fs.getD k Fl.nil).id = (fs.getD i Fl.nil).id
          · have ND := Lib.hid (show ¬ distF fs fs.length from fun hd => hd k i hlt2 (by rw [HL.out]; exact hlt) e)
            rw [e] at d0
            generalize (fs.getD i Fl.nil).id = y at c0 d0
            clear e HN
            go_wp2
            go_quiet (fail)
            go_wp2
            go_ret
            exact ⟨_, rfl, Or.inr ⟨ND.out, rfl⟩, below_drewN _ (below_drewN _ (Below.refl _ w))⟩
          · have HN2 := Lib.hid (show ∀ j, j < k + 1 → ¬ (fs.getD j Fl.nil).id = (fs.getD i Fl.nil).id from fun j hj => by
              by_cases e3 : j = k
              · rw [e3]; exact e
              · exact HN.out j (by omega))
            have e4 : ¬ (fs.getD i Fl.nil).id = (fs.getD k Fl.nil).id := fun h => e h.symm
            obtain ⟨x, hx⟩ : ∃ x, (fs.getD i Fl.nil).id = x := ⟨_, rfl⟩
            obtain ⟨y, hy⟩ : ∃ y, (fs.getD k Fl.nil).id = y := ⟨_, rfl⟩
            rw [hx] at c0 e4
            rw [hy] at d0 e4
            clear hx hy e HN
            go_wp2
            go_quiet (fail)
            go_wp2
            go_roundw
            case rel => exact ⟨k + 1, _, by omega, by go_num, HN2, rfl⟩
            case measure => simp [intOf] <;> omega
        · obtain rfl : k = i := by omega
          have DM := Lib.hid (distF_more HD.out HN.out)
          clear HN
          go_wp2
          go_roundw
          case rel => exact ⟨k + 1, q2, by omega, by go_num, DM.out, rfl⟩
          case measure => simp [intOf] <;> omega
    · obtain rfl : i = n := by omega
      go_wp2
      go_ret
      exact ⟨_, rfl, Or.inl ⟨by rw [HL.out]; exact HD.out, rfl⟩, below_drewN _ (Below.refl _ w)⟩
theorem flows16_count (a : Option Addr) (n c : Nat) (hn : n < 1 ∨ 64 < n) (w : World) : Calls Try.prog 49 #[.slice a n c] w fun e w' => e = .returned (.int .i64 29) ∧ w' = w := by
  rcases hn with hn | hn
  · have q3 : (n : Int) < 1 := by omega
    go_enter Try.func49, Try.ntmps49
    go_wp2
    go_ret
    exact ⟨rfl, rfl⟩
  · have q3 : ¬ (n : Int) < 1 := by omega
    have q4 : 64 < (n : Int) := by omega
    go_enter Try.func49, Try.ntmps49
    go_wp2
    go_ret
    exact ⟨rfl, rfl⟩
theorem dist_dup {fs : List Fl} {n : Nat} : distF fs n ↔ dupB fs n = false := by
  constructor
  · intro h
    cases hd : dupB fs n with
    | false => rfl
    | true =>
      obtain ⟨j, hj, k, hk, e⟩ := dupB_iff.1 hd
      exact absurd e.symm (h k j hk hj)
  · intro h a b hab hb e
    have : dupB fs n = true := dupB_iff.2 ⟨b, hb, a, hab, e.symm⟩
    rw [h] at this
    cases this
/-- Why flows may not be, however many. -/
theorem flows17 {w : World} {a : Option Addr} {n : Nat} {fs : List Fl} (hr : RowFl w a n fs) (c : Nat) :
    Calls Try.prog 49 #[.slice a n c] w fun e w' => e = .returned (.int .i64 (tabC fs n)) ∧ Below w.heap.size w w' := by
  unfold tabC
  by_cases h1 : n < 1
  · rw [if_pos h1]
    refine (flows16_count a n c (Or.inl h1) w).mono ?_
    rintro e w' ⟨rfl, rfl⟩
    exact ⟨rfl, Below.refl _ _⟩
  rw [if_neg h1]
  by_cases h2 : 64 < n
  · rw [if_pos h2]
    refine (flows16_count a n c (Or.inr h2) w).mono ?_
    rintro e w' ⟨rfl, rfl⟩
    exact ⟨rfl, Below.refl _ _⟩
  rw [if_neg h2]
  refine (flows16 hr c (by omega) (by omega)).mono ?_
  rintro e w' ⟨code, rfl, ⟨hd, rfl⟩ | ⟨hd, rfl⟩, hb⟩
  · rw [hr.1] at hd
    rw [if_neg (by rw [dist_dup.1 hd]; decide)]
    exact ⟨rfl, hb⟩
  · rw [hr.1] at hd
    rw [if_pos (by
      cases h : dupB fs n with
      | true => rfl
      | false => exact absurd (dist_dup.2 h) hd)]
    exact ⟨rfl, hb⟩

/-- All numbers of a list together. -/
def sumL (xs : List Int) : Int := xs.foldr (· + ·) 0
theorem sumL_cons (x : Int) (xs : List Int) : sumL (x :: xs) = x + sumL xs := rfl
theorem sumL_nn (xs : List Int) (h : ∀ x ∈ xs, 0 ≤ x) : 0 ≤ sumL xs := by
  induction xs with
  | nil => exact Int.le_refl _
  | cons x xs ih =>
    have h1 := ih (fun y hy => h y (List.mem_cons_of_mem _ hy))
    have h2 := h x List.mem_cons_self
    rw [sumL_cons]
    omega
theorem sumL_take (xs : List Int) : ∀ i, i < xs.length → sumL (xs.take (i + 1)) = sumL (xs.take i) + xs.getD i 0 := by
  induction xs with
  | nil => intro i hi; simp at hi
  | cons x xs ih =>
    intro i hi
    cases i with
    | zero => simp [sumL]
    | succ i =>
      have h := ih i (by simpa using hi)
      rw [List.take_succ_cons, List.take_succ_cons, sumL_cons, sumL_cons, h, List.getD_cons_succ]
      omega
theorem sumL_take_le (xs : List Int) (h : ∀ x ∈ xs, 0 ≤ x) : ∀ i, 0 ≤ sumL (xs.take i) ∧ sumL (xs.take i) ≤ sumL xs := by
  induction xs with
  | nil => intro i; rw [List.take_nil]; exact ⟨Int.le_refl _, Int.le_refl _⟩
  | cons x xs ih =>
    intro i
    have h2 := h x List.mem_cons_self
    cases i with
    | zero => rw [List.take_zero]; exact ⟨Int.le_refl _, sumL_nn _ h⟩
    | succ i =>
      have h1 := ih (fun y hy => h y (List.mem_cons_of_mem _ hy)) i
      rw [List.take_succ_cons, sumL_cons, sumL_cons]
      omega
theorem sumL_set (xs : List Int) (y : Int) : ∀ j, j < xs.length → sumL (xs.set j y) = sumL xs + (y - xs.getD j 0) := by
  induction xs with
  | nil => intro j hj; simp at hj
  | cons x xs ih =>
    intro j hj
    cases j with
    | zero => rw [List.set_cons_zero, sumL_cons, sumL_cons, List.getD_cons_zero]; omega
    | succ j =>
      rw [List.set_cons_succ, sumL_cons, sumL_cons, ih j (by simpa using hj), List.getD_cons_succ]
      omega
theorem getD_mem0 (xs : List Int) (j : Nat) (hj : j < xs.length) : xs.getD j 0 ∈ xs := by
  rw [List.getD_eq_getElem?_getD, List.getElem?_eq_getElem hj]
  exact List.getElem_mem _
theorem sumL_zeros (n : Nat) : sumL (List.replicate n 0) = 0 := by
  induction n with
  | zero => rfl
  | succ n ih => rw [List.replicate_succ, sumL_cons, ih]; rfl
/-- A configuration's values. -/
structure Cf where
  r : Int
  bk : Int
  lv : Int
  qu : Int
  pk : Int
  by_ : Int
  sh : Int
  mtu : Int
  rate : Int
  burst : Int
  a : Option Addr
  n : Nat
  cc : Nat
/-- Its limits. -/
def Cf.gc (k : Cf) : Gc := ⟨k.pk, k.by_, k.sh, k.mtu⟩
/-- The answer's gate: the configuration, how many packets and bytes of each flow wait. -/
structure R17At (w : World) (base M : Nat) (k : Cf) (vp vb : Value) (ps qs : List Int) : Prop where
  blk : w.heap[M]? = some (.cells #[.int .i64 k.r, .int .i64 k.bk, .int .i64 k.lv, .int .i64 k.qu, .int .i64 k.pk, .int .u64 k.by_, .int .i64 k.sh, .int .u64 k.mtu, .int .u64 k.rate, .int .u64 k.burst, .slice k.a k.n k.cc, vp, vb] 111 (0, 0))
  low : base ≤ M
  op : w.ownsRow base 3 1 vp ps.length (ps.map (Value.int .i64))
  oq : w.ownsRow base 22 1 vb qs.length (qs.map (Value.int .u64))
def inR17 (M : Nat) (vp vb : Value) (j : Nat) : Prop := j = M ∨ vp.ownBlock = some j ∨ vb.ownBlock = some j
theorem own_kept17 {w w' : World} {base : Nat} {e : TypeId} {size n : Nat} {v : Value} {xs : List Value} (h : w.ownsRow base e size v n xs) (hk : ∀ j, v.ownBlock = some j → w'.heap[j]? = w.heap[j]?) : w'.ownsRow base e size v n xs := by
  refine ⟨h.1, ?_⟩
  rcases h.2 with hx | ⟨g, cap, cur, e1, h1, h2, rest⟩
  · exact Or.inl hx
  · refine Or.inr ⟨g, cap, cur, e1, h1, ?_, rest⟩
    rw [hk g (by rw [e1]; rfl)]
    exact h2
theorem own_low17 {w : World} {b1 b2 : Nat} {e : TypeId} {size n : Nat} {v : Value} {xs : List Value} (h : w.ownsRow b2 e size v n xs) (hb : b1 ≤ b2) : w.ownsRow b1 e size v n xs := by
  refine ⟨h.1, ?_⟩
  rcases h.2 with hx | ⟨g, cap, cur, e1, h1, rest⟩
  · exact Or.inl hx
  · exact Or.inr ⟨g, cap, cur, e1, Nat.le_trans hb h1, rest⟩
section
variable {w : World} {base M : Nat} {k : Cf} {vp vb : Value} {ps qs : List Int}
theorem R17At.cell (h : R17At w base M k vp vb ps qs) : w.cell? ⟨M, 4, none⟩ = some (.int .i64 k.pk) ∧ w.cell? ⟨M, 5, none⟩ = some (.int .u64 k.by_) ∧ w.cell? ⟨M, 6, none⟩ = some (.int .i64 k.sh) ∧ w.cell? ⟨M, 7, none⟩ = some (.int .u64 k.mtu) ∧ w.cell? ⟨M, 10, none⟩ = some (.slice k.a k.n k.cc) ∧ w.cell? ⟨M, 11, none⟩ = some vp ∧ w.cell? ⟨M, 12, none⟩ = some vb ∧ w.frozen? ⟨M, 11, none⟩ = false ∧ w.frozen? ⟨M, 12, none⟩ = false :=
  ⟨cell_of_row w M 4 _ _ (0, 0) h.blk, cell_of_row w M 5 _ _ (0, 0) h.blk, cell_of_row w M 6 _ _ (0, 0) h.blk, cell_of_row w M 7 _ _ (0, 0) h.blk, cell_of_row w M 10 _ _ (0, 0) h.blk, cell_of_row w M 11 _ _ (0, 0) h.blk, cell_of_row w M 12 _ _ (0, 0) h.blk, frozen_of_row w M 11 _ _ h.blk, frozen_of_row w M 12 _ _ h.blk⟩
theorem R17At.inlt (h : R17At w base M k vp vb ps qs) {j : Nat} (hj : inR17 M vp vb j) : base ≤ j ∧ j < w.heap.size := by
  rcases hj with rfl | hj | hj
  · exact ⟨h.low, (Array.getElem?_eq_some_iff.1 h.blk).1⟩
  · exact World.ownsRow.lt h.op j hj
  · exact World.ownsRow.lt h.oq j hj
theorem R17At.keep {w' : World} (h : R17At w base M k vp vb ps qs) (hk : ∀ j, inR17 M vp vb j → w'.heap[j]? = w.heap[j]?) : R17At w' base M k vp vb ps qs :=
  ⟨(hk M (Or.inl rfl)).trans h.blk, h.low, own_kept17 h.op (fun j hj => hk j (Or.inr (Or.inl hj))), own_kept17 h.oq (fun j hj => hk j (Or.inr (Or.inr hj)))⟩
theorem R17At.below {w' : World} (h : R17At w base M k vp vb ps qs) (hb : Below w.heap.size w w') : R17At w' base M k vp vb ps qs := h.keep (fun j hj => hb.block j (h.inlt hj).2)
theorem R17At.ne (h : R17At w base M k vp vb ps qs) : vp.ownBlock ≠ some M ∧ vb.ownBlock ≠ some M := ⟨own_ne_blk h.op h.blk (by decide), own_ne_blk h.oq h.blk (by decide)⟩
theorem R17At.atp (h : R17At w base M k vp vb ps qs) : ∃ a c, vp = .slice a ps.length c ∧ ps.length ≤ c ∧ ∀ i, i < ps.length → ∃ g, a = some ⟨g, 0, none⟩ ∧ g < w.heap.size ∧ w.cell? ⟨g, i, none⟩ = some (.int .i64 (ps.getD i 0)) := Ints.form (xs := ps) h.op
theorem R17At.atq (h : R17At w base M k vp vb ps qs) : ∃ a c, vb = .slice a qs.length c ∧ qs.length ≤ c ∧ ∀ i, i < qs.length → ∃ g, a = some ⟨g, 0, none⟩ ∧ base ≤ g ∧ g < w.heap.size ∧ w.cell? ⟨g, i, none⟩ = some (.int .u64 (qs.getD i 0)) ∧ w.frozen? ⟨g, i, none⟩ = false := U64s.form (xs := qs) h.oq
/-- Both rows are put anew, one number of each is another: it stays a gate. -/
theorem R17At.swap (h : R17At w base M k vp vb ps qs) (hbase : base ≤ w.heap.size) {w5 : World} (hb : Below w.heap.size w w5) {g1 c1 n1 g2 c2 n2 : Nat} (ho : w5.ownsRow w.heap.size 3 1 (.slice (some ⟨g1, 0, none⟩) n1 c1) n1 (ps.map (Value.int .i64))) (ho2 : w5.ownsRow w.heap.size 22 1 (.slice (some ⟨g2, 0, none⟩) n2 c2) n2 (qs.map (Value.int .u64))) (e1 : n1 = ps.length) (e2 : n2 = qs.length) (j : Nat) (x y : Int) :
    R17At ((((w5.setCell ⟨g1, j, none⟩ (.int .i64 x)).setCell ⟨g2, j, none⟩ (.int .u64 y)).setCell ⟨M, 11, none⟩ (.slice (some ⟨g1, 0, none⟩) n1 c1)).setCell ⟨M, 12, none⟩ (.slice (some ⟨g2, 0, none⟩) n2 c2)) base M k (.slice (some ⟨g1, 0, none⟩) n1 c1) (.slice (some ⟨g2, 0, none⟩) n2 c2) (ps.set j x) (qs.set j y) ∧
    MvS w ((((w5.setCell ⟨g1, j, none⟩ (.int .i64 x)).setCell ⟨g2, j, none⟩ (.int .u64 y)).setCell ⟨M, 11, none⟩ (.slice (some ⟨g1, 0, none⟩) n1 c1)).setCell ⟨M, 12, none⟩ (.slice (some ⟨g2, 0, none⟩) n2 c2)) (inR17 M vp vb) (inR17 M (.slice (some ⟨g1, 0, none⟩) n1 c1) (.slice (some ⟨g2, 0, none⟩) n2 c2)) := by
  subst e1 e2
  have hM := (h.inlt (Or.inl rfl)).2
  have l1 := (World.ownsRow.lt ho g1 rfl).1
  have l2 := (World.ownsRow.lt ho2 g2 rfl).1
  have ha : g1 ≠ g2 := fun e => by
    rcases row_apart ho ho2 (by decide) with h1 | h1
    · cases h1
    · exact h1 (by rw [e]; rfl)
  have p1 := row_put ho j (.int .i64 x)
  rw [← List.map_set] at p1
  have f1 : ∀ q, q ≠ g1 → (w5.setCell ⟨g1, j, none⟩ (.int .i64 x)).heap[q]? = w5.heap[q]? := fun q hq => Below.heap_setCell w5 ⟨g1, j, none⟩ _ q hq
  have o2 : (w5.setCell ⟨g1, j, none⟩ (.int .i64 x)).ownsRow w.heap.size 22 1 (.slice (some ⟨g2, 0, none⟩) qs.length c2) qs.length (qs.map (Value.int .u64)) := own_kept17 ho2 (fun q hq => f1 q (fun e => by have : g2 = q := Option.some.inj hq; omega))
  generalize hA : w5.setCell ⟨g1, j, none⟩ (.int .i64 x) = wA at *
  have p2 := row_put o2 j (.int .u64 y)
  rw [← List.map_set] at p2
  have f2 : ∀ q, q ≠ g2 → (wA.setCell ⟨g2, j, none⟩ (.int .u64 y)).heap[q]? = wA.heap[q]? := fun q hq => Below.heap_setCell wA ⟨g2, j, none⟩ _ q hq
  have p1' : (wA.setCell ⟨g2, j, none⟩ (.int .u64 y)).ownsRow w.heap.size 3 1 (.slice (some ⟨g1, 0, none⟩) ps.length c1) ps.length ((ps.set j x).map (Value.int .i64)) := own_kept17 p1 (fun q hq => f2 q (fun e => by have : g1 = q := Option.some.inj hq; omega))
  have sA : wA.heap.size = w5.heap.size := by rw [← hA]; simp [World.setCell]
  have tA : wA.os = w5.os ∧ wA.tape = w5.tape ∧ wA.output = w5.output := by rw [← hA]; exact ⟨rfl, rfl, rfl⟩
  clear hA
  have sB : (wA.setCell ⟨g2, j, none⟩ (.int .u64 y)).heap.size = wA.heap.size := by simp [World.setCell]
  have tB : (wA.setCell ⟨g2, j, none⟩ (.int .u64 y)).os = wA.os ∧ (wA.setCell ⟨g2, j, none⟩ (.int .u64 y)).tape = wA.tape ∧ (wA.setCell ⟨g2, j, none⟩ (.int .u64 y)).output = wA.output := ⟨rfl, rfl, rfl⟩
  generalize wA.setCell ⟨g2, j, none⟩ (.int .u64 y) = wB at *
  have bB : wB.heap[M]? = some (.cells #[.int .i64 k.r, .int .i64 k.bk, .int .i64 k.lv, .int .i64 k.qu, .int .i64 k.pk, .int .u64 k.by_, .int .i64 k.sh, .int .u64 k.mtu, .int .u64 k.rate, .int .u64 k.burst, .slice k.a k.n k.cc, vp, vb] 111 (0, 0)) := (f2 M (by omega)).trans ((f1 M (by omega)).trans ((hb.block M hM).trans h.blk))
  have bC := heap_set bB 11 (.slice (some ⟨g1, 0, none⟩) ps.length c1)
  have f3 : ∀ q, q ≠ M → (wB.setCell ⟨M, 11, none⟩ (.slice (some ⟨g1, 0, none⟩) ps.length c1)).heap[q]? = wB.heap[q]? := fun q hq => Below.heap_setCell wB ⟨M, 11, none⟩ _ q hq
  have sC : (wB.setCell ⟨M, 11, none⟩ (.slice (some ⟨g1, 0, none⟩) ps.length c1)).heap.size = wB.heap.size := by simp [World.setCell]
  have tC : (wB.setCell ⟨M, 11, none⟩ (.slice (some ⟨g1, 0, none⟩) ps.length c1)).os = wB.os ∧ (wB.setCell ⟨M, 11, none⟩ (.slice (some ⟨g1, 0, none⟩) ps.length c1)).tape = wB.tape ∧ (wB.setCell ⟨M, 11, none⟩ (.slice (some ⟨g1, 0, none⟩) ps.length c1)).output = wB.output := ⟨rfl, rfl, rfl⟩
  generalize wB.setCell ⟨M, 11, none⟩ (.slice (some ⟨g1, 0, none⟩) ps.length c1) = wC at *
  have bD := heap_set bC 12 (.slice (some ⟨g2, 0, none⟩) qs.length c2)
  have f4 : ∀ q, q ≠ M → (wC.setCell ⟨M, 12, none⟩ (.slice (some ⟨g2, 0, none⟩) qs.length c2)).heap[q]? = wC.heap[q]? := fun q hq => Below.heap_setCell wC ⟨M, 12, none⟩ _ q hq
  have sD : (wC.setCell ⟨M, 12, none⟩ (.slice (some ⟨g2, 0, none⟩) qs.length c2)).heap.size = wC.heap.size := by simp [World.setCell]
  have tD : (wC.setCell ⟨M, 12, none⟩ (.slice (some ⟨g2, 0, none⟩) qs.length c2)).os = wC.os ∧ (wC.setCell ⟨M, 12, none⟩ (.slice (some ⟨g2, 0, none⟩) qs.length c2)).tape = wC.tape ∧ (wC.setCell ⟨M, 12, none⟩ (.slice (some ⟨g2, 0, none⟩) qs.length c2)).output = wC.output := ⟨rfl, rfl, rfl⟩
  generalize wC.setCell ⟨M, 12, none⟩ (.slice (some ⟨g2, 0, none⟩) qs.length c2) = wD at *
  refine ⟨⟨by simpa using bD, h.low, ?_, ?_⟩, ⟨tD.1.trans (tC.1.trans (tB.1.trans (tA.1.trans hb.os))), tD.2.1.trans (tC.2.1.trans (tB.2.1.trans (tA.2.1.trans hb.tape))), tD.2.2.trans (tC.2.2.trans (tB.2.2.trans (tA.2.2.trans hb.output))), by have := hb.size; omega, fun q hq hS => ?_, fun q hq => ?_⟩⟩
  · rw [List.length_set]
    exact own_low17 (own_kept17 p1' (fun q hq => by have : g1 = q := Option.some.inj hq; exact (f4 q (by omega)).trans (f3 q (by omega)))) hbase
  · rw [List.length_set]
    exact own_low17 (own_kept17 p2 (fun q hq => by have : g2 = q := Option.some.inj hq; exact (f4 q (by omega)).trans (f3 q (by omega)))) hbase
  · have hqM : q ≠ M := fun e => hS (Or.inl e)
    exact (f4 q hqM).trans ((f3 q hqM).trans ((f2 q (by omega)).trans ((f1 q (by omega)).trans (hb.block q hq))))
  · rcases hq with hq | hq | hq
    · exact Or.inr (Or.inl hq)
    · have : g1 = q := Option.some.inj hq
      exact Or.inl (by omega)
    · have : g2 = q := Option.some.inj hq
      exact Or.inl (by omega)
end

structure Rl17 (fs : List Fl) (n : Nat) (es : List FeP) (ds : Int → Dt) (tp tb : Int) (ps qs : List Int) : Prop where
  ln : fs.length = n
  lp : ps.length = n
  lq : qs.length = n
  di : distF fs n
  it : ∀ j, j < n → isF (es.map FeP.id) (fs.getD j Fl.nil).id = true
  no : ∀ id, isF (es.map FeP.id) id = true → ∃ j, j < n ∧ (fs.getD j Fl.nil).id = id
  vp : ∀ j, j < n → ps.getD j 0 = (ds (fs.getD j Fl.nil).id).pk
  vq : ∀ j, j < n → qs.getD j 0 = (ds (fs.getD j Fl.nil).id).by_
  vm : ∀ j, j < n → (fs.getD j Fl.nil).cp = (ds (fs.getD j Fl.nil).id).most
  sp : sumL ps = tp
  sq : sumL qs = tb
theorem dist_un {fs : List Fl} {n : Nat} (h : distF fs n) {i j : Nat} (hi : i < n) (hj : j < n) (e : (fs.getD i Fl.nil).id = (fs.getD j Fl.nil).id) : i = j := by
  rcases Nat.lt_trichotomy i j with h1 | h1 | h1
  · exact absurd e (h i j h1 hj)
  · exact h1
  · exact absurd e.symm (h j i h1 hi)
section
variable {fs : List Fl} {n : Nat} {es : List FeP} {ds : Int → Dt} {tp tb : Int} {ps qs : List Int}
theorem Rl17.set (h : Rl17 fs n es ds tp tb ps qs) {j : Nat} (hj : j < n) {id : Int} (hid : (fs.getD j Fl.nil).id = id) (d : Dt) (hm : d.most = (ds id).most) : Rl17 fs n es (updD ds id d) (tp + (d.pk - (ds id).pk)) (tb + (d.by_ - (ds id).by_)) (ps.set j d.pk) (qs.set j d.by_) := by
  have hne : ∀ i, i < n → i ≠ j → (fs.getD i Fl.nil).id ≠ id := fun i hi hij e => hij (dist_un h.di hi hj (e.trans hid.symm))
  refine ⟨h.ln, by rw [List.length_set]; exact h.lp, by rw [List.length_set]; exact h.lq, h.di, h.it, h.no, fun i hi => ?_, fun i hi => ?_, fun i hi => ?_, ?_, ?_⟩
  · rw [getD_set ps j i _ _ (by rw [h.lp]; exact hj)]
    by_cases e : j = i
    · subst e; rw [if_pos rfl, hid, updD_at]
    · rw [if_neg e, updD_ne _ _ (hne i hi (fun x => e x.symm))]; exact h.vp i hi
  · rw [getD_set qs j i _ _ (by rw [h.lq]; exact hj)]
    by_cases e : j = i
    · subst e; rw [if_pos rfl, hid, updD_at]
    · rw [if_neg e, updD_ne _ _ (hne i hi (fun x => e x.symm))]; exact h.vq i hi
  · by_cases e : j = i
    · subst e; rw [hid, updD_at, hm, h.vm j hj, hid]
    · rw [updD_ne _ _ (hne i hi (fun x => e x.symm))]; exact h.vm i hi
  · rw [sumL_set ps _ j (by rw [h.lp]; exact hj), h.sp, h.vp j hj, hid]
  · rw [sumL_set qs _ j (by rw [h.lq]; exact hj), h.sq, h.vq j hj, hid]
theorem Rl17.start (hr : fs.length = n) (hd : distF fs n) (h1 : ∀ j, j < n → isF (es.map FeP.id) (fs.getD j Fl.nil).id = true) (h2 : ∀ id, isF (es.map FeP.id) id = true → ∃ j, j < n ∧ (fs.getD j Fl.nil).id = id) (h3 : ∀ j, j < n → (ds (fs.getD j Fl.nil).id).pk = 0 ∧ (ds (fs.getD j Fl.nil).id).by_ = 0 ∧ (ds (fs.getD j Fl.nil).id).most = (fs.getD j Fl.nil).cp) : Rl17 fs n es ds 0 0 (List.replicate n 0) (List.replicate n 0) := by
  have hz : ∀ j, j < n → (List.replicate n (0 : Int)).getD j 0 = 0 := fun j hj => by
    rw [List.getD_eq_getElem?_getD, List.getElem?_replicate, if_pos hj]; rfl
  exact ⟨hr, List.length_replicate, List.length_replicate, hd, h1, h2, fun j hj => by rw [hz j hj, (h3 j hj).1], fun j hj => by rw [hz j hj, (h3 j hj).2.1], fun j hj => (h3 j hj).2.2.symm, sumL_zeros n, sumL_zeros n⟩
/-- Which flow it is, if there is one. -/
theorem Rl17.find (h : Rl17 fs n es ds tp tb ps qs) (id : Int) : (isF (es.map FeP.id) id = true ∧ ∃ j, j < n ∧ (fs.getD j Fl.nil).id = id ∧ ∀ q, q < j → ¬ (fs.getD q Fl.nil).id = id) ∨ (isF (es.map FeP.id) id = false ∧ ∀ q, q < n → ¬ (fs.getD q Fl.nil).id = id) := by
  cases hf : isF (es.map FeP.id) id with
  | true =>
    obtain ⟨j, hj, e⟩ := h.no id hf
    exact Or.inl ⟨rfl, j, hj, e, fun q hq e2 => by
      have := dist_un h.di (by omega) hj (e2.trans e.symm)
      omega⟩
  | false =>
    refine Or.inr ⟨rfl, fun q hq e => ?_⟩
    have := h.it q hq
    rw [e, hf] at this
    cases this
end
/-- Both, in memory. -/
structure M17 (base : Nat) (w : World) (G M T : Nat) (k : Cf) (v : Value) (es : List FeP) (bl : Int → Nat) (ds : Int → Dt) (tp tb : Int) (vp vb : Value) (ps qs : List Int) : Prop where
  g : AdOk w base G T k.n v es bl ds k.gc tp tb
  r : R17At w base M k vp vb ps qs
section
variable {base : Nat} {w w' : World} {G M T : Nat} {k : Cf} {v : Value} {es : List FeP} {bl : Int → Nat} {ds ds' : Int → Dt} {tp tb tp' tb' : Int} {vp vb vp' vb' : Value} {ps qs ps' qs' : List Int}
theorem M17.on (h : M17 base w G M T k v es bl ds tp tb vp vb ps qs) (hb : Below w.heap.size w w') : M17 base w' G M T k v es bl ds tp tb vp vb ps qs := ⟨h.g.below hb, h.r.below hb⟩
/-- The answer's blocks are none of the gate's. -/
theorem M17.ap (h : M17 base w G M T k v es bl ds tp tb vp vb ps qs) {j : Nat} (hj : inR17 M vp vb j) : j ≠ G ∧ ¬ inTb T v j ∧ ∀ e ∈ es, j ≠ bl e.id := by
  have hg := h.g.at_.gk
  have ht := h.g.at_.tab.blk
  have hf := show w.ownsRow base 171 2 v es.length (fesP es) from h.g.at_.tab.fe
  unfold GkAt at hg
  have rows : ∀ {e2 : TypeId} {v2 : Value} {n2 : Nat} {x2 : List Value}, w.ownsRow base e2 1 v2 n2 x2 → 171 ≠ e2 → v2.ownBlock = some j → v.ownBlock ≠ some j := fun ho hne hj2 hv => by
    rcases row_apart hf ho hne with h1 | h1
    · rw [hv] at h1; cases h1
    · exact h1 (by rw [hv, hj2])
  rcases hj with rfl | hj | hj
  · refine ⟨fun e => ?_, fun hx => ?_, fun e he x => ?_⟩
    · subst e; have := h.r.blk; rw [hg] at this; simp at this
    · rcases hx with rfl | hx
      · have := h.r.blk; rw [ht] at this; simp at this
      · exact own_ne_blk hf h.r.blk (by decide) hx
    · have hd := (h.g.at_.dat e he).2.2.1
      unfold DtAt at hd
      rw [← x, h.r.blk] at hd; simp at hd
  · refine ⟨fun e => own_ne_blk h.r.op hg (by decide) (e ▸ hj), fun hx => ?_, fun e he x => ?_⟩
    · rcases hx with rfl | hx
      · exact own_ne_blk h.r.op ht (by decide) hj
      · exact rows h.r.op (by decide) hj hx
    · exact own_ne_blk h.r.op (h.g.at_.dat e he).2.2.1 (by decide) (x ▸ hj)
  · refine ⟨fun e => own_ne_blk h.r.oq hg (by decide) (e ▸ hj), fun hx => ?_, fun e he x => ?_⟩
    · rcases hx with rfl | hx
      · exact own_ne_blk h.r.oq ht (by decide) hj
      · exact rows h.r.oq (by decide) hj hx
    · exact own_ne_blk h.r.oq (h.g.at_.dat e he).2.2.1 (by decide) (x ▸ hj)
/-- What a step keeps: the acts' cells, and what was there before both. -/
structure Fr17 (base : Nat) (w w' : World) : Prop where
  b : base ≤ w.heap.size → Below base w w'
  a : ∀ (j : Nat) (cs : Array Value), w.heap[j]? = some (.cells cs 38 (0, 0)) → w'.heap[j]? = some (.cells cs 38 (0, 0))
  s : w.heap.size ≤ w'.heap.size
theorem Fr17.trans {a b c : World} (h : Fr17 base a b) (k : Fr17 base b c) : Fr17 base a c := ⟨fun hb => (h.b hb).trans (k.b (Nat.le_trans hb h.s)), fun j cs hj => k.a j cs (h.a j cs hj), Nat.le_trans h.s k.s⟩
theorem Fr17.below {a b : World} (h : Below a.heap.size a b) : Fr17 base a b := ⟨fun hb => h.mono hb, fun j cs hj => (h.block j (Array.getElem?_eq_some_iff.1 hj).1).trans hj, h.size⟩
/-- The gate turns, the answer does not. -/
theorem M17.p (h : M17 base w G M T k v es bl ds tp tb vp vb ps qs) (hb : Below base w w') {id : Int} (hf : isF (es.map FeP.id) id = true) (hk : ∀ j, j < w.heap.size → j ≠ G → j ≠ bl id → w'.heap[j]? = w.heap[j]?) (g' : AdOk w' base G T k.n v es bl ds' k.gc tp' tb') : M17 base w' G M T k v es bl ds' tp' tb' vp vb ps qs ∧ Fr17 base w w' := by
  obtain ⟨e0, he0, hi0, -⟩ := entry_of hf
  refine ⟨⟨g', h.r.keep (fun j hj => hk j (h.r.inlt hj).2 (h.ap hj).1 (by rw [← hi0]; exact (h.ap hj).2.2 e0 he0))⟩, ⟨fun _ => hb, fun j cs hj => (hk j (Array.getElem?_eq_some_iff.1 hj).1 (fun e => ?_) (fun e => ?_)).trans hj, hb.size⟩⟩
  · have hg := h.g.at_.gk
    unfold GkAt at hg
    rw [← e, hj] at hg; simp at hg
  · have hd := (h.g.at_.dat e0 he0).2.2.1
    unfold DtAt at hd
    rw [hi0, ← e, hj] at hd; simp at hd
/-- The answer turns, the gate does not. -/
theorem M17.q (h : M17 base w G M T k v es bl ds tp tb vp vb ps qs) (m : MvS w w' (inR17 M vp vb) (inR17 M vp' vb')) (r' : R17At w' base M k vp' vb' ps' qs') : M17 base w' G M T k v es bl ds tp tb vp' vb' ps' qs' ∧ Fr17 base w w' := by
  have hA := h.g.at_
  have keep : ∀ j, j < w.heap.size → ¬ inR17 M vp vb j → w'.heap[j]? = w.heap[j]? := fun j h1 h2 => m.block j h1 h2
  refine ⟨⟨⟨⟨(keep G hA.gk.lt (fun hj => (h.ap hj).1 rfl)).trans hA.gk, hA.tab.keep (fun j hj => keep j (hA.tab.inlt hj).2 (fun hx => (h.ap hx).2.1 hj)), fun e he => ⟨(hA.dat e he).1, (hA.dat e he).2.1, (keep _ (hA.dat e he).2.2.1.lt (fun hx => (h.ap hx).2.2 e he rfl)).trans (hA.dat e he).2.2.1, (hA.dat e he).2.2.2⟩, hA.inj, hA.low, hA.cok, hA.p0, hA.p1, hA.b0, hA.b1, hA.nn, hA.sp, hA.sb⟩, h.g.own, h.g.pk, h.g.by_⟩, r'⟩, ⟨fun hb => m.below (Below.refl _ w) (fun j hj => (h.r.inlt hj).1) hb, fun j cs hj => (m.block j (Array.getElem?_eq_some_iff.1 hj).1 (fun hp => ?_)).trans hj, m.size⟩⟩
  rcases hp with rfl | hp | hp
  · have := h.r.blk; rw [hj] at this; simp at this
  · exact own_ne_blk h.r.op hj (by decide) hp
  · exact own_ne_blk h.r.oq hj (by decide) hp
end

section
variable {w : World} {base M : Nat} {k : Cf} {vp vb : Value} {ps qs : List Int}
set_option maxHeartbeats 2000000 in
theorem total17 (h : R17At w base M k vp vb ps qs) (hl : qs.length = ps.length) (hp : ∀ x ∈ ps, 0 ≤ x) (hq : ∀ x ∈ qs, 0 ≤ x) (bp : sumL ps ≤ 9223372036854775807) (bq : sumL qs ≤ 18446744073709551615) :
    Calls Try.prog 23 #[.pointer (some ⟨M, 0, none⟩)] w fun e w' => e = .returned (.tuple #[.int .i64 (sumL ps), .int .u64 (sumL qs)]) ∧ ∃ q, w' = w.drewN q := by
  obtain ⟨-, -, -, -, -, c11, c12, -, -⟩ := h.cell
  obtain ⟨ap, cp, rfl, -, hcp⟩ := h.atp
  obtain ⟨aq, cq, rfl, -, hcq⟩ := h.atq
  have HCP := Lib.hid hcp; have HCQ := Lib.hid hcq
  have TP := Lib.hid (sumL_take_le ps hp); have TQ := Lib.hid (sumL_take_le qs hq)
  have SP := Lib.hid (sumL_take ps); have SQ := Lib.hid (sumL_take qs)
  have EP := Lib.hid (show ps.take ps.length = ps from List.take_length)
  have EQ := Lib.hid (show qs.take ps.length = qs by rw [← hl]; exact List.take_length)
  have GP := Lib.hid (fun j hj => hp _ (getD_mem0 ps j hj)); have GQ := Lib.hid (fun j hj => hq _ (getD_mem0 qs j hj))
  rw [hl] at c12
  have HL := Lib.hid hl
  have HM := (show ps.length ≤ maxLen from Ints.len (xs := ps) h.op)
  clear h hcp hcq hp hq
  generalize hn : ps.length = n at *
  clear hn
  clear hl
  go_enter Try.func23, Try.ntmps23
  go_wp2
  go_loopw [4, 5, 6] (fun zn zb zi wr => ∃ i : Nat, i ≤ n ∧ zi = .int .i64 i ∧ zn = .int .i64 (sumL (ps.take i)) ∧ zb = .int .u64 (sumL (qs.take i)) ∧ wr = w) (fun _ _ zi _ => n - (intOf zi).toNat)
  case atStart => exact ⟨0, Nat.zero_le _, rfl, rfl, rfl, rfl⟩
  case round =>
    obtain ⟨i, hi, rfl, rfl, rfl, rfl⟩ := hrel
    by_cases hlt : i < n
    · obtain ⟨g1, rfl, l1, d1⟩ := HCP.out i hlt
      obtain ⟨g2, rfl, _, l2, d2, _⟩ := HCQ.out i (by rw [HL.out]; exact hlt)
      have a1 := SP.out i (by omega)
      have a2 := SQ.out i (by rw [HL.out]; exact hlt)
      have b1 := TP.out i; have b2 := TP.out (i + 1); have b3 := TQ.out i; have b4 := TQ.out (i + 1)
      have g3 := GP.out i (by omega); have g4 := GQ.out i (by rw [HL.out]; exact hlt)
      have A1 := Lib.hid a1; have A2 := Lib.hid a2
      rw [a1] at b2
      rw [a2] at b4
      clear a1 a2
      generalize sumL (ps.take i) = x1 at *
      generalize sumL (qs.take i) = x2 at *
      generalize ps.getD i 0 = z1 at *
      generalize qs.getD i 0 = z2 at *
      have w1 : IntKind.i64.wrap (x1 + z1) = x1 + z1 := by rw [IntKind.wrap_i64]; omega
      have w2 : IntKind.u64.wrap (x2 + z2) = x2 + z2 := by rw [IntKind.wrap_u64]; omega
      have z0 : (0 : Int) ≤ i := by omega
      have z1' : (i : Int) < n := by omega
      have z3 : (i : Int) + 1 ≤ 9223372036854775807 := by unfold maxLen at HM; omega
      go_wp2
      go_roundw
      case rel => exact ⟨i + 1, by omega, by go_num, by rw [A1.out], by rw [A2.out], by first | rfl | trivial⟩
      case measure => simp [intOf] <;> omega
    · obtain rfl : i = n := by omega
      rw [EP.out, EQ.out]
      go_wp2
      go_ret2
      exact ⟨rfl, 0, rfl⟩
end
end Go.Proofs.Ytiogfgkfipekbaa
