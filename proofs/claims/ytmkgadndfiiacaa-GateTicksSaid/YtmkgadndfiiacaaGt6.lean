/-
  Layer 22: what the iterator of slots tells, round after round. No condition but that the plan may be.
-/
import Derived.Test.YtmkgadndfiiacaaGt3
import Derived.Test.YtmkgadndfiiacaaRangeE
import Derived.RangeFuncNested
import Derived.RangeFuncBound
import Derived.RangeFuncLeaves
import Derived.RangeFuncBox
import Derived.Shelf.RegionOpen
import Derived.OwnWalkIn
import Derived.TacticsInMore
import Derived.LoopNIn
import Derived.LoopIn
namespace Go.Proofs.Ytmkgadndfiiacaa
set_option linter.unusedVariables false
set_option linter.unusedSimpArgs false
open Go.ChangeShapes Go.WideShapes Go.ChangeAt Go.RowKit Go.Shelf
attribute [local go_sem] Oper.semAt_some

/-- The slots from a time on: the first one's rest, then whole ones, round after round. -/
def seq22 (fs : List Slot22) (n k0 : Nat) (t : Int) (j : Nat) : Slot22 := if j = 0 then ⟨(slotN fs k0).o, spans fs (k0 + 1) - t⟩ else slotN fs ((k0 + j) % n)
def enc22 (x : Slot22) : Array Value := #[.agg #[.int .u8 x.o, .int .u64 x.s]]
/-- Where the iterator stands. -/
def Ph (fs : List Slot22) (n k0 : Nat) (t : Int) (j0 i j : Nat) (gone : Int) : Prop :=
  (j0 = 0 ∧ ((j = 0 ∧ i ≤ k0 ∧ gone = t - spans fs i) ∨ (1 ≤ j ∧ i = k0 + j ∧ gone = 0))) ∨ (1 ≤ j0 ∧ (k0 + j0) % n = 0 ∧ j = j0 + i ∧ gone = 0)
theorem least_ex {p : Nat → Prop} : ∀ m : Nat, p m → ∃ j, p j ∧ ∀ i, p i → j ≤ i := by
  intro m
  induction m using Nat.strongRecOn with
  | ind m ih =>
    intro hm
    by_cases h : ∃ i, i < m ∧ p i
    · obtain ⟨i, hi, hp⟩ := h
      exact ih i hi hp
    · exact ⟨m, hm, fun i hp => by
        by_cases e : i < m
        · exact absurd ⟨i, e, hp⟩ h
        · omega⟩
open Classical in
/-- The least number of which something holds. -/
noncomputable def leastN (p : Nat → Prop) : Nat := if h : ∃ j, p j ∧ ∀ i, p i → j ≤ i then Classical.choose h else 0
theorem leastN_spec {p : Nat → Prop} (h : ∃ j, p j) : p (leastN p) := by
  obtain ⟨j, hj⟩ := h
  have e := least_ex j hj
  unfold leastN
  rw [dif_pos e]
  exact (Classical.choose_spec e).1
theorem leastN_le {p : Nat → Prop} {j : Nat} (h : p j) : leastN p ≤ j := by
  have e := least_ex j h
  unfold leastN
  rw [dif_pos e]
  exact (Classical.choose_spec e).2 j h
theorem Ph.next {fs : List Slot22} {n k0 : Nat} {t : Int} {j0 i j : Nat} {gone : Int} (hg : ∀ i, i < n → (slotN fs i).good) (k1 : k0 < n) (k2 : spans fs k0 ≤ t) (k3 : t < spans fs (k0 + 1)) (h : Ph fs n k0 t j0 i j gone) (hi : i < n) :
    (0 ≤ (slotN fs i).s ∧ (slotN fs i).s ≤ gone ∧ Ph fs n k0 t j0 (i + 1) j (gone - (slotN fs i).s)) ∨
    (0 ≤ gone ∧ gone < (slotN fs i).s ∧ seq22 fs n k0 t j = ⟨(slotN fs i).o, (slotN fs i).s - gone⟩ ∧ Ph fs n k0 t j0 (i + 1) (j + 1) 0) := by
  have gi := (hg i hi).1
  rcases h with ⟨h0, (⟨hj, hik, hgo⟩ | ⟨hj, hik, hgo⟩)⟩ | ⟨h0, hm, hj, hgo⟩
  · by_cases e : i = k0
    · subst e
      have e2 : spans fs (i + 1) = spans fs i + (slotN fs i).s := rfl
      refine Or.inr ⟨by omega, by omega, ?_, Or.inl ⟨h0, Or.inr ⟨by omega, by omega, rfl⟩⟩⟩
      unfold seq22
      rw [if_pos hj, e2, hgo]
      congr 1
      omega
    · have sm := spans_mono hg (i := i + 1) (j := k0) (by omega) (by omega)
      have e2 : spans fs (i + 1) = spans fs i + (slotN fs i).s := rfl
      exact Or.inl ⟨by omega, by omega, Or.inl ⟨h0, Or.inl ⟨hj, by omega, by rw [e2]; omega⟩⟩⟩
  · refine Or.inr ⟨by omega, by omega, ?_, Or.inl ⟨h0, Or.inr ⟨by omega, by omega, rfl⟩⟩⟩
    unfold seq22
    rw [if_neg (by omega), show (k0 + j) % n = i by rw [← hik]; exact Nat.mod_eq_of_lt hi, hgo, Int.sub_zero]
  · refine Or.inr ⟨by omega, by omega, ?_, Or.inr ⟨h0, hm, by omega, rfl⟩⟩
    unfold seq22
    rw [if_neg (by omega), show (k0 + j) % n = i by rw [hj, ← Nat.add_assoc, Nat.add_mod, hm, Nat.zero_add, Nat.mod_mod]; exact Nat.mod_eq_of_lt hi, hgo, Int.sub_zero]
theorem Ph.wrap {fs : List Slot22} {n k0 : Nat} {t : Int} {j0 j : Nat} {gone : Int} (hn : 1 ≤ n) (k1 : k0 < n) (h : Ph fs n k0 t j0 n j gone) : j0 < j ∧ gone = 0 ∧ Ph fs n k0 t j 0 j 0 := by
  rcases h with ⟨h0, (⟨hj, hik, hgo⟩ | ⟨hj, hik, hgo⟩)⟩ | ⟨h0, hm, hj, hgo⟩
  · omega
  · exact ⟨by omega, hgo, Or.inr ⟨hj, by rw [← hik]; exact Nat.mod_self n, by omega, rfl⟩⟩
  · refine ⟨by omega, hgo, Or.inr ⟨by omega, ?_, by omega, rfl⟩⟩
    rw [hj, ← Nat.add_assoc, Nat.add_mod_right]
    exact hm
theorem Ph.gone_le {fs : List Slot22} {n k0 : Nat} {t : Int} {j0 i j : Nat} {gone : Int} (k2 : 0 ≤ t) (k3 : t ≤ 274877906944) (hs : 0 ≤ spans fs i) (hk : i ≤ k0 → spans fs i ≤ t) (h : Ph fs n k0 t j0 i j gone) : 0 ≤ gone ∧ gone ≤ 274877906944 := by
  rcases h with ⟨h0, (⟨hj, hik, hgo⟩ | ⟨hj, hik, hgo⟩)⟩ | ⟨h0, hm, hj, hgo⟩
  · have := hk hik; omega
  · omega
  · omega
/-- What the iterator reads: its two boxes and the plan. -/
structure GIt (a : Option Addr) (n c : Nat) (fs : List Slot22) (Bl Ba : Nat) (t : Int) (V : World) : Prop where
  l : V.heap[Bl]? = some (.cells #[.slice a n c] 53 (0, 0))
  t : V.heap[Ba]? = some (.cells #[.int .u64 t] 22 (0, 0))
  row : RowSl V a n fs
set_option maxRecDepth 100000 in
set_option maxHeartbeats 4000000 in
theorem goes22 {a : Option Addr} {n c : Nat} {fs : List Slot22} (m : Nat) {Bl Ba : Nat} (hok : PlanOk fs n) (t : Int) (t0 : 0 ≤ t) (t1 : t ≤ 18446744073709551615) {k0 : Nat} (hk : InSlot fs n (t % spans fs n) k0) :
    Goes Fence.wide m Try.prog 140 #[.pointer (some ⟨Bl, 0, none⟩), .pointer (some ⟨Ba, 0, none⟩)] enc22 (seq22 fs n k0 (t % spans fs n)) (GIt a n c fs Bl Ba t) := fun l N J Jx W hJ hG hN hY h0 => by
  obtain ⟨p0, p1⟩ := round_pos hok
  have em : t.tmod (spans fs n) = t % spans fs n := Int.tmod_eq_emod_of_nonneg t0
  have m0 : 0 ≤ t % spans fs n := Int.emod_nonneg _ (by omega)
  have m1 : t % spans fs n < spans fs n := Int.emod_lt_of_pos _ (by omega)
  have GG := Lib.hid hG
  have RD := Lib.hid (ground22 (hG 0 W h0).row c hok)
  have CL := Lib.hid (fun (V : World) (h : GIt a n c fs Bl Ba t V) => cell_of_row V Bl 0 _ _ (0, 0) h.l)
  have CA := Lib.hid (fun (V : World) (h : GIt a n c fs Bl Ba t V) => cell_of_row V Ba 0 _ _ (0, 0) h.t)
  have SN := Lib.hid (spans_nn hok.2)
  have hn1 : 1 ≤ n := hok.1.1
  have hn2 : n ≤ 64 := hok.1.2
  obtain ⟨k1, k2, k3⟩ := hk
  have SM := Lib.hid (fun (i : Nat) (hi : i ≤ k0) => spans_mono hok.2 (i := i) (j := k0) hi (by omega))
  have GD := Lib.hid hok.2
  have H0 := Lib.hid h0; have HJ := Lib.hid hJ; have HY := Lib.hid hY
  have cl := CL.out W (hG 0 W h0)
  obtain ⟨tm, htm⟩ : ∃ tm, t % spans fs n = tm := ⟨_, rfl⟩
  rw [htm] at em m0 m1 k2 k3 HY
  obtain ⟨R, hR⟩ : ∃ R, spans fs n = R := ⟨_, rfl⟩
  rw [hR] at RD em p0 p1 m1
  have p2 : ¬ R = 0 := by omega
  have p3 : (R == 0) = false := by simp [p2]
  clear hJ h0 hY hok hG htm hR
  refine callsIn_of_wp Try.func140 rfl trivial ?_ rfl
  simp only [Try.ntmps140, List.size_toArray, List.length_cons, List.length_nil, Nat.reduceAdd, Nat.reduceSub, Array.replicate_succ, Array.replicate_zero, List.push_toArray, List.append_toArray, List.nil_append, List.cons_append]
  gi_wp2
  refine ⟨trivial, (fun h => by cases h), ?_⟩
  refine ((callsIn_wide (n := m - 1)).2 RD.out).mono ?_
  rintro e W1 ⟨rfl, b1⟩
  have J1 := Lib.hid (HJ.out 0 W W1 H0.out b1)
  have ca := CA.out W1 (GG.out 0 W1 J1.out)
  have cl1 := CL.out W1 (GG.out 0 W1 J1.out)
  clear b1 RD H0 cl
  gi_wp2
  clear ca cl1 em
  gi_loopw [5] (fun g wr => ∃ (j0 : Nat) (gone : Int), g = .int .u64 gone ∧ Ph fs n k0 tm j0 0 j0 gone ∧ j0 < N ∧ Hid (J j0 wr))
    (fun g wr => leastN (fun d => ∃ (j0 : Nat) (gone : Int), d = N - j0 ∧ g = .int .u64 gone ∧ Ph fs n k0 tm j0 0 j0 gone ∧ j0 < N ∧ Hid (J j0 wr)))
  case atStart => exact ⟨0, tm, rfl, Or.inl ⟨rfl, Or.inl ⟨rfl, Nat.zero_le _, by simp [spans]⟩⟩, hN, J1⟩
  case round =>
    clear J1
    obtain ⟨j0, gone0, hd, hg, hph, hjN, HJ0⟩ := leastN_spec (p := fun d => ∃ (j0 : Nat) (gone : Int), d = N - j0 ∧ u5 = .int .u64 gone ∧ Ph fs n k0 tm j0 0 j0 gone ∧ j0 < N ∧ Hid (J j0 wr))
      (by obtain ⟨j0, gone, r⟩ := hrel; exact ⟨N - j0, j0, gone, rfl, r⟩)
    subst hg
    have HD := Lib.hid hd
    have cl := CL.out wr (GG.out _ _ HJ0.out)
    clear hrel hd
    gi_wp2
    obtain ⟨W2, rfl⟩ : ∃ x, x = wr := ⟨_, rfl⟩
    clear cl
    gi_loopw [5, 17] (fun g x wr2 => ∃ (i j : Nat) (gone : Int), g = .int .u64 gone ∧ x = .int .i64 i ∧ i ≤ n ∧ Ph fs n k0 tm j0 i j gone ∧ j < N ∧ Hid (J j wr2)) (fun _ x _ => n - (intOf x).toNat)
    case atStart => exact ⟨0, j0, gone0, rfl, rfl, Nat.zero_le _, hph, hjN, HJ0⟩
    case round =>
      clear HJ0 hph
      obtain ⟨i, j, gone, rfl, rfl, hi, hp2, hj, HJ2⟩ := hrel
      have z0 : (0 : Int) ≤ i := by omega
      by_cases hlt : i < n
      · have z1 : (i : Int) < n := by omega
        obtain ⟨g0, g1⟩ := hp2.gone_le m0 (by omega) (by have := (SN.out i hi).1; omega) (fun h => Int.le_trans (SM.out i h) k2)
        obtain ⟨b, off, rfl, hbl, c0, c1⟩ := (GG.out _ _ HJ2.out).row.atS (Below.refl _ _) i hlt
        obtain ⟨⟨o0, o1⟩, s0, s1⟩ := (GG.out _ _ HJ2.out).row.okS i hlt
        have NX := hp2.next GD.out k1 k2 k3 hlt
        obtain ⟨y, hy⟩ : ∃ y, (slotN fs i).s = y := ⟨_, rfl⟩
        obtain ⟨x, hx⟩ : ∃ x, (slotN fs i).o = x := ⟨_, rfl⟩
        rw [hy] at c1 s0 s1 NX
        rw [hx] at c0 o0 o1 NX
        clear hy hx hp2
        have hba := (Below.refl wr.heap.size wr).alloc (Nat.le_refl _) (.cells #[.int .u8 x, .int .u64 y] 67)
        rcases NX with ⟨y0, ye, ph⟩ | ⟨y0, ye, sq, ph⟩
        · have JJ := Lib.hid (HJ.out j wr _ HJ2.out hba)
          have PH := Lib.hid ph
          clear hba ph
          gi_wp2
          refine ⟨⟨i + 1, j, gone - y, by first | rfl | (congr 1; omega), by go_num, by omega, PH.out, hj, JJ⟩, ?_⟩
          simp [intOf] <;> omega
        · have hbs := (Below.refl wr.heap.size wr).alloc (Nat.le_refl _) (.cells #[.int .u8 x, .int .u64 (y - gone)] 67)
          have hJV := HJ.out j wr _ HJ2.out hbs
          have PH := Lib.hid ph
          obtain ⟨fn, tmps, assign, body, hyl, hRR⟩ := HY.out j _ hj hJV
          rw [sq] at hyl
          simp only [enc22] at hyl
          have ye2 : ¬ y ≤ gone := by omega
          clear hba hbs hJV ph sq
          gi_wp2
          refine ⟨(fun h => by cases h), hRR.mono ?_⟩
          rintro e' W3 (⟨rfl, hj3, hJ3⟩ | ⟨rfl, hx3⟩)
          · have J3 := Lib.hid hJ3
            clear hJ3 hRR hyl
            gi_wp2
            refine ⟨⟨i + 1, j + 1, 0, rfl, by go_num, by omega, PH.out, hj3, J3⟩, ?_⟩
            simp [intOf] <;> omega
          · have X3 := Lib.hid hx3
            clear hx3 hRR hyl
            gi_wp2
            refine bodyPost_ret (results_none rfl _ _ _) rfl ?_
            exact ⟨⟨_, rfl⟩, X3.out⟩
      · obtain rfl : i = n := by omega
        have z1 : ¬ (i : Int) < i := by omega
        obtain ⟨w1_, w2_, w3_⟩ := hp2.wrap hn1 k1
        subst w2_
        clear hp2
        gi_wp2
        refine ⟨⟨j, 0, rfl, w3_, hj, HJ2⟩, ?_⟩
        refine Nat.lt_of_le_of_lt (leastN_le ⟨j, 0, rfl, rfl, w3_, hj, HJ2⟩) ?_
        rw [HD.out]
        omega
end Go.Proofs.Ytmkgadndfiiacaa
