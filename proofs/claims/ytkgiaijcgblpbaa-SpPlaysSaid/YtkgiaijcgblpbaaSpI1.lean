/-
  Package sppifo for elements of type int: how queues with bounds stand in memory; how many items they have, which is the first that is not empty, which bound is the last that is not above a rank. No block turns. No condition but that New made them.
-/
import Derived.Test.YtkgiaijcgblpbaaRqI6
import Derived.Test.YtkgiaijcgblpbaaPoolMath
namespace Go.Proofs.Ytkgiaijcgblpbaa
set_option linter.unusedVariables false
set_option linter.unusedSimpArgs false
open Go.ChangeShapes Go.WideShapes Go.ChangeAt Go.RowKit
attribute [local go_sem] alloc_drewN setCell_drewN

/-- A ring, as it stands. -/
structure RgI where
  B : Nat
  v : Value
  ps : List (Int × Int)
  f : Nat
  k : Nat
def RgI.c (r : RgI) : List (Int × Int) := cont izI r.ps r.f r.k
def rptrI (r : RgI) : Value := .pointer (some ⟨r.B, 0, none⟩)
def totI (rs : List RgI) : Nat := (rs.map RgI.k).sum
theorem tot_takeI (rs : List RgI) (i : Nat) (h : i < rs.length) : totI (rs.take (i + 1)) = totI (rs.take i) + (rs[i]).k := by
  unfold totI
  rw [List.take_succ_eq_append_getElem h, List.map_append, List.sum_append]
  simp
theorem tot_leI (rs : List RgI) (m : Nat) (h : ∀ i (hi : i < rs.length), (rs[i]).k ≤ m) : ∀ i, i ≤ rs.length → totI (rs.take i) ≤ i * m
  | 0, _ => by simp [totI]
  | i + 1, hi => by
    rw [tot_takeI rs i (by omega), Nat.succ_mul]
    have := tot_leI rs m h i (by omega)
    have := h i (by omega)
    omega
/-- The blocks of such queues. -/
def inSpI (B : Nat) (vb vq : Value) (rs : List RgI) : Nat → Prop := fun i => i = B ∨ vb.ownBlock = some i ∨ vq.ownBlock = some i ∨ ∃ j, ∃ (h : j < rs.length), i = (rs[j]).B ∨ (rs[j]).v.ownBlock = some i
/-- Queues with bounds: their room, their bounds, their rings. -/
structure SpAtI (w : World) (base B : Nat) (room : Int) (vb vq : Value) (bs : List Int) (rs : List RgI) : Prop where
  blk : w.heap[B]? = some (.cells #[.int .i64 room, vb, vq] 141 (0, 0))
  low : base ≤ B
  ob : w.ownsRow base 48 1 vb bs.length (bs.map (Value.int .u64))
  oq : w.ownsRow base 142 1 vq rs.length (rs.map rptrI)
  each : ∀ i (h : i < rs.length), RqAtI w base (rs[i]).B room (rs[i]).v (rs[i]).ps (rs[i]).f (rs[i]).k
  ap : ∀ i j (hi : i < rs.length) (hj : j < rs.length), i ≠ j → (rs[i]).B ≠ (rs[j]).B ∧ ((rs[i]).v.ownBlock = none ∨ (rs[i]).v.ownBlock ≠ (rs[j]).v.ownBlock)
  lb : bs.length = rs.length
  n0 : 1 ≤ rs.length
  n1 : rs.length ≤ 32
  r0 : 1 ≤ room
  r1 : room ≤ 4096
theorem SpAtI.inlt {w : World} {base B : Nat} {room : Int} {vb vq : Value} {bs : List Int} {rs : List RgI} (h : SpAtI w base B room vb vq bs rs) {j : Nat} (hj : inSpI B vb vq rs j) : base ≤ j ∧ j < w.heap.size := by
  rcases hj with rfl | hj | hj | ⟨i, hi, hj | hj⟩
  · exact ⟨h.low, (Array.getElem?_eq_some_iff.1 h.blk).1⟩
  · exact World.ownsRow.lt h.ob j hj
  · exact World.ownsRow.lt h.oq j hj
  · rw [hj]; exact ⟨(h.each i hi).low, (h.each i hi).base⟩
  · exact World.ownsRow.lt (h.each i hi).own j hj
theorem own_onSI {w w' : World} {base n size : Nat} {e : TypeId} {v : Value} {xs : List Value} (ho : w.ownsRow base e size v n xs) (hb : ∀ j, v.ownBlock = some j → w'.heap[j]? = w.heap[j]?) : w'.ownsRow base e size v n xs := by
  refine ⟨ho.1, ?_⟩
  rcases ho.2 with hh | ⟨g, cap, cur, rfl, hb', hg, rest⟩
  · exact Or.inl hh
  · exact Or.inr ⟨g, cap, cur, rfl, hb', (hb g rfl).trans hg, rest⟩
theorem RqAtI.keep {w w' : World} {base B : Nat} {room : Int} {v : Value} {ps : List (Int × Int)} {f k : Nat} (h : RqAtI w base B room v ps f k) (h1 : w'.heap[B]? = w.heap[B]?) (h2 : ∀ j, v.ownBlock = some j → w'.heap[j]? = w.heap[j]?) : RqAtI w' base B room v ps f k :=
  ⟨h1.trans h.blk, h.low, own_onSI h.own h2, h.r0, h.r1, h.le, h.lr, h.fl⟩
theorem SpAtI.keep {w w' : World} {base B : Nat} {room : Int} {vb vq : Value} {bs : List Int} {rs : List RgI} (h : SpAtI w base B room vb vq bs rs) (hk : ∀ j, inSpI B vb vq rs j → w'.heap[j]? = w.heap[j]?) : SpAtI w' base B room vb vq bs rs :=
  ⟨(hk B (Or.inl rfl)).trans h.blk, h.low, own_onSI h.ob (fun j hj => hk j (Or.inr (Or.inl hj))), own_onSI h.oq (fun j hj => hk j (Or.inr (Or.inr (Or.inl hj)))),
    fun i hi => (h.each i hi).keep (hk _ (Or.inr (Or.inr (Or.inr ⟨i, hi, Or.inl rfl⟩)))) (fun j hj => hk j (Or.inr (Or.inr (Or.inr ⟨i, hi, Or.inr hj⟩)))), h.ap, h.lb, h.n0, h.n1, h.r0, h.r1⟩
theorem SpAtI.below {w w' : World} {base B : Nat} {room : Int} {vb vq : Value} {bs : List Int} {rs : List RgI} (h : SpAtI w base B room vb vq bs rs) (hb : Below w.heap.size w w') : SpAtI w' base B room vb vq bs rs :=
  h.keep (fun j hj => hb.block j (h.inlt hj).2)
theorem SpAtI.cell {w : World} {base B : Nat} {room : Int} {vb vq : Value} {bs : List Int} {rs : List RgI} (h : SpAtI w base B room vb vq bs rs) :
    w.cell? ⟨B, 0, none⟩ = some (.int .i64 room) ∧ w.cell? ⟨B, 1, none⟩ = some vb ∧ w.cell? ⟨B, 2, none⟩ = some vq :=
  ⟨cell_of_row w B 0 _ _ (0, 0) h.blk, cell_of_row w B 1 _ _ (0, 0) h.blk, cell_of_row w B 2 _ _ (0, 0) h.blk⟩
theorem SpAtI.formQ {w : World} {base B : Nat} {room : Int} {vb vq : Value} {bs : List Int} {rs : List RgI} (h : SpAtI w base B room vb vq bs rs) :
    ∃ g c, vq = .slice (some ⟨g, 0, none⟩) rs.length c ∧ ∀ i (hi : i < rs.length), w.cell? ⟨g, i, none⟩ = some (.pointer (some ⟨(rs[i]).B, 0, none⟩)) := by
  obtain ⟨g, c, rfl, _, _⟩ := h.oq.form h.n0
  refine ⟨g, c, rfl, fun i hi => ?_⟩
  rw [World.ownsRow.cellAt h.oq i (by omega), List.getElem?_map, List.getElem?_eq_getElem hi]; rfl
theorem SpAtI.formB {w : World} {base B : Nat} {room : Int} {vb vq : Value} {bs : List Int} {rs : List RgI} (h : SpAtI w base B room vb vq bs rs) :
    ∃ g c, vb = .slice (some ⟨g, 0, none⟩) bs.length c ∧ ∀ i, i < bs.length → w.cell? ⟨g, i, none⟩ = some (.int .u64 (bs.getD i 0)) := by
  obtain ⟨g, c, rfl, _, _⟩ := h.ob.form (by have := h.n0; have := h.lb; omega)
  refine ⟨g, c, rfl, fun i hi => ?_⟩
  rw [World.ownsRow.cellAt h.ob i (by omega), List.getElem?_map, List.getElem?_eq_getElem hi, List.getD_eq_getElem?_getD, List.getElem?_eq_getElem hi]; rfl
theorem SpAtI.kle {w : World} {base B : Nat} {room : Int} {vb vq : Value} {bs : List Int} {rs : List RgI} (h : SpAtI w base B room vb vq bs rs) (i : Nat) (hi : i < rs.length) : (rs[i]).k ≤ 4096 := by
  have h1 := (h.each i hi).le; have h2 := (h.each i hi).lr; have h3 := h.r1
  omega

set_option maxHeartbeats 1000000 in
theorem slenI {w : World} {base B : Nat} {room : Int} {vb vq : Value} {bs : List Int} {rs : List RgI} (h : SpAtI w base B room vb vq bs rs) :
    Calls Try.prog 51 #[.pointer (some ⟨B, 0, none⟩)] w fun e w' => e = .returned (.int .i64 (totI rs)) ∧ w = w' := by
  obtain ⟨c0, c1, c2⟩ := h.cell
  obtain ⟨g, c, rfl, hq⟩ := h.formQ
  have HQ := Lib.hid hq
  have LN := Lib.hid (fun i (hi : i < rs.length) => qlenI (h.each i hi))
  have TL := Lib.hid (tot_leI rs 4096 h.kle)
  have hn1 := h.n1
  clear h hq c0 c1
  go_enter Try.func51, Try.ntmps51
  go_wp2
  go_loopw [3, 13] (fun y x wr => ∃ i : Nat, i ≤ rs.length ∧ x = .int .i64 i ∧ y = .int .i64 (totI (rs.take i)) ∧ w = wr) (fun _ x _ => rs.length - (intOf x).toNat)
  case atStart => exact ⟨0, Nat.zero_le _, rfl, rfl, rfl⟩
  case round =>
    obtain ⟨i, hi, rfl, rfl, rfl⟩ := hrel
    by_cases hlt : i < rs.length
    · have cq := HQ.out i hlt
      have i0 : (0 : Int) ≤ i := by omega
      have i1 : (i : Int) < rs.length := by omega
      have t1 := TL.out i hi
      have t2 := TL.out (i + 1) hlt
      rw [tot_takeI rs i hlt] at t2
      have L1 := Lib.hid (LN.out i hlt)
      have ST := Lib.hid (tot_takeI rs i hlt)
      have a1 : IntKind.i64.wrap ((totI (rs.take i) : Nat) + ((rs[i]).k : Nat) : Int) = ((totI (rs.take i) : Nat) + ((rs[i]).k : Nat) : Int) := by rw [IntKind.wrap_i64]; omega
      generalize (rs[i]).B = Bi at *
      go_wp2_with fail
      refine L1.out.mono ?_
      rintro e w' ⟨rfl, rfl⟩
      go_wp2
      go_roundw
      case rel => exact ⟨i + 1, by omega, by go_num, by rw [ST.out]; go_num, by first | trivial | rfl⟩
      case measure => simp [intOf] <;> omega
    · obtain rfl : i = rs.length := by omega
      go_wp2
      go_ret
      first | exact ⟨rfl, rfl⟩ | exact ⟨by simp, rfl⟩ | (refine ⟨?_, ?_⟩ <;> simp)
/-- The first ring that is not empty, or none. -/
def FirstIsI (rs : List RgI) (p : Value) : Prop := (p = .pointer none ∧ ∀ i (h : i < rs.length), (rs[i]).k = 0) ∨ ∃ i, ∃ (h : i < rs.length), p = .pointer (some ⟨(rs[i]).B, 0, none⟩) ∧ 0 < (rs[i]).k ∧ ∀ j (hj : j < rs.length), j < i → (rs[j]).k = 0
set_option maxHeartbeats 1000000 in
theorem sfirstI {w : World} {base B : Nat} {room : Int} {vb vq : Value} {bs : List Int} {rs : List RgI} (h : SpAtI w base B room vb vq bs rs) :
    Calls Try.prog 85 #[.pointer (some ⟨B, 0, none⟩)] w fun e w' => ∃ p, e = .returned p ∧ FirstIsI rs p ∧ w = w' := by
  obtain ⟨c0, c1, c2⟩ := h.cell
  obtain ⟨g, c, rfl, hq⟩ := h.formQ
  have HQ := Lib.hid hq
  have LN := Lib.hid (fun i (hi : i < rs.length) => qlenI (h.each i hi))
  have hn1 := h.n1
  clear h hq c0 c1
  go_enter Try.func85, Try.ntmps85
  go_wp2
  go_loopw [12] (fun x wr => ∃ i : Nat, i ≤ rs.length ∧ x = .int .i64 i ∧ (∀ j (hj : j < rs.length), j < i → (rs[j]).k = 0) ∧ w = wr) (fun x _ => rs.length - (intOf x).toNat)
  case atStart => exact ⟨0, Nat.zero_le _, rfl, fun j hj h => absurd h (Nat.not_lt_zero _), rfl⟩
  case round =>
    obtain ⟨i, hi, rfl, hz, rfl⟩ := hrel
    by_cases hlt : i < rs.length
    · have cq := HQ.out i hlt
      have i0 : (0 : Int) ≤ i := by omega
      have i1 : (i : Int) < rs.length := by omega
      have L1 := Lib.hid (LN.out i hlt)
      by_cases hk : (rs[i]).k = 0
      · rw [hk] at L1
        have Z := Lib.hid hz; have HK := Lib.hid hk
        clear hz hk
        generalize (rs[i]).B = Bi at *
        go_wp2_with fail
        refine L1.out.mono ?_
        rintro e w' ⟨rfl, rfl⟩
        go_wp2
        go_roundw
        case rel => exact ⟨i + 1, by omega, by go_num, fun j hj h => by
          rcases Nat.lt_or_ge j i with h1 | h1
          · exact Z.out j hj h1
          · obtain rfl : j = i := by omega
            exact HK.out, by first | trivial | rfl⟩
        case measure => simp [intOf] <;> omega
      · have hk' : (0 : Int) < ((rs[i]).k : Nat) := by omega
        have FIN : Hid (FirstIsI rs (.pointer (some ⟨(rs[i]).B, 0, none⟩))) := Lib.hid (Or.inr ⟨i, hlt, rfl, by omega, hz⟩)
        clear hz hk
        generalize (rs[i]).B = Bi at *
        generalize (rs[i]).k = ki at *
        go_wp2_with fail
        refine L1.out.mono ?_
        rintro e w' ⟨rfl, rfl⟩
        go_wp2
        go_ret
        exact ⟨_, rfl, FIN.out, rfl⟩
    · obtain rfl : i = rs.length := by omega
      have Z := Lib.hid hz
      clear hz
      go_wp2
      go_ret
      exact ⟨_, rfl, Or.inl ⟨rfl, fun j hj => Z.out j hj hj⟩, rfl⟩
/-- The last bound that is not above a rank; -1: there is none. -/
structure LastIsI (bs : List Int) (rank j : Int) : Prop where
  lo : -1 ≤ j
  hi : j < bs.length
  up : ∀ t : Nat, j < (t : Int) → t < bs.length → rank < bs.getD t 0
  dn : 0 ≤ j → bs.getD j.toNat 0 ≤ rank
set_option maxHeartbeats 1000000 in
theorem slastI {w : World} {base B : Nat} {room : Int} {vb vq : Value} {bs : List Int} {rs : List RgI} (h : SpAtI w base B room vb vq bs rs) (rank : Int) :
    Calls Try.prog 81 #[.pointer (some ⟨B, 0, none⟩), .int .u64 rank] w fun e w' => ∃ j, e = .returned (.int .i64 j) ∧ LastIsI bs rank j ∧ w = w' := by
  obtain ⟨c0, c1, c2⟩ := h.cell
  obtain ⟨g, c, rfl, hq⟩ := h.formB
  have HQ := Lib.hid hq
  have hn1 := h.n1; have hn0 := h.n0; have hlb := h.lb
  have hl1 : bs.length ≤ 32 := by omega
  have hl0 : 1 ≤ bs.length := by omega
  have a0 : IntKind.i64.wrap ((bs.length : Int) - 1) = (bs.length : Int) - 1 := by rw [IntKind.wrap_i64]; omega
  clear h hq c0 c2 hlb hn1 hn0
  go_enter Try.func81, Try.ntmps81
  go_wp2
  go_loopw [5] (fun x wr => ∃ j : Int, x = .int .i64 j ∧ -1 ≤ j ∧ j < bs.length ∧ (∀ t : Nat, j < (t : Int) → t < bs.length → rank < bs.getD t 0) ∧ w = wr) (fun x _ => (intOf x + 1).toNat)
  case atStart => exact ⟨_, rfl, by omega, by omega, fun t h1 h2 => by omega, rfl⟩
  case round =>
    obtain ⟨j, rfl, j0, j1, hu, rfl⟩ := hrel
    by_cases hj : 0 ≤ j
    · obtain ⟨i, rfl⟩ := Int.eq_ofNat_of_zero_le hj
      have cq := HQ.out i (by omega)
      have a1 : IntKind.i64.wrap ((i : Int) - 1) = (i : Int) - 1 := by rw [IntKind.wrap_i64]; omega
      have U := Lib.hid hu
      obtain ⟨b, hb⟩ : ∃ b, bs.getD i 0 = b := ⟨_, rfl⟩
      have HB := Lib.hid hb
      rw [hb] at cq
      clear hu hb
      by_cases hr : rank < b
      · go_wp2
        go_roundw
        case rel => exact ⟨(i : Int) - 1, rfl, by omega, by omega, fun t h1 h2 => by
          by_cases h3 : t = i
          · subst h3; rw [HB.out]; exact hr
          · exact U.out t (by omega) h2, by first | trivial | rfl⟩
        case measure => simp [intOf] <;> omega
      · go_wp2
        go_ret
        exact ⟨_, rfl, ⟨j0, j1, U.out, fun _ => by rw [Int.toNat_natCast, HB.out]; omega⟩, rfl⟩
    · have U := Lib.hid hu
      clear hu
      go_wp2
      go_ret
      exact ⟨_, rfl, ⟨j0, j1, U.out, fun h => by omega⟩, rfl⟩
end Go.Proofs.Ytkgiaijcgblpbaa
