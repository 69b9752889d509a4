/-
  Bytes that a call owns, and what package wire appends to them: a number in as few bytes as it takes. What lay below the heap's end stands, but for the row that is appended to.
-/
import Derived.Test.YtapjebhdgcpdjaaWireR4
import Derived.Maps.AppendAt
import Derived.Maps.Range
import Derived.Deep.AppendLies
import Derived.Lib.AppendStr
namespace Go.Proofs.Ytapjebhdgcpdjaa
set_option linter.unusedVariables false
set_option linter.unusedSimpArgs false
open Go.ChangeShapes Go.WideShapes Go.ChangeAt Go.RowKit
attribute [-go_sem] run_index_string binOp_string_eql binOp_string_neq run_string_add_if run_slice_string_from_if run_slice_string_to_if
attribute [local go_sem] index_bt add_fits slice_from slice_to eql_str neq_str alloc_drewN setCell_drewN

/-- A slice of bytes that the call owns: a string's bytes. -/
def Own (w : World) (base : Nat) (v : Value) (t : ByteArray) : Prop := w.ownsRow base 5 1 v t.size (Lib.strCells t)
/-- What an append leaves: all but the row that was appended to; the new row is that row or lies behind. -/
structure Kin (w w' : World) (v v' : Value) : Prop where
  grown : w.grownBy w' v.ownBlock
  own : ∀ j, v'.ownBlock = some j → w.heap.size ≤ j ∨ v.ownBlock = some j
theorem Kin.refl (w : World) (v : Value) : Kin w w v v := ⟨⟨rfl, rfl, rfl, Nat.le_refl _, fun _ _ _ => rfl⟩, fun j h => Or.inr h⟩
theorem Kin.trans {a b c : World} {u v x : Value} (h : Kin a b u v) (k : Kin b c v x) : Kin a c u x :=
  ⟨h.grown.andThen k.grown h.own, fun j hj => by
    rcases k.own j hj with h1 | h1
    · exact Or.inl (Nat.le_trans h.grown.size h1)
    · exact h.own j h1⟩
theorem Kin.alloc {w w' : World} {v v' : Value} (o : Obj) (h : (w.alloc o).grownBy w' v.ownBlock) (k : v'.ownBlock = v.ownBlock ∨ v'.ownBlock = some (w.alloc o).heap.size) : Kin w w' v v' :=
  ⟨(World.grownBy_alloc w o v.ownBlock).andThen h (fun j hj => Or.inr hj), fun j hj => by
    rcases k with k | k
    · exact Or.inr (by rw [← k]; exact hj)
    · left
      rw [k] at hj
      simp at hj
      omega⟩
theorem strCells_add (t : ByteArray) (x : Int) (x0 : 0 ≤ x) (x1 : x ≤ 255) : Lib.strCells (t ++ chrs [x]) = Lib.strCells t ++ [.int .u8 x] := by
  unfold Lib.strCells
  rw [ByteArray.data_append, Array.toList_append, List.map_append]
  congr 1
  show [Value.int .u8 ((UInt8.ofNat x.toNat).toNat : Int)] = _
  rw [byte_of x x0 x1]
theorem strCells_append (s t : ByteArray) : Lib.strCells (s ++ t) = Lib.strCells s ++ Lib.strCells t := by
  unfold Lib.strCells
  rw [ByteArray.data_append, Array.toList_append, List.map_append]
theorem or_more (x : Int) (x0 : 0 ≤ x) (x1 : x ≤ 255) : bits .or .u8 x 128 = 128 + x % 128 := by
  have h : ∀ y : Fin 256, bits .or .u8 (y.val : Int) 128 = 128 + (y.val : Int) % 128 := by decide +kernel
  have := h ⟨x.toNat, by omega⟩
  simp only at this
  rw [Int.toNat_of_nonneg x0] at this
  exact this

set_option maxRecDepth 100000 in
set_option maxHeartbeats 1000000 in
theorem putVar_any (base : Nat) (v : Value) (t : ByteArray) (n : Int) (n0 : 0 ≤ n) (n1 : n ≤ 18446744073709551615) (ht : t.size ≤ 1000000000) (w : World) (hb : base ≤ w.heap.size) (hown : Own w base v t) :
    Calls Try.prog 121 #[v, .int .u64 n] w fun e w' => ∃ v', e = .returned v' ∧ Own w' base v' (t ++ fw n) ∧ Kin w w' v v' := by
  obtain ⟨i0, hi, hz0, hz1, hz2⟩ := info_parts infoU8
  have HO := Lib.hid hown; clear hown
  have N0 := Lib.hid n0; have N1 := Lib.hid n1
  go_enter Try.func121, Try.ntmps121
  go_wp2
  go_loopw [0, 1] (fun x y wr => ∃ (m : Nat) (u : ByteArray) (z : Int), y = .int .u64 z ∧ 0 ≤ z ∧ z ≤ 18446744073709551615 ∧ z < 128 ^ (m + 1) ∧ m ≤ 9 ∧ u.size + m ≤ t.size + 9 ∧ Own wr base x u ∧ u ++ fewN m z = t ++ fw n ∧ Kin w wr v x) (fun _ y _ => (intOf y).toNat)
  case atStart => exact ⟨9, t, n, rfl, n0, n1, by omega, by omega, by omega, HO.out, rfl, Kin.refl _ _⟩
  case round =>
    obtain ⟨m, u, z, rfl, z0, z1, hzm, hm, hsz, ho, heq, hk⟩ := hrel
    have hsize := hk.grown.size
    have hbr : base ≤ wr.heap.size := Nat.le_trans hb hsize
    unfold Own at ho
    have HEQ := Lib.hid heq; have HK := Lib.hid hk; have HZM := Lib.hid hzm
    clear heq hk hzm
    by_cases hl : z < 128
    · have x1 : z ≤ 255 := by omega
      have ew : IntKind.u8.wrap z = z := by rw [IntKind.wrap_u8]; omega
      have ef : Hid (fewN m z = chrs [z]) := Lib.hid (by
        cases m with
        | zero => rfl
        | succ m => unfold fewN; rw [if_pos hl])
      go_wp2_with (at_builtin; refine wpList_append_own_at _ rfl _ _ 114 rfl base 5 i0 (.int .u8 0) 1 1 Try.underlying114 hi hz0 hz1 hz2 rfl (by decide) _ _ _ rfl (ho.alloc _) ⟨wr.heap.size, 0, none⟩ 1 1 [.int .u8 z] rfl rfl (cells_new _ _ _) (fun x hx => by simp at hx; subst hx; rfl) (by unfold maxLen; omega) (by omega) (by simp; omega) ?_; intro v' w3 hown' hgrow3 hnil3 hat3; clear hnil3)
      go_ret
      refine ⟨v', rfl, ?_, HK.out.trans (Kin.alloc _ hgrow3 hat3)⟩
      rw [← HEQ.out, ef.out]
      unfold Own
      rw [strCells_add _ _ z0 x1, ByteArray.size_append, chrs_size]
      exact hown'
    · have x0 : 0 ≤ 128 + z % 128 := by omega
      have x1 : 128 + z % 128 ≤ 255 := by omega
      have eo : bits .or .u8 (z % 256) 128 = 128 + z % 128 := by rw [or_more _ (by omega) (by omega)]; omega
      have ew : IntKind.u8.wrap z = z % 256 := IntKind.wrap_u8 z
      obtain ⟨m, rfl⟩ : ∃ m', m = m' + 1 := ⟨m - 1, by
        have : m ≠ 0 := by
          rintro rfl
          have := HZM.out
          omega
        omega⟩
      have ef : Hid (fewN (m + 1) z = chrs [128 + z % 128] ++ fewN m (z / 128)) := Lib.hid (by
        show (if z < 128 then chrs [z] else _) = _
        rw [if_neg hl])
      have hd : Hid (z / 128 < 128 ^ (m + 1)) := Lib.hid (Int.ediv_lt_of_lt_mul (by decide) (by
        have := HZM.out
        rw [Int.pow_succ] at this
        exact this))
      generalize hx : 128 + z % 128 = x at *
      go_wp2_with (at_builtin; refine wpList_append_own_at _ rfl _ _ 114 rfl base 5 i0 (.int .u8 0) 1 1 Try.underlying114 hi hz0 hz1 hz2 rfl (by decide) _ _ _ rfl (ho.alloc _) ⟨wr.heap.size, 0, none⟩ 1 1 [.int .u8 x] rfl rfl (cells_new _ _ _) (fun x hx => by simp at hx; subst hx; rfl) (by unfold maxLen; omega) (by omega) (by simp; omega) ?_; intro v' w3 hown' hgrow3 hnil3 hat3; clear hnil3)
      go_roundw
      case rel => exact ⟨m, u ++ chrs [x], z / 128, rfl, by omega, by omega, hd.out, by omega, by rw [ByteArray.size_append, chrs_size]; simp; omega, by
        unfold Own
        rw [strCells_add _ _ x0 x1, ByteArray.size_append, chrs_size]
        exact hown', by
        rw [ByteArray.append_assoc, ← ef.out]
        exact HEQ.out, HK.out.trans (Kin.alloc _ hgrow3 hat3)⟩
      case measure => simp [intOf]; omega
end Go.Proofs.Ytapjebhdgcpdjaa
