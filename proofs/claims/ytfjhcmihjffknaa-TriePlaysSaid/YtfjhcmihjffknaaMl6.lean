/-
  Package mail: several things are taken at once; a box that nobody made. No block turns but the box's own. No condition but that New made the box.
-/
import Derived.Test.YtfjhcmihjffknaaMailI4
import Derived.Test.YtfjhcmihjffknaaInts
import Derived.Deep.AppendLies
namespace Go.Proofs.Ytfjhcmihjffknaa
set_option linter.unusedVariables false
set_option linter.unusedSimpArgs false
open Go.ChangeShapes Go.WideShapes Go.ChangeAt Go.RowKit
attribute [local go_sem] alloc_drewN setCell_drewN

theorem own_on35 {w w' : World} {base n size : Nat} {e : TypeId} {v : Value} {xs : List Value} (ho : w.ownsRow base e size v n xs) (hb : ∀ j, v.ownBlock = some j → w'.heap[j]? = w.heap[j]?) : w'.ownsRow base e size v n xs := by
  refine ⟨ho.1, ?_⟩
  rcases ho.2 with hh | ⟨g, cap, cur, rfl, hb', hg, rest⟩
  · exact Or.inl hh
  · exact Or.inr ⟨g, cap, cur, rfl, hb', (hb g rfl).trans hg, rest⟩
/-- A row that lies apart from the box stands. -/
theorem Ints.mvs {w w' : World} {base : Nat} {v : Value} {xs : List Int} {S S' : Nat → Prop} (h : Ints w base v xs) (m : MvS w w' S S') (ha : ∀ j, S j → j < base) : Ints w' base v xs :=
  own_on35 h (fun j hj => m.block j (World.ownsRow.lt h j hj).2 (fun hs => by have := ha j hs; have := (World.ownsRow.lt h j hj).1; omega))
theorem MvS.grown35 {w w1 w2 : World} {S S' : Nat → Prop} {row : Option Nat} (m : MvS w w1 S S') (hg : w1.grownBy w2 row) (hr : ∀ k, row = some k → w.heap.size ≤ k) : MvS w w2 S S' := by
  have hb := (Below.refl w.heap.size w1).grown hg m.size hr
  exact ⟨hb.os.trans m.os, hb.tape.trans m.tape, hb.output.trans m.output, Nat.le_trans m.size hb.size, fun j hj hn => (hb.block j hj).trans (m.block j hj hn), m.own⟩
theorem MvS.alloc35 {w w1 : World} {S S' : Nat → Prop} (m : MvS w w1 S S') (o : Obj) : MvS w (w1.alloc o) S S' :=
  ⟨m.os, m.tape, m.output, Nat.le_trans m.size (by simp), fun j hj hn => (Below.heap_alloc w1 o j (Nat.lt_of_lt_of_le hj m.size)).trans (m.block j hj hn), m.own⟩
theorem drop_head (l : List Int) (i : Nat) (hi : i < l.length) : (l.drop i).headD 0 = l.getD i 0 ∧ l.drop i ≠ [] ∧ (l.drop i).tail = l.drop (i + 1) ∧ l.take i ++ [l.getD i 0] = l.take (i + 1) := by
  have e : l.drop i = l[i] :: l.drop (i + 1) := (List.drop_eq_getElem_cons hi)
  have g : l.getD i 0 = l[i] := by rw [List.getD_eq_getElem?_getD, List.getElem?_eq_getElem hi]; rfl
  have t : l.take i ++ [l[i]] = l.take (i + 1) := by rw [List.take_add_one, List.getElem?_eq_getElem hi]; rfl
  exact ⟨by rw [e, g]; rfl, by rw [e]; exact List.cons_ne_nil _ _, by rw [e]; rfl, by rw [g]; exact t⟩
set_option maxRecDepth 100000 in
set_option maxHeartbeats 2000000 in
theorem gsome {w : World} {ba B room : Nat} {sh : Bool} {l : List Int} {In : Nat → Prop} (h : BxGI w ba B room sh l In) (n : Int) : Calls Try.prog 17 #[.pointer (some ⟨B, 0, none⟩), .int .i64 n] w fun e w' => ∃ v, e = .returned v ∧ Ints w' w.heap.size v (l.take n.toNat) ∧ ∃ In', BxGI w' ba B room sh (l.drop n.toNat) In' ∧ MvS w w' In In' ∧ ∀ j, In' j → In j := by
  obtain ⟨j0, jif, jz0, jz1, jz2⟩ := info_parts infoInt
  have hle := h.le
  obtain ⟨k, hk⟩ : ∃ k : Nat, min n.toNat l.length = k := ⟨_, rfl⟩
  have HMK := Lib.hid (show k ≤ l.length ∧ (0 < n → (k : Int) ≤ n) ∧ (n ≤ 0 → k = 0) ∧ (n ≤ l.length → 0 < n → (k : Int) = n) ∧ ((l.length : Int) < n → k = l.length) by omega)
  have HT := Lib.hid (show l.take n.toNat = l.take k ∧ l.drop n.toNat = l.drop k by
    rcases Nat.le_total n.toNat l.length with h1 | h1
    · have e : k = n.toNat := by omega
      rw [e]; exact ⟨rfl, rfl⟩
    · have e : k = l.length := by omega
      rw [e, List.take_of_length_le h1, List.take_of_length_le (Nat.le_refl _), List.drop_of_length_le h1, List.drop_of_length_le (Nat.le_refl _)]
      exact ⟨rfl, rfl⟩)
  have LN := Lib.hid (glenI h)
  have H0 := Lib.hid h
  have HL := Lib.hid hle
  clear h hle hk
  go_enter Try.func17, Try.ntmps17
  go_wp2_with fail
  refine LN.out.mono ?_
  rintro e w0 ⟨rfl, rfl⟩
  go_wp2
  all_goals
    go_loopw [5, 12] (fun vl z wr => ∃ (i : Nat) (In1 : Nat → Prop), z = .int .i64 i ∧ i ≤ k ∧ Hid (Ints wr w.heap.size vl (l.take i)) ∧ Hid (BxGI wr ba B room sh (l.drop i) In1) ∧ Hid (MvS w wr In In1) ∧ Hid (∀ j, In1 j → In j)) (fun _ z _ => k - (intOf z).toNat)
    case atStart => exact ⟨0, In, rfl, Nat.zero_le _, Ints.nil _ _, H0, MvS.refl _ _, fun j hj => hj⟩
    case round =>
      obtain ⟨i, In1, rfl, hi, HU, HB, HM, HS⟩ := hrel
      by_cases hlt : i < k
      · obtain ⟨d1, d2, d3, d4⟩ := drop_head l i (by have := HMK.out; omega)
        have TK := gtakeI HB.out
        rw [d1, decide_eq_true d2, d3] at TK
        have TK := Lib.hid TK
        have D4 := Lib.hid d4
        have LE := Lib.hid (show (l.take i).length = i by rw [List.length_take]; have := HMK.out; omega)
        obtain ⟨ao, co, hve, -, -⟩ := HU.out.form
        rw [LE.out] at hve
        have z1 : (i : Int) < l.length := by have := HMK.out; omega
        have z2 : (i : Int) < n := by have := HMK.out; omega
        have KM := Lib.hid (show k ≤ 4096 by have := HL.out; have := HMK.out; omega)
        have hw1 : IntKind.i64.wrap ((i : Int) + 1) = (i : Int) + 1 := by rw [IntKind.wrap_i64]; have := KM.out; omega
        obtain ⟨y, hy⟩ : ∃ y, l.getD i 0 = y := ⟨_, rfl⟩
        rw [hy] at TK D4
        clear hy d1 d2 d3 d4
        subst hve
        go_wp2_with fail
        refine TK.out.mono ?_
        rintro e w2 ⟨rfl, In2, b2, m2, s2⟩
        have B2 := Lib.hid b2
        have M2 := Lib.hid (HM.out.trans m2)
        have S2 := Lib.hid (fun j hj => HS.out j (s2 j hj))
        have OT := Lib.hid (show w2.ownsRow w.heap.size 3 1 (.slice ao i co) i ((l.take i).map (Value.int .i64)) by
          have o := HU.out.mvs m2 (fun j hj => (H0.out.inlt (HS.out j hj)).2)
          unfold Ints at o
          rw [LE.out] at o
          exact o)
        clear b2 m2 s2 TK HB HM HS HU
        have Z2 := Lib.hid M2.out.size
        go_wp2_with (at_builtin; refine wpList_append_own_at _ rfl _ _ 30 rfl w.heap.size 3 j0 (.int .i64 0) 1 8 Try.underlying30 jif jz0 jz1 jz2 rfl (by decide) (.slice ao i co) _ _ rfl (OT.out.alloc _) ⟨w2.heap.size, 0, none⟩ 1 1 [.int .i64 y] rfl rfl (cells_one6 _ _ _) (fun x hx => by simp at hx; subst hx; rfl) (by have := KM.out; unfold maxLen; omega) (by have := KM.out; omega) (by have := Z2.out; simp; omega) ?_; intro v3 w3 ho3 hg3 hn3 hat3; clear hn3 hat3; have HO3 := Lib.hid ho3; have HG3 := Lib.hid hg3; clear ho3 hg3)
        have FIN := Lib.hid (show Ints w3 w.heap.size v3 (l.take i ++ [y]) from Ints.of_append (by rw [LE.out]; exact HO3.out))
        have hrow : ∀ r, (Value.slice ao i co).ownBlock = some r → w.heap.size ≤ r := fun r hr => (World.ownsRow.lt OT.out r hr).1
        have M3 := Lib.hid ((M2.out.alloc35 (.cells #[.int .i64 y] 3)).grown35 HG3.out hrow)
        have B3 := Lib.hid (B2.out.keep (fun j hj => by
          have h1 := B2.out.inlt hj
          have h2 := (H0.out.inlt (S2.out j hj)).2
          have h3 := (Below.refl w.heap.size (w2.alloc (.cells #[.int .i64 y] 3))).grown HG3.out (by have := Z2.out; simp; omega) hrow
          exact (h3.block j h2).trans (Below.heap_alloc w2 _ j h1.2)))
        clear HO3 HG3 OT hrow B2 M2
        go_wp2
        go_roundw
        case rel => exact ⟨i + 1, In2, by go_num, by omega, by rw [← D4.out]; exact FIN, B3, M3, S2⟩
        case measure => simp [intOf] <;> omega
      · have hik : i = k := by omega
        first | (have z1 : ¬ (i : Int) < l.length := by have := HMK.out; omega) | (have z1 : ¬ (i : Int) < n := by have := HMK.out; omega)
        go_wp2
        go_ret
        rw [HT.out.1, HT.out.2, ← hik]
        exact ⟨_, rfl, HU.out, In1, HB.out, HM.out, HS.out⟩
end Go.Proofs.Ytfjhcmihjffknaa
