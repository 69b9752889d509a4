/-
  What package wire appends to bytes that the call owns, for a field that is right. What lay below the row's ground stands.
-/
import Derived.Test.YtapjebhdgcpdjaaWireP1
import Derived.Deep.RegionHeld3
namespace Go.Proofs.Ytapjebhdgcpdjaa
set_option linter.unusedVariables false
set_option linter.unusedSimpArgs false
open Go.ChangeShapes Go.WideShapes Go.ChangeAt Go.RowKit
attribute [-go_sem] run_index_string binOp_string_eql binOp_string_neq run_string_add_if run_slice_string_from_if run_slice_string_to_if
attribute [local go_sem] index_bt add_fits slice_from slice_to eql_str neq_str alloc_drewN setCell_drewN

theorem step_append_str {P : Program} {ops : Array Oper} {o : Oper} {a : Act} {w : World} {K : Act → World → Prop} {Q : Exit → Act → World → Prop} {E : Prop}
    (hgd : o.guard = none) (sl x : Operand) (t u : TypeId) (ho : o.op = .call { callee := .builtin .append, args := #[sl, x], argTypes := #[t, u] })
    (base : Nat) (e : TypeId) (i : TypeInfo) (ht : P.underlying t = some (.slice e)) (hu : P.underlying u = some .string) (hi : P.info? e = some i) (hz : i.zero = some (.int .u8 0))
    (hsize : i.size = 1) (hby : i.bytes = 1)
    (v : Value) (n : Nat) (xs : List Value) (hs : a.eval sl = v) (hown : w.ownsRow base e 1 v n xs) (s : ByteArray) (hx : a.eval x = .string s)
    (h63 : n + s.size ≤ maxLen) (hbytes : n + s.size ≤ 140737488355328) (hbase : base ≤ w.heap.size)
    (h : ∀ v' w', w'.ownsRow base e 1 v' (n + s.size) (xs ++ Lib.strCells s) → w.grownBy w' v.ownBlock → K (a.put o.dst v') w') :
    if Region.wanted o (yielded ops a.tmps) = true then Oper.wp P o a w K Q else E := by
  have hw : Region.wanted o (yielded ops a.tmps) = true := by simp [Region.wanted, hgd]
  rw [if_pos hw]
  obtain ⟨v', w', hr, h2, h3, h4⟩ := Lib.run_append_own_string (P := P) w base t u o.type e i ht hu hi hz hsize hby v n xs hown s h63 hbytes hbase
  unfold Oper.wp execOp
  simp only [ho, resolve, invoke, builtin, Sem.run_bind, Sem.run_pure, Result.andThen_ok, List.map_toArray, List.map_cons, List.map_nil, hs, hx, hr]
  exact h v' w' h2 h3

theorem Own.below {w w' : World} {base : Nat} {v : Value} {t : ByteArray} (h : Own w base v t) (hb : base ≤ w.heap.size) (hg : w.grownBy w' v.ownBlock) : Below base w w' :=
  (Below.refl base w).grown hg hb (fun k hk => (World.ownsRow.lt h k hk).1)
theorem hib_top (n : Int) (z j : Nat) : hib (n / 256 ^ j) (z + 1) = hib (n / 256 ^ (j + 1)) z ++ chrs [n / 256 ^ j % 256] := by
  show hib (n / 256 ^ j / 256) z ++ _ = _
  rw [div_step]

set_option maxRecDepth 100000 in
set_option maxHeartbeats 1000000 in
theorem put_any (base : Nat) (v : Value) (t : ByteArray) (k n : Int) (s : ByteArray) (k0 : -9223372036854775808 ≤ k) (k1 : k ≤ 9223372036854775807) (n0 : 0 ≤ n) (n1 : n ≤ 18446744073709551615) (he : er ⟨k, n, s⟩ = 0) (ht : t.size ≤ 1000000000 - 100) (w : World) (hb : base ≤ w.heap.size) (hown : Own w base v t) :
    Calls Try.prog 106 #[v, .agg #[.int .i64 k, .int .u64 n, .string s]] w fun e w' => ∃ v', e = .returned v' ∧ Own w' base v' (t ++ enc ⟨k, n, s⟩) ∧ Below base w w' := by
  obtain ⟨i0, hi, hz0, hz1, hz2⟩ := info_parts infoU8
  obtain ⟨r1, r6, rs, rn, rt, rb⟩ := er_range _ he
  have r1 : 1 ≤ k := r1
  have r6 : k ≤ 6 := r6
  have rs : s.size ≤ 65535 := rs
  clear rn rt he
  have hoA : Own (w.alloc (.cells #[.int .i64 k, .int .u64 n, .string s] 158)) base v t := World.ownsRow.alloc hown _
  have hlt := World.ownsRow.lt hown
  have HLT := Lib.hid hlt
  have HOA := Lib.hid hoA
  have HB : Hid (Below base w (w.alloc (.cells #[.int .i64 k, .int .u64 n, .string s] 158))) := Lib.hid ((Below.refl base w).alloc hb _)
  have hbA : base ≤ (w.alloc (.cells #[.int .i64 k, .int .u64 n, .string s] 158)).heap.size := by simp; omega
  have HBA := Lib.hid hbA
  clear hlt hoA hown hbA
  by_cases h5 : k = 5
  · subst h5
    have e : enc ⟨5, n, s⟩ = fw n := rfl
    rw [e]
    go_enter Try.func106, Try.ntmps106
    go_wp2_with fail
    refine (putVar_any base v t n n0 n1 (by omega) _ HBA.out HOA.out).mono ?_
    rintro e w2 ⟨v', rfl, ho2, hk2⟩
    go_wp2
    go_ret
    exact ⟨v', rfl, ho2, HB.out.trans (HOA.out.below HBA.out hk2.grown)⟩
  · have g5 : (k == 5) = false := by simp [h5]
    by_cases h6 : k = 6
    · subst h6
      have e : enc ⟨6, n, s⟩ = fw s.size ++ s := rfl
      rw [e]
      have gw : IntKind.u64.wrap (s.size : Int) = (s.size : Int) := by rw [IntKind.wrap_u64]; omega
      have hfz := fw_size (s.size : Int)
      have K1 : Hid (∀ w2 v', Kin (w.alloc (.cells #[.int .i64 6, .int .u64 n, .string s] 158)).drew w2 v v' → w2.cell? ⟨w.heap.size, 2, none⟩ = some (.string s)) := Lib.hid fun w2 v' h =>
        (h.grown.cell_far (⟨w.heap.size, 2, none⟩ : Addr) (by simp) (fun h => by have := HLT.out _ h.symm; simp at this)).trans (by simp [go_sem])
      have K2 : Hid (∀ w2 v' w3, Kin (w.alloc (.cells #[.int .i64 6, .int .u64 n, .string s] 158)).drew w2 v v' → w2.grownBy w3 v'.ownBlock → w3.cell? ⟨w.heap.size, 2, none⟩ = some (.string s)) := Lib.hid fun w2 v' w3 h hg =>
        (hg.cell_far (⟨w.heap.size, 2, none⟩ : Addr) (by have := h.grown.size; simp at this ⊢; omega) (fun hh => by
          rcases h.own _ hh.symm with h1 | h1
          · have h3 : (w.alloc (.cells #[.int .i64 6, .int .u64 n, .string s] 158)).heap.size ≤ w.heap.size := h1
            rw [show (w.alloc (.cells #[.int .i64 6, .int .u64 n, .string s] 158)).heap.size = w.heap.size + 1 by simp] at h3
            omega
          · have := HLT.out _ h1; simp at this)).trans (K1.out w2 v' h)
      have HZ : Hid (∀ w2 v', Kin (w.alloc (.cells #[.int .i64 6, .int .u64 n, .string s] 158)).drew w2 v v' → base ≤ w2.heap.size) := Lib.hid fun w2 v' h => by
        have h1 := h.grown.size; have h2 := HBA.out; simp at h1 h2; omega
      have HOD : Hid (Own (w.alloc (.cells #[.int .i64 6, .int .u64 n, .string s] 158)).drew base v t) := Lib.hid HOA.out
      have PV := Lib.hid (putVar_any base v t (s.size : Int) (by omega) (by omega) (by omega) (w.alloc (.cells #[.int .i64 6, .int .u64 n, .string s] 158)).drew HBA.out HOD.out)
      go_enter Try.func106, Try.ntmps106
      go_wp2
      go_region_held3 (fun x => x.cell? ⟨w.heap.size, 2, none⟩ = some (.string s)) ((first | assumption | exact K2.out _ _ _ hk2 hg3 | exact K1.out _ _ hk2 | (simp [go_sem]; done) | fail))
        (first
          | (go_at_call 121; refine PV.out.mono ?_; rintro e w2 ⟨v', rfl, ho2, hk2⟩)
          | (refine step_append_str (by rfl) _ _ 114 9 (by rfl) base 5 i0 Try.underlying114 Try.underlying9 hi hz0 hz1 hz2 v' (t ++ fw s.size).size (Lib.strCells (t ++ fw s.size)) (by rfl) ho2 s (by rfl) (by rw [ByteArray.size_append]; unfold maxLen; omega) (by rw [ByteArray.size_append]; omega) (HZ.out _ _ hk2) ?_; intro v3 w3 ho3 hg3)
          | fail)
      go_wp2
      go_ret
      refine ⟨v3, rfl, ?_, ?_⟩
      · unfold Own
        rw [← ByteArray.append_assoc, strCells_append (t ++ fw s.size) s, ByteArray.size_append (a := t ++ fw s.size)]
        exact ho3
      · exact ((HB.out.drew.trans (HOD.out.below HBA.out hk2.grown))).trans (Own.below ho2 (HZ.out _ _ hk2) hg3)
    · have g6 : (k == 6) = false := by simp [h6]
      have e : enc ⟨k, n, s⟩ = hib n (wk k) := by unfold enc; rw [if_neg h6, if_neg h5]
      rw [e]
      have hz : 1 ≤ wk k ∧ wk k ≤ 8 := by unfold wk; (repeat' split) <;> omega
      have WD := Lib.hid (fun w => width_any k r1 (by omega) w)
      clear e rb h5 h6
      generalize wk k = z at *
      have B0 : Hid (∀ x, Below (w.alloc (.cells #[.int .i64 k, .int .u64 n, .string s] 158)).heap.size (w.alloc (.cells #[.int .i64 k, .int .u64 n, .string s] 158)) x → x.cell? ⟨w.heap.size, 1, none⟩ = some (.int .u64 n)) := Lib.hid fun x hx => (field_cells w k n s _ x hx).2.1
      have hc0 := B0.out _ (Below.refl _ _)
      have he0 : t ++ hib (n / 256 ^ z) (z - z) = t := by
        rw [Nat.sub_self]
        show t ++ ⟨#[]⟩ = t
        exact str_ext (by rw [ByteArray.size_append]; rfl) fun i hi => by
          rw [bt_append]
          split
          · rfl
          · rename_i h; rw [ByteArray.size_append] at hi; exact absurd hi (by show ¬ i < t.size + 0; omega)
      have HE0 := Lib.hid he0; clear he0
      have hno : Hid (v.ownBlock ≠ some w.heap.size) := Lib.hid fun h => by have := HLT.out _ h; omega
      go_enter Try.func106, Try.ntmps106
      go_wp2_with fail
      refine (WD.out _).mono ?_
      rintro e w' ⟨rfl, rfl⟩
      go_wp2
      go_loopw [0, 5] (fun x y wr => ∃ j : Nat, j ≤ z ∧ y = .int .i64 ((j : Int) - 1) ∧ Own wr base x (t ++ hib (n / 256 ^ j) (z - j)) ∧ wr.cell? ⟨w.heap.size, 1, none⟩ = some (.int .u64 n) ∧ x.ownBlock ≠ some w.heap.size ∧ w.heap.size < wr.heap.size ∧ Below base w wr) (fun _ y _ => (1 + intOf y).toNat)
      case atStart => exact ⟨z, Nat.le_refl _, rfl, by rw [HE0.out]; exact HOA.out, hc0, hno.out, by simp, HB.out⟩
      case round =>
        obtain ⟨j, hj, rfl, ho, hc, hne, hlt, hbw⟩ := hrel
        have HNE := Lib.hid hne; have HBW := Lib.hid hbw
        clear hne hbw hc0
        match j with
        | 0 =>
          go_wp2
          go_ret
          refine ⟨_, rfl, ?_, HBW.out⟩
          rw [Int.pow_zero, Int.ediv_one] at ho
          exact ho
        | j + 1 =>
          have e1 : ((j + 1 : Nat) : Int) - 1 = (j : Int) := by omega
          rw [e1]
          clear e1
          have ht := hib_top n (z - (j + 1)) j
          have hzz : z - (j + 1) + 1 = z - j := by omega
          rw [hzz] at ht
          have HT := Lib.hid ht; clear ht
          obtain ⟨q0, q1⟩ := div_bd n j n0 n1
          have e2 : n / 2 ^ (8 * j) = n / 256 ^ j := by rw [Int.pow_mul]; rfl
          have x0 : 0 ≤ n / 256 ^ j % 256 := by omega
          have x1 : n / 256 ^ j % 256 ≤ 255 := by omega
          have hsz : (t ++ hib (n / 256 ^ (j + 1)) (z - (j + 1))).size + 1 ≤ 1000000000 := by rw [ByteArray.size_append, hib_size]; omega
          unfold Own at ho
          generalize hxx : n / 256 ^ j % 256 = xx at *
          generalize huu : t ++ hib (n / 256 ^ (j + 1)) (z - (j + 1)) = uu at *
          have HUU := Lib.hid huu; clear huu
          have hbb : base ≤ wr.heap.size := by have := HBW.out.size; omega
          go_wp2_with (at_builtin; refine wpList_append_own_at _ rfl _ _ 114 rfl base 5 i0 (.int .u8 0) 1 1 Try.underlying114 hi hz0 hz1 hz2 rfl (by decide) _ _ _ rfl (ho.alloc _) ⟨wr.heap.size, 0, none⟩ 1 1 [.int .u8 xx] rfl rfl (cells_new _ _ _) (fun x hx => by simp at hx; subst hx; rfl) (by unfold maxLen; omega) (by omega) (by simp; omega) ?_; intro v' w3 hown' hgrow3 hnil3 hat3; clear hnil3)
          have hlt3 := hgrow3.size
          go_roundw
          case rel =>
            refine ⟨j, by omega, rfl, ?_, ?_, ?_, ?_, ?_⟩
            · rw [HT.out, ← ByteArray.append_assoc, HUU.out]
              unfold Own
              rw [strCells_add _ _ x0 x1, ByteArray.size_append, chrs_size]
              exact hown'
            · exact (hgrow3.cell_far (⟨w.heap.size, 1, none⟩ : Addr) (by simp; omega) (fun h => HNE.out h.symm)).trans (by simp [go_sem, hlt, hc])
            · rcases hat3 with h | h
              · rw [h]; exact HNE.out
              · rw [h]; simp; omega
            · simp at hlt3; omega
            · exact HBW.out.trans ((((Below.refl base wr).alloc hbb _)).grown hgrow3 (by simp; omega) (fun g hg => (World.ownsRow.lt ho g hg).1))
          case measure => simp [intOf] <;> omega
end Go.Proofs.Ytapjebhdgcpdjaa
