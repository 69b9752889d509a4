/-
  Package admit: whatever is done with a gate, it stays one, and no more waits than may. Nothing turns below 'base'. No condition but that New made the gate.
-/
import Derived.Test.YtiogfgkfipekbaaAdm10
namespace Go.Proofs.Ytiogfgkfipekbaa
set_option linter.unusedVariables false
set_option linter.unusedSimpArgs false
open Go.ChangeShapes Go.WideShapes Go.ChangeAt Go.RowKit
attribute [local go_sem] alloc_drewN setCell_drewN

section
variable {w : World} {base G T : Nat} {room : Int} {v : Value} {es : List FeP} {bl : Int → Nat} {ds : Int → Dt} {c : Gc} {tp tb : Int}
set_option maxHeartbeats 1000000 in
theorem aout_flow (h : AdAt w base G T room v es bl ds c tp tb) (id n : Int) (hf : isF (es.map FeP.id) id = false) : Calls Try.prog 16 #[.pointer (some ⟨G, 0, none⟩), .int .u32 id, .int .u64 n] w fun e w' => e = .returned (.int .i64 13) ∧ Below w.heap.size w w' := by
  have MD := Lib.hid (amade h.gk)
  have GTH := Lib.hid (tget_noP h.tab id hf)
  obtain ⟨-, -, -, -, -, -, c6, -, -⟩ := h.gk.at
  clear hf h
  go_enter Try.func16, Try.ntmps16
  go_wp2_with fail
  refine MD.out.mono ?_
  rintro e w' ⟨rfl, hw'⟩
  rw [hw']
  clear hw'
  go_wp2_with fail
  refine GTH.out.mono ?_
  rintro e w1 ⟨rfl, b1_⟩
  have HB1 := Lib.hid b1_
  clear b1_ c6
  go_wp2
  go_ret
  exact ⟨rfl, HB1.out⟩
set_option maxHeartbeats 1000000 in
theorem aout_state (h : AdAt w base G T room v es bl ds c tp tb) (id n : Int) (hf : isF (es.map FeP.id) id = true) (hs : (ds id).pk = 0 ∨ (ds id).by_ < n) : Calls Try.prog 16 #[.pointer (some ⟨G, 0, none⟩), .int .u32 id, .int .u64 n] w fun e w' => e = .returned (.int .i64 9) ∧ Below w.heap.size w w' := by
  have MD := Lib.hid (amade h.gk)
  obtain ⟨hx, hd, hk⟩ := h.find hf
  have GT := tget_atP h.tab id hf
  rw [hx] at GT
  have GTH := Lib.hid GT
  have HD := Lib.hid hd
  obtain ⟨-, -, -, -, -, -, c6, -, -⟩ := h.gk.at
  clear GT hx hf h hd
  by_cases hp : (ds id).pk = 0
  · have gp : ((ds id).pk == 0) = true := by simp [hp]
    clear hp hs
    go_enter Try.func16, Try.ntmps16
    go_wp2_with fail
    refine MD.out.mono ?_
    rintro e w' ⟨rfl, hw'⟩
    rw [hw']
    clear hw'
    go_wp2_with fail
    refine GTH.out.mono ?_
    rintro e w1 ⟨rfl, b1_⟩
    have HB1 := Lib.hid b1_
    obtain ⟨d0, d1, d2, -, -⟩ := DtAt.at (show DtAt w1 (bl id) (ds id) from (b1_.block _ HD.out.lt).trans HD.out)
    clear b1_ c6
    go_wp2
    go_ret
    exact ⟨rfl, HB1.out⟩
  · have gp : ((ds id).pk == 0) = false := by simp [hp]
    have gb : decide ((ds id).by_ < n) = true := decide_eq_true (hs.resolve_left hp)
    clear hp hs
    go_enter Try.func16, Try.ntmps16
    go_wp2_with fail
    refine MD.out.mono ?_
    rintro e w' ⟨rfl, hw'⟩
    rw [hw']
    clear hw'
    go_wp2_with fail
    refine GTH.out.mono ?_
    rintro e w1 ⟨rfl, b1_⟩
    have HB1 := Lib.hid b1_
    obtain ⟨d0, d1, d2, -, -⟩ := DtAt.at (show DtAt w1 (bl id) (ds id) from (b1_.block _ HD.out.lt).trans HD.out)
    clear b1_ c6
    go_wp2
    go_ret
    exact ⟨rfl, HB1.out⟩
/-- A gate in which no more waits than may. -/
structure AdOk (w : World) (base G T : Nat) (room : Int) (v : Value) (es : List FeP) (bl : Int → Nat) (ds : Int → Dt) (c : Gc) (tp tb : Int) : Prop where
  at_ : AdAt w base G T room v es bl ds c tp tb
  own : ∀ e ∈ es, (ds e.id).by_ ≤ (ds e.id).most
  pk : tp ≤ c.pk
  by_ : tb ≤ c.by_
theorem AdOk.below {w' : World} (h : AdOk w base G T room v es bl ds c tp tb) (hb : Below w.heap.size w w') : AdOk w' base G T room v es bl ds c tp tb := ⟨h.at_.below hb, h.own, h.pk, h.by_⟩
/-- What is told of it: totals between nought and what may, each flow's own no more than its cap and the totals. -/
theorem AdOk.tells (h : AdOk w base G T room v es bl ds c tp tb) : 0 ≤ tp ∧ tp ≤ c.pk ∧ tb ≤ c.by_ ∧ ∀ e ∈ es, (ds e.id).by_ ≤ (ds e.id).most ∧ 0 ≤ (ds e.id).pk ∧ (ds e.id).pk ≤ tp ∧ (ds e.id).by_ ≤ tb := by
  have b0 : ∀ e ∈ es, 0 ≤ (ds e.id).by_ := fun e he => (h.at_.dat e he).2.2.2.2.1.1
  have t0 : 0 ≤ tp := by rw [h.at_.sp]; exact sumD_nn Dt.pk es ds h.at_.nn
  refine ⟨t0, h.pk, h.by_, fun e he => ⟨h.own e he, h.at_.nn e he, ?_, ?_⟩⟩
  · rw [h.at_.sp]; exact sumD_ge Dt.pk es ds h.at_.nn e he
  · rw [h.at_.sb]; exact sumD_ge Dt.by_ es ds b0 e he
theorem AdOk.more {w' : World} {id n : Int} (h : AdOk w base G T room v es bl ds c tp tb) (hr : roomC c (isF (es.map FeP.id) id) tp tb (ds id) n = 0) (n0 : 0 ≤ n) (h' : AdAt w' base G T room v es bl (updD ds id ((ds id).more n)) c (tp + 1) (tb + n)) : AdOk w' base G T room v es bl (updD ds id ((ds id).more n)) c (tp + 1) (tb + n) := by
  obtain ⟨-, r1, r2, r3, r4, r5⟩ := roomC_found hr
  refine ⟨h', fun e he => ?_, by omega, ?_⟩
  · by_cases hi : e.id = id
    · rw [hi, updD_at]
      show (ds id).by_ + n ≤ (ds id).most
      unfold sub0 at r5
      split at r5 <;> omega
    · rw [updD_ne _ _ hi]; exact h.own e he
  · unfold sub0 at r4
    split at r4 <;> omega
theorem AdOk.less {w' : World} {id n : Int} (h : AdOk w base G T room v es bl ds c tp tb) (n0 : 0 ≤ n) (h' : AdAt w' base G T room v es bl (updD ds id ((ds id).less n)) c (tp - 1) (tb - n)) : AdOk w' base G T room v es bl (updD ds id ((ds id).less n)) c (tp - 1) (tb - n) := by
  have a := h.pk; have b := h.by_
  refine ⟨h', fun e he => ?_, by omega, by omega⟩
  by_cases hi : e.id = id
  · rw [hi, updD_at]
    have := h.own e he
    rw [hi] at this
    show (ds id).by_ - n ≤ (ds id).most
    omega
  · rw [updD_ne _ _ hi]; exact h.own e he
/-- Whatever comes: it stays a gate. -/
theorem ain_any (h : AdOk w base G T room v es bl ds c tp tb) (hbase : base ≤ w.heap.size) (id n : Int) (n0 : 0 ≤ n) (n1 : n ≤ 18446744073709551615) : Calls Try.prog 14 #[.pointer (some ⟨G, 0, none⟩), .int .u32 id, .int .u64 n] w fun e w' => e = .returned (.int .i64 (mayC c (isF (es.map FeP.id) id) tp tb (ds id) n)) ∧ Below base w w' ∧ ∃ ds' tp' tb', AdOk w' base G T room v es bl ds' c tp' tb' ∧ ∀ e ∈ es, (ds' e.id).most = (ds e.id).most := by
  by_cases hr : mayC c (isF (es.map FeP.id) id) tp tb (ds id) n = 0
  · rw [hr]
    refine (ain_ok h.at_ hbase id n n0 n1 hr).mono ?_
    rintro e w' ⟨rfl, g, b⟩
    refine ⟨rfl, b, _, _, _, h.more (mayC_room hr) n0 g, fun e he => ?_⟩
    by_cases hi : e.id = id
    · rw [hi, updD_at]; rfl
    · rw [updD_ne _ _ hi]
  · refine (ain_no h.at_ id n n0 n1 hr).mono ?_
    rintro e w' ⟨rfl, b⟩
    exact ⟨rfl, b.mono hbase, ds, tp, tb, h.below b, fun e he => rfl⟩
theorem aout_any (h : AdOk w base G T room v es bl ds c tp tb) (hbase : base ≤ w.heap.size) (id n : Int) (n0 : 0 ≤ n) (n1 : n ≤ 18446744073709551615) : Calls Try.prog 16 #[.pointer (some ⟨G, 0, none⟩), .int .u32 id, .int .u64 n] w fun e w' => ∃ k : Int, e = .returned (.int .i64 k) ∧ Below base w w' ∧ ∃ ds' tp' tb', AdOk w' base G T room v es bl ds' c tp' tb' ∧ ∀ e ∈ es, (ds' e.id).most = (ds e.id).most := by
  cases hf : isF (es.map FeP.id) id with
  | false =>
    refine (aout_flow h.at_ id n hf).mono ?_
    rintro e w' ⟨rfl, b⟩
    exact ⟨13, rfl, b.mono hbase, ds, tp, tb, h.below b, fun e he => rfl⟩
  | true =>
    by_cases hs : (ds id).pk = 0 ∨ (ds id).by_ < n
    · refine (aout_state h.at_ id n hf hs).mono ?_
      rintro e w' ⟨rfl, b⟩
      exact ⟨9, rfl, b.mono hbase, ds, tp, tb, h.below b, fun e he => rfl⟩
    · refine (aout_ok h.at_ hbase id n n0 n1 hf (fun x => hs (Or.inl x)) (by omega)).mono ?_
      rintro e w' ⟨rfl, g, b⟩
      refine ⟨0, rfl, b, _, _, _, h.less n0 g, fun e he => ?_⟩
      by_cases hi : e.id = id
      · rw [hi, updD_at]; rfl
      · rw [updD_ne _ _ hi]
/-- In and out again: as it was. -/
theorem back_same (ds : Int → Dt) (id n : Int) : updD (updD ds id ((ds id).more n)) id ((updD ds id ((ds id).more n) id).less n) = ds := by
  funext x
  by_cases hx : x = id
  · subst hx
    rw [updD_at, updD_at]
    show (⟨(ds x).pk + 1 - 1, (ds x).by_ + n - n, (ds x).most⟩ : Dt) = ds x
    rw [show (ds x).pk + 1 - 1 = (ds x).pk by omega, show (ds x).by_ + n - n = (ds x).by_ by omega]
  · rw [updD_ne _ _ hx, updD_ne _ _ hx]
end
end Go.Proofs.Ytiogfgkfipekbaa
