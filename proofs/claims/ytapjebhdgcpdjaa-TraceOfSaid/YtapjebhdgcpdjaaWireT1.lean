/-
  The fields that a string begins with, one kind after the other, by package wire; for at most two hundred kinds. What lay below the heap's end stands.
-/
import Derived.Test.YtapjebhdgcpdjaaWireP3
namespace Go.Proofs.Ytapjebhdgcpdjaa
set_option linter.unusedVariables false
set_option linter.unusedSimpArgs false
open Go.ChangeShapes Go.WideShapes Go.ChangeAt Go.RowKit
attribute [-go_sem] run_index_string binOp_string_eql binOp_string_neq run_string_add_if run_slice_string_from_if run_slice_string_to_if
attribute [local go_sem] index_bt add_fits slice_from slice_to eql_str neq_str alloc_drewN setCell_drewN

/-- The fields that a string begins with, from a place on: the fields, the place behind them, what is wrong. -/
def tl (s : ByteArray) : List Int → Nat → List Fd × Nat × Int
  | [], d => ([], d, 0)
  | k :: ks, d =>
    if (tk (s.extract d s.size) k).2.2 ≠ 0 then ([], 0, (tk (s.extract d s.size) k).2.2)
    else if (tl s ks (d + (tk (s.extract d s.size) k).2.1)).2.2 ≠ 0 then ([], 0, (tl s ks (d + (tk (s.extract d s.size) k).2.1)).2.2)
    else ((tk (s.extract d s.size) k).1 :: (tl s ks (d + (tk (s.extract d s.size) k).2.1)).1, (tl s ks (d + (tk (s.extract d s.size) k).2.1)).2.1, 0)
/-- Fields that were had ahead of others. -/
def ahead (fl : List Fd) (q : List Fd × Nat × Int) : List Fd × Nat × Int := if q.2.2 ≠ 0 then ([], 0, q.2.2) else (fl ++ q.1, q.2.1, 0)
theorem tl_ahead (s : ByteArray) (ks : List Int) (d : Nat) : ahead [] (tl s ks d) = tl s ks d := by
  unfold ahead
  cases ks with
  | nil => rfl
  | cons k ks =>
    unfold tl
    by_cases h : (tk (s.extract d s.size) k).2.2 ≠ 0
    · simp only [if_pos h]
    · simp only [if_neg h]
      by_cases h2 : (tl s ks (d + (tk (s.extract d s.size) k).2.1)).2.2 ≠ 0
      · simp only [if_pos h2]
      · simp only [if_neg h2]
        rfl
theorem tl_step (s : ByteArray) (ks : List Int) (k : Int) (d : Nat) (fl : List Fd) :
    (¬ (tk (s.extract d s.size) k).2.2 = 0 → ahead fl (tl s (k :: ks) d) = ([], 0, (tk (s.extract d s.size) k).2.2)) ∧
    ((tk (s.extract d s.size) k).2.2 = 0 → ahead fl (tl s (k :: ks) d) = ahead (fl ++ [(tk (s.extract d s.size) k).1]) (tl s ks (d + (tk (s.extract d s.size) k).2.1))) := by
  constructor
  · intro h
    have e : tl s (k :: ks) d = ([], 0, (tk (s.extract d s.size) k).2.2) := by
      show (if _ then _ else _) = _
      rw [if_pos h]
    rw [e]
    unfold ahead
    rw [if_pos h]
  · intro h
    have e : tl s (k :: ks) d = (if (tl s ks (d + (tk (s.extract d s.size) k).2.1)).2.2 ≠ 0 then ([], 0, (tl s ks (d + (tk (s.extract d s.size) k).2.1)).2.2)
      else ((tk (s.extract d s.size) k).1 :: (tl s ks (d + (tk (s.extract d s.size) k).2.1)).1, (tl s ks (d + (tk (s.extract d s.size) k).2.1)).2.1, 0)) := by
      show (if _ then _ else _) = _
      rw [if_neg (fun hn => hn h)]
    rw [e]
    unfold ahead
    by_cases h2 : (tl s ks (d + (tk (s.extract d s.size) k).2.1)).2.2 ≠ 0
    · simp only [if_pos h2]
    · simp only [if_neg h2]
      rw [if_neg (by simp), List.append_assoc]
      rfl
theorem tk_le (s : ByteArray) (k : Int) (h : (tk s k).2.2 = 0) : (tk s k).2.1 ≤ s.size := by
  have hr := sv_range s
  unfold tk at *
  split
  · rename_i h1; rw [if_pos h1] at h; simp at h
  · rename_i h1; rw [if_neg h1] at h
    split
    · rename_i h2; rw [if_pos h2] at h
      split
      · exact Nat.zero_le _
      · rename_i h3; exact Nat.le_of_not_lt h3
    · rename_i h2; rw [if_neg h2] at h
      split
      · rename_i h3; rw [if_pos h3] at h
        have h : (sv s).2.2 = 0 := h
        rcases hr.1 with hh | hh
        · exact hh.2.2.1
        · rcases hh.2.2 with h4 | h4 <;> omega
      · split
        · exact Nat.zero_le _
        · rename_i h4
          split
          · exact Nat.zero_le _
          · split
            · exact Nat.zero_le _
            · rename_i h6
              have h4 : (sv s).2.2 = 0 := Classical.byContradiction h4
              have hc : (sv s).2.1 ≤ s.size := by
                rcases hr.1 with hh | hh
                · exact hh.2.2.1
                · rcases hh.2.2 with h5 | h5 <;> omega
              show (sv s).2.1 + (sv s).1.toNat ≤ s.size
              omega
theorem getD_mem (zs : List Int) (k : Nat) (h : k < zs.length) : zs.getD k 0 ∈ zs := by
  rw [List.getD_eq_getElem?_getD, List.getElem?_eq_getElem h]; exact List.getElem_mem _
theorem cells_new2 (w : World) (o : Obj) (l : Array Value) (t : TypeId) : ∀ j u, l.toList[j]? = some u → ((w.alloc o).alloc (.cells l t)).cell? ((⟨w.heap.size + 1, 0, none⟩ : Addr).add j) = some u := by
  intro j u h
  have := cells_new (w.alloc o) l t j u h
  have hs : (w.alloc o).heap.size = w.heap.size + 1 := by simp
  rw [hs] at this
  exact this
/-- A field's cells. -/
def Fd.cells (f : Fd) : List Value := [.int .i64 f.k, .int .u64 f.n, .string f.s]
theorem infoF : (Try.prog.info? 158).map (fun i => (i.zero, i.size, i.bytes)) = some (some (.agg #[.int .i64 0, .int .u64 0, .string ⟨#[]⟩]), 3, 32) := by kernel_rfl

set_option maxRecDepth 100000 in
set_option maxHeartbeats 1000000 in
theorem Take_at (s : ByteArray) (b off c : Nat) (ks : List Int) (hs : s.size ≤ 100000000) (hn : ks.length ≤ 200) (hok : ∀ x ∈ ks, -9223372036854775808 ≤ x ∧ x ≤ 9223372036854775807) (w : World) (hb : b < w.heap.size)
    (hc : ∀ i, i < ks.length → w.cell? ⟨b, off + i, none⟩ = some (.int .i64 (ks.getD i 0))) :
    Calls Try.prog 89 #[.string s, .slice (some ⟨b, off, none⟩) ks.length c] w fun e w' => ∃ v, e = .returned (.tuple #[v, .int .i64 ((tl s ks 0).2.1 : Nat), .int .i64 (tl s ks 0).2.2]) ∧
      w'.ownsRow w.heap.size 158 3 v (tl s ks 0).1.length ((tl s ks 0).1.flatMap Fd.cells) ∧ Below w.heap.size w w' := by
  obtain ⟨i0, hi, hz0, hz1, hz2⟩ := info_parts infoF
  have HC := Lib.hid hc; have HOK := Lib.hid hok
  clear hc hok
  obtain ⟨r, hr0⟩ : ∃ r, tl s ks 0 = r := ⟨_, rfl⟩
  have T0 : Hid (ahead [] (tl s (ks.drop 0) 0) = r) := Lib.hid ((tl_ahead s ks 0).trans hr0)
  rw [hr0]
  clear hr0
  go_enter Try.func89, Try.ntmps89
  go_wp2
  go_loopw [7, 8, 16] (fun x y z wr => ∃ (v : Value) (k d : Nat) (fl : List Fd), v = x ∧ k ≤ ks.length ∧ z = .int .i64 k ∧ y = .int .i64 d ∧ d ≤ s.size ∧ fl.length = k ∧ ahead fl (tl s (ks.drop k) d) = r ∧ wr.ownsRow w.heap.size 158 3 v fl.length (fl.flatMap Fd.cells) ∧ Below w.heap.size w wr) (fun _ _ z _ => ks.length - (intOf z).toNat)
  case atStart => exact ⟨_, 0, 0, [], rfl, Nat.zero_le _, rfl, rfl, Nat.zero_le _, rfl, T0.out, World.ownsRow_nil _ _ _ _, Below.refl _ _⟩
  case round =>
    obtain ⟨v, k, d, fl, rfl, hk, rfl, rfl, hd, hfl, hr, ho, hbw⟩ := hrel
    have hsize := hbw.size
    by_cases hlt : k < ks.length
    · have ck := (hbw.cell (p := ⟨b, off + k, none⟩) hb).trans (HC.out k hlt)
      obtain ⟨q0, q1⟩ := HOK.out (ks.getD k 0) (getD_mem ks k hlt)
      have hdrop : ks.drop k = ks.getD k 0 :: ks.drop (k + 1) := by
        rw [List.drop_eq_getElem_cons hlt, List.getD_eq_getElem?_getD, List.getElem?_eq_getElem hlt]; rfl
      rw [hdrop] at hr
      have hin : InS s (d : Int) := ⟨by omega⟩
      have hxs : (s.extract d s.size).size = s.size - d := size_ext _ _ _ (Nat.le_refl _)
      have TS := Lib.hid (tl_step s (ks.drop (k + 1)) (ks.getD k 0) d fl)
      have HR := Lib.hid hr
      have TLE := Lib.hid (tk_le (s.extract d s.size) (ks.getD k 0))
      have TA := Lib.hid (fun w => take_any (s.extract d s.size) (ks.getD k 0) (by omega) q0 q1 w)
      have HBW := Lib.hid hbw; have HXS := Lib.hid hxs
      clear hr hdrop hbw hxs
      generalize ks.getD k 0 = q at *
      generalize tk (s.extract d s.size) q = t at *
      obtain ⟨⟨fk, fn, fz⟩, cnt, e⟩ := t
      unfold Fd.val at TA
      simp only at TA TS TLE
      have HO := Lib.hid ho; clear ho
      by_cases he : e = 0
      · subst he
        have H1 := Lib.hid (TS.out.2 rfl)
        have hd2 : d + cnt ≤ s.size := by have := TLE.out rfl; have := HXS.out; omega
        have hflat : Hid (fl.flatMap Fd.cells ++ [.int .i64 fk, .int .u64 fn, .string fz] = (fl ++ [Fd.mk fk fn fz]).flatMap Fd.cells) := Lib.hid (by
          rw [List.flatMap_append]; rfl)
        go_wp2_with fail
        refine (TA.out _).mono ?_
        rintro e w1 ⟨rfl, h1⟩
        have hs1 := h1.size
        have ho1 : w1.ownsRow w.heap.size 158 3 v fl.length (fl.flatMap Fd.cells) :=
          HO.out.kept (row := some w1.heap.size) ⟨h1.os, h1.tape, h1.output, h1.size, fun k hk _ => h1.block k hk⟩ (Or.inr (fun h => by
            have := World.ownsRow.lt HO.out _ h
            omega))
        have HB1 : Hid (Below w.heap.size w w1) := Lib.hid (HBW.out.trans (h1.mono hsize))
        go_wp2_with (at_builtin; refine wpList_append_own _ rfl _ _ 162 rfl w.heap.size 158 i0 (.agg #[.int .i64 0, .int .u64 0, .string ⟨#[]⟩]) 3 32 Try.underlying162 hi hz0 hz1 hz2 rfl (by decide) _ _ _ rfl ((ho1.alloc _).alloc _) ⟨w1.heap.size + 1, 0, none⟩ 1 1 [.int .i64 fk, .int .u64 fn, .string fz] rfl rfl (cells_new2 _ _ #[.int .i64 fk, .int .u64 fn, .string fz] _) (fun x hx => by simp at hx; rcases hx with rfl | rfl | rfl <;> rfl) (by unfold maxLen; omega) (by omega) (by simp; omega) ?_; intro v' w3 hown' hgrow3 hnil3; clear hnil3)
        go_roundw
        case rel =>
          refine ⟨v', k + 1, d + cnt, fl ++ [⟨fk, fn, fz⟩], rfl, by omega, by go_num, by go_num, hd2, by rw [List.length_append, hfl]; rfl, ?_, ?_, ?_⟩
          · rw [← H1.out]; exact HR.out
          · rw [← hflat.out, List.length_append]
            exact hown'
          · exact ((HB1.out.alloc (by omega) _).alloc (by simp; omega) _).grown hgrow3 (by simp; omega) (fun g hg => (World.ownsRow.lt HO.out g hg).1)
        case measure => simp [intOf] <;> omega
      · have g : (e != 0) = true := by simp [he]
        have H1 : Hid (r = ([], 0, e)) := Lib.hid (HR.out.symm.trans (TS.out.1 he))
        clear he
        go_wp2_with fail
        refine (TA.out _).mono ?_
        rintro e w1 ⟨rfl, h1⟩
        have HB1 : Hid (Below w.heap.size w w1) := Lib.hid (HBW.out.trans (h1.mono hsize))
        go_wp2
        go_ret3
        refine ⟨.slice none 0 0, by rw [H1.out]; rfl, by rw [H1.out]; exact World.ownsRow_nil _ _ _ _, HB1.out.alloc (by have := h1.size; omega) _⟩
    · have ek : k = ks.length := by omega
      subst ek
      rw [List.drop_length] at hr
      have H1 : Hid (r = (fl, d, 0)) := Lib.hid (by
        rw [← hr]
        show (fl ++ [], d, 0) = _
        rw [List.append_nil])
      have HO := Lib.hid ho
      clear hr ho
      go_wp2
      go_ret3
      exact ⟨v, by rw [H1.out]; rfl, by rw [H1.out]; exact HO.out, hbw⟩
end Go.Proofs.Ytapjebhdgcpdjaa
