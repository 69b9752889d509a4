/-
  Package ops, the operations that bytes consist of. What lay below the heap's end stands.
-/
import Derived.Test.YtdlcipbehalfhaaOps5
namespace Go.Proofs.Ytdlcipbehalfhaa
set_option linter.unusedVariables false
set_option linter.unusedSimpArgs false
open Go.ChangeShapes Go.WideShapes Go.ChangeAt Go.RowKit
attribute [-go_sem] run_index_string binOp_string_eql binOp_string_neq run_string_add_if run_slice_string_from_if run_slice_string_to_if
attribute [local go_sem] index_bt add_fits slice_from slice_to eql_str neq_str alloc_drewN setCell_drewN

theorem infoO : (Try.prog.info? 30).map (fun i => (i.zero, i.size, i.bytes)) = some (some (.agg #[.int .i64 0, .int .u32 0, .int .u32 0, .int .u64 0, .int .u64 0]), 5, 32) := by kernel_rfl
def ORow (w0 w : World) (v : Value) (l : List Opn) : Prop := w.ownsRow w0.heap.size 30 5 v l.length (l.flatMap Opn.cells)
def strSize : Value → Nat
  | .string u => u.size
  | _ => 0
theorem ORow.snoc {w0 w : World} {v : Value} {l : List Opn} {k f i n t : Int} (h : w.ownsRow w0.heap.size 30 5 v (l.length + 1) (l.flatMap Opn.cells ++ [.int .i64 k, .int .u32 f, .int .u32 i, .int .u64 n, .int .u64 t])) : ORow w0 w v (l ++ [⟨k, f, i, n, t⟩]) := by
  unfold ORow
  rw [List.length_append, List.flatMap_append]
  exact h
set_option maxRecDepth 100000 in
set_option maxHeartbeats 2000000 in
theorem ops_read (s : ByteArray) (hs : s.size ≤ 10000) (w : World) :
    Calls Try.prog 17 #[.string s] w fun e w' => ∃ v, e = .returned v ∧ ORow w w' v (oread s) ∧ Below w.heap.size w w' := by
  obtain ⟨i0, hi, hz0, hz1, hz2⟩ := info_parts infoO
  obtain ⟨L, hL⟩ : ∃ L, oread s = L := ⟨_, rfl⟩
  rw [hL]
  have HL := Lib.hid hL
  clear hL
  go_enter Try.func17, Try.ntmps17
  go_wp2
  go_loopw [0, 3] (fun x y wr => ∃ (v : Value) (u : ByteArray) (done : List Opn), x = .string u ∧ v = y ∧ done ++ oread u = L ∧ done.length + u.size ≤ s.size ∧ ORow w wr v done ∧ Below w.heap.size w wr) (fun x _ _ => strSize x)
  case atStart => exact ⟨_, s, [], rfl, rfl, HL.out, by show 0 + _ ≤ _; omega, World.ownsRow_nil _ _ _ _, Below.refl _ _⟩
  case round =>
    obtain ⟨v, u, done, rfl, rfl, hd, hlen, ho, hbw⟩ := hrel
    have hsize := hbw.size
    by_cases hu : 0 < u.size
    · have OTK := Lib.hid (fun W => otake_any u hu (by omega) W)
      have hle := otake_le u hu
      have hst := oread_step u hu
      rw [hst] at hd
      have HD := Lib.hid hd
      have HO := Lib.hid ho; have HB := Lib.hid hbw
      clear hd hst ho hbw
      generalize otake u = q at *
      obtain ⟨⟨k, f, i, n, t⟩, m⟩ := q
      unfold Opn.val at OTK
      simp only at OTK hle
      obtain ⟨m1, m2⟩ := hle
      have hin : InS u (m : Int) := ⟨by omega⟩
      have hxs : (u.extract m u.size).size = u.size - m := size_ext _ _ _ (Nat.le_refl _)
      have HXS := Lib.hid hxs
      clear hxs
      go_wp2_with fail
      refine (OTK.out _).mono ?_
      rintro e w1 ⟨rfl, h1⟩
      have hs1 := h1.size
      have ho1 : w1.ownsRow w.heap.size 30 5 v done.length (done.flatMap Opn.cells) :=
        World.ownsRow.kept HO.out (row := some w1.heap.size) ⟨h1.os, h1.tape, h1.output, h1.size, fun k hk _ => h1.block k hk⟩ (Or.inr (fun h => by
          have := World.ownsRow.lt HO.out _ h
          omega))
      have HB1 : Hid (Below w.heap.size w w1) := Lib.hid (HB.out.trans (h1.mono hsize))
      go_wp2_with (at_builtin; refine wpList_append_own _ rfl _ _ 24 rfl w.heap.size 30 i0 (.agg #[.int .i64 0, .int .u32 0, .int .u32 0, .int .u64 0, .int .u64 0]) 5 32 Try.underlying24 hi hz0 hz1 hz2 rfl (by decide) _ _ _ rfl ((ho1.alloc _).alloc _) ⟨w1.heap.size + 1, 0, none⟩ 1 1 [.int .i64 k, .int .u32 f, .int .u32 i, .int .u64 n, .int .u64 t] rfl rfl (cells_new2 _ _ #[.int .i64 k, .int .u32 f, .int .u32 i, .int .u64 n, .int .u64 t] _) (fun x hx => by simp at hx; rcases hx with rfl | rfl | rfl | rfl | rfl <;> rfl) (by unfold maxLen; omega) (by omega) (by simp; omega) ?_; intro v' w3 hown' hgrow3 hnil3; clear hnil3)
      go_roundw
      case rel =>
        refine ⟨v', u.extract m u.size, done ++ [⟨k, f, i, n, t⟩], rfl, rfl, ?_, ?_, ORow.snoc hown', ?_⟩
        · rw [List.append_assoc]; exact HD.out
        · rw [List.length_append, HXS.out]; show done.length + 1 + _ ≤ _; omega
        · exact ((HB1.out.alloc (by omega) _).alloc (by simp; omega) _).grown hgrow3 (by simp; omega) (fun g hg => (World.ownsRow.lt HO.out g hg).1)
      case measure =>
        show (u.extract m u.size).size < u.size
        rw [HXS.out]; omega
    · have hz : u.size = 0 := by omega
      rw [oread_nil u hz, List.append_nil] at hd
      subst hd
      have HO := Lib.hid ho; have HB := Lib.hid hbw
      have HLE := Lib.hid hlen
      clear hz ho hbw hlen
      go_wp2
      go_ret
      exact ⟨v, rfl, HO.out, HB.out⟩
end Go.Proofs.Ytdlcipbehalfhaa
