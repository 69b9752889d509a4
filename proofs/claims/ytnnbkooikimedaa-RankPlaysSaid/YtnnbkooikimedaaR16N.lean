/-
  The document's answer for layer 16: New, Next, Lay. No condition but that New made them.
-/
import Derived.Test.YtnnbkooikimedaaR16
import Derived.Test.YtnnbkooikimedaaRef1b
namespace Go.Proofs.Ytnnbkooikimedaa
set_option linter.unusedVariables false
set_option linter.unusedSimpArgs false
open Go.ChangeShapes Go.WideShapes Go.ChangeAt Go.RowKit
attribute [local go_sem] alloc_drewN setCell_drewN

def tag0 (kind : Int) (f : Fl) : Int := if kind = 3 then f.sz else 0
theorem tag0_more (kind : Int) (fs : List Fl) (i : Nat) (hi : i < fs.length) : (fs.take (i + 1)).map (tag0 kind) = (fs.take i).map (tag0 kind) ++ [tag0 kind (fs.getD i Fl.nil)] := by
  rw [List.take_succ_eq_append_getElem hi, List.map_append, List.getD_eq_getElem?_getD, List.getElem?_eq_getElem hi]
  rfl
theorem cells_oneU (w : World) (x : Int) : ∀ j u, ([Value.int .u64 x] : List Value)[j]? = some u → (w.alloc (.cells #[.int .u64 x] 22)).cell? ((⟨w.heap.size, 0, none⟩ : Addr).add j) = some u := cells_one6 w (.int .u64 x) 22
set_option maxRecDepth 100000 in
set_option maxHeartbeats 2000000 in
theorem new16 {w : World} (kind : Int) (a : Option Addr) (n c : Nat) (fs : List Fl) (hr : RowFl w a n fs) (hn1 : n ≤ 100) :
    Calls Try.prog 57 #[.int .i64 kind, .slice a n c] w fun e w' => e = .returned (.pointer (some ⟨w.heap.size, 0, none⟩)) ∧ (∃ vt, R16At w' w.heap.size w.heap.size kind 0 (.slice a n c) vt (fs.map (tag0 kind))) ∧ Below w.heap.size w w' := by
  obtain ⟨i0, hif, hz0, hz1, hz2⟩ := info_parts infoU
  have HR := Lib.hid hr
  have HL := Lib.hid hr.1
  obtain ⟨W0, hW0⟩ : ∃ W0, w.alloc (.cells #[.int .i64 kind, .slice a n c, .slice none 0 0, .int .u64 0] 122) = W0 := ⟨_, rfl⟩
  have R0 := Lib.hid (show R16At W0 w.heap.size w.heap.size kind 0 (.slice a n c) (.slice none 0 0) [] by
    rw [← hW0]
    exact ⟨heap_alloc_new w _, Nat.le_refl _, World.ownsRow_nil _ _ _ _⟩)
  have B0 := Lib.hid (show Below w.heap.size w W0 by rw [← hW0]; exact (Below.refl _ w).alloc (Nat.le_refl _) _)
  clear hr
  go_enter Try.func57, Try.ntmps57
  go_wp2
  clear hW0
  go_loopw [6] (fun z wr => ∃ (i : Nat) (vt : Value), i ≤ n ∧ z = .int .i64 i ∧ R16At wr w.heap.size w.heap.size kind 0 (.slice a n c) vt ((fs.take i).map (tag0 kind)) ∧ Below w.heap.size w wr) (fun z _ => n - (intOf z).toNat)
  case atStart => exact ⟨0, _, Nat.zero_le _, rfl, R0.out, B0.out⟩
  case round =>
    obtain ⟨i, vt, hi, rfl, h, hb⟩ := hrel
    have HH := Lib.hid h; have HB := Lib.hid hb
    by_cases hlt : i < n
    · obtain ⟨b, off, rfl, hblt, -, -, -, c3, -⟩ := HR.out.atR hb i hlt
      have z0 : (0 : Int) ≤ i := by omega
      have z1 : (i : Int) < n := by omega
      have HN := Lib.hid (tag0_more kind fs i (by rw [HL.out]; exact hlt))
      have LE := Lib.hid (show ((fs.take i).map (tag0 kind)).length = i by rw [List.length_map, List.length_take, HL.out]; omega)
      obtain ⟨ts, hts⟩ : ∃ ts, (fs.take i).map (tag0 kind) = ts := ⟨_, rfl⟩
      rw [hts] at HH HN LE
      obtain ⟨ao, co, hve⟩ := row_slice HH.out.ot
      subst hve
      obtain ⟨d0, d1, d2, d3, e2, e3⟩ := HH.out.cell
      rw [LE.out] at d2
      have OT := Lib.hid (show wr.ownsRow w.heap.size 22 1 (.slice ao i co) i (ts.map (Value.int .u64)) by have := HH.out.ot; rw [LE.out] at this; exact this)
      have hBw := (HH.out.inlt (Or.inl rfl)).2
      have hb9 := HB.out.size
      have KB := Lib.hid (fun (u : Obj) (w3 : World) (hg : (wr.alloc u).grownBy w3 (Value.slice ao i co).ownBlock) =>
        have hg' : (wr.alloc u).grownBy w3 (Value.slice ao ts.length co).ownBlock := by rw [LE.out]; exact hg
        have e1 : w3.heap[w.heap.size]? = some (.cells #[.int .i64 kind, .slice (some ⟨b, off, none⟩) n c, .slice ao ts.length co, .int .u64 0] 122 (0, 0)) := (hg'.block w.heap.size (by simp; omega) (fun e => HH.out.ne e.symm)).trans ((heap_alloc_old wr u hBw).trans HH.out.blk)
        (⟨cell_of_row w3 w.heap.size 2 _ _ (0, 0) e1, frozen_of_row w3 w.heap.size 2 _ _ e1⟩ : w3.cell? ⟨w.heap.size, 2, none⟩ = some (.slice ao ts.length co) ∧ w3.frozen? ⟨w.heap.size, 2, none⟩ = false))
      obtain ⟨sz, hsz⟩ : ∃ sz, (fs.getD i Fl.nil).sz = sz := ⟨_, rfl⟩
      have HT := Lib.hid (show tag0 kind (fs.getD i Fl.nil) = if kind = 3 then sz else 0 from by rw [← hsz]; rfl)
      rw [hsz] at c3
      clear hts h hb hsz
      by_cases hk : kind = 3
      · rw [if_pos hk] at HT
        rw [HT.out] at HN
        subst hk
        go_wp2_with (at_builtin; refine wpList_append_own_at _ rfl _ _ 25 rfl w.heap.size 22 i0 (.int .u64 0) 1 8 Try.underlying25 hif hz0 hz1 hz2 rfl (by decide) (.slice ao i co) _ _ rfl (OT.out.alloc _) ⟨wr.heap.size, 0, none⟩ 1 1 [.int .u64 sz] rfl rfl (cells_oneU _ _) (fun x hx => by simp at hx; subst hx; rfl) (by unfold maxLen; omega) (by omega) (by simp; omega) ?_; intro v3 w3 ho3 hg3 hn3 hat3; clear hn3; have HO3 := Lib.hid ho3; have HG3 := Lib.hid hg3; obtain ⟨kc, kf⟩ := KB.out _ w3 hg3; obtain ⟨a3, c3', rfl⟩ := row_slice ho3; clear ho3 hg3 hat3)
        have FIN := Lib.hid (HH.out.grown sz _ w3 (.slice a3 (i + 1) c3') ((Below.refl _ wr).alloc (Nat.le_refl _) _) (by rw [LE.out]; exact HO3.out) (by rw [LE.out]; exact HG3.out) hb9)
        clear kc kf HO3 HG3
        go_wp2
        go_roundw
        case rel => exact ⟨i + 1, _, by omega, by go_num, by rw [HN.out]; exact FIN.out.1, HB.out.trans FIN.out.2⟩
        case measure => simp [intOf] <;> omega
      · rw [if_neg hk] at HT
        rw [HT.out] at HN
        go_wp2_with (at_builtin; refine wpList_append_own_at _ rfl _ _ 25 rfl w.heap.size 22 i0 (.int .u64 0) 1 8 Try.underlying25 hif hz0 hz1 hz2 rfl (by decide) (.slice ao i co) _ _ rfl (OT.out.alloc _) ⟨wr.heap.size, 0, none⟩ 1 1 [.int .u64 0] rfl rfl (cells_oneU _ _) (fun x hx => by simp at hx; subst hx; rfl) (by unfold maxLen; omega) (by omega) (by simp; omega) ?_; intro v3 w3 ho3 hg3 hn3 hat3; clear hn3; have HO3 := Lib.hid ho3; have HG3 := Lib.hid hg3; obtain ⟨kc, kf⟩ := KB.out _ w3 hg3; obtain ⟨a3, c3', rfl⟩ := row_slice ho3; clear ho3 hg3 hat3)
        have FIN := Lib.hid (HH.out.grown 0 _ w3 (.slice a3 (i + 1) c3') ((Below.refl _ wr).alloc (Nat.le_refl _) _) (by rw [LE.out]; exact HO3.out) (by rw [LE.out]; exact HG3.out) hb9)
        clear kc kf HO3 HG3
        go_wp2
        go_roundw
        case rel => exact ⟨i + 1, _, by omega, by go_num, by rw [HN.out]; exact FIN.out.1, HB.out.trans FIN.out.2⟩
        case measure => simp [intOf] <;> omega
    · obtain rfl : i = n := by omega
      have E := Lib.hid (show fs.take i = fs from List.take_of_length_le (by rw [HL.out]; exact Nat.le_refl _))
      rw [E.out] at HH
      clear h hb
      go_wp2
      go_ret
      exact ⟨rfl, ⟨_, HH.out⟩, HB.out⟩
end Go.Proofs.Ytnnbkooikimedaa
