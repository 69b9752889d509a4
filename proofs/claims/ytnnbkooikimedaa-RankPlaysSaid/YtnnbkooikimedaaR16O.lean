/-
  The document's answer for layer 16: Lay, Next. No condition but that New made them.
-/
import Derived.Test.YtnnbkooikimedaaR16N
namespace Go.Proofs.Ytnnbkooikimedaa
set_option linter.unusedVariables false
set_option linter.unusedSimpArgs false
open Go.ChangeShapes Go.WideShapes Go.ChangeAt Go.RowKit
attribute [local go_sem] alloc_drewN setCell_drewN

section
variable {w : World} {base R : Nat} {kind virt : Int} {vt : Value} {ts : List Int}
theorem lay16_no (a1 : Option Addr) (n1 c1 : Nat) (h : R16At w base R kind virt (.slice a1 n1 c1) vt ts) (v : Int) (a : Option Addr) (n c : Nat) (hne : n ≠ n1) : Calls Try.prog 61 #[.pointer (some ⟨R, 0, none⟩), .int .u64 v, .slice a n c] w fun e w' => e = .returned (.int .i64 6) ∧ w' = w := by
  obtain ⟨c0, c1, c2, c3, f2, f3⟩ := h.cell
  have hz : ¬ (n : Int) = (n1 : Int) := by omega
  clear h
  go_enter Try.func61, Try.ntmps61
  go_wp2
  go_ret
  exact ⟨rfl, rfl⟩
theorem row1_news {w : World} {b off n : Nat} {zs : List Int} (hl : zs.length = n) (hc : ∀ i, i < n → w.cell? ⟨b, off + i, none⟩ = some (.int .u64 (zs.getD i 0))) : ∀ j u, (zs.map (Value.int .u64))[j]? = some u → w.cell? ((⟨b, off, none⟩ : Addr).add j) = some u := fun j u hj => by
  rw [List.getElem?_map] at hj
  obtain ⟨x, hx, rfl⟩ := Option.map_eq_some_iff.1 hj
  have hlt := (List.getElem?_eq_some_iff.1 hx).1
  have e : ((⟨b, off, none⟩ : Addr).add j) = ⟨b, off + j, none⟩ := by simp [Addr.add]
  rw [e, hc j (by omega), List.getD_eq_getElem?_getD, hx]
  rfl
set_option maxRecDepth 100000 in
set_option maxHeartbeats 2000000 in
theorem lay16_ok (a1 : Option Addr) (n1 c1 : Nat) (h : R16At w base R kind virt (.slice a1 n1 c1) vt ts) (hbase : base ≤ w.heap.size) (v : Int) (a : Option Addr) (n c : Nat) (zs : List Int) (hr : Row1 .u64 w a n zs) (ha : ∀ g off, a = some ⟨g, off, none⟩ → g ≠ R) (he : n = n1) (hn0 : 1 ≤ n) (hn1 : n ≤ 100) :
    Calls Try.prog 61 #[.pointer (some ⟨R, 0, none⟩), .int .u64 v, .slice a n c] w fun e w' => e = .returned (.int .i64 0) ∧ ∃ vt', R16At w' base R kind v (.slice a1 n1 c1) vt' zs ∧ MvS w w' (inR6 R vt) (inR6 R vt') := by
  obtain ⟨i0, hif, hz0, hz1, hz2⟩ := info_parts infoU
  obtain ⟨b, off, rfl, hblt, hcs⟩ := hr.2.2.2 (by omega)
  have hzl := hr.1
  have SV := Lib.hid (h.setV v)
  obtain ⟨c0, c1', c2, c3, f2, f3⟩ := h.cell
  have hR := (h.inlt (Or.inl rfl)).2
  have hbR := ha b off rfl
  subst he
  have NW := Lib.hid (row1_news (w := w.setCell ⟨R, 3, none⟩ (.int .u64 v)) (b := b) (off := off) hzl (fun i hi => (World.cell?_setCell_other w ⟨R, 3, none⟩ ⟨b, off + i, none⟩ _ (fun e => by injection e with e1 e2 e3; omega)).trans (hcs i hi)))
  have W1 := Lib.hid (show (w.setCell ⟨R, 3, none⟩ (.int .u64 v)).heap.size = w.heap.size by simp [World.setCell])
  have OC := Lib.hid (show ∀ y ∈ zs.map (Value.int .u64), y.oneCell' = true from fun y hy => by obtain ⟨x, _, rfl⟩ := List.mem_map.1 hy; rfl)
  have NL := Lib.hid (show (zs.map (Value.int .u64)).length = n * 1 by rw [List.length_map, hzl, Nat.mul_one])
  have KB := Lib.hid (fun (w3 : World) (hg : (w.setCell ⟨R, 3, none⟩ (.int .u64 v)).grownBy w3 (Value.slice none 0 0).ownBlock) =>
    have e1 : w3.heap[R]? = some (.cells #[.int .i64 kind, .slice a1 n c1, vt, .int .u64 v] 122 (0, 0)) := (hg.block R (by rw [W1.out]; exact hR) (by simp [Value.ownBlock])).trans SV.out.1.blk
    (⟨cell_of_row w3 R 2 _ _ (0, 0) e1, frozen_of_row w3 R 2 _ _ e1⟩ : w3.cell? ⟨R, 2, none⟩ = some vt ∧ w3.frozen? ⟨R, 2, none⟩ = false))
  clear h hr ha hcs
  go_enter Try.func61, Try.ntmps61
  go_wp2_with (at_builtin; refine wpList_append_own_at _ rfl _ _ 25 rfl w.heap.size 22 i0 (.int .u64 0) 1 8 Try.underlying25 hif hz0 hz1 hz2 rfl (by decide) (.slice none 0 0) 0 [] rfl (World.ownsRow_nil _ _ _ _) ⟨b, off, none⟩ n c (zs.map (Value.int .u64)) rfl NL.out NW.out OC.out (by unfold maxLen; omega) (by omega) (by rw [W1.out]; exact Nat.le_refl _) ?_; intro v3 w3 ho3 hg3 hn3 hat3; clear hn3; have HO3 := Lib.hid ho3; have HG3 := Lib.hid hg3; obtain ⟨kc, kf⟩ := KB.out w3 hg3; obtain ⟨a3, c3', rfl⟩ := row_slice ho3; clear ho3 hg3 hat3)
  have FIN := Lib.hid (SV.out.1.swap (by rw [W1.out]; exact hbase) _ (Below.refl _ _) w3 HG3.out (.slice a3 n c3') zs w3 (by have := HO3.out; rw [Nat.zero_add, List.nil_append] at this; rw [W1.out, hzl]; exact this) (Below.refl _ _))
  clear kc kf HO3 HG3
  go_wp2
  go_ret
  exact ⟨rfl, _, FIN.out.1, SV.out.2.trans FIN.out.2⟩
set_option maxRecDepth 100000 in
set_option maxHeartbeats 2000000 in
theorem next16_no (a1 : Option Addr) (n1 c1 : Nat) (fs : List Fl) (h : R16At w base R kind virt (.slice a1 n1 c1) vt ts) (hr : RowFl w a1 n1 fs) (hn1 : n1 ≤ 100) (id now n : Int) (hno : ∀ q, q < n1 → ¬ (fs.getD q Fl.nil).id = id) :
    Calls Try.prog 63 #[.pointer (some ⟨R, 0, none⟩), .int .u64 now, .int .u32 id, .int .u64 n] w fun e w' => e = .returned (.tuple #[.int .u64 0, .int .i64 13]) ∧ w' = w := by
  have FI := Lib.hid (find16_no hr c1 hn1 id hno)
  obtain ⟨c0, c1', c2, c3, f2, f3⟩ := h.cell
  clear h hr hno
  go_enter Try.func63, Try.ntmps63
  go_wp2_with fail
  refine FI.out.mono ?_
  rintro e w' ⟨rfl, rfl⟩
  go_wp2
  go_ret2
  exact ⟨rfl, rfl⟩
/-- How the copy of the tags ends Next: one is another, and they are kept. -/
theorem next16_end {a1 : Option Addr} {n1 c1 : Nat} (h : R16At w base R kind virt (.slice a1 n1 c1) vt ts) (hbase : base ≤ w.heap.size) (j : Nat) (x : Int) (w1 w3 : World) (hb1 : Below w.heap.size w w1) (hg : w1.grownBy w3 none) (g c : Nat)
    (ho : w3.ownsRow w.heap.size 22 1 (.slice (some ⟨g, 0, none⟩) ts.length c) ts.length (ts.map (Value.int .u64))) :
    R16At ((w3.setCell ⟨g, j, none⟩ (.int .u64 x)).setCell ⟨R, 2, none⟩ (.slice (some ⟨g, 0, none⟩) ts.length c)) base R kind virt (.slice a1 n1 c1) (.slice (some ⟨g, 0, none⟩) ts.length c) (ts.set j x) ∧ MvS w ((w3.setCell ⟨g, j, none⟩ (.int .u64 x)).setCell ⟨R, 2, none⟩ (.slice (some ⟨g, 0, none⟩) ts.length c)) (inR6 R vt) (inR6 R (.slice (some ⟨g, 0, none⟩) ts.length c)) := by
  have h1 := row_put ho j (.int .u64 x)
  rw [← List.map_set] at h1
  have hgl := (World.ownsRow.lt ho g rfl).1
  refine h.swap hbase w1 hb1 w3 hg _ (ts.set j x) _ (by rw [List.length_set]; exact h1) ⟨rfl, rfl, rfl, by simp [World.setCell], fun q hq => Below.heap_setCell _ ⟨g, j, none⟩ _ q (by show q ≠ g; omega)⟩
end
end Go.Proofs.Ytnnbkooikimedaa
