/-
  What the rows of layer 3 list of the package's variables gives the walks; and the heap in which they are laid.
-/
import Derived.Test.YtdeehklegeeanaaDoorDigLives
import Derived.Test.YtdeehklegeeanaaDoorRows
import Derived.ProofKit
import Derived.OpenShut
import Derived.LaidMore
import Derived.Lay
import Derived.Lib.LaidTab
import Derived.Stop.Joined
namespace Go.Proofs.YtdeehklegeeanaaDoor
set_option linter.unusedVariables false
set_option linter.unusedSimpArgs false
open Go.ChangeShapes Go.WideShapes Go.ChangeAt Go.RowKit

theorem list_u8 {a b : ByteArray} (h : a.data.toList = b.data.toList) : a = b := by
  apply ByteArray.ext
  exact Array.toList_inj.1 h
theorem laid_mem {P : Program} {w : World} : ∀ {l : List (String × DataW Unit)} {ps : List MemPlace}, DataW.LaidVars P w l ps → ∀ n d, (n, d) ∈ l →
    ∃ g t cs fuel p, P.globalNamed n = some g ∧ (P.globals[g]?).map (·.type) = some t ∧ w.var? P n = some cs ∧ DataW.trod (fun _ => ()) P w 0 (fun _ => true) false fuel t cs.toList = some (d, p)
  | [], _, _, n, d, hm => by cases hm
  | (n0, d0) :: r, ps, h, n, d, hm => by
    obtain ⟨g, t, cs, fuel, p, q, h1, h2, h3, h4, h5, _⟩ := h
    rcases List.mem_cons.1 hm with e | hm
    · injection e with e1 e2
      subst e1 e2
      exact ⟨g, t, cs, fuel, p, h1, h2, h3, h4⟩
    · exact laid_mem h5 n d hm

set_option maxRecDepth 100000 in
theorem unit_of {W : World} {m : Nat} {cs : List Value} {x : DataW Unit × List MemPlace} {s : List UInt8} {n : Int} (h : DataW.trod (fun _ => ()) Tryd.prog W 0 (fun _ => true) false m 68 cs = some x) (hx : x.1 = .agg [.lit (.string s), .lit (.int .u64 n)]) :
    cs = [.string ⟨s.toArray⟩, .int .u64 n] := by
  obtain ⟨xs, m', _, rfl, hl, hxl, hel⟩ := DataW.trod_struct Tryd.underlying68 h
  have c0 : Tryd.prog.cellsOf 68 = 2 := by kernel_rfl
  have c1 : Tryd.prog.cellsOf 9 = 1 := by kernel_rfl
  have c2 : Tryd.prog.cellsOf 23 = 1 := by kernel_rfl
  have h0 : DataW.trod (fun _ => ()) Tryd.prog W 0 (fun _ => true) false m' 9 ((cs.drop 0).take (Tryd.prog.cellsOf 9)) = xs[0]? := hel 0 _ rfl
  have h1 : DataW.trod (fun _ => ()) Tryd.prog W 0 (fun _ => true) false m' 23 ((cs.drop 1).take (Tryd.prog.cellsOf 23)) = xs[1]? := hel 1 _ rfl
  have hxl : xs.length = 2 := hxl
  rw [c0] at hl
  rw [c1] at h0
  rw [c2] at h1
  match xs, hxl, cs, hl with
  | [y0, y1], _, [v0, v1], _ =>
    simp at h0 h1
    obtain ⟨t, e0, e0', _⟩ := DataW.trod_string Tryd.underlying9 h0
    obtain ⟨k, e1, e1', _⟩ := DataW.trod_int Tryd.underlying23 h1
    simp only [List.map_cons, List.map_nil, e0', e1', DataW.agg.injEq, List.cons.injEq, DataW.lit.injEq, Lit.string.injEq, Lit.int.injEq, and_true, true_and] at hx
    injection e0 with e0
    injection e1 with e1
    rw [e0, e1, hx.2]
    congr 2
    apply list_u8
    simpa using hx.1

theorem block_of_cell {w : World} {a : Addr} {v : Value} (h : w.cell? a = some v) : a.block < w.heap.size := by
  by_cases hb : a.block < w.heap.size
  · exact hb
  · exfalso
    have : w.heap[a.block]? = none := Array.getElem?_eq_none (by omega)
    simp [World.cell?, this] at h

set_option maxRecDepth 100000 in
theorem held3_of {W : World} (h : laidMetH Tryd.prog Rows.digitsReadsRow.laid W) : Held3 W := by
  rw [MakeChecks.laidMetH_plain _ _ _ (by kernel_rfl)] at h
  obtain ⟨ps, hl, _, _⟩ := h
  obtain ⟨g1, t1, cs1, f1, p1, hg1, ht1, hv1, hd1⟩ := laid_mem hl "internal/strconv.uint64pow10" Rows.laid_internal_strconv_uint64pow10 (.tail _ (.tail _ (.head _)))
  obtain ⟨g2, t2, cs2, f2, p2, hg2, ht2, hv2, hd2⟩ := laid_mem hl "strconv.ErrRange" Rows.laid_strconv_ErrRange (.tail _ (.tail _ (.tail _ (.tail _ (.head _)))))
  obtain ⟨g3, t3, cs3, f3, p3, hg3, ht3, hv3, hd3⟩ := laid_mem hl "pacemaker/digits.units" Rows.laid_pacemaker_digits_units (.tail _ (.tail _ (.tail _ (.tail _ (.tail _ (.tail _ (.head _)))))))
  obtain rfl := Option.some.inj ((show Tryd.prog.globalNamed "internal/strconv.uint64pow10" = some 4 by kernel_rfl).symm.trans hg1)
  obtain rfl := Option.some.inj ((show Tryd.prog.globalNamed "strconv.ErrRange" = some 3 by kernel_rfl).symm.trans hg2)
  obtain rfl := Option.some.inj ((show Tryd.prog.globalNamed "pacemaker/digits.units" = some 0 by kernel_rfl).symm.trans hg3)
  obtain rfl := Option.some.inj ((show (Tryd.prog.globals[4]?).map (·.type) = some 121 by kernel_rfl).symm.trans ht1)
  obtain rfl := Option.some.inj ((show (Tryd.prog.globals[3]?).map (·.type) = some 61 by kernel_rfl).symm.trans ht2)
  obtain rfl := Option.some.inj ((show (Tryd.prog.globals[0]?).map (·.type) = some 69 by kernel_rfl).symm.trans ht3)
  have T : Lib.TabIs Tryd.prog W "internal/strconv.uint64pow10" .u64 Lib.pow10Tab := by
    unfold Lib.TabIs
    rw [hv1, ← Lib.cells_of_tab (zs := Lib.pow10Tab) Tryd.underlying121 Tryd.underlying23 (by kernel_rfl) (by kernel_rfl) hd1]
  have hT0 := T.cell hg1 0 (by decide)
  obtain ⟨f2', u, v, e2, _, _⟩ := iface_of_trod Tryd.underlying61 hd2
  have hE := World.var?_cell hg2 hv2 0
  obtain ⟨l2⟩ := cs2
  have e2 : l2 = [.iface u v] := e2
  subst e2
  obtain ⟨xs, m, _, hx, hln, hxl, hel⟩ := DataW.trod_array Tryd.underlying69 hd3
  have cst : Tryd.prog.cellsOf 68 = 2 := by kernel_rfl
  have cst3 : Tryd.prog.cellsOf 69 = 6 := by kernel_rfl
  rw [cst3] at hln
  rw [cst] at hel
  have hc := fun i => World.var?_cell hg3 hv3 i
  obtain ⟨l3⟩ := cs3
  have hln : l3.length = 6 := hln
  match xs, hxl, l3, hln with
  | [x0, x1, x2], _, [a0, a1, a2, a3, a4, a5], _ =>
    have hx1 := (Prod.mk.inj hx).1
    have hx1 : ([x0, x1, x2].map (·.1)) = [.agg [.lit (.string [71]), .lit (.int .u64 1000000000)], .agg [.lit (.string [77]), .lit (.int .u64 1000000)], .agg [.lit (.string [75]), .lit (.int .u64 1000)]] := (DataW.agg.inj hx1).symm
    simp only [List.map_cons, List.map_nil, List.cons.injEq, and_true] at hx1
    have e0 := unit_of (hel 0 (by decide)) hx1.1
    have e1 := unit_of (hel 1 (by decide)) hx1.2.1
    have e3 := unit_of (hel 2 (by decide)) hx1.2.2
    simp at e0 e1 e3
    obtain ⟨rfl, rfl⟩ := e0
    obtain ⟨rfl, rfl⟩ := e1
    obtain ⟨rfl, rfl⟩ := e3
    exact ⟨⟨hc 0, hc 1, hc 2, hc 3, hc 4, hc 5, block_of_cell (hc 0)⟩, ⟨u, v, hE⟩, T, block_of_cell hE, block_of_cell hT0⟩
end Go.Proofs.YtdeehklegeeanaaDoor
