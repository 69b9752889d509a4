/-
  The law of a pool beside the document's answer where it may be made, walked: true for any acts. No condition.
-/
import Derived.Test.YtmkgadndfiiacaaP7e
import Derived.Test.YtmkgadndfiiacaaInts
namespace Go.Proofs.Ytmkgadndfiiacaa
set_option linter.unusedVariables false
set_option linter.unusedSimpArgs false
open Go.ChangeShapes Go.WideShapes Go.ChangeAt Go.RowKit
attribute [local go_sem] alloc_drewN setCell_drewN

theorem its_len {es : List EntI} {fr : List Int} {Ls : List (List Int)} {its ins : List (Int × Int)} {back : List Int} {nev : Int} (h : Rl7 es fr Ls its ins back nev) : es.length - fr.length = its.length := by have := h.il; omega
theorem ins_q {es : List EntI} {fr : List Int} {Ls : List (List Int)} {its ins : List (Int × Int)} {back : List Int} {nev : Int} (h : Rl7 es fr Ls its ins back nev) (q : Int) : inQ Ls q = qf7 ins q := (h.iq q).symm
/-- Get and Find tell the same. -/
theorem look7 {base : Nat} {w : World} {B M : Nat} {most queues : Int} {ve vf vq : Value} {es : List EntI} {fr : List Int} {qs : List (Int × Int × Int)} {Ls : List (List Int)} {vi vn vb : Value} {its ins : List (Int × Int)} {back : List Int} {nev : Int}
    (h1 : M7 base w B M most queues ve vf vq es fr qs Ls vi vn vb its ins back nev) (h2 : Rl7 es fr Ls its ins back nev) (x : Int) :
    (Hid (∀ v, Below w.heap.size w v → Calls Try.prog 60 #[.pointer (some ⟨B, 0, none⟩), .int .i64 x] v fun e w' => e = .returned (.tuple #[.int .i64 0, .bool false]) ∧ w' = v) ∧
      Hid (∀ v, Below w.heap.size w v → Calls Try.prog 61 #[.pointer (some ⟨M, 0, none⟩), .int .i64 x] v fun e w' => e = .returned (.int .i64 (-1)) ∧ w' = v)) ∨
    ∃ (k : Nat) (y : Int), k < its.length ∧ snd7 its k = y ∧ Hid (∀ v, Below w.heap.size w v → Calls Try.prog 60 #[.pointer (some ⟨B, 0, none⟩), .int .i64 x] v fun e w' => e = .returned (.tuple #[.int .i64 y, .bool true]) ∧ w' = v) ∧
      Hid (∀ v, Below w.heap.size w v → Calls Try.prog 61 #[.pointer (some ⟨M, 0, none⟩), .int .i64 x] v fun e w' => e = .returned (.int .i64 (k : Int)) ∧ w' = v) := by
  have hle := h1.g.mem.le; have hm1 := h1.g.mem.m1; have hil := h2.il
  have hf1 := first7 (its.map (·.1)) (fst7 its) (fst_at its) x
  rw [List.length_map, h2.im] at hf1
  rcases hf1 with ⟨ht, k, k1, k2, k3⟩ | ⟨ht, k3⟩
  · refine Or.inr ⟨k, snd7 its k, k1, rfl, Lib.hid (fun v hb => ?_), Lib.hid (fun v hb => ?_)⟩
    · refine (getG (h1.on hb).g x).mono ?_
      rintro e w' ⟨a, d, rfl, rfl, hd, ⟨rfl, -⟩ | ⟨rfl, j, rfl, hj, rfl⟩⟩
      · rw [ht] at hd; cases hd
      · have hxv : snd7 its k = (es[j]).x := by
          have h7 : ∃ p ∈ its, p = (fst7 its k, snd7 its k) := by
            refine ⟨its[k], List.getElem_mem k1, ?_⟩
            unfold fst7 snd7
            rw [List.getD_eq_getElem?_getD, List.getElem?_eq_getElem k1]
            rfl
          obtain ⟨p, hp, rfl⟩ := h7
          have := h2.ix _ hp
          dsimp only at this
          rw [this, k2, xOf_in es j hj]
        exact ⟨by rw [hxv], rfl⟩
    · exact find7_go (h1.on hb).r (by omega) x (Or.inl ⟨k, k1, rfl, k2, k3⟩)
  · refine Or.inl ⟨Lib.hid (fun v hb => ?_), Lib.hid (fun v hb => ?_)⟩
    · refine (getG (h1.on hb).g x).mono ?_
      rintro e w' ⟨a, d, rfl, rfl, hd, ⟨rfl, rfl⟩ | ⟨rfl, -⟩⟩
      · exact ⟨rfl, rfl⟩
      · exact absurd hd.symm ht
    · exact find7_go (h1.on hb).r (by omega) x (Or.inr ⟨rfl, k3⟩)
/-- The cell that the law reads of an item. -/
theorem item7 {base : Nat} {w : World} {M : Nat} {most queues : Int} {vi vn vb : Value} {its ins : List (Int × Int)} {back : List Int} {nev : Int} (h : R7 base w M most queues vi vn vb its ins back nev) {k : Nat} (hk : k < its.length) :
    ∃ g c : Nat, vi = .slice (some ⟨g, 0, none⟩) its.length c ∧ g < w.heap.size ∧ w.cell? ⟨g, k * 2 + 1, none⟩ = some (.int .i64 (snd7 its k)) := by
  obtain ⟨a, c, rfl, hc, hcell⟩ := row2 h.it
  obtain ⟨g, rfl, -, hg, -, h2⟩ := hcell k hk
  exact ⟨g, c, rfl, hg, h2⟩
theorem rq7 {base : Nat} {w : World} {B M : Nat} {most queues : Int} {ve vf vq : Value} {es : List EntI} {fr : List Int} {qs : List (Int × Int × Int)} {Ls : List (List Int)} {vi vn vb : Value} {its ins : List (Int × Int)} {back : List Int} {nev : Int}
    (h1 : M7 base w B M most queues ve vf vq es fr qs Ls vi vn vb its ins back nev) (h2 : Rl7 es fr Ls its ins back nev) (x : Int) {L : Nat} (hL : (qf7 ins x).length = L) : Hid (∀ v, Below w.heap.size w v → Calls Try.prog 62 #[.pointer (some ⟨M, 0, none⟩), .int .i64 x] v fun e w' => ∃ (a : Option Addr) (c : Nat), e = .returned (.slice a L c) ∧ Ints w' v.heap.size (.slice a L c) (qf7 ins x) ∧ Below v.heap.size v w') := by
  have hins := ins_len h2 h1.g.inv
  have hle := h1.g.mem.le; have hm1 := h1.g.mem.m1
  refine Lib.hid (fun v hb => ?_)
  refine (queue7_go (h1.on hb).r (by omega) x).mono ?_
  rintro e w' ⟨u, rfl, o, b⟩
  have o : Ints w' v.heap.size u (qf7 ins x) := o
  obtain ⟨a, c, rfl, -, -⟩ := o.form
  rw [hL] at o ⊢
  exact ⟨a, c, rfl, o, b⟩
theorem hd7 {base : Nat} {w : World} {B M : Nat} {most queues : Int} {ve vf vq : Value} {es : List EntI} {fr : List Int} {qs : List (Int × Int × Int)} {Ls : List (List Int)} {vi vn vb : Value} {its ins : List (Int × Int)} {back : List Int} {nev : Int}
    (h1 : M7 base w B M most queues ve vf vq es fr qs Ls vi vn vb its ins back nev) (h2 : Rl7 es fr Ls its ins back nev) (x : Int) : Hid (∀ v, Below w.heap.size w v → Calls Try.prog 63 #[.pointer (some ⟨B, 0, none⟩), .int .i64 x] v fun e w' => ∃ (a : Int) (d : Bool), e = .returned (.tuple #[.int .i64 a, .bool d]) ∧ ((d = false ∧ a = 0 ∧ qf7 ins x = []) ∨ (d = true ∧ ∃ rest, qf7 ins x = a :: rest)) ∧ ∃ n, w' = v.drewN n) := by
  refine Lib.hid (fun v hb => ?_)
  have h := headG (h1.on hb).g x
  rw [ins_q h2 x] at h
  exact h
theorem qp7 {base : Nat} {w : World} {B M : Nat} {most queues : Int} {ve vf vq : Value} {es : List EntI} {fr : List Int} {qs : List (Int × Int × Int)} {Ls : List (List Int)} {vi vn vb : Value} {its ins : List (Int × Int)} {back : List Int} {nev : Int}
    (h1 : M7 base w B M most queues ve vf vq es fr qs Ls vi vn vb its ins back nev) (h2 : Rl7 es fr Ls its ins back nev) (x : Int) : Hid (∀ v, Below w.heap.size w v → Calls Try.prog 65 #[.pointer (some ⟨B, 0, none⟩), .int .i64 x] v fun e w' => ∃ u, e = .returned u ∧ Ints w' v.heap.size u (qf7 ins x) ∧ Below v.heap.size v w') := by
  refine Lib.hid (fun v hb => ?_)
  have h := queueG (h1.on hb).g x
  rw [ins_q h2 x] at h
  exact h
theorem qlen7 {base : Nat} {w : World} {B M : Nat} {most queues : Int} {ve vf vq : Value} {es : List EntI} {fr : List Int} {qs : List (Int × Int × Int)} {Ls : List (List Int)} {vi vn vb : Value} {its ins : List (Int × Int)} {back : List Int} {nev : Int}
    (h1 : M7 base w B M most queues ve vf vq es fr qs Ls vi vn vb its ins back nev) (h2 : Rl7 es fr Ls its ins back nev) (x : Int) : (qf7 ins x).length ≤ 1000000 := by
  have hins := ins_len h2 h1.g.inv
  have hle := h1.g.mem.le; have hm1 := h1.g.mem.m1
  have := qf7_len ins x
  omega
end Go.Proofs.Ytmkgadndfiiacaa
