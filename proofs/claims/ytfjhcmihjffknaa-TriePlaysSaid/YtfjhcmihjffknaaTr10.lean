/-
  Package trie: a table in memory; what is got from it. No condition but that New made it.
-/
import Derived.Test.YtfjhcmihjffknaaTr9
namespace Go.Proofs.Ytfjhcmihjffknaa
set_option linter.unusedVariables false
set_option linter.unusedSimpArgs false
open Go.ChangeShapes Go.WideShapes Go.ChangeAt Go.RowKit
attribute [local go_sem] alloc_drewN setCell_drewN

/-- A table in memory: its tree, how many elements it has, the tree's blocks. -/
def TabAt (w : World) (base T : Nat) (t : Tr) (cnt : Int) (bs : List Nat) : Prop :=
  t.isNil = false ∧ base ≤ T ∧ (0 ≤ cnt ∧ cnt ≤ 4096) ∧ T ∉ bs ∧ ∃ B, w.heap[T]? = some (.cells #[.pointer (some ⟨B, 0, none⟩), .int .i64 cnt] 128 (0, 0)) ∧ TrAt w base t (.pointer (some ⟨B, 0, none⟩)) bs
section
variable {w w' : World} {base T : Nat} {t : Tr} {cnt : Int} {bs : List Nat} {a n : Int}
theorem TabAt.below (h : TabAt w base T t cnt bs) (hb : Below w.heap.size w w') : TabAt w' base T t cnt bs := by
  obtain ⟨h1, h2, h3, h4, B, h5, h6⟩ := h
  exact ⟨h1, h2, h3, h4, B, (hb.block T (Array.getElem?_eq_some_iff.1 h5).1).trans h5, h6.below hb⟩
theorem TabAt.inlt (h : TabAt w base T t cnt bs) : base ≤ T ∧ T < w.heap.size ∧ ∀ j ∈ bs, base ≤ j ∧ j < w.heap.size := by
  obtain ⟨h1, h2, h3, h4, B, h5, h6⟩ := h
  exact ⟨h2, (Array.getElem?_eq_some_iff.1 h5).1, fun j hj => h6.inlt j hj⟩
theorem tab_cells {w : World} {T : Nat} {v : Value} {c : Int} (h : w.heap[T]? = some (.cells #[v, .int .i64 c] 128 (0, 0))) : w.cell? ⟨T, 0, none⟩ = some v ∧ w.cell? ⟨T, 1, none⟩ = some (.int .i64 c) ∧ w.frozen? ⟨T, 1, none⟩ = false :=
  ⟨cell_of_row w T 0 _ _ (0, 0) h, cell_of_row w T 1 _ _ (0, 0) h, frozen_of_row w T 1 _ _ h⟩
set_option maxRecDepth 100000 in
theorem tmade (h : TabAt w base T t cnt bs) : Calls Try.prog 64 #[.pointer (some ⟨T, 0, none⟩)] w fun e w' => e = .returned (.bool true) ∧ w' = w := by
  obtain ⟨h1, h2, h3, h4, B, h5, h6⟩ := h
  obtain ⟨c0, c1, -⟩ := tab_cells h5
  clear h1 h2 h3 h4 h5 h6
  go_enter Try.func64, Try.ntmps64
  go_wp2
  go_ret
  exact ⟨rfl, rfl⟩
set_option maxRecDepth 100000 in
theorem tmade_nil (w : World) : Calls Try.prog 64 #[.pointer none] w fun e w' => e = .returned (.bool false) ∧ w' = w := by
  go_enter Try.func64, Try.ntmps64
  go_wp2
  go_ret
  exact ⟨rfl, rfl⟩
set_option maxRecDepth 100000 in
theorem tlen (h : TabAt w base T t cnt bs) : Calls Try.prog 36 #[.pointer (some ⟨T, 0, none⟩)] w fun e w' => e = .returned (.int .i64 cnt) ∧ w' = w := by
  obtain ⟨h1, h2, h3, h4, B, h5, h6⟩ := h
  obtain ⟨c0, c1, -⟩ := tab_cells h5
  clear h1 h2 h3 h4 h5 h6
  go_enter Try.func36, Try.ntmps36
  go_wp2
  go_ret
  exact ⟨rfl, rfl⟩
set_option maxRecDepth 100000 in
theorem tlen_nil (w : World) : Calls Try.prog 36 #[.pointer none] w fun e w' => e = .returned (.int .i64 0) ∧ w' = w := by
  go_enter Try.func36, Try.ntmps36
  go_wp2
  go_ret
  exact ⟨rfl, rfl⟩
/-- The element under a prefix. -/
def tget (a n : Int) (t : Tr) : Option Int := match tat a n t with
  | some (true, x) => some x
  | _ => none
def GtR (w : World) (o : Option Int) (v : Value) : Prop := match o with
  | some x => ∃ B b m vl vr, v = .pointer (some ⟨B, 0, none⟩) ∧ NodeAt w B b m true x vl vr
  | none => v = .pointer none
theorem prefix_box (w : World) (a n : Int) : Below w.heap.size w (w.alloc (.cells #[.int .u32 a, .int .i64 n] 70)) ∧ (w.alloc (.cells #[.int .u32 a, .int .i64 n] 70)).heap[w.heap.size]? = some (.cells #[.int .u32 a, .int .i64 n] 70 (0, 0)) ∧ w.heap.size < (w.alloc (.cells #[.int .u32 a, .int .i64 n] 70)).heap.size :=
  ⟨(Below.refl _ w).alloc (Nat.le_refl _) _, heap_alloc_new w _, by simp⟩
set_option maxRecDepth 100000 in
set_option maxHeartbeats 2000000 in
theorem get_nil (a n : Int) (w : World) : Calls Try.prog 62 #[.pointer none, .agg #[.int .u32 a, .int .i64 n]] w fun e w' => e = .returned (.pointer none) ∧ Below w.heap.size w w' := by
  have HB := Lib.hid (prefix_box w a n).1
  go_enter Try.func62, Try.ntmps62
  go_wp2_with fail
  refine (tmade_nil _).mono ?_
  rintro e w1 ⟨rfl, rfl⟩
  go_wp2
  go_ret
  exact ⟨rfl, HB.out⟩
set_option maxRecDepth 100000 in
set_option maxHeartbeats 4000000 in
theorem get_in (h : TabAt w base T t cnt bs) (ha : 0 ≤ a ∧ a ≤ 4294967295) (hn : -9223372036854775808 ≤ n ∧ n ≤ 9223372036854775807) : Calls Try.prog 62 #[.pointer (some ⟨T, 0, none⟩), .agg #[.int .u32 a, .int .i64 n]] w fun e w' => (∃ v, e = .returned v ∧ GtR w (tget a n t) v) ∧ Below w.heap.size w w' := by
  obtain ⟨hb, hp, hsz⟩ := prefix_box w a n
  have MD := Lib.hid (tmade (h.below hb))
  have HB := Lib.hid hb
  have HP := Lib.hid hp
  have SZ := Lib.hid hsz
  obtain ⟨h1, h2, h3, h4, B, h5, h6⟩ := h.below hb
  obtain ⟨g1, g2, g3, g4, B', g5, g6⟩ := h
  have hBB : B' = B := by
    have e := (hb.block T (Array.getElem?_eq_some_iff.1 g5).1).trans g5
    rw [h5] at e
    have e2 : B = B' := by simpa using e
    exact e2.symm
  subst hBB
  have AT := Lib.hid (fun W hW => at_any ha hn t g6 W hW)
  have H5 := Lib.hid h5
  have HT := Lib.hid (Array.getElem?_eq_some_iff.1 h5).1
  obtain ⟨c0, c1, -⟩ := tab_cells h5
  obtain ⟨p0, p1⟩ := box2 hp
  clear h1 h2 h3 h4 h5 h6 g1 g2 g3 g4 g5 g6 hb hp hsz
  obtain ⟨o, ho⟩ : ∃ o, tget a n t = o := ⟨_, rfl⟩
  rw [ho]
  have HO := Lib.hid ho
  clear ho
  go_enter Try.func62, Try.ntmps62
  go_wp2_with fail
  refine MD.out.mono ?_
  rintro e w1 ⟨rfl, rfl⟩
  go_wp2
  clear MD
  generalize w.alloc (.cells #[.int .u32 a, .int .i64 n] 70) = W at *
  go_region_held3 (fun v => v.cell? ⟨T, 0, none⟩ = some (.pointer (some ⟨B', 0, none⟩)) ∧ v.cell? ⟨w.heap.size, 0, none⟩ = some (.int .u32 a) ∧ v.cell? ⟨w.heap.size, 1, none⟩ = some (.int .i64 n)) ((first | exact JP | exact ⟨c0, p0, p1⟩)) (first
    | (go_at_call 84; refine (AT.out _ HB.out.drew).mono ?_; rintro e w3 ⟨⟨v3, rfl, hv3⟩, b3⟩; have b3 : Below W.heap.size W w3 := below_flat b3; have B3 := Lib.hid (HB.out.trans (b3.mono HB.out.size)); have HV := Lib.hid hv3; have JP : w3.cell? ⟨T, 0, none⟩ = some (.pointer (some ⟨B', 0, none⟩)) ∧ w3.cell? ⟨w.heap.size, 0, none⟩ = some (.int .u32 a) ∧ w3.cell? ⟨w.heap.size, 1, none⟩ = some (.int .i64 n) := by { obtain ⟨q0, q1⟩ := box2 ((b3.block _ SZ.out).trans HP.out); obtain ⟨d0, d1, -⟩ := tab_cells ((b3.block _ HT.out).trans H5.out); exact ⟨d0, q0, q1⟩ }; clear hv3 b3)
    | fail)
  have hv := HV.out
  clear c0 c1 p0 p1 JP HP SZ H5 AT
  cases hz : tat a n t with
  | none =>
    rw [hz] at hv
    have hv : v3 = .pointer none := hv
    subst hv
    clear HV
    have OE := Lib.hid (show o = none by rw [← HO.out]; unfold tget; rw [hz])
    go_wp2
    go_ret
    exact ⟨⟨_, rfl, by rw [OE.out]; rfl⟩, B3.out⟩
  | some z =>
    rw [hz] at hv
    obtain ⟨B2, b2, m2, vl2, vr2, rfl, h2⟩ := hv
    have H2 := Lib.hid (show NodeAt w B2 b2 m2 z.1 z.2 vl2 vr2 from h2)
    obtain ⟨th, x⟩ := z
    have h3 := h2.below B3.out
    obtain ⟨-, -, d2, -, -, -⟩ := h3.cell
    dsimp only at d2
    clear HV h2 h3
    cases th
    · have OE := Lib.hid (show o = none by rw [← HO.out]; unfold tget; rw [hz])
      go_wp2
      go_ret
      exact ⟨⟨_, rfl, by rw [OE.out]; rfl⟩, B3.out⟩
    · have OE := Lib.hid (show o = some x by rw [← HO.out]; unfold tget; rw [hz])
      go_wp2
      go_ret
      exact ⟨⟨_, rfl, by rw [OE.out]; exact ⟨B2, b2, m2, vl2, vr2, rfl, H2.out⟩⟩, B3.out⟩
set_option maxRecDepth 100000 in
theorem tget_nil (a n : Int) (w : World) : Calls Try.prog 32 #[.pointer none, .agg #[.int .u32 a, .int .i64 n]] w fun e w' => e = .returned (.tuple #[.int .i64 0, .bool false]) ∧ Below w.heap.size w w' := by
  obtain ⟨hb, hp, hsz⟩ := prefix_box w a n
  obtain ⟨p0, p1⟩ := box2 hp
  have HB := Lib.hid hb
  clear hb hp hsz
  go_enter Try.func32, Try.ntmps32
  go_wp2_with fail
  refine (get_nil a n _).mono ?_
  rintro e w1 ⟨rfl, b1⟩
  have B1 := Lib.hid (HB.out.trans (b1.mono HB.out.size))
  clear b1
  go_wp2
  go_ret2
  exact ⟨rfl, B1.out⟩
set_option maxRecDepth 100000 in
set_option maxHeartbeats 4000000 in
theorem tget_in (h : TabAt w base T t cnt bs) (ha : 0 ≤ a ∧ a ≤ 4294967295) (hn : -9223372036854775808 ≤ n ∧ n ≤ 9223372036854775807) : Calls Try.prog 32 #[.pointer (some ⟨T, 0, none⟩), .agg #[.int .u32 a, .int .i64 n]] w fun e w' => e = .returned (.tuple #[.int .i64 ((tget a n t).getD 0), .bool (tget a n t).isSome]) ∧ Below w.heap.size w w' := by
  obtain ⟨hb, hp, hsz⟩ := prefix_box w a n
  obtain ⟨p0, p1⟩ := box2 hp
  have HB := Lib.hid hb
  have GT := Lib.hid (get_in (h.below hb) ha hn)
  clear hb hp hsz h
  obtain ⟨o, ho⟩ : ∃ o, tget a n t = o := ⟨_, rfl⟩
  rw [ho] at GT
  rw [ho]
  clear ho
  cases o with
  | none =>
    go_enter Try.func32, Try.ntmps32
    go_wp2_with fail
    refine GT.out.mono ?_
    rintro e w1 ⟨⟨v, rfl, hv⟩, b1⟩
    have BW := Lib.hid b1
    have B1 := Lib.hid (HB.out.trans (b1.mono HB.out.size))
    clear b1 GT p0 p1
    generalize w.alloc (.cells #[.int .u32 a, .int .i64 n] 70) = W at *
    have hv : v = .pointer none := hv
    subst hv
    go_wp2
    go_ret2
    exact ⟨rfl, B1.out⟩
  | some x =>
    go_enter Try.func32, Try.ntmps32
    go_wp2_with fail
    refine GT.out.mono ?_
    rintro e w1 ⟨⟨v, rfl, hv⟩, b1⟩
    have BW := Lib.hid b1
    have B1 := Lib.hid (HB.out.trans (b1.mono HB.out.size))
    clear b1 GT p0 p1
    generalize w.alloc (.cells #[.int .u32 a, .int .i64 n] 70) = W at *
    obtain ⟨B2, b2, m2, vl2, vr2, rfl, h2⟩ := hv
    obtain ⟨-, -, -, d3, -, -⟩ := (h2.below BW.out).cell
    clear h2
    go_wp2
    go_ret2
    exact ⟨rfl, B1.out⟩
end
end Go.Proofs.Ytfjhcmihjffknaa
