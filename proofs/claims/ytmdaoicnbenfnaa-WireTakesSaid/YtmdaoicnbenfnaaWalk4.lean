/-
  Laws of layer 4, walked: what is put and what is taken is the document's, for any fields, kinds and bytes. No condition.
-/
import Derived.Test.YtmdaoicnbenfnaaWireL
namespace Go.Proofs.Ytmdaoicnbenfnaa
set_option linter.unusedVariables false
set_option linter.unusedSimpArgs false
open Go.ChangeShapes Go.WideShapes Go.ChangeAt Go.RowKit
attribute [-go_sem] run_index_string binOp_string_eql binOp_string_neq run_string_add_if run_slice_string_from_if run_slice_string_to_if
attribute [local go_sem] index_bt add_fits slice_from slice_to eql_str neq_str alloc_drewN setCell_drewN

set_option maxHeartbeats 2000000 in
theorem puts_at (b off c : Nat) (fs : List Fd) (hm : fs.length ≤ maxLen) (hok : ∀ x ∈ fs, x.ok) (w : World) (hb : b < w.heap.size) (hc : FCells w b off fs) :
    Calls Try.prog 3 #[.slice (some ⟨b, off, none⟩) fs.length c] w fun e w' => e = .returned (.bool true) ∧ Below w.heap.size w w' := by
  have HC := Lib.hid hc; have HOK := Lib.hid hok
  have FW := Lib.hid (few_at b off c fs hm w hc)
  clear hc hok
  obtain ⟨R1, R2, hR, h0, h1⟩ : ∃ R1 R2, Hid (∃ x, R1 = Value.string x) ∧ (perr fs = 0 → #[R1, R2] = #[.string (pb fs), .int .i64 0]) ∧ (perr fs ≠ 0 → #[R1, R2] = #[.string ⟨#[]⟩, .int .i64 (perr fs)]) := by
    by_cases hp : perr fs = 0
    · exact ⟨_, _, Lib.hid ⟨_, rfl⟩, fun _ => rfl, fun h => absurd hp h⟩
    · exact ⟨_, _, Lib.hid ⟨_, rfl⟩, fun h => absurd h hp, fun _ => rfl⟩
  have hx : ∃ x y, R1 = .string x ∧ R2 = .int .i64 y := by
    by_cases hp : perr fs = 0
    · have := h0 hp
      simp at this
      exact ⟨_, _, this.1, this.2⟩
    · have := h1 hp
      simp at this
      exact ⟨_, _, this.1, this.2⟩
  obtain ⟨x, y, rfl, rfl⟩ := hx
  clear hR
  have PA : fs.length ≤ 200 → ∀ W, Below w.heap.size w W → Calls Try.prog 13 #[.slice (some ⟨b, off, none⟩) fs.length c] W fun e w' => e = .returned (.tuple #[.string x, .int .i64 y]) ∧ Below W.heap.size W w' := fun hn W hW =>
    Put_at b off c fs hn HOK.out W (by have := hW.size; omega) (fun i hi => by
      obtain ⟨c0, c1, c2⟩ := HC.out i hi
      exact ⟨(hW.cell (p := ⟨b, off + i * 3, none⟩) hb).trans c0, (hW.cell (p := ⟨b, off + i * 3 + 1, none⟩) hb).trans c1, (hW.cell (p := ⟨b, off + i * 3 + 2, none⟩) hb).trans c2⟩) _ h0 h1
  have PR : fs.length ≤ 200 → ∀ W, Below w.heap.size w W → Calls Try.prog 14 #[.slice (some ⟨b, off, none⟩) fs.length c] W fun e w' => e = .returned (.tuple #[.string x, .int .i64 y]) ∧ Below W.heap.size W w' := fun hn W hW =>
    refPut_at b off c fs hn HOK.out W (by have := hW.size; omega) (fun i hi => by
      obtain ⟨c0, c1, c2⟩ := HC.out i hi
      exact ⟨(hW.cell (p := ⟨b, off + i * 3, none⟩) hb).trans c0, (hW.cell (p := ⟨b, off + i * 3 + 1, none⟩) hb).trans c1, (hW.cell (p := ⟨b, off + i * 3 + 2, none⟩) hb).trans c2⟩) _ h0 h1
  have HPA := Lib.hid PA; have HPR := Lib.hid PR
  clear PA PR h0 h1
  unfold maxLen at hm
  go_enter Try.func3, Try.ntmps3
  go_wp2_with fail
  refine FW.out.mono ?_
  rintro e w' ⟨q, rfl, hq, rfl⟩
  by_cases hq2 : q ≤ 200
  · have hn := hq hq2
    have hd : decide (q ≤ 200) = true := decide_eq_true hq2
    have HPA2 := Lib.hid (HPA.out hn); have HPR2 := Lib.hid (HPR.out hn)
    rw [hd]
    clear hq hq2 hd
    go_wp2_with fail
    refine (HPA2.out _ (Below.refl _ _)).mono ?_
    rintro e w1 ⟨rfl, h1⟩
    go_wp2_with fail
    refine (HPR2.out _ h1).mono ?_
    rintro e w2 ⟨rfl, h2⟩
    have H12 := Lib.hid (Below.go h1 h2)
    clear h1 h2
    go_wp2
    go_loopw [26] (fun z wr => ∃ k : Nat, k ≤ fs.length ∧ z = .int .i64 k ∧ Below w.heap.size w wr) (fun z _ => fs.length - (intOf z).toNat)
    case atStart => exact ⟨0, Nat.zero_le _, rfl, H12.out⟩
    case round =>
      obtain ⟨k, hk, rfl, hbw⟩ := hrel
      by_cases hlt : k < fs.length
      · obtain ⟨c0, c1, c2⟩ := HC.out k hlt
        have hmem : fs.getD k Fd.nil ∈ fs := by rw [List.getD_eq_getElem?_getD, List.getElem?_eq_getElem hlt]; exact List.getElem_mem _
        obtain ⟨⟨k0, k1⟩, ⟨n0, n1⟩, s1⟩ := HOK.out _ hmem
        have KC : Hid (∀ v, Below w.heap.size w v → v.cell? ⟨b, off + k * 3, none⟩ = some (.int .i64 (fs.getD k Fd.nil).k) ∧ v.cell? ⟨b, off + k * 3 + 1, none⟩ = some (.int .u64 (fs.getD k Fd.nil).n) ∧ v.cell? ⟨b, off + k * 3 + 2, none⟩ = some (.string (fs.getD k Fd.nil).s)) := Lib.hid fun v hv =>
          ⟨(hv.cell (p := ⟨b, off + k * 3, none⟩) hb).trans c0, (hv.cell (p := ⟨b, off + k * 3 + 1, none⟩) hb).trans c1, (hv.cell (p := ⟨b, off + k * 3 + 2, none⟩) hb).trans c2⟩
        clear c0 c1 c2 hmem
        generalize fs.getD k Fd.nil = f at *
        obtain ⟨fk, fn, fz⟩ := f
        simp only at k0 k1 n0 n1 s1 KC
        have ON := Lib.hid (fun w => one_any fk fn fz k0 k1 n0 n1 s1 w)
        have SZ := Lib.hid (fun w => size_any fk fn fz k0 k1 n0 n1 s1 w)
        have hz : (en ⟨fk, fn, fz⟩).size ≤ 9223372036854775807 := by
          by_cases he : er ⟨fk, fn, fz⟩ = 0
          · have := enc_small _ he
            unfold en; rw [if_pos he]; omega
          · unfold en; rw [if_neg he]; decide
        generalize en ⟨fk, fn, fz⟩ = u at *
        generalize er ⟨fk, fn, fz⟩ = ec at *
        obtain ⟨d0, d1, d2⟩ := KC.out _ hbw
        have HBW := Lib.hid hbw
        go_wp2_with fail
        refine (ON.out _).mono ?_
        rintro e w3 ⟨rfl, h3⟩
        have hb3 := hbw.trans (h3.mono hbw.size)
        obtain ⟨d3, d4, d5⟩ := KC.out _ hb3
        go_wp2_with fail
        refine (SZ.out _).mono ?_
        rintro e w4 ⟨rfl, h4⟩
        have HB4 := Lib.hid (hb3.trans (h4.mono hb3.size))
        go_wp2
        go_roundw
        case rel => exact ⟨k + 1, by omega, by go_num, HB4.out⟩
        case measure => simp [intOf] <;> omega
      · have HBW := Lib.hid hbw
        go_wp2_with fail
        refine (lives4 _).mono ?_
        rintro e w5 ⟨rfl, h5⟩
        go_wp2
        go_ret
        exact ⟨rfl, Below.go HBW.out h5⟩
  · have hd : decide (q ≤ 200) = false := decide_eq_false hq2
    rw [hd]
    clear hq hq2 hd
    go_wp2_with fail
    refine (lives4 _).mono ?_
    rintro e w5 ⟨rfl, h5⟩
    go_wp2
    go_ret
    exact ⟨rfl, h5⟩

theorem puts_none (a : Option Addr) (c : Nat) (w : World) :
    Calls Try.prog 3 #[.slice a 0 c] w fun e w' => e = .returned (.bool true) ∧ Below w.heap.size w w' := by
  go_enter Try.func3, Try.ntmps3
  go_wp2_with fail
  refine (few_none _ _ _).mono ?_
  rintro e w' ⟨rfl, rfl⟩
  go_wp2_with fail
  refine (Put_none _ _ _).mono ?_
  rintro e w1 ⟨rfl, h1⟩
  go_wp2_with fail
  refine (refPut_none _ _ _).mono ?_
  rintro e w2 ⟨rfl, h2⟩
  go_wp2
  refine wp_loop_rounds 1 ?_
  rw [rounds_succ]
  go_wp2_with fail
  refine (lives4 _).mono ?_
  rintro e w3 ⟨rfl, h3⟩
  go_wp2
  go_ret
  exact ⟨rfl, Below.go (Below.go h1 h2) h3⟩

theorem walk_wirePuts (a : Option Addr) (n c : Nat) (fs : List Fd) {w : World} (hr : RowF w a n fs) (hcap : n ≤ c) :
    Calls Try.prog 3 #[.slice a n c] w fun e w' => e = .returned (.bool true) ∧ Below w.heap.size w w' := by
  obtain ⟨hz, hm, hw, hc⟩ := hr
  by_cases h0 : n = 0
  · subst h0
    exact puts_none a c w
  · obtain ⟨b, off, rfl, hb, hcell⟩ := hc (by omega)
    subst hz
    exact puts_at b off c fs hm hw w hb hcell

/-- The row that a call hands back, in a later world. -/
theorem FCells.later {W v : World} {g off : Nat} {fl : List Fd} (h : FCells W g off fl) (hg : g < W.heap.size) (hb : Below W.heap.size W v) : FCells v g off fl := fun i hi => by
  obtain ⟨c0, c1, c2⟩ := h i hi
  exact ⟨(hb.cell (p := ⟨g, off + i * 3, none⟩) hg).trans c0, (hb.cell (p := ⟨g, off + i * 3 + 1, none⟩) hg).trans c1, (hb.cell (p := ⟨g, off + i * 3 + 2, none⟩) hg).trans c2⟩
theorem tl_len (s : ByteArray) : ∀ (ks : List Int) (d : Nat), (tl s ks d).1.length ≤ ks.length
  | [], d => Nat.le_refl _
  | k :: ks, d => by
    have ih := tl_len s ks (d + (tk (s.extract d s.size) k).2.1)
    unfold tl
    split
    · exact Nat.zero_le _
    · split
      · exact Nat.zero_le _
      · show (_ :: _ : List Fd).length ≤ _
        simp only [List.length_cons]
        omega
/-- The same row twice, told the same. -/
theorem same_own (w w1 w2 : World) (b1 b2 : Nat) (t : TypeId) (v1 v2 : Value) (fl : List Fd) (hn : fl.length ≤ 100000) (h1 : w1.ownsRow b1 t 3 v1 fl.length (fl.flatMap Fd.cells)) (h2 : w2.ownsRow b2 t 3 v2 fl.length (fl.flatMap Fd.cells))
    (hb : Below w1.heap.size w1 w2) : Calls Try.prog 19 #[v1, v2] w2 fun e w' => e = .returned (.bool true) ∧ Below w2.heap.size w2 w' := by
  rcases own_fields _ _ _ _ _ h1 with ⟨rfl, rfl⟩ | ⟨g, cap, rfl, _, hg, hf⟩
  · rcases own_fields _ _ _ _ _ h2 with ⟨rfl, _⟩ | ⟨g2, cap2, rfl, _, hg2, hf2⟩
    · exact same_none _ _ _ _ _
    · exact same_none _ _ _ _ _
  · rcases own_fields _ _ _ _ _ h2 with ⟨rfl, rfl⟩ | ⟨g2, cap2, rfl, _, hg2, hf2⟩
    · exact same_none _ _ _ _ _
    · exact same_at g 0 cap g2 0 cap2 fl hn w2 (by have := hb.size; omega) hg2 (hf.later hg hb) hf2

theorem Take_none (s : ByteArray) (a : Option Addr) (c : Nat) (w : World) :
    Calls Try.prog 17 #[.string s, .slice a 0 c] w fun e w' => e = .returned (.tuple #[.slice none 0 0, .int .i64 0, .int .i64 0]) ∧ Below w.heap.size w w' := by
  go_enter Try.func17, Try.ntmps17
  go_wp2
  refine wp_loop_rounds 1 ?_
  rw [rounds_succ]
  go_wp2
  go_ret3
  exact ⟨rfl, Below.refl _ _⟩
theorem refTake_none (s : ByteArray) (a : Option Addr) (c : Nat) (w : World) :
    Calls Try.prog 18 #[.string s, .slice a 0 c] w fun e w' => e = .returned (.tuple #[.slice none 0 0, .int .i64 0, .int .i64 0]) ∧ Below w.heap.size w w' := by
  go_enter Try.func18, Try.ntmps18
  go_wp2
  refine wp_loop_rounds 1 ?_
  rw [rounds_succ]
  go_wp2
  go_ret3
  exact ⟨rfl, Below.refl _ _⟩

theorem walk_wireTakes (s : ByteArray) (hs : s.size ≤ maxLen) (a : Option Addr) (n c : Nat) (zs : List Int) {w : World} (hr : Row1 .i64 w a n zs) (hcap : n ≤ c) :
    Calls Try.prog 4 #[.string s, .slice a n c] w fun e w' => e = .returned (.bool true) ∧ Below w.heap.size w w' := by
  obtain ⟨hz, hm, hw, hc⟩ := hr
  unfold maxLen at hm hs
  by_cases h8 : 80000 < s.size
  · clear hc hw hz
    go_enter Try.func4, Try.ntmps4
    go_wp2_with fail
    refine (lives4 _).mono ?_
    rintro e w5 ⟨rfl, h5⟩
    go_wp2
    go_ret
    exact ⟨rfl, h5⟩
  · by_cases h2 : 200 < n
    · clear hc hw hz
      go_enter Try.func4, Try.ntmps4
      go_wp2_with fail
      refine (lives4 _).mono ?_
      rintro e w5 ⟨rfl, h5⟩
      go_wp2
      go_ret
      exact ⟨rfl, h5⟩
    · by_cases h0 : n = 0
      · subst h0
        clear hc hw hz
        go_enter Try.func4, Try.ntmps4
        go_wp2_with fail
        refine (Take_none _ _ _ _).mono ?_
        rintro e w1 ⟨rfl, h1⟩
        go_wp2_with fail
        refine (refTake_none _ _ _ _).mono ?_
        rintro e w2 ⟨rfl, h2⟩
        go_wp2_with fail
        refine (same_none _ _ _ _ _).mono ?_
        rintro e w3 ⟨rfl, h3⟩
        go_wp2_with fail
        refine (lives4 _).mono ?_
        rintro e w5 ⟨rfl, h5⟩
        go_wp2
        go_ret
        exact ⟨rfl, Below.go (Below.go (Below.go h1 h2) h3) h5⟩
      · obtain ⟨b, off, rfl, hb, hcell⟩ := hc (by omega)
        subst hz
        have hok : ∀ x ∈ zs, -9223372036854775808 ≤ x ∧ x ≤ 9223372036854775807 := fun x hx => bounds_i64 (hw x hx)
        have TK := Lib.hid (Take_at s b off c zs (by omega) (by omega) hok w hb hcell)
        have RT : Hid (∀ W, Below w.heap.size w W → Calls Try.prog 18 #[.string s, .slice (some ⟨b, off, none⟩) zs.length c] W fun e w' => ∃ v, e = .returned (.tuple #[v, .int .i64 ((tl s zs 0).2.1 : Nat), .int .i64 (tl s zs 0).2.2]) ∧
            w'.ownsRow W.heap.size 33 3 v (tl s zs 0).1.length ((tl s zs 0).1.flatMap Fd.cells) ∧ Below W.heap.size W w') := Lib.hid fun W hW =>
          refTake_at s b off c zs (by omega) (by omega) hok W (by have := hW.size; omega) (fun i hi => (hW.cell (p := ⟨b, off + i, none⟩) hb).trans (hcell i hi))
        have hlen := tl_len s zs 0
        have hl1 : (tl s zs 0).1.length ≤ 100000 := by omega
        clear hc hw hcell hok hlen
        generalize tl s zs 0 = r at *
        obtain ⟨fl, d, er⟩ := r
        simp only at TK RT hl1
        go_enter Try.func4, Try.ntmps4
        go_wp2_with fail
        refine TK.out.mono ?_
        rintro e w1 ⟨v1, rfl, ho1, h1⟩
        go_wp2_with fail
        refine (RT.out _ h1).mono ?_
        rintro e w2 ⟨v2, rfl, ho2, h2⟩
        have SM := Lib.hid (same_own w w1 w2 _ _ _ v1 v2 fl hl1 ho1 ho2 h2)
        go_wp2_with fail
        refine SM.out.mono ?_
        rintro e w3 ⟨rfl, h3⟩
        go_wp2_with fail
        refine (lives4 _).mono ?_
        rintro e w5 ⟨rfl, h5⟩
        go_wp2
        go_ret
        exact ⟨rfl, Below.go (Below.go (Below.go h1 h2) h3) h5⟩
end Go.Proofs.Ytmdaoicnbenfnaa
