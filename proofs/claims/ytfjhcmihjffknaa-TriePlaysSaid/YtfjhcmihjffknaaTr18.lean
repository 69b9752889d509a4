/-
  Package trie: what a table takes, and drops, whatever it is asked; what an address finds stays, where a prefix comes or goes that does not have it. No condition but that New made it.
-/
import Derived.Test.YtfjhcmihjffknaaTr17
import Derived.Test.YtfjhcmihjffknaaTr12
namespace Go.Proofs.Ytfjhcmihjffknaa
set_option linter.unusedVariables false
set_option linter.unusedSimpArgs false
open Go.ChangeShapes Go.WideShapes Go.ChangeAt Go.RowKit
attribute [local go_sem] alloc_drewN setCell_drewN

section
variable {w w' : World} {base T : Nat} {t : Tr} {cnt : Int} {bs : List Nat} {a n : Int}
theorem tputF_isNil (a n x : Int) {t : Tr} (h : rootOk a n t) : (tputF a n x t).isNil = false := by
  cases t with
  | nil => exact h.elim
  | nd b m th y l r =>
    unfold tputF
    split
    · rfl
    · rw [if_pos (h.resolve_left (by assumption))]
      split <;> rfl
set_option maxRecDepth 100000 in
set_option maxHeartbeats 4000000 in
theorem tput_wrong (h : TabAt w base T t cnt bs) (ha : 0 ≤ a ∧ a ≤ 4294967295) (hn : -9223372036854775808 ≤ n ∧ n ≤ 9223372036854775807) (hR : ¬ RtP a n) (x : Int) : Calls Try.prog 35 #[.pointer (some ⟨T, 0, none⟩), .agg #[.int .u32 a, .int .i64 n], .int .i64 x] w fun e w' => e = .returned (.int .i64 6) ∧ Below w.heap.size w w' := by
  obtain ⟨hb, hp, hsz⟩ := prefix_box w a n
  have MD := Lib.hid (tmade (h.below hb))
  have HB := Lib.hid hb
  have HP := Lib.hid hp
  have SZ := Lib.hid hsz
  have HH := Lib.hid (h.below hb)
  have RT := Lib.hid (fun (v : World) => (show Calls Try.prog 66 #[.agg #[.int .u32 a, .int .i64 n]] v fun e w' => e = .returned (.bool false) ∧ Below v.heap.size v w' from by
    have c := right_any a n ha.1 ha.2 hn.1 hn.2 v
    rw [decide_eq_false hR] at c
    exact c))
  obtain ⟨p0, p1⟩ := box2 hp
  clear hb hp hsz h
  go_enter Try.func35, Try.ntmps35
  go_wp2_with fail
  refine MD.out.mono ?_
  rintro e w1 ⟨rfl, rfl⟩
  clear MD
  generalize w.alloc (.cells #[.int .u32 a, .int .i64 n] 70) = W at *
  go_wp2_with fail
  refine (RT.out _).mono ?_
  rintro e w2 ⟨rfl, b2⟩
  have FIN := Lib.hid (HB.out.trans (b2.mono HB.out.size))
  clear b2 p0 p1 RT
  go_wp2
  go_ret
  exact ⟨rfl, FIN.out⟩
set_option maxRecDepth 100000 in
set_option maxHeartbeats 4000000 in
theorem tput_full (h : TabAt w base T t cnt bs) (ha : 0 ≤ a ∧ a ≤ 4294967295) (hn : -9223372036854775808 ≤ n ∧ n ≤ 9223372036854775807) (hR : RtP a n) (x : Int) (hg : tget a n t = none) (hcn : cnt = 4096) : Calls Try.prog 35 #[.pointer (some ⟨T, 0, none⟩), .agg #[.int .u32 a, .int .i64 n], .int .i64 x] w fun e w' => e = .returned (.int .i64 20) ∧ Below w.heap.size w w' := by
  obtain ⟨hb, hp, hsz⟩ := prefix_box w a n
  have MD := Lib.hid (tmade (h.below hb))
  have HB := Lib.hid hb
  have HP := Lib.hid hp
  have SZ := Lib.hid hsz
  have HH := Lib.hid (h.below hb)
  have RT := Lib.hid (fun (v : World) => (show Calls Try.prog 66 #[.agg #[.int .u32 a, .int .i64 n]] v fun e w' => e = .returned (.bool true) ∧ Below v.heap.size v w' from by
    have c := right_any a n ha.1 ha.2 hn.1 hn.2 v
    rw [decide_eq_true hR] at c
    exact c))
  obtain ⟨p0, p1⟩ := box2 hp
  clear hb hp hsz h
  go_enter Try.func35, Try.ntmps35
  go_wp2_with fail
  refine MD.out.mono ?_
  rintro e w1 ⟨rfl, rfl⟩
  clear MD
  generalize w.alloc (.cells #[.int .u32 a, .int .i64 n] 70) = W at *
  go_wp2_with fail
  refine (RT.out _).mono ?_
  rintro e w2 ⟨rfl, b2⟩
  have B2 := Lib.hid b2
  have H2 := Lib.hid (HH.out.below b2)
  have GT := get_in H2.out ha hn
  rw [hg] at GT
  have GT := Lib.hid GT
  have P2 := Lib.hid ((b2.block _ SZ.out).trans HP.out)
  obtain ⟨q0, q1⟩ := box2 P2.out
  clear b2 p0 p1 RT
  go_wp2_with fail
  refine GT.out.mono ?_
  rintro e w3 ⟨⟨v, rfl, hv⟩, b3⟩
  have hv : v = .pointer none := hv
  subst hv
  have FIN := Lib.hid (HB.out.trans ((B2.out.trans (b3.mono B2.out.size)).mono HB.out.size))
  obtain ⟨-, -, -, -, B, g5, -⟩ := H2.out.below b3
  obtain ⟨c0, c1, -⟩ := tab_cells g5
  rw [hcn] at c1
  clear b3 GT g5
  go_wp2
  go_ret
  exact ⟨rfl, FIN.out⟩
set_option maxRecDepth 100000 in
set_option maxHeartbeats 8000000 in
theorem tput_okF (h : TabAt w base T t cnt bs) (ha : 0 ≤ a ∧ a ≤ 4294967295) (hR : RtP a n) (x : Int) (hg : tget a n t = none) (hcn : cnt < 4096) (hw : Wf t) (hro : rootOk a n t) : Calls Try.prog 35 #[.pointer (some ⟨T, 0, none⟩), .agg #[.int .u32 a, .int .i64 n], .int .i64 x] w fun e w' => e = .returned (.int .i64 0) ∧ ∃ bs', TabAt w' base T (tputF a n x t) (cnt + 1) bs' ∧ MvS w w' (fun j => j ∈ T :: bs) (fun j => j ∈ T :: bs') := by
  have hn := hR.1
  obtain ⟨hb, hp, hsz⟩ := prefix_box w a n
  have MD := Lib.hid (tmade (h.below hb))
  have HB := Lib.hid hb
  have HP := Lib.hid hp
  have SZ := Lib.hid hsz
  have HH := Lib.hid (h.below hb)
  have H0 := Lib.hid h
  have BZ := Lib.hid (show base ≤ w.heap.size from Nat.le_of_lt (Nat.lt_of_le_of_lt h.inlt.1 h.inlt.2.1))
  have RT := Lib.hid (fun (v : World) => (show Calls Try.prog 66 #[.agg #[.int .u32 a, .int .i64 n]] v fun e w' => e = .returned (.bool true) ∧ Below v.heap.size v w' from by
    have c := right_any a n ha.1 ha.2 (by omega) (by omega) v
    rw [decide_eq_true hR] at c
    exact c))
  obtain ⟨p0, p1⟩ := box2 hp
  have hw1 : IntKind.i64.wrap (cnt + 1) = cnt + 1 := by rw [IntKind.wrap_i64]; have := h.2.2.1; omega
  have gk : (cnt == 4096) = false := by
    rw [beq_eq_false_iff_ne]; omega
  have CN := Lib.hid (show 0 ≤ cnt + 1 ∧ cnt + 1 ≤ 4096 by have := h.2.2.1; omega)
  clear hb hp hsz h hcn
  go_enter Try.func35, Try.ntmps35
  go_wp2_with fail
  refine MD.out.mono ?_
  rintro e w1 ⟨rfl, rfl⟩
  clear MD
  generalize w.alloc (.cells #[.int .u32 a, .int .i64 n] 70) = W at *
  go_wp2_with fail
  refine (RT.out _).mono ?_
  rintro e w2 ⟨rfl, b2⟩
  have B2 := Lib.hid b2
  have H2 := Lib.hid (HH.out.below b2)
  have GT := get_in (n := n) H2.out ha (by omega)
  rw [hg] at GT
  have GT := Lib.hid GT
  have P2 := Lib.hid ((b2.block _ SZ.out).trans HP.out)
  have S2 := Lib.hid (Nat.lt_of_lt_of_le SZ.out b2.size)
  obtain ⟨q0, q1⟩ := box2 P2.out
  clear b2 p0 p1 RT
  go_wp2_with fail
  refine GT.out.mono ?_
  rintro e w3 ⟨⟨v, rfl, hv⟩, b3⟩
  have hv : v = .pointer none := hv
  subst hv
  have H3 := Lib.hid (H2.out.below b3)
  have B3 := Lib.hid (HB.out.trans ((B2.out.trans (b3.mono B2.out.size)).mono HB.out.size))
  have P3 := Lib.hid ((b3.block _ S2.out).trans P2.out)
  obtain ⟨r0, r1⟩ := box2 P3.out
  have S3 := Lib.hid (Nat.lt_of_lt_of_le S2.out b3.size)
  clear b3 GT q0 q1
  obtain ⟨g1, g2, g3, g4, B, g5, g6⟩ := H3.out
  obtain ⟨c0, c1, -⟩ := tab_cells g5
  have ROOT := Lib.hid (show ∃ c, w.heap[T]? = some (.cells #[.pointer (some ⟨B, 0, none⟩), .int .i64 c] 128 (0, 0)) by
    obtain ⟨-, -, -, -, B', e5, -⟩ := H0.out
    have e := (B3.out.block T H0.out.inlt.2.1).trans e5
    rw [g5] at e
    exact ⟨cnt, e5.trans (by rw [← e])⟩)
  have TLT := Lib.hid (Array.getElem?_eq_some_iff.1 g5).1
  have PB := Lib.hid (put_anyF (x := x) ha hR t (g6.below ((Below.refl _ w3).drew)) hw (by show base ≤ w3.heap.size; exact Nat.le_trans BZ.out B3.out.size))
  have NN := Lib.hid g1
  have G5 := Lib.hid g5
  have G4 := Lib.hid g4
  clear g1 g2 g3 g4 g5 g6
  go_wp2
  go_region_held3 (fun v => v.cell? ⟨T, 0, none⟩ = some (.pointer (some ⟨B, 0, none⟩)) ∧ v.cell? ⟨w.heap.size, 0, none⟩ = some (.int .u32 a) ∧ v.cell? ⟨w.heap.size, 1, none⟩ = some (.int .i64 n)) ((first | exact JP | exact ⟨c0, r0, r1⟩)) (first
    | (go_at_call 67; refine PB.out.mono ?_; rintro e w4 ⟨p, rfl, bs4, t4, m4, e4⟩; have e5 := (e4 hro).symm; simp only [Value.pointer.injEq] at e5; subst e5; have FIN := Lib.hid (H0.out.turn (B3.out.drew) t4 ROOT.out (tputF_isNil a n x hro) m4 (cnt + 1) CN.out); obtain ⟨k0, k1, k2⟩ := tab_cells FIN.out.1; have PNI : w.heap.size ∉ bs := (fun hin => (by have := (H0.out.inlt.2.2 _ hin).2; omega)); have PN := Lib.hid (show w4.heap[w.heap.size]? = some _ from (m4.block _ S3.out PNI).trans P3.out); have JP : w4.cell? ⟨T, 0, none⟩ = some (.pointer (some ⟨B, 0, none⟩)) ∧ w4.cell? ⟨w.heap.size, 0, none⟩ = some (.int .u32 a) ∧ w4.cell? ⟨w.heap.size, 1, none⟩ = some (.int .i64 n) := ⟨k0, box2 PN.out⟩; clear t4 m4 e4)
    | fail)
  clear c0 c1 r0 r1 JP PB
  go_wp2
  go_ret
  exact ⟨rfl, bs4, FIN.out.2.1, FIN.out.2.2⟩
/-- A table that is well formed, seen from outside. -/
def TabW (w : World) (base T : Nat) (t : Tr) (bs : List Nat) : Prop := TabAt w base T t (tsz t) bs ∧ Wf t ∧ ∃ th x l r, t = .nd 0 0 th x l r
theorem root_covers (ha : 0 ≤ a ∧ a ≤ 4294967295) (hr : RtP a n) : CvP 0 0 a n := by
  refine ⟨hr, hr.1.1, by decide, ?_⟩
  have e : (pw 0 : Int) = 4294967296 := rfl
  rw [e]
  omega
theorem tput_W (h : TabW w base T t bs) (ha : 0 ≤ a ∧ a ≤ 4294967295) (hn : -9223372036854775808 ≤ n ∧ n ≤ 9223372036854775807) (x : Int) : Calls Try.prog 35 #[.pointer (some ⟨T, 0, none⟩), .agg #[.int .u32 a, .int .i64 n], .int .i64 x] w fun e w' => ∃ c, e = .returned (.int .i64 c) ∧ ∃ t' bs', TabW w' base T t' bs' ∧ MvS w w' (fun j => j ∈ T :: bs) (fun j => j ∈ T :: bs') ∧ ∀ q, 0 ≤ q → ¬ HsP a n q → tfind q t' = tfind q t := by
  obtain ⟨h1, h2, th, x0, l, r, h3⟩ := h
  by_cases hr : RtP a n
  · cases hg : tget a n t with
    | some z => exact (tput_there h1 ha hn hr x hg).mono fun e w' ⟨g1, g2⟩ => ⟨_, g1, t, bs, ⟨h1.below g2, h2, th, x0, l, r, h3⟩, MvS.of_below _ g2, fun q _ _ => rfl⟩
    | none =>
      by_cases hc : tsz t = 4096
      · exact (tput_full h1 ha hn hr x hg hc).mono fun e w' ⟨g1, g2⟩ => ⟨_, g1, t, bs, ⟨h1.below g2, h2, th, x0, l, r, h3⟩, MvS.of_below _ g2, fun q _ _ => rfl⟩
      · have hro : rootOk a n t := by rw [h3]; exact Or.inr (root_covers ha hr)
        refine (tput_okF h1 ha hr x hg (by have := h1.2.2.1; omega) h2 hro).mono fun e w' ⟨g1, bs', g2, g3⟩ => ⟨_, g1, tputF a n x t, bs', ⟨?_, wf_put ha hr h2, ?_⟩, g3, fun q hq hnq => tfind_put ha hr hq hnq h2⟩
        · rw [tsz_put hr hg]; exact g2
        · rw [h3]
          unfold tputF
          split
          · exact ⟨_, _, _, _, rfl⟩
          · rw [if_pos (root_covers ha hr)]
            split <;> exact ⟨_, _, _, _, rfl⟩
  · exact (tput_wrong h1 ha hn hr x).mono fun e w' ⟨g1, g2⟩ => ⟨_, g1, t, bs, ⟨h1.below g2, h2, th, x0, l, r, h3⟩, MvS.of_below _ g2, fun q _ _ => rfl⟩
theorem tdrop_W (h : TabW w base T t bs) (ha : 0 ≤ a ∧ a ≤ 4294967295) (hn : -9223372036854775808 ≤ n ∧ n ≤ 9223372036854775807) : Calls Try.prog 33 #[.pointer (some ⟨T, 0, none⟩), .agg #[.int .u32 a, .int .i64 n]] w fun e w' => ∃ c b, e = .returned (.tuple #[.int .i64 c, .bool b]) ∧ ∃ t' bs', TabW w' base T t' bs' ∧ MvS w w' (fun j => j ∈ T :: bs) (fun j => j ∈ T :: bs') ∧ ∀ q, 0 ≤ q → ¬ HsP a n q → tfind q t' = tfind q t := by
  obtain ⟨h1, h2, th, x0, l, r, h3⟩ := h
  cases hg : tget a n t with
  | none => exact (tdrop_none h1 ha hn hg).mono fun e w' ⟨g1, g2⟩ => ⟨_, _, g1, t, bs, ⟨h1.below g2, h2, th, x0, l, r, h3⟩, MvS.of_below _ g2, fun q _ _ => rfl⟩
  | some z =>
    refine (tdrop_ok h1 ha hn hg (tsz_pos hg)).mono fun e w' ⟨g1, bs', g2, g3⟩ => ⟨_, _, g1, tdrop a n t, bs', ⟨?_, wf_drop a n h2, ?_⟩, g3, fun q hq hnq => find_drop hq hnq h2⟩
    · rw [tsz_drop hg]; exact g2
    · rw [h3]
      unfold tdrop
      split
      · exact ⟨_, _, _, _, rfl⟩
      · split <;> exact ⟨_, _, _, _, rfl⟩
end
end Go.Proofs.Ytfjhcmihjffknaa
