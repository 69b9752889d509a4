/-
  Package trie: what a table takes. No condition but that New made it.
-/
import Derived.Test.YtfjhcmihjffknaaTr10
namespace Go.Proofs.Ytfjhcmihjffknaa
set_option linter.unusedVariables false
set_option linter.unusedSimpArgs false
open Go.ChangeShapes Go.WideShapes Go.ChangeAt Go.RowKit
attribute [local go_sem] alloc_drewN setCell_drewN

section
variable {w w' : World} {base T : Nat} {t : Tr} {cnt : Int} {bs : List Nat} {a n : Int}
/-- Its tree turned, its number put behind that. -/
theorem TabAt.turn (h : TabAt w base T t cnt bs) {W w3 : World} {B : Nat} {t' : Tr} {bs' : List Nat} (hW : Below w.heap.size w W) (hT : TrAt w3 base t' (.pointer (some ⟨B, 0, none⟩)) bs') (hroot : ∃ c, w.heap[T]? = some (.cells #[.pointer (some ⟨B, 0, none⟩), .int .i64 c] 128 (0, 0))) (ht : t'.isNil = false) (hm : MvS W w3 (fun j => j ∈ bs) (fun j => j ∈ bs')) (c' : Int) (hc : 0 ≤ c' ∧ c' ≤ 4096) :
    w3.heap[T]? = some (.cells #[.pointer (some ⟨B, 0, none⟩), .int .i64 cnt] 128 (0, 0)) ∧ TabAt (w3.setCell ⟨T, 1, none⟩ (.int .i64 c')) base T t' c' bs' ∧ MvS w (w3.setCell ⟨T, 1, none⟩ (.int .i64 c')) (fun j => j ∈ T :: bs) (fun j => j ∈ T :: bs') := by
  obtain ⟨h1, h2, h3, h4, B', h5, h6⟩ := h
  obtain ⟨c0, hr⟩ := hroot
  have hTl := (Array.getElem?_eq_some_iff.1 h5).1
  rw [h5] at hr
  simp only [Option.some.injEq, Obj.cells.injEq, Array.mk.injEq, List.cons.injEq, Value.pointer.injEq, and_true, Addr.mk.injEq] at hr
  obtain ⟨rfl, -⟩ := hr
  have hT3 : w3.heap[T]? = some (.cells #[.pointer (some ⟨B', 0, none⟩), .int .i64 cnt] 128 (0, 0)) := (hm.block T (Nat.lt_of_lt_of_le hTl hW.size) h4).trans ((hW.block T hTl).trans h5)
  have hT4 : T ∉ bs' := fun hin => by
    rcases hm.own T hin with e | e
    · have := hW.size; omega
    · exact h4 e
  have hset : ∀ j, j ≠ T → (w3.setCell ⟨T, 1, none⟩ (.int .i64 c')).heap[j]? = w3.heap[j]? := fun j hj => Below.heap_setCell w3 _ _ j hj
  refine ⟨hT3, ⟨ht, h2, hc, hT4, B', by simpa using heap_set hT3 1 (.int .i64 c'), hT.keep (fun j hj => hset j (fun e => hT4 (e ▸ hj)))⟩, ⟨hm.os.trans hW.os, hm.tape.trans hW.tape, hm.output.trans hW.output, by simpa using Nat.le_trans hW.size hm.size, fun j hj hn => ?_, fun j hj => ?_⟩⟩
  · rw [List.mem_cons] at hn
    exact (hset j (fun e => hn (Or.inl e))).trans ((hm.block j (Nat.lt_of_lt_of_le hj hW.size) (fun e => hn (Or.inr e))).trans (hW.block j hj))
  · rw [List.mem_cons] at hj
    rcases hj with rfl | hj
    · exact Or.inr (by simp)
    · rcases hm.own j hj with e | e
      · exact Or.inl (Nat.le_trans hW.size e)
      · exact Or.inr (by simp [e])
theorem tput_isNil (a n x : Int) (t : Tr) : (tput a n x t).isNil = false := by
  cases t with
  | nil => rfl
  | nd b m th y l r =>
    unfold tput
    split
    · rfl
    · split <;> rfl
theorem tdrop_isNil (a n : Int) {t : Tr} (h : t.isNil = false) : (tdrop a n t).isNil = false := by
  cases t with
  | nil => cases h
  | nd b m th y l r =>
    unfold tdrop
    split
    · rfl
    · split <;> rfl
set_option maxRecDepth 100000 in
theorem tput_nil (a n x : Int) (w : World) : Calls Try.prog 35 #[.pointer none, .agg #[.int .u32 a, .int .i64 n], .int .i64 x] w fun e w' => e = .returned (.int .i64 10) ∧ Below w.heap.size w w' := by
  obtain ⟨hb, hp, hsz⟩ := prefix_box w a n
  have HB := Lib.hid hb
  clear hb hp hsz
  go_enter Try.func35, Try.ntmps35
  go_wp2_with fail
  refine (tmade_nil _).mono ?_
  rintro e w1 ⟨rfl, rfl⟩
  go_wp2
  go_ret
  exact ⟨rfl, HB.out⟩
set_option maxRecDepth 100000 in
set_option maxHeartbeats 4000000 in
theorem tput_there (h : TabAt w base T t cnt bs) (ha : 0 ≤ a ∧ a ≤ 4294967295) (hn : -9223372036854775808 ≤ n ∧ n ≤ 9223372036854775807) (hR : RtP a n) (x : Int) {z : Int} (hg : tget a n t = some z) : Calls Try.prog 35 #[.pointer (some ⟨T, 0, none⟩), .agg #[.int .u32 a, .int .i64 n], .int .i64 x] w fun e w' => e = .returned (.int .i64 8) ∧ Below w.heap.size w w' := by
  obtain ⟨hb, hp, hsz⟩ := prefix_box w a n
  have MD := Lib.hid (tmade (h.below hb))
  have HB := Lib.hid hb
  have HP := Lib.hid hp
  have SZ := Lib.hid hsz
  have HH := Lib.hid (h.below hb)
  have RT := Lib.hid (fun (v : World) => (show Calls Try.prog 66 #[.agg #[.int .u32 a, .int .i64 n]] v fun e w' => e = .returned (.bool true) ∧ Below v.heap.size v w' from by
    have c := right_any a n ha.1 ha.2 hn.1 hn.2 v
    rw [decide_eq_true hR] at c
    exact c))
  obtain ⟨p0, p1⟩ := box2 hp
  clear hb hp hsz h
  go_enter Try.func35, Try.ntmps35
  go_wp2_with fail
  refine MD.out.mono ?_
  rintro e w1 ⟨rfl, rfl⟩
  clear MD
  generalize w.alloc (.cells #[.int .u32 a, .int .i64 n] 70) = W at *
  go_wp2_with fail
  refine (RT.out _).mono ?_
  rintro e w2 ⟨rfl, b2⟩
  have B2 := Lib.hid b2
  have H2 := Lib.hid (HH.out.below b2)
  have GT := get_in H2.out ha hn
  rw [hg] at GT
  have GT := Lib.hid GT
  have P2 := Lib.hid ((b2.block _ SZ.out).trans HP.out)
  obtain ⟨q0, q1⟩ := box2 P2.out
  clear b2 p0 p1 RT
  go_wp2_with fail
  refine GT.out.mono ?_
  rintro e w3 ⟨⟨v, rfl, hv⟩, b3⟩
  obtain ⟨B3, b3_, m3, vl3, vr3, rfl, -⟩ := hv
  have FIN := Lib.hid (HB.out.trans ((B2.out.trans (b3.mono B2.out.size)).mono HB.out.size))
  clear b3 GT
  go_wp2
  go_ret
  exact ⟨rfl, FIN.out⟩
set_option maxRecDepth 100000 in
set_option maxHeartbeats 8000000 in
theorem tput_ok (h : TabAt w base T t cnt bs) (ha : 0 ≤ a ∧ a ≤ 4294967295) (hn : 0 ≤ n ∧ n ≤ 32) (hR : RtP a n) (x : Int) (hg : tget a n t = none) (hcn : cnt < 4096) (hf : noFork a n t) : Calls Try.prog 35 #[.pointer (some ⟨T, 0, none⟩), .agg #[.int .u32 a, .int .i64 n], .int .i64 x] w fun e w' => e = .returned (.int .i64 0) ∧ ∃ bs', TabAt w' base T (tput a n x t) (cnt + 1) bs' ∧ MvS w w' (fun j => j ∈ T :: bs) (fun j => j ∈ T :: bs') := by
  obtain ⟨hb, hp, hsz⟩ := prefix_box w a n
  have MD := Lib.hid (tmade (h.below hb))
  have HB := Lib.hid hb
  have HP := Lib.hid hp
  have SZ := Lib.hid hsz
  have HH := Lib.hid (h.below hb)
  have H0 := Lib.hid h
  have BZ := Lib.hid (show base ≤ w.heap.size from Nat.le_of_lt (Nat.lt_of_le_of_lt h.inlt.1 h.inlt.2.1))
  have RT := Lib.hid (fun (v : World) => (show Calls Try.prog 66 #[.agg #[.int .u32 a, .int .i64 n]] v fun e w' => e = .returned (.bool true) ∧ Below v.heap.size v w' from by
    have c := right_any a n ha.1 ha.2 (by omega) (by omega) v
    rw [decide_eq_true hR] at c
    exact c))
  obtain ⟨p0, p1⟩ := box2 hp
  have hw1 : IntKind.i64.wrap (cnt + 1) = cnt + 1 := by rw [IntKind.wrap_i64]; have := h.2.2.1; omega
  have gk : (cnt == 4096) = false := by
    rw [beq_eq_false_iff_ne]; omega
  have CN := Lib.hid (show 0 ≤ cnt + 1 ∧ cnt + 1 ≤ 4096 by have := h.2.2.1; omega)
  clear hb hp hsz h hcn
  go_enter Try.func35, Try.ntmps35
  go_wp2_with fail
  refine MD.out.mono ?_
  rintro e w1 ⟨rfl, rfl⟩
  clear MD
  generalize w.alloc (.cells #[.int .u32 a, .int .i64 n] 70) = W at *
  go_wp2_with fail
  refine (RT.out _).mono ?_
  rintro e w2 ⟨rfl, b2⟩
  have B2 := Lib.hid b2
  have H2 := Lib.hid (HH.out.below b2)
  have GT := get_in (n := n) H2.out ha (by omega)
  rw [hg] at GT
  have GT := Lib.hid GT
  have P2 := Lib.hid ((b2.block _ SZ.out).trans HP.out)
  have S2 := Lib.hid (Nat.lt_of_lt_of_le SZ.out b2.size)
  obtain ⟨q0, q1⟩ := box2 P2.out
  clear b2 p0 p1 RT
  go_wp2_with fail
  refine GT.out.mono ?_
  rintro e w3 ⟨⟨v, rfl, hv⟩, b3⟩
  have hv : v = .pointer none := hv
  subst hv
  have H3 := Lib.hid (H2.out.below b3)
  have B3 := Lib.hid (HB.out.trans ((B2.out.trans (b3.mono B2.out.size)).mono HB.out.size))
  have P3 := Lib.hid ((b3.block _ S2.out).trans P2.out)
  obtain ⟨r0, r1⟩ := box2 P3.out
  have S3 := Lib.hid (Nat.lt_of_lt_of_le S2.out b3.size)
  clear b3 GT q0 q1
  obtain ⟨g1, g2, g3, g4, B, g5, g6⟩ := H3.out
  obtain ⟨c0, c1, -⟩ := tab_cells g5
  have ROOT := Lib.hid (show ∃ c, w.heap[T]? = some (.cells #[.pointer (some ⟨B, 0, none⟩), .int .i64 c] 128 (0, 0)) by
    obtain ⟨-, -, -, -, B', e5, -⟩ := H0.out
    have e := (B3.out.block T H0.out.inlt.2.1).trans e5
    rw [g5] at e
    exact ⟨cnt, e5.trans (by rw [← e])⟩)
  have TLT := Lib.hid (Array.getElem?_eq_some_iff.1 g5).1
  have PB := Lib.hid (put_any ha hn x t (g6.below ((Below.refl _ w3).drew)) hf (by show base ≤ w3.heap.size; exact Nat.le_trans BZ.out B3.out.size))
  have NN := Lib.hid g1
  have G5 := Lib.hid g5
  have G4 := Lib.hid g4
  clear g1 g2 g3 g4 g5 g6
  go_wp2
  go_region_held3 (fun v => v.cell? ⟨T, 0, none⟩ = some (.pointer (some ⟨B, 0, none⟩)) ∧ v.cell? ⟨w.heap.size, 0, none⟩ = some (.int .u32 a) ∧ v.cell? ⟨w.heap.size, 1, none⟩ = some (.int .i64 n)) ((first | exact JP | exact ⟨c0, r0, r1⟩)) (first
    | (go_at_call 67; refine PB.out.mono ?_; rintro e w4 ⟨p, bs4, rfl, t4, m4, e4⟩; have e5 := (e4 NN.out).symm; simp only [Value.pointer.injEq] at e5; subst e5; have FIN := Lib.hid (H0.out.turn (B3.out.drew) t4 ROOT.out (tput_isNil a n x t) m4 (cnt + 1) CN.out); obtain ⟨k0, k1, k2⟩ := tab_cells FIN.out.1; have PNI : w.heap.size ∉ bs := (fun hin => (by have := (H0.out.inlt.2.2 _ hin).2; omega)); have PN := Lib.hid (show w4.heap[w.heap.size]? = some _ from (m4.block _ S3.out PNI).trans P3.out); have JP : w4.cell? ⟨T, 0, none⟩ = some (.pointer (some ⟨B, 0, none⟩)) ∧ w4.cell? ⟨w.heap.size, 0, none⟩ = some (.int .u32 a) ∧ w4.cell? ⟨w.heap.size, 1, none⟩ = some (.int .i64 n) := ⟨k0, box2 PN.out⟩; clear t4 m4 e4)
    | fail)
  clear c0 c1 r0 r1 JP PB
  go_wp2
  go_ret
  exact ⟨rfl, bs4, FIN.out.2.1, FIN.out.2.2⟩
end
end Go.Proofs.Ytfjhcmihjffknaa
