/-
  The example of layer 32, walked: true. No condition.
-/
import Derived.Test.YtfjhcmihjffknaaTr12
namespace Go.Proofs.Ytfjhcmihjffknaa
set_option linter.unusedVariables false
set_option linter.unusedSimpArgs false
open Go.ChangeShapes Go.WideShapes Go.ChangeAt Go.RowKit
attribute [local go_sem] alloc_drewN setCell_drewN

def tr0 : Tr := .nd 0 0 false 0 .nil .nil
def tr1 : Tr := .nd 0 0 false 0 (.nd 167772160 8 true 1 .nil .nil) .nil
def tr2 : Tr := .nd 0 0 false 0 (.nd 167772160 8 true 1 (.nd 167837696 16 true 2 .nil .nil) .nil) .nil
theorem bit_a : brn 0 167772160 = 0 ∧ brn 0 167837696 = 0 ∧ brn 8 167837696 = 0 ∧ brn 0 167837701 = 0 ∧ brn 8 167837701 = 0 := by decide +kernel
theorem cov_a : CvP 0 0 167772160 8 ∧ CvP 0 0 167837696 16 ∧ CvP 167772160 8 167837696 16 ∧ RtP 167772160 8 ∧ RtP 167837696 16 := by decide +kernel
theorem tr_1 : tput 167772160 8 1 tr0 = tr1 := by
  simp [tput, tr0, tr1, bit_a]
theorem tr_2 : tput 167837696 16 2 tr1 = tr2 := by
  simp [tput, tr1, tr2, bit_a]
theorem tr_3 : tdrop 167837696 16 tr2 = tr1 := by
  simp [tdrop, tr1, tr2, bit_a, tshr, Tr.isNil]
theorem nf_1 : noFork 167772160 8 tr0 := by
  simp [noFork, tr0, cov_a]
theorem nf_2 : noFork 167837696 16 tr1 := by
  simp [noFork, tr1, cov_a]
theorem tg_1 : tget 167772160 8 tr0 = none := by decide +kernel
theorem tg_2 : tget 167837696 16 tr1 = none := by decide +kernel
theorem tg_3 : tget 167837696 16 tr2 = some 2 := by decide +kernel
theorem tf_2 : tfind 167837701 tr2 = some (167837696, 16, 2) := by decide +kernel
theorem tf_3 : tfind 167837701 tr1 = some (167772160, 8, 1) := by decide +kernel
/-- A table, and boxes of prefixes beside it. -/
def Lv (w0 w : World) (T : Nat) (t : Tr) (cnt : Int) (L : List (Nat × Int × Int)) : Prop :=
  ∃ bs, TabAt w w0.heap.size T t cnt bs ∧ (∀ z ∈ L, w.heap[z.1]? = some (.cells #[.int .u32 z.2.1, .int .i64 z.2.2] 70 (0, 0)) ∧ z.1 ∉ T :: bs) ∧ Below w0.heap.size w0 w
section
variable {w0 w w' : World} {T : Nat} {t : Tr} {cnt : Int} {L : List (Nat × Int × Int)}
theorem Lv.turn {bs bs' : List Nat} {t' : Tr} {c' : Int} (h : TabAt w w0.heap.size T t cnt bs) (hL : ∀ z ∈ L, w.heap[z.1]? = some (.cells #[.int .u32 z.2.1, .int .i64 z.2.2] 70 (0, 0)) ∧ z.1 ∉ T :: bs) (hb : Below w0.heap.size w0 w) (h' : TabAt w' w0.heap.size T t' c' bs') (m : MvS w w' (fun j => j ∈ T :: bs) (fun j => j ∈ T :: bs')) : Lv w0 w' T t' c' L := by
  refine ⟨bs', h', fun z hz => ?_, m.below hb (fun j hj => ?_) hb.size⟩
  · obtain ⟨h1, h2⟩ := hL z hz
    have hlt := (Array.getElem?_eq_some_iff.1 h1).1
    refine ⟨(m.block z.1 hlt h2).trans h1, fun hin => ?_⟩
    rcases m.own z.1 hin with e | e
    · omega
    · exact h2 e
  · rw [List.mem_cons] at hj
    rcases hj with rfl | hj
    · exact h.inlt.1
    · exact (h.inlt.2.2 j hj).1
theorem Lv.on (h : Lv w0 w T t cnt L) (hb : Below w.heap.size w w') : Lv w0 w' T t cnt L := by
  obtain ⟨bs, h1, h2, h3⟩ := h
  exact Lv.turn h1 h2 h3 (h1.below hb) (MvS.of_below _ hb)
theorem Lv.more (h : Lv w0 w T t cnt L) {a n : Int} {s : Nat} (hs : w.heap.size ≤ s) (hb : Below w.heap.size w w') (hc : w'.heap[s]? = some (.cells #[.int .u32 a, .int .i64 n] 70 (0, 0))) : Lv w0 w' T t cnt ((s, a, n) :: L) := by
  obtain ⟨bs, h1, h2, h3⟩ := h.on hb
  obtain ⟨bs0, g1, g2, g3⟩ := h
  refine ⟨bs0, g1.below hb, fun z hz => ?_, h3⟩
  rw [List.mem_cons] at hz
  rcases hz with rfl | hz
  · refine ⟨hc, fun hin => ?_⟩
    have hs : w.heap.size ≤ s := hs
    rw [List.mem_cons] at hin
    rcases hin with e | e
    · have := g1.inlt.2.1; omega
    · have := (g1.inlt.2.2 _ e).2; omega
  · obtain ⟨k1, k2⟩ := g2 z hz
    exact ⟨(hb.block _ (Array.getElem?_eq_some_iff.1 k1).1).trans k1, k2⟩
theorem Lv.put {a n x : Int} {t' : Tr} {c' : Int} (h : Lv w0 w T t cnt L) (ha : 0 ≤ a ∧ a ≤ 4294967295) (hn : 0 ≤ n ∧ n ≤ 32) (hR : RtP a n) (hg : tget a n t = none) (hcn : cnt < 4096) (hf : noFork a n t) (e : tput a n x t = t') (ec : cnt + 1 = c') : Calls Try.prog 35 #[.pointer (some ⟨T, 0, none⟩), .agg #[.int .u32 a, .int .i64 n], .int .i64 x] w fun e w' => e = .returned (.int .i64 0) ∧ Lv w0 w' T t' c' L := by
  obtain ⟨bs, h1, h2, h3⟩ := h
  subst e ec
  exact (tput_ok h1 ha hn hR x hg hcn hf).mono fun e w' ⟨g1, bs', g2, g3⟩ => ⟨g1, Lv.turn h1 h2 h3 g2 g3⟩
theorem Lv.there {a n x z : Int} (h : Lv w0 w T t cnt L) (ha : 0 ≤ a ∧ a ≤ 4294967295) (hn : 0 ≤ n ∧ n ≤ 32) (hR : RtP a n) (hg : tget a n t = some z) : Calls Try.prog 35 #[.pointer (some ⟨T, 0, none⟩), .agg #[.int .u32 a, .int .i64 n], .int .i64 x] w fun e w' => e = .returned (.int .i64 8) ∧ Lv w0 w' T t cnt L := by
  have h' := h
  obtain ⟨bs, h1, h2, h3⟩ := h
  exact (tput_there h1 ha (by omega) hR x hg).mono fun e w' ⟨g1, g2⟩ => ⟨g1, h'.on g2⟩
theorem Lv.drop {a n z : Int} {t' : Tr} {c' : Int} (h : Lv w0 w T t cnt L) (ha : 0 ≤ a ∧ a ≤ 4294967295) (hn : 0 ≤ n ∧ n ≤ 32) (hg : tget a n t = some z) (hcn : 1 ≤ cnt) (e : tdrop a n t = t') (ec : cnt - 1 = c') : Calls Try.prog 33 #[.pointer (some ⟨T, 0, none⟩), .agg #[.int .u32 a, .int .i64 n]] w fun e w' => e = .returned (.tuple #[.int .i64 z, .bool true]) ∧ Lv w0 w' T t' c' L := by
  obtain ⟨bs, h1, h2, h3⟩ := h
  subst e ec
  exact (tdrop_ok h1 ha (by omega) hg hcn).mono fun e w' ⟨g1, bs', g2, g3⟩ => ⟨g1, Lv.turn h1 h2 h3 g2 g3⟩
theorem Lv.find {a b m x : Int} (h : Lv w0 w T t cnt L) (ha : 0 ≤ a ∧ a ≤ 4294967295) (hg : tfind a t = some (b, m, x)) : Calls Try.prog 34 #[.pointer (some ⟨T, 0, none⟩), .int .u32 a] w fun e w' => e = .returned (.tuple #[.agg #[.int .u32 b, .int .i64 m], .int .i64 x, .bool true]) ∧ Lv w0 w' T t cnt L := by
  have h' := h
  obtain ⟨bs, h1, h2, h3⟩ := h
  exact (tfind_some h1 ha hg).mono fun e w' ⟨g1, g2⟩ => ⟨g1, h'.on g2⟩
theorem Lv.cells (h : Lv w0 w T t cnt L) {s : Nat} {a n : Int} (hz : (s, a, n) ∈ L) : w.cell? ⟨s, 0, none⟩ = some (.int .u32 a) ∧ w.cell? ⟨s, 1, none⟩ = some (.int .i64 n) := by
  obtain ⟨bs, h1, h2, h3⟩ := h
  exact box2 (h2 _ hz).1
end
set_option maxRecDepth 100000 in
set_option maxHeartbeats 8000000 in
theorem lives32 (w : World) : Calls Try.prog 38 #[] w fun e w' => e = .returned (.bool true) ∧ Below w.heap.size w w' := by
  have NW := Lib.hid (tnew w)
  go_enter Try.func38, Try.ntmps38
  go_wp2_with fail
  refine NW.out.mono ?_
  rintro e w1 ⟨rfl, h1, b1⟩
  have L1 := Lib.hid (show Lv w w1 (w.heap.size + 1) tr0 0 [] from ⟨_, h1, fun z hz => (by cases hz), b1⟩)
  clear h1 b1 NW
  generalize w.heap.size + 1 = T at *
  have P2 : Hid (∃ V, (w1.alloc (.cells #[.int .u32 167772160, .int .i64 8] 70)).alloc (.cells #[.int .u32 167837696, .int .i64 16] 70) = V ∧ Lv w V T tr0 0 [(w1.heap.size + 1, 167837696, 16), (w1.heap.size, 167772160, 8)]) := by
    refine ⟨_, rfl, Lv.more (Lv.more L1.out (s := w1.heap.size) (Nat.le_refl _) ((Below.refl _ w1).alloc (Nat.le_refl _) _) (heap_alloc_new w1 _)) (by simp) ((Below.refl _ _).alloc (Nat.le_refl _) _) ?_⟩
    have h := heap_alloc_new (w1.alloc (.cells #[.int .u32 167772160, .int .i64 8] 70)) (.cells #[.int .u32 167837696, .int .i64 16] 70)
    simpa only [World.size_alloc] using h
  go_wp2_with fail
  obtain ⟨V, hV, L2⟩ := P2.out
  rw [hV]
  generalize w1.heap.size + 1 = S2 at *
  generalize w1.heap.size = S1 at *
  have L2 := Lib.hid L2
  clear P2 hV L1
  refine (Lv.put L2.out (by omega) (by omega) cov_a.2.2.2.1 tg_1 (by omega) nf_1 tr_1 (c' := 1) (by omega)).mono ?_
  rintro e w3 ⟨rfl, l3⟩
  have L3 := Lib.hid l3
  obtain ⟨a0, a1⟩ := l3.cells (s := S2) (a := 167837696) (n := 16) (by simp)
  clear l3 L2
  go_wp2_with fail
  refine (Lv.put L3.out (by omega) (by omega) cov_a.2.2.2.2 tg_2 (by omega) nf_2 tr_2 (c' := 2) (by omega)).mono ?_
  rintro e w4 ⟨rfl, l4⟩
  have L4 := Lib.hid l4
  clear a0 a1
  obtain ⟨a0, a1⟩ := l4.cells (s := S2) (a := 167837696) (n := 16) (by simp)
  clear l4 L3
  go_wp2_with fail
  refine (Lv.there L4.out (by omega) (by omega) cov_a.2.2.2.2 tg_3).mono ?_
  rintro e w5 ⟨rfl, l5⟩
  have L5 := Lib.hid l5
  clear l5 L4 a0 a1
  go_wp2_with fail
  refine (Lv.find L5.out (by omega) tf_2).mono ?_
  rintro e w6 ⟨rfl, l6⟩
  have L6 := Lib.hid (Lv.more l6 (s := w6.heap.size) (Nat.le_refl _) ((Below.refl _ w6).alloc (Nat.le_refl _) (.cells #[.int .u32 167837696, .int .i64 16] 70)) (heap_alloc_new w6 _))
  obtain ⟨a0, a1⟩ := L6.out.cells (s := S2) (a := 167837696) (n := 16) (by simp)
  clear l6 L5
  go_wp2_with fail
  generalize w6.alloc (.cells #[.int .u32 167837696, .int .i64 16] 70) = V6 at *
  generalize w6.heap.size = S3 at *
  refine (Lv.drop L6.out (by omega) (by omega) tg_3 (by omega) tr_3 (c' := 1) (by omega)).mono ?_
  rintro e w7 ⟨rfl, l7⟩
  have L7 := Lib.hid l7
  clear l7 L6 a0 a1
  go_wp2_with fail
  refine (Lv.find L7.out (by omega) tf_3).mono ?_
  rintro e w8 ⟨rfl, l8⟩
  have L8 := Lib.hid (Lv.more l8 (s := w8.heap.size) (Nat.le_refl _) ((Below.refl _ w8).alloc (Nat.le_refl _) (.cells #[.int .u32 167772160, .int .i64 8] 70)) (heap_alloc_new w8 _))
  obtain ⟨a0, a1⟩ := L8.out.cells (s := S3) (a := 167837696) (n := 16) (by simp)
  obtain ⟨b0, b1⟩ := L8.out.cells (s := S2) (a := 167837696) (n := 16) (by simp)
  obtain ⟨c0, c1⟩ := L8.out.cells (s := w8.heap.size) (a := 167772160) (n := 8) (by simp)
  obtain ⟨d0, d1⟩ := L8.out.cells (s := S1) (a := 167772160) (n := 8) (by simp)
  have LN := Lib.hid (tlen (L8.out.choose_spec.1))
  have FIN := Lib.hid L8.out.choose_spec.2.2
  clear l8 L7 L8
  go_wp2_with fail
  refine LN.out.mono ?_
  rintro e w9 ⟨rfl, hw9⟩
  rw [hw9]
  clear hw9 LN
  go_wp2
  go_ret
  exact ⟨rfl, FIN.out⟩
end Go.Proofs.Ytfjhcmihjffknaa
