/-
  Package admit: a packet is laid, comes, or goes; what waits of a flow. Nothing turns below 'base'. No condition but that New made the gate.
-/
import Derived.Test.YtiogfgkfipekbaaAdm3
namespace Go.Proofs.Ytiogfgkfipekbaa
set_option linter.unusedVariables false
set_option linter.unusedSimpArgs false
open Go.ChangeShapes Go.WideShapes Go.ChangeAt Go.RowKit
attribute [local go_sem] alloc_drewN setCell_drewN

theorem atrem {w : World} {b o : Nat} {p q n : Int} (c0 : w.cell? ⟨b, o, none⟩ = some (.int .i64 p)) (c1 : w.cell? ⟨b, o + 1, none⟩ = some (.int .u64 q)) (f0 : w.frozen? ⟨b, o, none⟩ = false) (f1 : w.frozen? ⟨b, o + 1, none⟩ = false) (p0 : -9223372036854775807 ≤ p) (p1 : p ≤ 9223372036854775807) (q1 : q ≤ 18446744073709551615) (n0 : 0 ≤ n) (qn : n ≤ q) :
    Calls Try.prog 55 #[.pointer (some ⟨b, o, none⟩), .int .u64 n] w fun e w' => e = .returned (.tuple #[]) ∧ w' = (w.setCell ⟨b, o, none⟩ (.int .i64 (p - 1))).setCell ⟨b, o + 1, none⟩ (.int .u64 (q - n)) := by
  go_enter Try.func55, Try.ntmps55
  go_wp2
  first | go_end0 | refine bodyPost_ret (results_none rfl _ _ _) rfl ?_
  exact ⟨rfl, rfl⟩
theorem put2 {w : World} {b o : Nat} {cs : Array Value} {t : TypeId} (h : w.heap[b]? = some (.cells cs t (0, 0))) (x y : Value) : ((w.setCell ⟨b, o, none⟩ x).setCell ⟨b, o + 1, none⟩ y).heap[b]? = some (.cells ((cs.setIfInBounds o x).setIfInBounds (o + 1) y) t (0, 0)) ∧ ∀ j, j ≠ b → ((w.setCell ⟨b, o, none⟩ x).setCell ⟨b, o + 1, none⟩ y).heap[j]? = w.heap[j]? :=
  ⟨heap_setCell_same _ b (o + 1) _ _ y (heap_setCell_same w b o _ _ x h), fun j hj => (heap_setCell_other _ ⟨b, o + 1, none⟩ j y (fun e => hj (by simpa using e))).trans (heap_setCell_other w ⟨b, o, none⟩ j x (fun e => hj (by simpa using e)))⟩
section
variable {w : World} {base G T : Nat} {room : Int} {v : Value} {es : List FeP} {bl : Int → Nat} {ds : Int → Dt} {c : Gc} {tp tb : Int}
/-- A flow's data behind one more packet. -/
def Dt.more (d : Dt) (n : Int) : Dt := ⟨d.pk + 1, d.by_ + n, d.most⟩
def Dt.less (d : Dt) (n : Int) : Dt := ⟨d.pk - 1, d.by_ - n, d.most⟩
set_option maxRecDepth 100000 in
set_option maxHeartbeats 2000000 in
/-- A packet is laid for which there is room. -/
theorem alay_ok (h : AdAt w base G T room v es bl ds c tp tb) (hbase : base ≤ w.heap.size) (id n : Int) (n0 : 0 ≤ n) (n1 : n ≤ 18446744073709551615) (hr : roomC c (isF (es.map FeP.id) id) tp tb (ds id) n = 0) : Calls Try.prog 18 #[.pointer (some ⟨G, 0, none⟩), .int .u32 id, .int .u64 n] w fun e w' => e = .returned (.int .i64 0) ∧ AdAt w' base G T room v es bl (updD ds id ((ds id).more n)) c (tp + 1) (tb + n) ∧ Below base w w' := by
  obtain ⟨hf, r1, r2, r3, r4, r5⟩ := roomC_found hr
  have RM := aroom h id n n0 n1
  rw [hr, if_pos rfl] at RM
  have RH := Lib.hid RM
  obtain ⟨e0, he0, hi0, -⟩ := entry_of hf
  obtain ⟨m1, m2, m3, m4, m5⟩ := h.ne he0
  have lo := (h.dat e0 he0).2.1
  have pk0 := h.nn e0 he0
  have pk1 := sumD_ge Dt.pk es ds h.nn e0 he0
  have by1 := sumD_ge Dt.by_ es ds (fun e he => (h.dat e he).2.2.2.2.1.1) e0 he0
  rw [← h.sp] at pk1
  rw [← h.sb] at by1
  rw [hi0] at m1 m2 m3 lo pk0 pk1 by1
  obtain ⟨-, hd, hk⟩ := h.find hf
  obtain ⟨⟨k0, k1⟩, ⟨k2, k3⟩, -⟩ := h.cok
  have sb : tb + n ≤ 18446744073709551615 := by
    unfold sub0 at r4
    split at r4 <;> omega
  have HH := Lib.hid h
  have b0 := h.b0; have b1 := h.b1
  obtain ⟨⟨y0, y1⟩, ⟨y2, y3⟩, -⟩ := hk
  clear h hr RM hd
  go_enter Try.func18, Try.ntmps18
  go_wp2_with fail
  refine RH.out.mono ?_
  rintro e w1 ⟨rfl, b1_⟩
  have HB1 := Lib.hid b1_
  have H1 := Lib.hid (HH.out.below b1_)
  obtain ⟨-, hd1, -⟩ := H1.out.find hf
  obtain ⟨d0, d1, -, f0, f1⟩ := hd1.at
  have HD1 := Lib.hid hd1
  have A1 := Lib.hid (atadd (w := w1) (b := bl id) (o := 0) (n := n) d0 d1 f0 f1 y0 (by omega) y2 n0 (by omega))
  clear b1_ d0 d1 f0 f1 hd1
  go_wp2_with fail
  refine A1.out.mono ?_
  rintro e w2 ⟨rfl, hw2⟩
  have P1 := put2 HD1.out (o := 0) (.int .i64 ((ds id).pk + 1)) (.int .u64 ((ds id).by_ + n))
  rw [← hw2] at P1
  have G2 : GkAt w2 G T c tp tb := (P1.2 G (fun x => m1 x.symm)).trans H1.out.gk
  have bb2 : Below base w w2 := by
    rw [hw2]; exact Below.setCell (Below.setCell (HB1.out.mono hbase) lo _) lo _
  obtain ⟨-, -, -, -, g4, g5, -, f4, f5⟩ := G2.at
  have A2 := Lib.hid (atadd (w := w2) (b := G) (o := 4) (n := n) g4 g5 f4 f5 (by omega) (by omega) (by omega) (by omega) (by omega))
  have P1H := Lib.hid P1; have G2H := Lib.hid G2; have HB2 := Lib.hid bb2
  clear g4 g5 f4 f5 hw2 P1 G2 bb2 A1
  go_wp2_with fail
  refine A2.out.mono ?_
  rintro e w3 ⟨rfl, hw3⟩
  have P2 := put2 (show w2.heap[G]? = some (.cells _ _ (0, 0)) from G2H.out) (o := 4) (.int .i64 (tp + 1)) (.int .u64 (tb + n))
  rw [← hw3] at P2
  have bb3 : Below base w w3 := by
    rw [hw3]; exact Below.setCell (Below.setCell HB2.out HH.out.low _) HH.out.low _
  have FIN := Lib.hid (H1.out.other hf ((ds id).pk + 1) ((ds id).by_ + n) (tp + 1) (tb + n) (w' := w3) ((P2.2 (bl id) m1).trans (by simpa using P1H.out.1)) (by simpa using P2.1) (fun j hj hg => (P2.2 j hg).trans (P1H.out.2 j hj)) (by omega) (by omega) (by have := HH.out.p0; have := HH.out.p1; omega) (by omega) (by omega) (by omega))
  have HB3 := Lib.hid bb3
  clear hw3 P2 A2 bb3
  go_wp2
  go_ret
  exact ⟨rfl, FIN.out, HB3.out⟩
theorem alay_no (h : AdAt w base G T room v es bl ds c tp tb) (id n : Int) (n0 : 0 ≤ n) (n1 : n ≤ 18446744073709551615) (hr : roomC c (isF (es.map FeP.id) id) tp tb (ds id) n ≠ 0) : Calls Try.prog 18 #[.pointer (some ⟨G, 0, none⟩), .int .u32 id, .int .u64 n] w fun e w' => e = .returned (.int .i64 (roomC c (isF (es.map FeP.id) id) tp tb (ds id) n)) ∧ Below w.heap.size w w' := by
  have RM := aroom h id n n0 n1
  rw [if_neg hr] at RM
  generalize roomC c (isF (es.map FeP.id) id) tp tb (ds id) n = r at *
  have RH := Lib.hid RM
  have gr : (r == 0) = false := by simp [hr]
  have gr2 : (r != 0) = true := by simp [hr]
  clear h hr RM
  go_enter Try.func18, Try.ntmps18
  go_wp2_with fail
  refine RH.out.mono ?_
  rintro e w1 ⟨rfl, b1⟩
  have HB1 := Lib.hid b1
  clear b1
  go_wp2
  go_ret
  exact ⟨rfl, HB1.out⟩
theorem ain_no (h : AdAt w base G T room v es bl ds c tp tb) (id n : Int) (n0 : 0 ≤ n) (n1 : n ≤ 18446744073709551615) (hr : mayC c (isF (es.map FeP.id) id) tp tb (ds id) n ≠ 0) : Calls Try.prog 14 #[.pointer (some ⟨G, 0, none⟩), .int .u32 id, .int .u64 n] w fun e w' => e = .returned (.int .i64 (mayC c (isF (es.map FeP.id) id) tp tb (ds id) n)) ∧ Below w.heap.size w w' := by
  have RH := Lib.hid (amay h id n n0 n1)
  generalize mayC c (isF (es.map FeP.id) id) tp tb (ds id) n = r at *
  have gr : (r == 0) = false := by simp [hr]
  have gr2 : (r != 0) = true := by simp [hr]
  clear h hr
  go_enter Try.func14, Try.ntmps14
  go_wp2_with fail
  refine RH.out.mono ?_
  rintro e w1 ⟨rfl, b1⟩
  have HB1 := Lib.hid b1
  clear b1
  go_wp2
  go_ret
  exact ⟨rfl, HB1.out⟩
theorem mayC_room {c : Gc} {f : Bool} {tp tb : Int} {d : Dt} {n : Int} (h : mayC c f tp tb d n = 0) : roomC c f tp tb d n = 0 := by
  unfold mayC at h
  by_cases hr : roomC c f tp tb d n = 0
  · exact hr
  · rw [if_neg hr] at h; exact h
theorem ain_ok (h : AdAt w base G T room v es bl ds c tp tb) (hbase : base ≤ w.heap.size) (id n : Int) (n0 : 0 ≤ n) (n1 : n ≤ 18446744073709551615) (hr : mayC c (isF (es.map FeP.id) id) tp tb (ds id) n = 0) : Calls Try.prog 14 #[.pointer (some ⟨G, 0, none⟩), .int .u32 id, .int .u64 n] w fun e w' => e = .returned (.int .i64 0) ∧ AdAt w' base G T room v es bl (updD ds id ((ds id).more n)) c (tp + 1) (tb + n) ∧ Below base w w' := by
  have RM := amay h id n n0 n1
  rw [hr] at RM
  have RH := Lib.hid RM
  have LY := Lib.hid (fun (u : World) (hu : Below w.heap.size w u) => alay_ok (h.below hu) (Nat.le_trans hbase hu.size) id n n0 n1 (mayC_room hr))
  clear h hr RM
  go_enter Try.func14, Try.ntmps14
  go_wp2_with fail
  refine RH.out.mono ?_
  rintro e w1 ⟨rfl, b1⟩
  have HB1 := Lib.hid b1
  clear b1
  go_wp2_with fail
  refine (LY.out _ HB1.out).mono ?_
  rintro e w2 ⟨rfl, g2, b2⟩
  have FIN := Lib.hid (And.intro g2 ((HB1.out.mono hbase).trans b2))
  clear g2 b2
  go_wp2
  go_ret
  exact ⟨rfl, FIN.out.1, FIN.out.2⟩
set_option maxHeartbeats 1000000 in
theorem aown_at (h : AdAt w base G T room v es bl ds c tp tb) (id : Int) (hf : isF (es.map FeP.id) id = true) : Calls Try.prog 24 #[.pointer (some ⟨G, 0, none⟩), .int .u32 id] w fun e w' => e = .returned (.tuple #[.int .i64 (ds id).pk, .int .u64 (ds id).by_]) ∧ Below w.heap.size w w' := by
  have MD := Lib.hid (amade h.gk)
  obtain ⟨hx, hd, hk⟩ := h.find hf
  have GT := tget_atP h.tab id hf
  rw [hx] at GT
  have GTH := Lib.hid GT
  have HD := Lib.hid hd
  obtain ⟨-, -, -, -, -, -, c6, -, -⟩ := h.gk.at
  clear GT hx hf h hd
  go_enter Try.func24, Try.ntmps24
  go_wp2_with fail
  refine MD.out.mono ?_
  rintro e w' ⟨rfl, hw'⟩
  rw [hw']
  clear hw'
  go_wp2_with fail
  refine GTH.out.mono ?_
  rintro e w1 ⟨rfl, b1_⟩
  have HB1 := Lib.hid b1_
  obtain ⟨d0, d1, d2, -, -⟩ := DtAt.at (show DtAt w1 (bl id) (ds id) from (b1_.block _ HD.out.lt).trans HD.out)
  clear b1_ c6
  go_wp2
  go_quiet (fail)
  go_wp2
  go_ret2
  exact ⟨rfl, below_drewN _ HB1.out⟩
theorem aown_no (h : AdAt w base G T room v es bl ds c tp tb) (id : Int) (hf : isF (es.map FeP.id) id = false) : Calls Try.prog 24 #[.pointer (some ⟨G, 0, none⟩), .int .u32 id] w fun e w' => e = .returned (.tuple #[.int .i64 0, .int .u64 0]) ∧ Below w.heap.size w w' := by
  have MD := Lib.hid (amade h.gk)
  have GTH := Lib.hid (tget_noP h.tab id hf)
  obtain ⟨-, -, -, -, -, -, c6, -, -⟩ := h.gk.at
  clear hf h
  go_enter Try.func24, Try.ntmps24
  go_wp2_with fail
  refine MD.out.mono ?_
  rintro e w' ⟨rfl, hw'⟩
  rw [hw']
  clear hw'
  go_wp2_with fail
  refine GTH.out.mono ?_
  rintro e w1 ⟨rfl, b1_⟩
  have HB1 := Lib.hid b1_
  clear b1_ c6
  go_wp2
  go_ret2
  exact ⟨rfl, HB1.out⟩
/-- Why no packet of a flow goes; 0: one does. -/
def outC (f : Bool) (d : Dt) (n : Int) : Int := if f = false then 13 else if d.pk = 0 then 9 else if d.by_ < n then 9 else 0
set_option maxRecDepth 100000 in
set_option maxHeartbeats 2000000 in
/-- A packet goes. -/
theorem aout_ok (h : AdAt w base G T room v es bl ds c tp tb) (hbase : base ≤ w.heap.size) (id n : Int) (n0 : 0 ≤ n) (n1 : n ≤ 18446744073709551615) (hf : isF (es.map FeP.id) id = true) (hp : (ds id).pk ≠ 0) (hb : n ≤ (ds id).by_) : Calls Try.prog 16 #[.pointer (some ⟨G, 0, none⟩), .int .u32 id, .int .u64 n] w fun e w' => e = .returned (.int .i64 0) ∧ AdAt w' base G T room v es bl (updD ds id ((ds id).less n)) c (tp - 1) (tb - n) ∧ Below base w w' := by
  have MD := Lib.hid (amade h.gk)
  obtain ⟨hx, -, -⟩ := h.find hf
  have GT := tget_atP h.tab id hf
  rw [hx] at GT
  have RH := Lib.hid GT
  obtain ⟨-, -, -, -, -, -, c6, -, -⟩ := h.gk.at
  obtain ⟨e0, he0, hi0, -⟩ := entry_of hf
  obtain ⟨m1, m2, m3, m4, m5⟩ := h.ne he0
  have lo := (h.dat e0 he0).2.1
  have pk0 := h.nn e0 he0
  have pk1 := sumD_ge Dt.pk es ds h.nn e0 he0
  have by1 := sumD_ge Dt.by_ es ds (fun e he => (h.dat e he).2.2.2.2.1.1) e0 he0
  rw [← h.sp] at pk1
  rw [← h.sb] at by1
  rw [hi0] at m1 m2 m3 lo pk0 pk1 by1
  obtain ⟨-, hd, hk⟩ := h.find hf
  obtain ⟨⟨k0, k1⟩, ⟨k2, k3⟩, -⟩ := h.cok
  have HH := Lib.hid h
  have b0 := h.b0; have b1 := h.b1
  obtain ⟨⟨y0, y1⟩, ⟨y2, y3⟩, -⟩ := hk
  have gp : ((ds id).pk == 0) = false := by simp [hp]
  have gb : decide ((ds id).by_ < n) = false := decide_eq_false (by omega)
  clear h GT hx hd
  go_enter Try.func16, Try.ntmps16
  go_wp2_with fail
  refine MD.out.mono ?_
  rintro e w' ⟨rfl, hw'⟩
  rw [hw']
  clear hw'
  go_wp2_with fail
  refine RH.out.mono ?_
  rintro e w1 ⟨rfl, b1_⟩
  have HB1 := Lib.hid b1_
  have H1 := Lib.hid (HH.out.below b1_)
  obtain ⟨-, hd1, -⟩ := H1.out.find hf
  obtain ⟨d0, d1, -, f0, f1⟩ := hd1.at
  have HD1 := Lib.hid hd1
  have A1 := Lib.hid (atrem (w := w1) (b := bl id) (o := 0) (n := n) d0 d1 f0 f1 (by omega) y1 y3 n0 (by omega))
  clear b1_ f0 f1 hd1 c6
  go_wp2_with fail
  refine A1.out.mono ?_
  rintro e w2 ⟨rfl, hw2⟩
  have P1 := put2 HD1.out (o := 0) (.int .i64 ((ds id).pk - 1)) (.int .u64 ((ds id).by_ - n))
  rw [← hw2] at P1
  have G2 : GkAt w2 G T c tp tb := (P1.2 G (fun x => m1 x.symm)).trans H1.out.gk
  have bb2 : Below base w w2 := by
    rw [hw2]; exact Below.setCell (Below.setCell (HB1.out.mono hbase) lo _) lo _
  obtain ⟨-, -, -, -, g4, g5, -, f4, f5⟩ := G2.at
  have A2 := Lib.hid (atrem (w := w2) (b := G) (o := 4) (n := n) g4 g5 f4 f5 (by omega) (by have := HH.out.p1; omega) (by omega) (by omega) (by omega))
  have P1H := Lib.hid P1; have G2H := Lib.hid G2; have HB2 := Lib.hid bb2
  clear g4 g5 f4 f5 hw2 P1 G2 bb2 A1
  go_wp2_with fail
  refine A2.out.mono ?_
  rintro e w3 ⟨rfl, hw3⟩
  have P2 := put2 (show w2.heap[G]? = some (.cells _ _ (0, 0)) from G2H.out) (o := 4) (.int .i64 (tp - 1)) (.int .u64 (tb - n))
  rw [← hw3] at P2
  have bb3 : Below base w w3 := by
    rw [hw3]; exact Below.setCell (Below.setCell HB2.out HH.out.low _) HH.out.low _
  have FIN := Lib.hid (H1.out.other hf ((ds id).pk - 1) ((ds id).by_ - n) (tp - 1) (tb - n) (w' := w3) ((P2.2 (bl id) m1).trans (by simpa using P1H.out.1)) (by simpa using P2.1) (fun j hj hg => (P2.2 j hg).trans (P1H.out.2 j hj)) (by omega) (by omega) (by have := HH.out.p0; have := HH.out.p1; omega) (by omega) (by omega) (by omega))
  have HB3 := Lib.hid bb3
  clear hw3 P2 A2 bb3
  go_wp2
  go_ret
  exact ⟨rfl, FIN.out, HB3.out⟩
end
end Go.Proofs.Ytiogfgkfipekbaa
