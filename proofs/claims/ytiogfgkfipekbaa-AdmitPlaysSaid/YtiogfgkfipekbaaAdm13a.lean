/-
  Package admit: a packet that is let in, and which blocks stand then; where a flow is found. No condition but that New made the gate.
-/
import Derived.Test.YtiogfgkfipekbaaAdm11
namespace Go.Proofs.Ytiogfgkfipekbaa
set_option linter.unusedVariables false
set_option linter.unusedSimpArgs false
open Go.ChangeShapes Go.WideShapes Go.ChangeAt Go.RowKit
attribute [local go_sem] alloc_drewN setCell_drewN

section
variable {w : World} {base G T : Nat} {room : Int} {v : Value} {es : List FeP} {bl : Int → Nat} {ds : Int → Dt} {c : Gc} {tp tb : Int}
set_option maxRecDepth 100000 in
set_option maxHeartbeats 2000000 in
theorem alay_okF (h : AdAt w base G T room v es bl ds c tp tb) (hbase : base ≤ w.heap.size) (id n : Int) (n0 : 0 ≤ n) (n1 : n ≤ 18446744073709551615) (hr : roomC c (isF (es.map FeP.id) id) tp tb (ds id) n = 0) : Calls Try.prog 18 #[.pointer (some ⟨G, 0, none⟩), .int .u32 id, .int .u64 n] w fun e w' => e = .returned (.int .i64 0) ∧ AdAt w' base G T room v es bl (updD ds id ((ds id).more n)) c (tp + 1) (tb + n) ∧ Below base w w' ∧ (∀ j, j < w.heap.size → j ≠ G → j ≠ bl id → w'.heap[j]? = w.heap[j]?) := by
  obtain ⟨hf, r1, r2, r3, r4, r5⟩ := roomC_found hr
  have RM := aroom h id n n0 n1
  rw [hr, if_pos rfl] at RM
  have RH := Lib.hid RM
  obtain ⟨e0, he0, hi0, -⟩ := entry_of hf
  obtain ⟨m1, m2, m3, m4, m5⟩ := h.ne he0
  have lo := (h.dat e0 he0).2.1
  have pk0 := h.nn e0 he0
  have pk1 := sumD_ge Dt.pk es ds h.nn e0 he0
  have by1 := sumD_ge Dt.by_ es ds (fun e he => (h.dat e he).2.2.2.2.1.1) e0 he0
  rw [← h.sp] at pk1
  rw [← h.sb] at by1
  rw [hi0] at m1 m2 m3 lo pk0 pk1 by1
  obtain ⟨-, hd, hk⟩ := h.find hf
  obtain ⟨⟨k0, k1⟩, ⟨k2, k3⟩, -⟩ := h.cok
  have sb : tb + n ≤ 18446744073709551615 := by
    unfold sub0 at r4
    split at r4 <;> omega
  have HH := Lib.hid h
  have b0 := h.b0; have b1 := h.b1
  obtain ⟨⟨y0, y1⟩, ⟨y2, y3⟩, -⟩ := hk
  clear h hr RM hd
  go_enter Try.func18, Try.ntmps18
  go_wp2_with fail
  refine RH.out.mono ?_
  rintro e w1 ⟨rfl, b1_⟩
  have HB1 := Lib.hid b1_
  have H1 := Lib.hid (HH.out.below b1_)
  obtain ⟨-, hd1, -⟩ := H1.out.find hf
  obtain ⟨d0, d1, -, f0, f1⟩ := hd1.at
  have HD1 := Lib.hid hd1
  have A1 := Lib.hid (atadd (w := w1) (b := bl id) (o := 0) (n := n) d0 d1 f0 f1 y0 (by omega) y2 n0 (by omega))
  clear b1_ d0 d1 f0 f1 hd1
  go_wp2_with fail
  refine A1.out.mono ?_
  rintro e w2 ⟨rfl, hw2⟩
  have P1 := put2 HD1.out (o := 0) (.int .i64 ((ds id).pk + 1)) (.int .u64 ((ds id).by_ + n))
  rw [← hw2] at P1
  have G2 : GkAt w2 G T c tp tb := (P1.2 G (fun x => m1 x.symm)).trans H1.out.gk
  have bb2 : Below base w w2 := by
    rw [hw2]; exact Below.setCell (Below.setCell (HB1.out.mono hbase) lo _) lo _
  obtain ⟨-, -, -, -, g4, g5, -, f4, f5⟩ := G2.at
  have A2 := Lib.hid (atadd (w := w2) (b := G) (o := 4) (n := n) g4 g5 f4 f5 (by omega) (by omega) (by omega) (by omega) (by omega))
  have P1H := Lib.hid P1; have G2H := Lib.hid G2; have HB2 := Lib.hid bb2
  clear g4 g5 f4 f5 hw2 P1 G2 bb2 A1
  go_wp2_with fail
  refine A2.out.mono ?_
  rintro e w3 ⟨rfl, hw3⟩
  have P2 := put2 (show w2.heap[G]? = some (.cells _ _ (0, 0)) from G2H.out) (o := 4) (.int .i64 (tp + 1)) (.int .u64 (tb + n))
  rw [← hw3] at P2
  have bb3 : Below base w w3 := by
    rw [hw3]; exact Below.setCell (Below.setCell HB2.out HH.out.low _) HH.out.low _
  have FIN := Lib.hid (H1.out.other hf ((ds id).pk + 1) ((ds id).by_ + n) (tp + 1) (tb + n) (w' := w3) ((P2.2 (bl id) m1).trans (by simpa using P1H.out.1)) (by simpa using P2.1) (fun j hj hg => (P2.2 j hg).trans (P1H.out.2 j hj)) (by omega) (by omega) (by have := HH.out.p0; have := HH.out.p1; omega) (by omega) (by omega) (by omega))
  have HB3 := Lib.hid bb3
  have FR := Lib.hid (show ∀ j, j < w.heap.size → j ≠ G → j ≠ bl id → w3.heap[j]? = w.heap[j]? from fun j hj h1 h2 => (P2.2 j h1).trans ((P1H.out.2 j h2).trans (HB1.out.block j hj)))
  clear hw3 P2 A2 bb3
  go_wp2
  go_ret
  exact ⟨rfl, FIN.out, HB3.out, FR.out⟩
set_option maxHeartbeats 1000000 in
theorem ain_okF (h : AdAt w base G T room v es bl ds c tp tb) (hbase : base ≤ w.heap.size) (id n : Int) (n0 : 0 ≤ n) (n1 : n ≤ 18446744073709551615) (hr : mayC c (isF (es.map FeP.id) id) tp tb (ds id) n = 0) : Calls Try.prog 14 #[.pointer (some ⟨G, 0, none⟩), .int .u32 id, .int .u64 n] w fun e w' => e = .returned (.int .i64 0) ∧ AdAt w' base G T room v es bl (updD ds id ((ds id).more n)) c (tp + 1) (tb + n) ∧ Below base w w' ∧ (∀ j, j < w.heap.size → j ≠ G → j ≠ bl id → w'.heap[j]? = w.heap[j]?) := by
  have RM := amay h id n n0 n1
  rw [hr] at RM
  have RH := Lib.hid RM
  have LY := Lib.hid (fun (u : World) (hu : Below w.heap.size w u) => alay_okF (h.below hu) (Nat.le_trans hbase hu.size) id n n0 n1 (mayC_room hr))
  clear h hr RM
  go_enter Try.func14, Try.ntmps14
  go_wp2_with fail
  refine RH.out.mono ?_
  rintro e w1 ⟨rfl, b1⟩
  have HB1 := Lib.hid b1
  clear b1
  go_wp2_with fail
  refine (LY.out _ HB1.out).mono ?_
  rintro e w2 ⟨rfl, g2, b2, f2⟩
  have FR := Lib.hid (show ∀ j, j < w.heap.size → j ≠ G → j ≠ bl id → w2.heap[j]? = w.heap[j]? from fun j hj h1 h2 => (f2 j (Nat.lt_of_lt_of_le hj HB1.out.size) h1 h2).trans (HB1.out.block j hj))
  clear f2
  have FIN := Lib.hid (And.intro g2 ((HB1.out.mono hbase).trans b2))
  clear g2 b2
  go_wp2
  go_ret
  exact ⟨rfl, FIN.out.1, FIN.out.2, FR.out⟩
/-- A packet that is let in: it stays a gate; but for the gate's block and the flow's all stand. -/
theorem ain_anyF (h : AdOk w base G T room v es bl ds c tp tb) (hbase : base ≤ w.heap.size) (id n : Int) (n0 : 0 ≤ n) (n1 : n ≤ 18446744073709551615) (hr : mayC c (isF (es.map FeP.id) id) tp tb (ds id) n = 0) : Calls Try.prog 14 #[.pointer (some ⟨G, 0, none⟩), .int .u32 id, .int .u64 n] w fun e w' => e = .returned (.int .i64 0) ∧ Below base w w' ∧ (∀ j, j < w.heap.size → j ≠ G → j ≠ bl id → w'.heap[j]? = w.heap[j]?) ∧ ∃ ds' tp' tb', AdOk w' base G T room v es bl ds' c tp' tb' ∧ ∀ e ∈ es, (ds' e.id).most = (ds e.id).most := by
  refine (ain_okF h.at_ hbase id n n0 n1 hr).mono ?_
  rintro e w' ⟨rfl, g, b, f⟩
  refine ⟨rfl, b, f, _, _, _, h.more (mayC_room hr) n0 g, fun e he => ?_⟩
  by_cases hi : e.id = id
  · rw [hi, updD_at]; rfl
  · rw [updD_ne _ _ hi]
end
theorem RowFl.atR {w w' : World} {a : Option Addr} {n : Nat} {fs : List Fl} (h : RowFl w a n fs) (hb : Below w.heap.size w w') (i : Nat) (hi : i < n) : ∃ b off, a = some ⟨b, off, none⟩ ∧ b < w.heap.size ∧
    w'.cell? ⟨b, off + i * 5, none⟩ = some (.int .u32 (fs.getD i Fl.nil).id) ∧ w'.cell? ⟨b, off + i * 5 + 1, none⟩ = some (.int .u64 (fs.getD i Fl.nil).co) ∧ w'.cell? ⟨b, off + i * 5 + 2, none⟩ = some (.int .u64 (fs.getD i Fl.nil).bu) ∧ w'.cell? ⟨b, off + i * 5 + 3, none⟩ = some (.int .u64 (fs.getD i Fl.nil).sz) ∧ w'.cell? ⟨b, off + i * 5 + 4, none⟩ = some (.int .u64 (fs.getD i Fl.nil).cp) := by
  obtain ⟨b, off, e, hlt, hc⟩ := h.2.2.2 (by omega)
  obtain ⟨c0, c1, c2, c3, c4⟩ := hc i hi
  exact ⟨b, off, e, hlt, (hb.cell (p := ⟨b, _, none⟩) hlt).trans c0, (hb.cell (p := ⟨b, _, none⟩) hlt).trans c1, (hb.cell (p := ⟨b, _, none⟩) hlt).trans c2, (hb.cell (p := ⟨b, _, none⟩) hlt).trans c3, (hb.cell (p := ⟨b, _, none⟩) hlt).trans c4⟩
set_option maxHeartbeats 1000000 in
theorem find16_at {w : World} {a : Option Addr} {n : Nat} {fs : List Fl} (hr : RowFl w a n fs) (c : Nat) (hn : n ≤ 100) (id : Int) (j : Nat) (hj : j < n) (h1 : (fs.getD j Fl.nil).id = id) (h2 : ∀ q, q < j → ¬ (fs.getD q Fl.nil).id = id) :
    Calls Try.prog 51 #[.slice a n c, .int .u32 id] w fun e w' => e = .returned (.int .i64 j) ∧ w' = w := by
  have HR := Lib.hid hr; have H1 := Lib.hid h1; have H2 := Lib.hid h2
  clear hr h1 h2
  go_enter Try.func51, Try.ntmps51
  go_wp2
  go_loopw [5] (fun z wr => ∃ i : Nat, i ≤ j ∧ z = .int .i64 i ∧ wr = w) (fun z _ => n - (intOf z).toNat)
  case atStart => exact ⟨0, Nat.zero_le _, rfl, rfl⟩
  case round =>
    obtain ⟨i, hi, rfl, rfl⟩ := hrel
    have z0 : (0 : Int) ≤ i := by omega
    have z1 : (i : Int) < n := by omega
    obtain ⟨b, off, rfl, hblt, c0, c1, c2, c3, c4⟩ := HR.out.atR (Below.refl _ _) i (by omega)
    by_cases e : i = j
    · subst e
      rw [H1.out] at c0
      go_wp2
      go_ret
      exact ⟨by simp, by simp⟩
    · have hne := H2.out i (by omega)
      obtain ⟨y, hy⟩ : ∃ y, (fs.getD i Fl.nil).id = y := ⟨_, rfl⟩
      rw [hy] at c0 hne
      clear hy
      go_wp2
      go_roundw
      case rel => exact ⟨i + 1, by omega, by go_num, by first | rfl | trivial⟩
      case measure => simp [intOf] <;> omega
theorem first_of {fs : List Fl} {n : Nat} {id : Int} : ∀ j, j < n → (fs.getD j Fl.nil).id = id → ∃ k, k < n ∧ (fs.getD k Fl.nil).id = id ∧ ∀ q, q < k → ¬ (fs.getD q Fl.nil).id = id := by
  intro j
  induction j using Nat.strongRecOn with
  | ind j ih =>
    intro hj hid
    by_cases h : ∃ q, q < j ∧ (fs.getD q Fl.nil).id = id
    · obtain ⟨q, hq, e⟩ := h
      exact ih q hq (by omega) e
    · exact ⟨j, hj, hid, fun q hq e => h ⟨q, hq, e⟩⟩
end Go.Proofs.Ytiogfgkfipekbaa
