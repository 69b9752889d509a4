/-
  Layer 17: a gate and the document's answer side by side: each thing that is done, with both. No condition.
-/
import Derived.Test.YtiogfgkfipekbaaR17d
import Derived.Test.YtiogfgkfipekbaaR17e
namespace Go.Proofs.Ytiogfgkfipekbaa
set_option linter.unusedVariables false
set_option linter.unusedSimpArgs false
open Go.ChangeShapes Go.WideShapes Go.ChangeAt Go.RowKit
attribute [local go_sem] alloc_drewN setCell_drewN

section
variable {w : World} {base G T : Nat} {room : Int} {v : Value} {es : List FeP} {bl : Int → Nat} {ds : Int → Dt} {c : Gc} {tp tb : Int}
set_option maxRecDepth 100000 in
set_option maxHeartbeats 2000000 in
/-- A packet goes; but for the gate's block and the flow's all stand. -/
theorem aout_okF (h : AdAt w base G T room v es bl ds c tp tb) (hbase : base ≤ w.heap.size) (id n : Int) (n0 : 0 ≤ n) (n1 : n ≤ 18446744073709551615) (hf : isF (es.map FeP.id) id = true) (hp : (ds id).pk ≠ 0) (hb : n ≤ (ds id).by_) : Calls Try.prog 16 #[.pointer (some ⟨G, 0, none⟩), .int .u32 id, .int .u64 n] w fun e w' => e = .returned (.int .i64 0) ∧ AdAt w' base G T room v es bl (updD ds id ((ds id).less n)) c (tp - 1) (tb - n) ∧ Below base w w' ∧ (∀ j, j < w.heap.size → j ≠ G → j ≠ bl id → w'.heap[j]? = w.heap[j]?) := by
  have MD := Lib.hid (amade h.gk)
  obtain ⟨hx, -, -⟩ := h.find hf
  have GT := tget_atP h.tab id hf
  rw [hx] at GT
  have RH := Lib.hid GT
  obtain ⟨-, -, -, -, -, -, c6, -, -⟩ := h.gk.at
  obtain ⟨e0, he0, hi0, -⟩ := entry_of hf
  obtain ⟨m1, m2, m3, m4, m5⟩ := h.ne he0
  have lo := (h.dat e0 he0).2.1
  have pk0 := h.nn e0 he0
  have pk1 := sumD_ge Dt.pk es ds h.nn e0 he0
  have by1 := sumD_ge Dt.by_ es ds (fun e he => (h.dat e he).2.2.2.2.1.1) e0 he0
  rw [← h.sp] at pk1
  rw [← h.sb] at by1
  rw [hi0] at m1 m2 m3 lo pk0 pk1 by1
  obtain ⟨-, hd, hk⟩ := h.find hf
  obtain ⟨⟨k0, k1⟩, ⟨k2, k3⟩, -⟩ := h.cok
  have HH := Lib.hid h
  have b0 := h.b0; have b1 := h.b1
  obtain ⟨⟨y0, y1⟩, ⟨y2, y3⟩, -⟩ := hk
  have gp : ((ds id).pk == 0) = false := by simp [hp]
  have gb : decide ((ds id).by_ < n) = false := decide_eq_false (by omega)
  clear h GT hx hd
  go_enter Try.func16, Try.ntmps16
  go_wp2_with fail
  refine MD.out.mono ?_
  rintro e w' ⟨rfl, hw'⟩
  rw [hw']
  clear hw'
  go_wp2_with fail
  refine RH.out.mono ?_
  rintro e w1 ⟨rfl, b1_⟩
  have HB1 := Lib.hid b1_
  have H1 := Lib.hid (HH.out.below b1_)
  obtain ⟨-, hd1, -⟩ := H1.out.find hf
  obtain ⟨d0, d1, -, f0, f1⟩ := hd1.at
  have HD1 := Lib.hid hd1
  have A1 := Lib.hid (atrem (w := w1) (b := bl id) (o := 0) (n := n) d0 d1 f0 f1 (by omega) y1 y3 n0 (by omega))
  clear b1_ f0 f1 hd1 c6
  go_wp2_with fail
  refine A1.out.mono ?_
  rintro e w2 ⟨rfl, hw2⟩
  have P1 := put2 HD1.out (o := 0) (.int .i64 ((ds id).pk - 1)) (.int .u64 ((ds id).by_ - n))
  rw [← hw2] at P1
  have G2 : GkAt w2 G T c tp tb := (P1.2 G (fun x => m1 x.symm)).trans H1.out.gk
  have bb2 : Below base w w2 := by
    rw [hw2]; exact Below.setCell (Below.setCell (HB1.out.mono hbase) lo _) lo _
  obtain ⟨-, -, -, -, g4, g5, -, f4, f5⟩ := G2.at
  have A2 := Lib.hid (atrem (w := w2) (b := G) (o := 4) (n := n) g4 g5 f4 f5 (by omega) (by have := HH.out.p1; omega) (by omega) (by omega) (by omega))
  have P1H := Lib.hid P1; have G2H := Lib.hid G2; have HB2 := Lib.hid bb2
  clear g4 g5 f4 f5 hw2 P1 G2 bb2 A1
  go_wp2_with fail
  refine A2.out.mono ?_
  rintro e w3 ⟨rfl, hw3⟩
  have P2 := put2 (show w2.heap[G]? = some (.cells _ _ (0, 0)) from G2H.out) (o := 4) (.int .i64 (tp - 1)) (.int .u64 (tb - n))
  rw [← hw3] at P2
  have bb3 : Below base w w3 := by
    rw [hw3]; exact Below.setCell (Below.setCell HB2.out HH.out.low _) HH.out.low _
  have FIN := Lib.hid (H1.out.other hf ((ds id).pk - 1) ((ds id).by_ - n) (tp - 1) (tb - n) (w' := w3) ((P2.2 (bl id) m1).trans (by simpa using P1H.out.1)) (by simpa using P2.1) (fun j hj hg => (P2.2 j hg).trans (P1H.out.2 j hj)) (by omega) (by omega) (by have := HH.out.p0; have := HH.out.p1; omega) (by omega) (by omega) (by omega))
  have HB3 := Lib.hid bb3
  have FR := Lib.hid (show ∀ j, j < w.heap.size → j ≠ G → j ≠ bl id → w3.heap[j]? = w.heap[j]? from fun j hj h1 h2 => (P2.2 j h1).trans ((P1H.out.2 j h2).trans (HB1.out.block j hj)))
  clear hw3 P2 A2 bb3
  go_wp2
  go_ret
  exact ⟨rfl, FIN.out, HB3.out, FR.out⟩
end
/-- Both, whatever they hold. -/
def Pair17 (base : Nat) (w0 w : World) (G M : Nat) (k : Cf) (fs : List Fl) : Prop :=
  ∃ T v es bl ds tp tb vp vb ps qs, M17 base w G M T k v es bl ds tp tb vp vb ps qs ∧ Rl17 fs k.n es ds tp tb ps qs ∧ Below base w0 w ∧ base ≤ w0.heap.size ∧ k.n ≤ 64
theorem Pair17.on {base : Nat} {w0 w w' : World} {G M : Nat} {k : Cf} {fs : List Fl} (h : Pair17 base w0 w G M k fs) (hb : Below w.heap.size w w') : Pair17 base w0 w' G M k fs := by
  obtain ⟨T, v, es, bl, ds, tp, tb, vp, vb, ps, qs, h1, h2, h3, h4, h5⟩ := h
  exact ⟨_, _, _, _, _, _, _, _, _, _, _, h1.on hb, h2, h3.trans (hb.mono (Nat.le_trans h4 h3.size)), h4, h5⟩
theorem fit17 {base : Nat} {w : World} {G M T : Nat} {k : Cf} {v : Value} {es : List FeP} {bl : Int → Nat} {ds : Int → Dt} {tp tb : Int} {vp vb : Value} {ps qs : List Int} {fs : List Fl} (h : M17 base w G M T k v es bl ds tp tb vp vb ps qs) (r : Rl17 fs k.n es ds tp tb ps qs) (hn : k.n ≤ 64) : Fit17 k fs ps qs ∧ ∀ j, j < k.n → (⟨ps.getD j 0, qs.getD j 0, (fs.getD j Fl.nil).cp⟩ : Dt) = ds (fs.getD j Fl.nil).id ∧ 0 ≤ (ds (fs.getD j Fl.nil).id).pk ∧ 0 ≤ (ds (fs.getD j Fl.nil).id).by_ ∧ (ds (fs.getD j Fl.nil).id).pk ≤ tp ∧ (ds (fs.getD j Fl.nil).id).by_ ≤ tb := by
  obtain ⟨t0, t1, t2, t3⟩ := h.g.tells
  have each : ∀ j, j < k.n → 0 ≤ (ds (fs.getD j Fl.nil).id).pk ∧ 0 ≤ (ds (fs.getD j Fl.nil).id).by_ ∧ (ds (fs.getD j Fl.nil).id).by_ ≤ (ds (fs.getD j Fl.nil).id).most ∧ (ds (fs.getD j Fl.nil).id).pk ≤ tp ∧ (ds (fs.getD j Fl.nil).id).by_ ≤ tb := fun j hj => by
    obtain ⟨e, he, hi, -⟩ := entry_of (r.it j hj)
    obtain ⟨u1, u2, u3, u4⟩ := t3 e he
    have u5 := (h.g.at_.dat e he).2.2.2.2.1.1
    rw [hi] at u1 u2 u3 u4 u5
    exact ⟨u2, u5, u1, u3, u4⟩
  have mp : ∀ x ∈ ps, 0 ≤ x := fun x hx => by
    obtain ⟨j, hj, e⟩ := List.mem_iff_getElem.1 hx
    have h1 := r.vp j (by rw [← r.lp]; exact hj)
    rw [List.getD_eq_getElem?_getD, List.getElem?_eq_getElem hj] at h1
    have h2 := (each j (by rw [← r.lp]; exact hj)).1
    rw [← h1] at h2
    rw [← e]; exact h2
  have mq : ∀ x ∈ qs, 0 ≤ x := fun x hx => by
    obtain ⟨j, hj, e⟩ := List.mem_iff_getElem.1 hx
    have h1 := r.vq j (by rw [← r.lq]; exact hj)
    rw [List.getD_eq_getElem?_getD, List.getElem?_eq_getElem hj] at h1
    have h2 := (each j (by rw [← r.lq]; exact hj)).2.1
    rw [← h1] at h2
    rw [← e]; exact h2
  refine ⟨⟨r.lp, r.lq, hn, mp, mq, by rw [r.sp]; exact t1, by rw [r.sq]; exact t2, h.g.at_.cok, fun j hj => ?_⟩, fun j hj => ⟨?_, (each j hj).1, (each j hj).2.1, (each j hj).2.2.2.1, (each j hj).2.2.2.2⟩⟩
  · rw [r.vq j hj, r.vm j hj]; exact (each j hj).2.2.1
  · rw [r.vp j hj, r.vq j hj, r.vm j hj]
section
variable {base : Nat} {w0 w : World} {G M : Nat} {k : Cf} {fs : List Fl}
/-- What each answer's step ends in. -/
def Then17 (base : Nat) (w0 w' : World) (G M : Nat) (k : Cf) (fs : List Fl) (F : Nat) (id n a : Int) : Prop := ∀ v, Below w'.heap.size w' v → Calls Try.prog F #[.pointer (some ⟨M, 0, none⟩), .int .u32 id, .int .u64 n] v fun e w'' => e = .returned (.int .i64 a) ∧ Pair17 base w0 w'' G M k fs ∧ Fr17 base v w''
set_option maxHeartbeats 2000000 in
theorem in_pair17 (h : Pair17 base w0 w G M k fs) (FL : ∀ v, Below base w0 v → RowFl v k.a k.n fs) (id n : Int) (n0 : 0 ≤ n) (n1 : n ≤ 18446744073709551615) :
    Calls Try.prog 14 #[.pointer (some ⟨G, 0, none⟩), .int .u32 id, .int .u64 n] w fun e w' => ∃ a : Int, e = .returned (.int .i64 a) ∧ Fr17 base w w' ∧ Hid (Then17 base w0 w' G M k fs 15 id n a) := by
  obtain ⟨T, v, es, bl, ds, tp, tb, vp, vb, ps, qs, h1, h2, h3, h4, h5⟩ := h
  obtain ⟨f, fe⟩ := fit17 h1 h2 h5
  have hbase := Nat.le_trans h4 h3.size
  by_cases hr : mayC k.gc (isF (es.map FeP.id) id) tp tb (ds id) n = 0
  · obtain ⟨hf, r1, r2, r3, r4, r5⟩ := roomC_found (mayC_room hr)
    rcases h2.find id with ⟨-, j, hj, e1, e2⟩ | ⟨hf2, -⟩
    · obtain ⟨fd, g0, g1, g2, g3⟩ := fe j hj
      rw [e1] at fd g0 g1 g2 g3
      refine (ain_okF h1.g.at_ hbase id n n0 n1 hr).mono ?_
      rintro e w' ⟨rfl, g, b, fr⟩
      obtain ⟨m1, m2⟩ := h1.p b hf fr (h1.g.more (mayC_room hr) n0 g)
      refine ⟨0, rfl, m2, Lib.hid (fun v' hb => ?_)⟩
      have m3 := m1.on hb
      have b3 := h3.trans (b.trans (hb.mono (Nat.le_trans hbase b.size)))
      have hs := Nat.le_trans h4 b3.size
      have MT := may17_at m3.r f (FL v' b3) id n n0 n1 j hj e1 e2
      rw [fd, h2.sp, h2.sq] at MT
      rw [hf] at hr
      rw [hr] at MT
      have v1 := h2.vp j hj
      have v2 := h2.vq j hj
      rw [e1] at v1 v2
      have hq : (ds id).by_ + n ≤ 18446744073709551615 := by
        have k3 : k.gc.by_ ≤ 18446744073709551615 := f.gc.2.1.2
        unfold sub0 at r4
        split at r4 <;> omega
      have hp : (ds id).pk + 1 ≤ 9223372036854775807 := by
        have k1 : k.gc.pk ≤ 4096 := f.gc.1.2
        omega
      refine (in17_ok m3.r hs f (FL v' b3) id n n0 j hj e1 e2 (by rw [v1]; exact hp) (by rw [v2]; exact hq) MT).mono ?_
      rintro e w'' ⟨rfl, vp', vb', r', m'⟩
      obtain ⟨m4, m5⟩ := m3.q m' r'
      have rl := h2.set hj e1 ((ds id).more n) rfl
      rw [show tp + (((ds id).more n).pk - (ds id).pk) = tp + 1 by show tp + ((ds id).pk + 1 - (ds id).pk) = tp + 1; omega, show tb + (((ds id).more n).by_ - (ds id).by_) = tb + n by show tb + ((ds id).by_ + n - (ds id).by_) = tb + n; omega] at rl
      rw [v1, v2] at m4
      exact ⟨rfl, ⟨_, _, _, _, _, _, _, _, _, _, _, m4, rl, b3.trans (m5.b hs), h4, h5⟩, m5⟩
    · rw [hf] at hf2; cases hf2
  · refine (ain_no h1.g.at_ id n n0 n1 hr).mono ?_
    rintro e w' ⟨rfl, hb0⟩
    refine ⟨_, rfl, Fr17.below hb0, Lib.hid (fun v' hb => ?_)⟩
    have hb1 := hb0.trans (hb.mono hb0.size)
    have m3 := h1.on hb1
    have b3 := h3.trans (hb1.mono hbase)
    have MT : Calls Try.prog 21 #[.pointer (some ⟨M, 0, none⟩), .int .u32 id, .int .u64 n] v' fun e w' => e = .returned (.int .i64 (mayC k.gc (isF (es.map FeP.id) id) tp tb (ds id) n)) ∧ Below v'.heap.size v' w' := by
      rcases h2.find id with ⟨hf, j, hj, e1, e2⟩ | ⟨hf, e2⟩
      · have MT := may17_at m3.r f (FL v' b3) id n n0 n1 j hj e1 e2
        obtain ⟨fd, -⟩ := fe j hj
        rw [e1] at fd
        rw [fd, h2.sp, h2.sq] at MT
        rw [hf]; exact MT
      · rw [hf]
        exact may17_no m3.r f (FL v' b3) id n tp tb n0 (ds id) e2
    refine (in17_no MT hr).mono ?_
    rintro e w'' ⟨rfl, hb2⟩
    have hb3 := hb1.trans (hb2.mono hb1.size)
    exact ⟨rfl, ⟨_, _, _, _, _, _, _, _, _, _, _, h1.on hb3, h2, h3.trans (hb3.mono hbase), h4, h5⟩, Fr17.below hb2⟩
set_option maxHeartbeats 2000000 in
theorem lay_pair17 (h : Pair17 base w0 w G M k fs) (FL : ∀ v, Below base w0 v → RowFl v k.a k.n fs) (id n : Int) (n0 : 0 ≤ n) (n1 : n ≤ 18446744073709551615) :
    Calls Try.prog 18 #[.pointer (some ⟨G, 0, none⟩), .int .u32 id, .int .u64 n] w fun e w' => ∃ a : Int, e = .returned (.int .i64 a) ∧ Fr17 base w w' ∧ Hid (Then17 base w0 w' G M k fs 19 id n a) := by
  obtain ⟨T, v, es, bl, ds, tp, tb, vp, vb, ps, qs, h1, h2, h3, h4, h5⟩ := h
  obtain ⟨f, fe⟩ := fit17 h1 h2 h5
  have hbase := Nat.le_trans h4 h3.size
  by_cases hr : roomC k.gc (isF (es.map FeP.id) id) tp tb (ds id) n = 0
  · obtain ⟨hf, r1, r2, r3, r4, r5⟩ := roomC_found hr
    rcases h2.find id with ⟨-, j, hj, e1, e2⟩ | ⟨hf2, -⟩
    · obtain ⟨fd, g0, g1, g2, g3⟩ := fe j hj
      rw [e1] at fd g0 g1 g2 g3
      refine (alay_okF h1.g.at_ hbase id n n0 n1 hr).mono ?_
      rintro e w' ⟨rfl, g, b, fr⟩
      obtain ⟨m1, m2⟩ := h1.p b hf fr (h1.g.more hr n0 g)
      refine ⟨0, rfl, m2, Lib.hid (fun v' hb => ?_)⟩
      have m3 := m1.on hb
      have b3 := h3.trans (b.trans (hb.mono (Nat.le_trans hbase b.size)))
      have hs := Nat.le_trans h4 b3.size
      have MT := fits17_at m3.r f (FL v' b3) id n n0 n1 j hj e1 e2
      rw [fd, h2.sp, h2.sq] at MT
      rw [hf] at hr
      rw [hr] at MT
      have v1 := h2.vp j hj
      have v2 := h2.vq j hj
      rw [e1] at v1 v2
      have hq : (ds id).by_ + n ≤ 18446744073709551615 := by
        have k3 : k.gc.by_ ≤ 18446744073709551615 := f.gc.2.1.2
        unfold sub0 at r4
        split at r4 <;> omega
      have hp : (ds id).pk + 1 ≤ 9223372036854775807 := by
        have k1 : k.gc.pk ≤ 4096 := f.gc.1.2
        omega
      refine (lay17_ok m3.r hs f (FL v' b3) id n n0 j hj e1 e2 (by rw [v1]; exact hp) (by rw [v2]; exact hq) MT).mono ?_
      rintro e w'' ⟨rfl, vp', vb', r', m'⟩
      obtain ⟨m4, m5⟩ := m3.q m' r'
      have rl := h2.set hj e1 ((ds id).more n) rfl
      rw [show tp + (((ds id).more n).pk - (ds id).pk) = tp + 1 by show tp + ((ds id).pk + 1 - (ds id).pk) = tp + 1; omega, show tb + (((ds id).more n).by_ - (ds id).by_) = tb + n by show tb + ((ds id).by_ + n - (ds id).by_) = tb + n; omega] at rl
      rw [v1, v2] at m4
      exact ⟨rfl, ⟨_, _, _, _, _, _, _, _, _, _, _, m4, rl, b3.trans (m5.b hs), h4, h5⟩, m5⟩
    · rw [hf] at hf2; cases hf2
  · refine (alay_no h1.g.at_ id n n0 n1 hr).mono ?_
    rintro e w' ⟨rfl, hb0⟩
    refine ⟨_, rfl, Fr17.below hb0, Lib.hid (fun v' hb => ?_)⟩
    have hb1 := hb0.trans (hb.mono hb0.size)
    have m3 := h1.on hb1
    have b3 := h3.trans (hb1.mono hbase)
    have MT : Calls Try.prog 58 #[.pointer (some ⟨M, 0, none⟩), .int .u32 id, .int .u64 n] v' fun e w' => e = .returned (.int .i64 (roomC k.gc (isF (es.map FeP.id) id) tp tb (ds id) n)) ∧ Below v'.heap.size v' w' := by
      rcases h2.find id with ⟨hf, j, hj, e1, e2⟩ | ⟨hf, e2⟩
      · have MT := fits17_at m3.r f (FL v' b3) id n n0 n1 j hj e1 e2
        obtain ⟨fd, -⟩ := fe j hj
        rw [e1] at fd
        rw [fd, h2.sp, h2.sq] at MT
        rw [hf]; exact MT
      · rw [hf]
        exact fits17_no m3.r f (FL v' b3) id n tp tb n0 (ds id) e2
    refine (lay17_no MT hr).mono ?_
    rintro e w'' ⟨rfl, hb2⟩
    have hb3 := hb1.trans (hb2.mono hb1.size)
    exact ⟨rfl, ⟨_, _, _, _, _, _, _, _, _, _, _, h1.on hb3, h2, h3.trans (hb3.mono hbase), h4, h5⟩, Fr17.below hb2⟩
set_option maxHeartbeats 2000000 in
theorem may_pair17 (h : Pair17 base w0 w G M k fs) (FL : ∀ v, Below base w0 v → RowFl v k.a k.n fs) (id n : Int) (n0 : 0 ≤ n) (n1 : n ≤ 18446744073709551615) :
    Calls Try.prog 20 #[.pointer (some ⟨G, 0, none⟩), .int .u32 id, .int .u64 n] w fun e w' => ∃ a : Int, e = .returned (.int .i64 a) ∧ Fr17 base w w' ∧ Hid (Then17 base w0 w' G M k fs 21 id n a) := by
  obtain ⟨T, v, es, bl, ds, tp, tb, vp, vb, ps, qs, h1, h2, h3, h4, h5⟩ := h
  obtain ⟨f, fe⟩ := fit17 h1 h2 h5
  have hbase := Nat.le_trans h4 h3.size
  refine (amay h1.g.at_ id n n0 n1).mono ?_
  rintro e w' ⟨rfl, hb0⟩
  refine ⟨_, rfl, Fr17.below hb0, Lib.hid (fun v' hb => ?_)⟩
  have hb1 := hb0.trans (hb.mono hb0.size)
  have m3 := h1.on hb1
  have b3 := h3.trans (hb1.mono hbase)
  have MT : Calls Try.prog 21 #[.pointer (some ⟨M, 0, none⟩), .int .u32 id, .int .u64 n] v' fun e w' => e = .returned (.int .i64 (mayC k.gc (isF (es.map FeP.id) id) tp tb (ds id) n)) ∧ Below v'.heap.size v' w' := by
    rcases h2.find id with ⟨hf, j, hj, e1, e2⟩ | ⟨hf, e2⟩
    · have MT := may17_at m3.r f (FL v' b3) id n n0 n1 j hj e1 e2
      obtain ⟨fd, -⟩ := fe j hj
      rw [e1] at fd
      rw [fd, h2.sp, h2.sq] at MT
      rw [hf]; exact MT
    · rw [hf]
      exact may17_no m3.r f (FL v' b3) id n tp tb n0 (ds id) e2
  refine MT.mono ?_
  rintro e w'' ⟨rfl, hb2⟩
  have hb3 := hb1.trans (hb2.mono hb1.size)
  exact ⟨rfl, ⟨_, _, _, _, _, _, _, _, _, _, _, h1.on hb3, h2, h3.trans (hb3.mono hbase), h4, h5⟩, Fr17.below hb2⟩
set_option maxHeartbeats 2000000 in
theorem out_pair17 (h : Pair17 base w0 w G M k fs) (FL : ∀ v, Below base w0 v → RowFl v k.a k.n fs) (id n : Int) (n0 : 0 ≤ n) (n1 : n ≤ 18446744073709551615) :
    Calls Try.prog 16 #[.pointer (some ⟨G, 0, none⟩), .int .u32 id, .int .u64 n] w fun e w' => ∃ a : Int, e = .returned (.int .i64 a) ∧ Fr17 base w w' ∧ Hid (Then17 base w0 w' G M k fs 17 id n a) := by
  obtain ⟨T, v, es, bl, ds, tp, tb, vp, vb, ps, qs, h1, h2, h3, h4, h5⟩ := h
  obtain ⟨f, fe⟩ := fit17 h1 h2 h5
  have hbase := Nat.le_trans h4 h3.size
  have stay : ∀ {w' : World} {F : Nat} {a : Int}, Below w.heap.size w w' → (∀ v', Below w'.heap.size w' v' → Calls Try.prog F #[.pointer (some ⟨M, 0, none⟩), .int .u32 id, .int .u64 n] v' fun e w' => e = .returned (.int .i64 a) ∧ Below v'.heap.size v' w') → Fr17 base w w' ∧ Hid (Then17 base w0 w' G M k fs F id n a) := fun {w'} {F} {a} hb0 hc => by
    refine ⟨Fr17.below hb0, Lib.hid (fun v' hb => (hc v' hb).mono ?_)⟩
    rintro e w'' ⟨rfl, hb2⟩
    have hb3 := (hb0.trans (hb.mono hb0.size)).trans (hb2.mono (Nat.le_trans hb0.size hb.size))
    exact ⟨rfl, ⟨_, _, _, _, _, _, _, _, _, _, _, h1.on hb3, h2, h3.trans (hb3.mono hbase), h4, h5⟩, Fr17.below hb2⟩
  have later : ∀ {w' v' : World}, Below w.heap.size w w' → Below w'.heap.size w' v' → R17At v' base M k vp vb ps qs ∧ RowFl v' k.a k.n fs := fun {w' v'} hb0 hb => by
    have hb1 := hb0.trans (hb.mono hb0.size)
    exact ⟨(h1.on hb1).r, FL v' (h3.trans (hb1.mono hbase))⟩
  rcases h2.find id with ⟨hf, j, hj, e1, e2⟩ | ⟨hf, e2⟩
  · obtain ⟨fd, g0, g1, g2, g3⟩ := fe j hj
    rw [e1] at fd g0 g1 g2 g3
    have v1 := h2.vp j hj
    have v2 := h2.vq j hj
    rw [e1] at v1 v2
    by_cases hs : (ds id).pk = 0 ∨ (ds id).by_ < n
    · refine (aout_state h1.g.at_ id n hf hs).mono ?_
      rintro e w' ⟨rfl, hb0⟩
      obtain ⟨s1, s2⟩ := stay (F := 17) (a := 9) hb0 (fun v' hb => out17_state (later hb0 hb).1 f (later hb0 hb).2 id n j hj e1 e2 (by rw [v1, v2]; exact hs))
      exact ⟨9, rfl, s1, s2⟩
    · have hp0 : (ds id).pk ≠ 0 := fun x => hs (Or.inl x)
      have hb0 : n ≤ (ds id).by_ := by omega
      refine (aout_okF h1.g.at_ hbase id n n0 n1 hf hp0 hb0).mono ?_
      rintro e w' ⟨rfl, g, b, fr⟩
      obtain ⟨m1, m2⟩ := h1.p b hf fr (h1.g.less n0 g)
      refine ⟨0, rfl, m2, Lib.hid (fun v' hb => ?_)⟩
      have m3 := m1.on hb
      have b3 := h3.trans (b.trans (hb.mono (Nat.le_trans hbase b.size)))
      have hs2 := Nat.le_trans h4 b3.size
      have k1 : k.gc.pk ≤ 4096 := f.gc.1.2
      have k3 : k.gc.by_ ≤ 18446744073709551615 := f.gc.2.1.2
      have tp1 := h1.g.pk
      have tb1 := h1.g.by_
      refine (out17_ok m3.r hs2 f (FL v' b3) id n n0 j hj e1 e2 (by rw [v1]; omega) (by rw [v1]; exact hp0) (by rw [v2]; exact hb0) (by rw [v2]; omega)).mono ?_
      rintro e w'' ⟨rfl, vp', vb', r', m'⟩
      obtain ⟨m4, m5⟩ := m3.q m' r'
      have rl := h2.set hj e1 ((ds id).less n) rfl
      rw [show tp + (((ds id).less n).pk - (ds id).pk) = tp - 1 by show tp + ((ds id).pk - 1 - (ds id).pk) = tp - 1; omega, show tb + (((ds id).less n).by_ - (ds id).by_) = tb - n by show tb + ((ds id).by_ - n - (ds id).by_) = tb - n; omega] at rl
      rw [v1, v2] at m4
      exact ⟨rfl, ⟨_, _, _, _, _, _, _, _, _, _, _, m4, rl, b3.trans (m5.b hs2), h4, h5⟩, m5⟩
  · refine (aout_flow h1.g.at_ id n hf).mono ?_
    rintro e w' ⟨rfl, hb0⟩
    obtain ⟨s1, s2⟩ := stay (F := 17) (a := 13) hb0 (fun v' hb => out17_flow (later hb0 hb).1 f (later hb0 hb).2 id n e2)
    exact ⟨13, rfl, s1, s2⟩
/-- What both tell, in any later world. -/
theorem look17 (h : Pair17 base w0 w G M k fs) (FL : ∀ v, Below base w0 v → RowFl v k.a k.n fs) (id : Int) : ∃ p b r s : Int, ∀ v, Below w.heap.size w v →
    (Calls Try.prog 22 #[.pointer (some ⟨G, 0, none⟩)] v fun e w' => e = .returned (.tuple #[.int .i64 p, .int .u64 b]) ∧ Below v.heap.size v w') ∧
    (Calls Try.prog 23 #[.pointer (some ⟨M, 0, none⟩)] v fun e w' => e = .returned (.tuple #[.int .i64 p, .int .u64 b]) ∧ Below v.heap.size v w') ∧
    (Calls Try.prog 24 #[.pointer (some ⟨G, 0, none⟩), .int .u32 id] v fun e w' => e = .returned (.tuple #[.int .i64 r, .int .u64 s]) ∧ Below v.heap.size v w') ∧
    (Calls Try.prog 25 #[.pointer (some ⟨M, 0, none⟩), .int .u32 id] v fun e w' => e = .returned (.tuple #[.int .i64 r, .int .u64 s]) ∧ Below v.heap.size v w') := by
  obtain ⟨T, v, es, bl, ds, tp, tb, vp, vb, ps, qs, h1, h2, h3, h4, h5⟩ := h
  obtain ⟨f, fe⟩ := fit17 h1 h2 h5
  have hbase := Nat.le_trans h4 h3.size
  have dn : ∀ {v w' : World} {e x : Ending}, (e = x ∧ ∃ q, w' = v.drewN q) → e = x ∧ Below v.heap.size v w' := fun {v w' e x} hx => by
    obtain ⟨h1, q, rfl⟩ := hx
    exact ⟨h1, below_drewN _ (Below.refl _ _)⟩
  rcases h2.find id with ⟨hf, j, hj, e1, e2⟩ | ⟨hf, e2⟩
  · have v1 := h2.vp j hj
    have v2 := h2.vq j hj
    rw [e1] at v1 v2
    refine ⟨tp, tb, (ds id).pk, (ds id).by_, fun v' hb => ⟨(atotal (h1.on hb).g.at_.gk).mono (fun e w' hx => dn hx), ?_, aown_at (h1.on hb).g.at_ id hf, ?_⟩⟩
    · have := total17f (h1.on hb).r f
      rw [h2.sp, h2.sq] at this
      exact this.mono (fun e w' hx => dn hx)
    · have := own17_at (h1.on hb).r f (FL v' (h3.trans (hb.mono hbase))) id j hj e1 e2
      rw [v1, v2] at this
      exact this.mono (fun e w' hx => dn hx)
  · refine ⟨tp, tb, 0, 0, fun v' hb => ⟨(atotal (h1.on hb).g.at_.gk).mono (fun e w' hx => dn hx), ?_, aown_no (h1.on hb).g.at_ id hf, ?_⟩⟩
    · have := total17f (h1.on hb).r f
      rw [h2.sp, h2.sq] at this
      exact this.mono (fun e w' hx => dn hx)
    · exact (own17_no (h1.on hb).r f (FL v' (h3.trans (hb.mono hbase))) id e2).mono (fun e w' hx => dn hx)
end
end Go.Proofs.Ytiogfgkfipekbaa
