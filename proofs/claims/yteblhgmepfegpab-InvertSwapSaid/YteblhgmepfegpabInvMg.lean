/-
  Package invert: two sorted parts of a row of places are merged, and how late those of the second one are is counted. Nothing below turns but the rows that the work made. No condition but that the parts lie where they should.
-/
import Derived.Test.YteblhgmepfegpabInvM
namespace Go.Proofs.Yteblhgmepfegpab
set_option linter.unusedVariables false
set_option linter.unusedSimpArgs false
open Go.ChangeShapes Go.WideShapes Go.ChangeAt Go.RowKit
attribute [local go_sem] alloc_drewN setCell_drewN

/-- How the merging stands. -/
structure MgAt (z : Nat → Int) (wr : World) (base B g h q : Nat) (num : Value) (n mid : Nat) (P Q R : List Nat) (L : List Int) (x6 x7 : Value) (k : Nat) (D J A B1 : List Nat) (late : List Int) (hf : List Value) : Prop where
  st : StAt wr base B g h q num n (P ++ D ++ J ++ B1 ++ Q) late hf
  v6 : SubV x6 q (mid - A.length) A.length
  v7 : SubV x7 g (P.length + D.length + J.length) B1.length
  la : A.length ≤ mid
  ha : ∀ i (hi : i < A.length), hf[mid - A.length + i]? = some (nv A[i])
  hj : J.length = A.length
  hk : D.length = k
  hm : R = D ++ mrg z A B1
  hl : L = mgl z A B1 late
  lt : ∀ x ∈ A, x < n
def Bd (late : List Int) (M : Int) : Prop := ∀ x ∈ late, 0 ≤ x ∧ x ≤ M
theorem Bd.set {late : List Int} {M : Int} (h : Bd late M) (i : Nat) (x : Int) (h0 : 0 ≤ x) (h1 : x ≤ M) : Bd (late.set i x) M := fun y hy => by
  rcases List.mem_or_eq_of_mem_set hy with hy | hy
  · exact h y hy
  · rw [hy]; exact ⟨h0, h1⟩
theorem Bd.mono {late : List Int} {M M' : Int} (h : Bd late M) (hm : M ≤ M') : Bd late M' := fun y hy => ⟨(h y hy).1, Int.le_trans (h y hy).2 hm⟩
def lenV : Value → Nat
  | .slice _ n _ => n
  | _ => 0
theorem mid_set (P D J R : List Nat) (j x : Nat) : (P ++ D ++ (j :: J) ++ R).set (P.length + D.length) x = P ++ (D ++ [x]) ++ J ++ R := by
  have e : P ++ D ++ (j :: J) ++ R = (P ++ D) ++ (j :: (J ++ R)) := by simp
  rw [e, List.set_append_right _ _ (by simp), List.length_append, Nat.sub_self, List.set_cons_zero]
  simp
theorem snoc_cons (J : List Nat) (b : Nat) (R : List Nat) : J ++ (b :: R) = (J ++ [b]) ++ R := by simp
theorem MgAt.takeA {z : Nat → Int} {wr : World} {base B g h q : Nat} {num : Value} {n mid : Nat} {P Q R : List Nat} {L : List Int} {x6 x7 x6' : Value} {k a : Nat} {D J A B1 : List Nat} {late : List Int} {hf : List Value}
    (m : MgAt z wr base B g h q num n mid P Q R L x6 x7 k D J (a :: A) B1 late hf) (hz : B1 = [] ∨ ∃ b B2, B1 = b :: B2 ∧ z a ≤ z b) (hv : SubV x6' q (mid - (a :: A).length + 1) A.length) :
    ∃ J', MgAt z (wr.setCell ⟨g, P.length + k, none⟩ (nv a)) base B g h q num n mid P Q R L x6' x7 (k + 1) (D ++ [a]) J' A B1 late hf ∧ Below base wr (wr.setCell ⟨g, P.length + k, none⟩ (nv a)) := by
  obtain ⟨st, v6, v7, la, ha, hj, hk, hm, hl, lt⟩ := m
  rw [List.length_cons] at la hj
  match J, hj with
  | j :: J', hj =>
    rw [List.length_cons] at hj
    have hs := st.setOrd (P.length + k) a (lt a (by simp))
    rw [← hk, List.append_assoc (P ++ D ++ (j :: J')), mid_set, hk] at hs
    have em : mrg z (a :: A) B1 = a :: mrg z A B1 ∧ mgl z (a :: A) B1 late = mgl z A B1 late := by
      rcases hz with rfl | ⟨b, B2, rfl, hz⟩
      · exact ⟨by rw [mrg_nil2, mrg_nil2], by rw [mgl_nil2, mgl_nil2]⟩
      · exact ⟨by rw [mrg, if_pos hz], by rw [mgl, if_pos hz]⟩
    refine ⟨J', ⟨?_, ?_, ?_, by omega, fun i hi => ?_, by omega, by rw [List.length_append, hk]; rfl, by rw [hm, em.1]; simp, by rw [hl, em.2], fun x hx => lt x (by simp [hx])⟩, hs.2⟩
    · have := hs.1
      rwa [← List.append_assoc] at this
    · rw [List.length_cons] at hv
      rwa [show mid - (A.length + 1) + 1 = mid - A.length by omega] at hv
    · rw [List.length_append, List.length_singleton]
      rw [List.length_cons] at v7
      rwa [show P.length + (D.length + 1) + J'.length = P.length + D.length + (J'.length + 1) by omega]
    · have := ha (i + 1) (by simpa using hi)
      have e : mid - (a :: A).length + (i + 1) = mid - A.length + i := by rw [List.length_cons]; omega
      rw [e] at this
      exact this
theorem MgAt.takeB {z : Nat → Int} {wr : World} {base B g h q : Nat} {num : Value} {n mid : Nat} {P Q R : List Nat} {L : List Int} {x6 x7 x7' : Value} {k a b : Nat} {D J A B1 : List Nat} {late : List Int} {hf : List Value}
    (m : MgAt z wr base B g h q num n mid P Q R L x6 x7 k D J (a :: A) (b :: B1) late hf) (hz : ¬ z a ≤ z b) (hv : SubV x7' g (P.length + D.length + J.length + 1) B1.length) :
    ∃ J', MgAt z ((wr.setCell ⟨h, b, none⟩ (.int .i64 (late.getD b 0 + (A.length + 1 : Nat)))).setCell ⟨g, P.length + k, none⟩ (nv b)) base B g h q num n mid P Q R L x6 x7' (k + 1) (D ++ [b]) J' (a :: A) B1 (late.set b (late.getD b 0 + (A.length + 1 : Nat))) hf ∧ Below base wr ((wr.setCell ⟨h, b, none⟩ (.int .i64 (late.getD b 0 + (A.length + 1 : Nat)))).setCell ⟨g, P.length + k, none⟩ (nv b)) := by
  obtain ⟨st, v6, v7, la, ha, hj, hk, hm, hl, lt⟩ := m
  have hbn : b < n := st.lt b (by simp)
  have s1 := st.setLat b (late.getD b 0 + (A.length + 1 : Nat))
  match J, hj with
  | j :: J', hj =>
    have hs := s1.1.setOrd (P.length + k) b hbn
    rw [← hk, List.append_assoc (P ++ D ++ (j :: J')), mid_set, hk] at hs
    refine ⟨J' ++ [b], ⟨?_, v6, ?_, la, ha, by simpa using hj, by rw [List.length_append, hk]; rfl, ?_, ?_, lt⟩, s1.2.trans hs.2⟩
    · have := hs.1
      simpa using this
    · rw [List.length_append, List.length_singleton, List.length_append, List.length_singleton]
      rw [List.length_cons] at hv
      rwa [show P.length + (D.length + 1) + (J'.length + 1) = P.length + D.length + (J'.length + 1) + 1 by omega]
    · rw [hm, mrg, if_neg hz]; simp
    · rw [hl, mgl, if_neg hz]
theorem MgAt.heap {z : Nat → Int} {wr w' : World} {base B g h q : Nat} {num : Value} {n mid : Nat} {P Q R : List Nat} {L : List Int} {x6 x7 : Value} {k : Nat} {D J A B1 : List Nat} {late : List Int} {hf : List Value}
    (m : MgAt z wr base B g h q num n mid P Q R L x6 x7 k D J A B1 late hf) (e : w'.heap = wr.heap) : MgAt z w' base B g h q num n mid P Q R L x6 x7 k D J A B1 late hf := ⟨m.st.below e, m.v6, m.v7, m.la, m.ha, m.hj, m.hk, m.hm, m.hl, m.lt⟩
theorem SubV.next {g i l c : Nat} (hc : l ≤ c) (hm : c < 9223372036854775807) : SubV (.slice (if c = 1 then some ⟨g, i, none⟩ else some ⟨g, i + 1, none⟩) (l - 1) (c - 1)) g (i + 1) (l - 1) :=
  ⟨_, _, rfl, by omega, by omega, fun h => by rw [if_neg (by omega)]⟩
set_option maxRecDepth 100000 in
set_option maxHeartbeats 4000000 in
theorem merge_any {z : Nat → Int} {w : World} {base B g h q : Nat} {num : Value} {n : Nat} {P A Bl Q : List Nat} {late : List Int} {hf : List Value} (s : StAt w base B g h q num n (P ++ A ++ Bl ++ Q) late hf) (hN : NumAt w base num z n) (cap : Nat) (hcap : A.length + Bl.length ≤ cap) (hcm : cap ≤ 400) (hA : 0 < A.length) (hB : 0 < Bl.length) (hA2 : A.length ≤ n / 2) (hn : n ≤ 400) (M : Int) (hM : M ≤ 1000000000) (hbd : Bd late M) :
    Calls Try.prog 20 #[.pointer (some ⟨B, 0, none⟩), .slice (some ⟨g, P.length, none⟩) (A.length + Bl.length) cap, .int .i64 A.length] w fun e w' => e = .returned (.tuple #[]) ∧ ∃ hf', StAt w' base B g h q num n (P ++ mrg z A Bl ++ Q) (mgl z A Bl late) hf' ∧ Below base w w' ∧ Bd (mgl z A Bl late) (M + 160000) := by
  obtain ⟨c0, c1, c2, c3⟩ := s.cell
  obtain ⟨an, cn, rfl, hcn⟩ := hN
  obtain ⟨bn, on, rfl, hbn, hbn2, -⟩ := hcn 0 (by omega)
  have HC := Lib.hid (fun (i : Nat) (hi : i < n) => show w.cell? ⟨bn, on + i, none⟩ = some (.int .u64 (z i)) from by
    obtain ⟨b', o', e, _, _, hc⟩ := hcn i hi
    injection e with e; injection e with e1 e2; subst e1; subst e2; exact hc)
  have HBD := Lib.hid hbd
  have a0 : (0 : Int) ≤ (A.length : Int) := by omega
  have a1 : (A.length : Int) ≤ ((n / 2 : Nat) : Int) := by omega
  have a2 : (A.length : Int) ≤ ((A.length + Bl.length : Nat) : Int) := by omega
  have e1 : ¬ (n / 2 : Nat) = 0 := by omega
  have e2 : ¬ cap = A.length := by omega
  have hlen := s.lx
  simp only [List.length_append] at hlen
  have hal : ∀ x ∈ A, x < n := fun x hx => s.lt x (by simp [hx])
  have HAL := Lib.hid hal
  have HZ := Lib.hid (show (Try.prog.info? 3).map (·.size) = some 1 by kernel_rfl)
  have HGQ := Lib.hid (fun m => show (w.drewN m).heap[q]? = _ from s.hlf)
  have HNL := Lib.hid (show (A.map nv).length = Nat.min (A.length + Bl.length) A.length by rw [List.length_map]; exact (Nat.min_eq_right (by omega)).symm)
  have HSRC := Lib.hid (fun m => show ∀ j v, (A.map nv)[j]? = some v → (w.drewN m).cell? ((⟨g, P.length, none⟩ : Addr).add j) = some v from fun j v hv => by
    have hj : j < A.length := by
      have := (List.getElem?_eq_some_iff.1 hv).1
      simpa using this
    rw [Go.WideShapes.add_plain]
    refine (s.ordAt (P.length + j)).1.trans ?_
    rw [← hv, List.map_append, List.map_append, List.map_append, List.append_assoc, List.append_assoc, List.getElem?_append_right (by simp), List.length_map, Nat.add_sub_cancel_left, List.getElem?_append_left (by simpa using hj)])
  have HFIT := Lib.hid (show 0 + (A.map nv).length ≤ hf.toArray.size by rw [List.length_map, List.size_toArray, s.lh]; omega)
  have H1 := Lib.hid (show ∀ v ∈ A.map nv, v.oneCell' = true from fun v hv => by obtain ⟨a, _, rfl⟩ := List.mem_map.1 hv; rfl)
  have SH := Lib.hid (fun m => (s.below (w' := w.drewN m) rfl).setHlf (hf.toArray.toList.take 0 ++ (A.map nv ++ hf.toArray.toList.drop (0 + (A.map nv).length))) (by simp; have := s.lh; omega))
  clear s hbd hal hcn
  go_enter Try.func20, Try.ntmps20
  go_wp2
  go_quiet (fail)
  go_wp2_with (with_reducible refine wpList_copy_own (o := ⟨some 20, _, _, _, _, _⟩) rfl _ _ 27 27 rfl 3 Try.underlying27 HZ.out q 0 A.length (n / 2) ⟨g, P.length, none⟩ (A.length + Bl.length) cap rfl rfl hf.toArray 3 (HGQ.out _) (A.map nv) HNL.out (HSRC.out _) HFIT.out H1.out ?_; have S3 := SH.out nq; generalize World.setRow _ _ _ = w3 at S3 ⊢)
  go_loopw [6, 7, 8] (fun x6 x7 x8 wr => ∃ (k : Nat) (D J A1 B1 : List Nat) (late1 : List Int) (hf1 : List Value), x8 = .int .i64 k ∧ MgAt z wr base B g h q (.slice (some ⟨bn, on, none⟩) n cn) n A.length P Q (mrg z A Bl) (mgl z A Bl late) x6 x7 k D J A1 B1 late1 hf1 ∧ Below base w wr ∧ Bd late1 (M + k * 400)) (fun x6 x7 _ _ => lenV x6 + lenV x7)
  case atStart =>
    refine ⟨0, [], A, A, Bl, late, _, rfl, ⟨by simpa using S3.1, ⟨_, _, rfl, by omega, by omega, fun _ => by rw [Nat.sub_self]⟩, ⟨_, _, rfl, by omega, by omega, fun _ => by simp⟩, Nat.le_refl _, fun i hi => ?_, rfl, rfl, by simp, rfl, HAL.out⟩, ⟨S3.2.os, S3.2.tape, S3.2.output, S3.2.size, S3.2.block⟩, by simpa using HBD.out⟩
    rw [Nat.sub_self, Nat.zero_add, List.getElem?_append_left (by simpa using hi), List.getElem?_map, List.getElem?_eq_getElem hi]; rfl
  case round =>
    obtain ⟨k, D, J, A1, B1, late1, hf1, rfl, m, hb, hbd1⟩ := hrel
    match A1, m with
    | [], m =>
      obtain ⟨a6, c6, rfl, hc6, hc6m, -⟩ := m.v6
      have hJ : J = [] := List.eq_nil_of_length_eq_zero m.hj
      have st := m.st
      have hm := m.hm; have hl := m.hl
      subst hJ
      rw [mrg_nil] at hm
      rw [show mgl z [] B1 late1 = late1 by rw [mgl]] at hl
      have hk := m.hk
      have FIN : Hid (∃ hf', StAt wr base B g h q (.slice (some ⟨bn, on, none⟩) n cn) n (P ++ mrg z A Bl ++ Q) (mgl z A Bl late) hf' ∧ Below base w wr ∧ Bd (mgl z A Bl late) (M + 160000)) := Lib.hid ⟨hf1, by rw [hm, hl]; simpa using st, hb, by
        rw [hl]
        refine hbd1.mono ?_
        have := st.lx
        simp only [List.length_append] at this
        omega⟩
      clear m st hm hl hb hbd1 S3
      go_wp2
      first | go_end0 | refine bodyPost_ret (results_none rfl _ _ _) rfl ?_
      exact ⟨rfl, FIN.out⟩
    | a :: A2, m =>
      obtain ⟨a6, c6, rfl, hc6, hc6m, ha6⟩ := m.v6
      obtain rfl := ha6 (by simp)
      obtain ⟨a7, c7, rfl, hc7, hc7m, ha7⟩ := m.v7
      obtain ⟨d0, d1, d2, d3⟩ := m.st.cell
      have e6 : wr.cell? ⟨q, A.length - (a :: A2).length, none⟩ = some (.int .i64 a) := (m.st.hlfAt _).trans (by have := m.ha 0 (by simp); rw [Nat.add_zero] at this; exact this)
      have han : a < n := m.lt a (by simp)
      have ca : wr.cell? ⟨bn, on + a, none⟩ = some (.int .u64 (z a)) := (World.cell?_of_block (hb.block bn hbn)).trans (HC.out a han)
      have hk := m.hk
      have hkl : k < A.length + Bl.length := by
        have h1 := m.st.lx; have h2 := m.hj
        have h3 := congrArg List.length m.hm
        rw [mrg_length, List.length_append, mrg_length, List.length_cons] at h3
        omega
      obtain ⟨j, J', hJ⟩ : ∃ j J', J = j :: J' := by
        cases J with
        | nil => have := m.hj; simp at this
        | cons j J' => exact ⟨j, J', rfl⟩
      have oj : wr.cell? ⟨g, P.length + k, none⟩ = some (.int .i64 j) := (m.st.ordAt _).1.trans (by
        rw [hJ, ← hk, List.map_append, List.map_append, List.map_append, List.map_append, List.append_assoc, List.append_assoc, List.getElem?_append_right (by simp)]
        simp [nv])
      have oz := (m.st.ordAt (P.length + k)).2
      have k0 : (0 : Int) ≤ (k : Int) := by omega
      have k1 : (k : Int) < ((A.length + Bl.length : Nat) : Int) := by omega
      have hl6 : 0 < (a :: A2).length := by simp
      have hl6' : (a :: A2).length = A2.length + 1 := rfl
      obtain ⟨p6, hp6⟩ : ∃ p6, A.length - (a :: A2).length = p6 := ⟨_, rfl⟩
      obtain ⟨l6, hl6e⟩ : ∃ l6, (a :: A2).length = l6 := ⟨_, rfl⟩
      rw [hp6] at e6
      rw [hl6e] at hl6 hl6' hc6
      have HP6 := Lib.hid hp6
      have HL6 := Lib.hid hl6e
      have HL6' := Lib.hid hl6'
      rw [hp6, hl6e]
      have q0 : (0 : Int) < (l6 : Int) := by omega
      have q1 : (1 : Int) ≤ (l6 : Int) := by omega
      have x0 : (0 : Int) ≤ (a : Int) := by omega
      have x1 : (a : Int) < (n : Int) := by omega
      have kw : IntKind.i64.wrap ((k : Int) + 1) = (k : Int) + 1 := by rw [IntKind.wrap_i64]; omega
      match B1, m with
      | [], m =>
        have TA := Lib.hid (fun x6' hv => m.takeA (x6' := x6') (Or.inl rfl) hv)
        clear m ha6 ha7 hp6 hl6e hl6'
        go_wp2
        go_quiet (fail)
        go_wp2
        go_region
        go_wp2
        go_roundw
        case rel =>
          obtain ⟨J2, m2, b2⟩ := TA.out (.slice (if c6 = 1 then some ⟨q, p6, none⟩ else some ⟨q, p6 + 1, none⟩) (l6 - 1) (c6 - 1)) (by
            have := SubV.next (g := q) (i := p6) hc6 hc6m
            rw [HP6.out]
            rwa [show A2.length = l6 - 1 by have := HL6'.out; omega])
          exact ⟨k + 1, _, J2, A2, [], late1, hf1, by go_num, m2.heap rfl, ⟨(hb.trans b2).os, (hb.trans b2).tape, (hb.trans b2).output, (hb.trans b2).size, (hb.trans b2).block⟩, hbd1.mono (by omega)⟩
        case measure => simp only [lenV]; omega
      | b :: B2, m =>
        obtain rfl := ha7 (by simp)
        have hbn' : b < n := m.st.lt b (by simp)
        have cb : wr.cell? ⟨bn, on + b, none⟩ = some (.int .u64 (z b)) := (World.cell?_of_block (hb.block bn hbn)).trans (HC.out b hbn')
        have e7 : wr.cell? ⟨g, P.length + D.length + J.length, none⟩ = some (.int .i64 b) := (m.st.ordAt _).1.trans (by
          rw [List.append_assoc, List.map_append, List.getElem?_append_right (by simp; omega)]
          simp [nv, Nat.add_assoc]
          rfl)
        have y0 : (0 : Int) ≤ (b : Int) := by omega
        have y1 : (b : Int) < (n : Int) := by omega
        obtain ⟨p7, hp7⟩ : ∃ p7, P.length + D.length + J.length = p7 := ⟨_, rfl⟩
        obtain ⟨l7, hl7⟩ : ∃ l7, (b :: B2).length = l7 := ⟨_, rfl⟩
        have hl7' : B2.length + 1 = l7 := hl7
        have HP7 := Lib.hid hp7
        have HL7 := Lib.hid hl7
        have HL7' := Lib.hid hl7'
        rw [hp7] at e7
        rw [hl7] at hc7
        rw [hp7, hl7]
        have r0 : (0 : Int) < (l7 : Int) := by omega
        have r1 : (1 : Int) ≤ (l7 : Int) := by omega
        have r2 : decide ((l7 : Int) = 0) = false := decide_eq_false (by omega)
        have r3 : ¬ l7 = 0 := by omega
        have r4 : ((l7 : Int) == 0) = false := by rw [beq_eq_false_iff_ne]; omega
        have kl6 : l6 ≤ 400 := by have := HL6'.out; have := m.la; rw [List.length_cons] at this; omega
        by_cases hz : z a ≤ z b
        · have hzd : decide (z a ≤ z b) = true := decide_eq_true hz
          have TA := Lib.hid (fun x6' hv => m.takeA (x6' := x6') (Or.inr ⟨b, B2, rfl, hz⟩) hv)
          clear m ha6 ha7 hp6 hl6e hl6' hp7 hl7 hl7'
          go_wp2
          go_quiet (fail)
          go_wp2
          go_region
          go_wp2
          go_roundw
          case rel =>
            obtain ⟨J2, m2, b2⟩ := TA.out (.slice (if c6 = 1 then some ⟨q, p6, none⟩ else some ⟨q, p6 + 1, none⟩) (l6 - 1) (c6 - 1)) (by
              have := SubV.next (g := q) (i := p6) hc6 hc6m
              rw [HP6.out]
              rwa [show A2.length = l6 - 1 by have := HL6'.out; omega])
            rw [HP7.out, HL7.out] at m2
            exact ⟨k + 1, _, J2, A2, b :: B2, late1, hf1, by go_num, m2.heap rfl, ⟨(hb.trans b2).os, (hb.trans b2).tape, (hb.trans b2).output, (hb.trans b2).size, (hb.trans b2).block⟩, hbd1.mono (by omega)⟩
          case measure => simp only [lenV]; omega
        · have hzd : decide (z a ≤ z b) = false := decide_eq_false hz
          have TB := Lib.hid (fun x7' hv => m.takeB (x7' := x7') hz hv)
          have hll : b < late1.length := by rw [m.st.ll]; exact hbn'
          have clz := (m.st.latAt b).2
          have clb : wr.cell? ⟨h, b, none⟩ = some (.int .i64 (late1.getD b 0)) := (m.st.latAt b).1.trans (by rw [List.getElem?_map, List.getElem?_eq_getElem hll, List.getD_eq_getElem?_getD, List.getElem?_eq_getElem hll]; rfl)
          have hgb := hbd1 (late1.getD b 0) (by rw [List.getD_eq_getElem?_getD, List.getElem?_eq_getElem hll]; exact List.getElem_mem _)
          have HX := Lib.hid (show (((A2.length + 1 : Nat)) : Int) = (l6 : Int) by have := HL6'.out; omega)
          rw [HX.out] at TB
          have ngh : ¬ h = g := fun e => m.st.ap.1 e.symm
          have ngh2 : ¬ g = h := fun e => ngh e.symm
          have ngB := m.st.neB
          clear m ha6 ha7 hp6 hl6e hl6' hp7 hl7 hl7'
          generalize late1.getD b 0 = lb at *
          have aw : IntKind.i64.wrap (lb + (l6 : Int)) = lb + (l6 : Int) := by rw [IntKind.wrap_i64]; omega
          go_wp2
          go_quiet (fail)
          go_wp2
          go_region
          go_wp2
          go_region
          go_wp2
          go_roundw
          case rel =>
            obtain ⟨J2, m2, b2⟩ := TB.out (.slice (if c7 = 1 then some ⟨g, p7, none⟩ else some ⟨g, p7 + 1, none⟩) (l7 - 1) (c7 - 1)) (by
              have := SubV.next (g := g) (i := p7) hc7 hc7m
              rw [HP7.out]
              rwa [show B2.length = l7 - 1 by have := HL7'.out; omega])
            rw [HP6.out, HL6.out] at m2
            exact ⟨k + 1, _, J2, a :: A2, B2, _, hf1, by go_num, m2.heap rfl, ⟨(hb.trans b2).os, (hb.trans b2).tape, (hb.trans b2).output, (hb.trans b2).size, (hb.trans b2).block⟩, (hbd1.mono (by omega)).set b _ (by omega) (by omega)⟩
          case measure => simp only [lenV]; omega
end Go.Proofs.Yteblhgmepfegpab
