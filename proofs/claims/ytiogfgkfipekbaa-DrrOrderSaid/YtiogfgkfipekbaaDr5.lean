/-
  Package drr: an item is put, the item whose turn it is is taken. No condition but that New made the turns.
-/
import Derived.Test.YtiogfgkfipekbaaDr4
namespace Go.Proofs.Ytiogfgkfipekbaa
set_option linter.unusedVariables false
set_option linter.unusedSimpArgs false
open Go.ChangeShapes Go.WideShapes Go.ChangeAt Go.RowKit
attribute [local go_sem] alloc_drewN setCell_drewN

theorem nd_len : ∀ (n : Nat) (l : List Int), l.Nodup → (∀ x ∈ l, 0 ≤ x ∧ x < (n : Int)) → l.length ≤ n
  | 0, [], _, _ => Nat.le_refl _
  | 0, x :: l, _, h => by have := h x (by simp); omega
  | n + 1, l, hd, h => by
    by_cases hn : (n : Int) ∈ l
    · have h1 := nd_len n (l.erase (n : Int)) (hd.erase _) (fun x hx => by
        have h2 := h x (List.mem_of_mem_erase hx)
        have h3 : x ≠ (n : Int) := fun e => (hd.not_mem_erase) (e ▸ hx)
        omega)
      rw [List.length_erase_of_mem hn] at h1
      omega
    · have h1 := nd_len n l hd (fun x hx => by
        have h2 := h x hx
        have h3 : x ≠ (n : Int) := fun e => hn (e ▸ hx)
        omega)
      omega
theorem TInv.rlen {S : Ts} (h : TInv S) {i : Nat} (hi : i < S.n) (hq : S.q i = []) : S.R.length < S.n := by
  have hn : (i : Int) ∉ S.R := fun hm => (h.rr i hi).1 hm hq
  have := nd_len S.n ((i : Int) :: S.R) (List.nodup_cons.2 ⟨hn, h.rn⟩) (fun x hx => by
    rcases List.mem_cons.1 hx with rfl | hx
    · omega
    · obtain ⟨j, rfl, hj⟩ := h.rb x hx
      omega)
  rw [List.length_cons] at this
  omega
/-- Why an item may not come; 0: it may. -/
def Ts.may (S : Ts) (c size : Int) : Int := if ¬ (0 ≤ c ∧ c < S.n) then 7 else if size < 1 ∨ 65535 < size then 12 else if 1024 ≤ (S.q c.toNat).length then 20 else 0
def Ts.push (S : Ts) (c size id : Int) : Ts := if S.may c size = 0 then S.put c.toNat (size, id) else S
set_option maxRecDepth 100000 in
set_option maxHeartbeats 4000000 in
theorem dpush {w : World} {base T : Nat} {S : Ts} {In : Nat → Prop} (h : DrG w base T S In) (hbase : base ≤ w.heap.size) (c size id : Int) (s0 : 0 ≤ size) (s1 : size ≤ 18446744073709551615) : Calls Try.prog 39 #[.pointer (some ⟨T, 0, none⟩), .int .i64 c, .int .u64 size, .int .i64 id] w fun e w' => e = .returned (.int .i64 (S.may c size)) ∧ ∃ In', DrG w' base T (S.push c size id) In' ∧ MvS w w' In In' := by
  have HH := Lib.hid h
  have HB := Lib.hid hbase
  have HAS := dhas h c
  obtain ⟨vc, cs, Rb, vr, rp, rf, rk, h1, h2, h3, h4, inv, h6⟩ := h
  obtain ⟨c0, c1, c2, f2⟩ := h1.cell
  unfold Ts.push Ts.may
  by_cases hc : 0 ≤ c ∧ c < S.n
  · rw [decide_eq_true hc] at HAS
    have HASH := Lib.hid HAS
    rw [if_neg (fun x => x hc)]
    clear HAS
    by_cases hs : size < 1 ∨ 65535 < size
    · rw [if_pos hs, if_neg (show ¬ ((12 : Int) = 0) from by decide)]
      clear h1 h2 h3 h4 h6 inv hbase
      rcases hs with hs | hs
      · go_enter Try.func39, Try.ntmps39
        go_wp2_with fail
        refine HASH.out.mono ?_
        rintro e w' ⟨rfl, rfl⟩
        go_wp2
        go_ret
        exact ⟨rfl, _, HH.out, MvS.refl _ _⟩
      · have hs1 : ¬ size < 1 := by omega
        go_enter Try.func39, Try.ntmps39
        go_wp2_with fail
        refine HASH.out.mono ?_
        rintro e w' ⟨rfl, rfl⟩
        go_wp2
        go_ret
        exact ⟨rfl, _, HH.out, MvS.refl _ _⟩
    · rw [if_neg hs]
      have hs1 : ¬ size < 1 := by omega
      have hs2 : ¬ 65535 < size := by omega
      obtain ⟨i, rfl⟩ : ∃ i : Nat, c = i := ⟨c.toNat, by omega⟩
      rw [Int.toNat_natCast]
      have hi : i < S.n := by omega
      have hic : i < cs.length := by omega
      obtain ⟨g, cc, rfl, -, -, hcs⟩ := h1.form
      obtain ⟨q0, q1, q2, q3⟩ := hcs i hic
      rw [h2] at c0
      have h3i := h3 i hic
      have hlen : (S.q i).length = (cs[i]'hic).k := by rw [← h3i.2.2]; exact cont_length _ _ _ _
      have z0 : (0 : Int) ≤ i := by omega
      have z1 : (i : Int) < S.n := by omega
      have HE := h1.each i hic
      have D1 := Lib.hid h1; have D2 := Lib.hid h2; have D3 := Lib.hid h3; have D4 := Lib.hid h4; have D6 := Lib.hid h6; have INV := Lib.hid inv; have HL := Lib.hid hlen
      by_cases hf : 1024 ≤ (S.q i).length
      · rw [if_pos hf, if_neg (show ¬ ((20 : Int) = 0) from by decide)]
        have hk : ((cs[i]'hic).k : Int) = 1024 := by have := inv.le i hi; omega
        have PF := Lib.hid (qput_fullI HE hk (size, id))
        clear h1 h2 h3 h4 h6 inv hbase hcs h3i hlen hf HE hk
        go_enter Try.func39, Try.ntmps39
        go_wp2_with fail
        refine HASH.out.mono ?_
        rintro e w' ⟨rfl, rfl⟩
        go_wp2_with fail
        refine PF.out.mono ?_
        rintro e w1 ⟨rfl, b1⟩
        have FIN := Lib.hid (And.intro (HH.out.below b1) (MvS.of_below In b1))
        clear b1
        go_wp2
        go_ret
        exact ⟨rfl, _, FIN.out.1, FIN.out.2⟩
      · rw [if_neg hf, if_pos rfl]
        have hk : ((cs[i]'hic).k : Int) < 1024 := by omega
        have PF := Lib.hid (qput_anyI HE hk (size, id) hbase)
        have PI := Lib.hid (put_inv inv i hi (size, id) (by show 1 ≤ size ∧ size ≤ 65535; omega) (by omega))
        clear h1 h2 h3 h4 h6 inv hbase hcs h3i hlen hf HE hk
        go_enter Try.func39, Try.ntmps39
        go_wp2_with fail
        refine HASH.out.mono ?_
        rintro e w' ⟨rfl, rfl⟩
        go_wp2_with fail
        refine PF.out.mono ?_
        rintro e w1 ⟨rfl, v1, ps1, f1, r1, hq1, m1⟩
        obtain ⟨d1, m2⟩ := D1.out.setQ i hic m1 r1
        have D7 := Lib.hid d1
        have M2 := Lib.hid (m2.left D6.out)
        have HQ1 := Lib.hid hq1
        have LN := Lib.hid (qlenI r1)
        have V3 := Lib.hid (view_setQ D3.out i hic v1 ps1 f1 ((cs[i]'hic).k + 1))
        clear d1 m1 m2 r1 hq1 PF c0 c1 c2 f2 q0 q1 q2 q3 HASH
        obtain ⟨c0, c1, c2, f2⟩ := D7.out.cell
        go_wp2_with fail
        refine LN.out.mono ?_
        rintro e w2 ⟨rfl, rfl⟩
        have QE := Lib.hid (show cont izI ps1 f1 ((cs[i]'hic).k + 1) = S.q i ++ [(size, id)] from by rw [HQ1.out]; exact congrArg (· ++ [(size, id)]) (D3.out i hic).2.2)
        by_cases he : S.q i = []
        · have hk0 : (cs[i]'hic).k = 0 := by rw [← HL.out, he]; rfl
          have gk : ((((cs[i]'hic).k + 1 : Nat) : Int) == 1) = true := by rw [hk0]; rfl
          have gk2 : (((cs[i]'hic).k + 1 : Nat) : Int) = 1 := by rw [hk0]; rfl
          have RL := INV.out.rlen hi he
          have SZ := Lib.hid (Nat.le_trans HB.out M2.out.size)
          have PT := Lib.hid (put_anyI D7.out.row (by
            have h5 := cont_length 0 rp rf rk
            rw [D4.out] at h5
            have h7 := D2.out
            rw [List.length_set]; omega) (i : Int) SZ.out)
          have HEE := Lib.hid he
          clear he hk0 RL
          go_wp2_with fail
          refine PT.out.mono ?_
          rintro e w3 ⟨rfl, vr3, rp3, rf3, r3, hc3, m3⟩
          obtain ⟨d3, m4⟩ := D7.out.setR m3 r3
          have FIN := Lib.hid (show DrG w3 base T (S.put i (size, id)) _ ∧ MvS w' w3 In _ from ⟨⟨_, _, Rb, vr3, rp3, rf3, rk + 1, d3, by rw [List.length_set]; exact D2.out, fun j hj => by
            have := V3.out j hj
            rw [QE.out] at this
            exact this, by rw [hc3, D4.out]; show S.R ++ [(i : Int)] = if S.q i = [] then S.R ++ [(i : Int)] else S.R; rw [if_pos HEE.out], PI.out, fun j => Iff.rfl⟩, M2.out.trans m4⟩)
          clear d3 m4 m3 r3 hc3 PT c0 c1 c2 f2
          go_wp2
          go_ret
          exact ⟨rfl, _, FIN.out.1, FIN.out.2⟩
        · have hk0 : (cs[i]'hic).k ≠ 0 := fun e => he (List.length_eq_zero_iff.1 (by rw [HL.out, e]))
          have gk : ((((cs[i]'hic).k + 1 : Nat) : Int) == 1) = false := by rw [beq_eq_false_iff_ne]; omega
          have gk2 : ¬ (((cs[i]'hic).k + 1 : Nat) : Int) = 1 := by omega
          have FIN := Lib.hid (show DrG w1 base T (S.put i (size, id)) _ ∧ MvS w' w1 In _ from ⟨⟨_, _, Rb, vr, rp, rf, rk, D7.out, by rw [List.length_set]; exact D2.out, fun j hj => by
            have := V3.out j hj
            rw [QE.out] at this
            exact this, by rw [D4.out]; show S.R = if S.q i = [] then S.R ++ [(i : Int)] else S.R; rw [if_neg he], PI.out, fun j => Iff.rfl⟩, M2.out⟩)
          clear he hk0
          go_wp2
          go_ret
          exact ⟨rfl, _, FIN.out.1, FIN.out.2⟩
  · rw [decide_eq_false hc] at HAS
    have HASH := Lib.hid HAS
    rw [if_pos hc, if_neg (show ¬ ((7 : Int) = 0) from by decide)]
    clear h1 h2 h3 h4 h6 inv hbase HAS
    go_enter Try.func39, Try.ntmps39
    go_wp2_with fail
    refine HASH.out.mono ?_
    rintro e w' ⟨rfl, rfl⟩
    go_wp2
    go_ret
    exact ⟨rfl, _, HH.out, MvS.refl _ _⟩
end Go.Proofs.Ytiogfgkfipekbaa
