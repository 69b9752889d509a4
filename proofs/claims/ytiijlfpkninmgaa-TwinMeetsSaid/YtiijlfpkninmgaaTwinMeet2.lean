/-
  The law of the two ends of layer 10, walked: true for any ranks and any turns. No condition.
-/
import Derived.Test.YtiijlfpkninmgaaTwinMeet1
import Derived.Test.YtiijlfpkninmgaaOpenB
namespace Go.Proofs.Ytiijlfpkninmgaa
set_option linter.unusedVariables false
set_option linter.unusedSimpArgs false
open Go.ChangeShapes Go.WideShapes Go.ChangeAt Go.RowKit
attribute [local go_sem] alloc_drewN setCell_drewN

/-- Three queues of the same first so many ranks. -/
structure Trip (W0 w : World) (A B C : Nat) (room : Int) (zs : List Int) (k : Nat) (va vb vc : Value) (M : List (Ent Int)) : Prop where
  t : Tri W0 w A B C room k k k va vb vc M M M
  same : M.map kv = bestTo zs k
  len : M.length = k
theorem tri_pushA {W0 w : World} {A B C : Nat} {room pa pb pc : Int} {va vb vc : Value} {ma mb mc : List (Ent Int)} (h : Tri W0 w A B C room pa pb pc va vb vc ma mb mc) (hl : (ma.length : Int) < room) (p1 : pa < 18446744073709551615) (rk x : Int) :
    Calls Try.prog 46 #[.pointer (some ⟨A, 0, none⟩), .int .u64 rk, .int .i64 x] w fun e w' => e = .returned (.bool true) ∧ ∃ va', Tri W0 w' A B C room (pa + 1) pb pc va' vb vc (insR ma ⟨rk, x, pa⟩) mb mc := by
  refine (pushXI h.a hl p1 rk x).mono ?_
  rintro e w' ⟨rfl, v', h1, m⟩
  exact ⟨rfl, v', h.putA h1 m⟩
theorem tri_pushB {W0 w : World} {A B C : Nat} {room pa pb pc : Int} {va vb vc : Value} {ma mb mc : List (Ent Int)} (h : Tri W0 w A B C room pa pb pc va vb vc ma mb mc) (hl : (mb.length : Int) < room) (p1 : pb < 18446744073709551615) (rk x : Int) :
    Calls Try.prog 46 #[.pointer (some ⟨B, 0, none⟩), .int .u64 rk, .int .i64 x] w fun e w' => e = .returned (.bool true) ∧ ∃ vb', Tri W0 w' A B C room pa (pb + 1) pc va vb' vc ma (insR mb ⟨rk, x, pb⟩) mc := by
  refine (pushXI h.b hl p1 rk x).mono ?_
  rintro e w' ⟨rfl, v', h1, m⟩
  exact ⟨rfl, v', h.putB h1 m⟩
theorem tri_pushC {W0 w : World} {A B C : Nat} {room pa pb pc : Int} {va vb vc : Value} {ma mb mc : List (Ent Int)} (h : Tri W0 w A B C room pa pb pc va vb vc ma mb mc) (hl : (mc.length : Int) < room) (p1 : pc < 18446744073709551615) (rk x : Int) :
    Calls Try.prog 46 #[.pointer (some ⟨C, 0, none⟩), .int .u64 rk, .int .i64 x] w fun e w' => e = .returned (.bool true) ∧ ∃ vc', Tri W0 w' A B C room pa pb (pc + 1) va vb vc' ma mb (insR mc ⟨rk, x, pc⟩) := by
  refine (pushXI h.c hl p1 rk x).mono ?_
  rintro e w' ⟨rfl, v', h1, m⟩
  exact ⟨rfl, v', h.putC h1 m⟩
theorem Trip.next {W0 w : World} {A B C : Nat} {room : Int} {zs : List Int} {k : Nat} {va vb vc : Value} {M : List (Ent Int)} (hs : M.map kv = bestTo zs k) (hl : M.length = k) (h : Tri W0 w A B C room (k + 1 : Int) (k + 1 : Int) (k + 1 : Int) va vb vc (insR M ⟨zs.getD k 0, k, k⟩) (insR M ⟨zs.getD k 0, k, k⟩) (insR M ⟨zs.getD k 0, k, k⟩)) : Trip W0 w A B C room zs (k + 1) va vb vc (insR M ⟨zs.getD k 0, k, k⟩) :=
  ⟨by exact_mod_cast h, by rw [insR_kv, hs]; rfl, by rw [insR_length, hl]⟩
/-- The i-th. -/
def at9 (M : List (Ent Int)) (i : Nat) : Ent Int := M.getD i ⟨0, 0, 0⟩
theorem at9_eq {M : List (Ent Int)} {i : Nat} (h : i < M.length) : M[i] = at9 M i := by
  unfold at9
  rw [List.getD_eq_getElem?_getD, List.getElem?_eq_getElem h]; rfl
/-- Two queues popped so many times, at unlike ends; what came lies in two rows. -/
structure Deuce (W0 w : World) (A B C : Nat) (room : Int) (n k : Nat) (u d va vb vc : Value) (M : List (Ent Int)) : Prop where
  t : Tri W0 w A B C room n n n va vb vc (M.drop k) (M.take (n - k)) M
  up : Ints w W0.heap.size u ((M.take k).map Ent.x)
  dn : Ints w W0.heap.size d ((M.reverse.take k).map Ent.x)
  ap : Ap u d
theorem ap_grown {w : World} {u d u3 : Value} {ds : List Int} {b : Nat} (hd : Ints w b d ds) (hap : Ap u d) (o : Obj) (hat : u3.ownBlock = u.ownBlock ∨ u3.ownBlock = some (w.alloc o).heap.size) : Ap u3 d := by
  rcases hat with h | h
  · unfold Ap at *
    rw [h]; exact hap
  · refine Or.inr (fun e => ?_)
    have := (World.ownsRow.lt hd _ (by rw [← e]; exact h)).2
    simp at this
    omega
theorem ints_other {w w3 : World} {u d : Value} {ds : List Int} {b : Nat} (hd : Ints w b d ds) (ap : Ap d u) (o : Obj) (hg : (w.alloc o).grownBy w3 u.ownBlock) : Ints w3 b d ds := World.ownsRow.kept (World.ownsRow.alloc hd o) hg ap
theorem tri_min {W0 w : World} {A B C : Nat} {room pa pb pc : Int} {va vb vc : Value} {M mb mc : List (Ent Int)} {k : Nat} {u d : Value} {us ds : List Int} (h : Tri W0 w A B C room pa pb pc va vb vc (M.drop k) mb mc) (hk : k < M.length) (hu : Ints w W0.heap.size u us) (hd : Ints w W0.heap.size d ds) :
    Calls Try.prog 47 #[.pointer (some ⟨A, 0, none⟩)] w fun e w' => e = .returned (.tuple #[.int .u64 (at9 M k).rk, .int .i64 (at9 M k).x, .bool true]) ∧ ∃ va', Tri W0 w' A B C room pa pb pc va' vb vc (M.drop (k + 1)) mb mc ∧ Ints w' W0.heap.size u us ∧ Ints w' W0.heap.size d ds := by
  have ha := h.a
  rw [List.drop_eq_getElem_cons hk, at9_eq hk] at ha
  refine (popminXI ha).mono ?_
  rintro e w' ⟨rfl, v', h1, m⟩
  exact ⟨rfl, v', h.putA h1 m, hu.kept ha m, hd.kept ha m⟩
theorem tri_max {W0 w : World} {A B C : Nat} {room pa pb pc : Int} {va vb vc : Value} {M ma mc : List (Ent Int)} {q : Nat} {u d : Value} {us ds : List Int} (h : Tri W0 w A B C room pa pb pc va vb vc ma (M.take (q + 1)) mc) (hk : q < M.length) (hu : Ints w W0.heap.size u us) (hd : Ints w W0.heap.size d ds) :
    Calls Try.prog 48 #[.pointer (some ⟨B, 0, none⟩)] w fun e w' => e = .returned (.tuple #[.int .u64 (at9 M q).rk, .int .i64 (at9 M q).x, .bool true]) ∧ ∃ vb', Tri W0 w' A B C room pa pb pc va vb' vc ma (M.take q) mc ∧ Ints w' W0.heap.size u us ∧ Ints w' W0.heap.size d ds := by
  have hb := h.b
  rw [List.take_succ_eq_append_getElem hk, at9_eq hk] at hb
  refine (popmaxXI hb).mono ?_
  rintro e w' ⟨rfl, v', h1, m⟩
  exact ⟨rfl, v', h.putB h1 m, hu.kept hb m, hd.kept hb m⟩
theorem Deuce.next {W0 w w3 w6 : World} {A B C : Nat} {room : Int} {n k : Nat} {u d va vb vc : Value} {M : List (Ent Int)} (hM : M.length = n) (hk : k < n) (t : Tri W0 w A B C room n n n va vb vc (M.drop (k + 1)) (M.take (n - 1 - k)) M) (hu : Ints w W0.heap.size u ((M.take k).map Ent.x)) (hd : Ints w W0.heap.size d ((M.reverse.take k).map Ent.x)) (ap : Ap u d) (o o2 : Obj) {u3 d6 : Value}
    (hg : (w.alloc o).grownBy w3 u.ownBlock) (ho : Ints w3 W0.heap.size u3 ((M.take k).map Ent.x ++ [(at9 M k).x])) (hat : u3.ownBlock = u.ownBlock ∨ u3.ownBlock = some (w.alloc o).heap.size)
    (hg2 : (w3.alloc o2).grownBy w6 d.ownBlock) (ho2 : Ints w6 W0.heap.size d6 ((M.reverse.take k).map Ent.x ++ [(at9 M (n - 1 - k)).x])) (hat2 : d6.ownBlock = d.ownBlock ∨ d6.ownBlock = some (w3.alloc o2).heap.size) : Deuce W0 w6 A B C room n (k + 1) u3 d6 va vb vc M := by
  have hd3 := ints_other hd ap.symm o hg
  have ap3 : Ap u3 d := ap_grown hd ap o hat
  have t6 := (t.grown o u _ hu hg).grown o2 d _ hd3 hg2
  refine ⟨by rw [show n - (k + 1) = n - 1 - k by omega]; exact t6, ?_, ?_, (ap_grown ho ap3.symm o2 hat2).symm⟩
  · rw [List.take_succ_eq_append_getElem (by omega), List.map_append, at9_eq (by omega)]
    exact ints_other ho ap3 o2 hg2
  · rw [List.take_succ_eq_append_getElem (by rw [List.length_reverse]; omega), List.map_append, List.getElem_reverse, at9_eq (by omega), hM]
    exact ho2
theorem ints_form_at {w : World} {base : Nat} {v : Value} {xs : List Int} {n : Nat} (h : Ints w base v xs) (hn : xs.length = n) : ∃ a c, v = .slice a n c ∧ ∀ W, Ints W base v xs → ∀ i, i < n → ∃ g, a = some ⟨g, 0, none⟩ ∧ g < W.heap.size ∧ W.cell? ⟨g, i, none⟩ = some (.int .i64 (xs.getD i 0)) := by
  subst hn
  obtain ⟨a, c, rfl, _, _⟩ := h.form
  refine ⟨a, c, rfl, fun W hW i hi => ?_⟩
  obtain ⟨a', c', hv, _, hc⟩ := hW.form
  obtain ⟨rfl, _, _⟩ := Value.slice.inj hv
  exact hc i hi
/-- Two queues are empty, the third has what lies between. -/
structure Ends (W0 w : World) (A B C : Nat) (room : Int) (n lo hi : Nat) (u d va vb vc : Value) (M : List (Ent Int)) : Prop where
  t : Tri W0 w A B C room n n n va vb vc [] [] ((M.take hi).drop lo)
  up : Ints w W0.heap.size u (M.map Ent.x)
  dn : Ints w W0.heap.size d (M.reverse.map Ent.x)
theorem Deuce.ends {W0 w : World} {A B C : Nat} {room : Int} {n : Nat} {u d va vb vc : Value} {M : List (Ent Int)} (h : Deuce W0 w A B C room n n u d va vb vc M) (hM : M.length = n) : Ends W0 w A B C room n 0 n u d va vb vc M := by
  obtain ⟨t, up, dn, _⟩ := h
  rw [List.drop_of_length_le (by omega), Nat.sub_self, List.take_zero] at t
  rw [List.take_of_length_le (by omega)] at up
  rw [List.take_of_length_le (by rw [List.length_reverse]; omega)] at dn
  exact ⟨by rw [List.drop_zero, List.take_of_length_le (by omega)]; exact t, up, dn⟩
theorem Ends.below {W0 w w' : World} {A B C : Nat} {room : Int} {n lo hi : Nat} {u d va vb vc : Value} {M : List (Ent Int)} (h : Ends W0 w A B C room n lo hi u d va vb vc M) (hb : Below w.heap.size w w') : Ends W0 w' A B C room n lo hi u d va vb vc M :=
  ⟨h.t.below hb, h.up.below hb, h.dn.below hb⟩
theorem Ends.forms {W0 w : World} {A B C : Nat} {room : Int} {n lo hi : Nat} {u d va vb vc : Value} {M : List (Ent Int)} (h : Ends W0 w A B C room n lo hi u d va vb vc M) (hM : M.length = n) : ∃ a3 c3 a4 c4, u = .slice a3 n c3 ∧ d = .slice a4 n c4 ∧ (∀ W, Ints W W0.heap.size u (M.map Ent.x) → ∀ i, i < n → ∃ g, a3 = some ⟨g, 0, none⟩ ∧ g < W.heap.size ∧ W.cell? ⟨g, i, none⟩ = some (.int .i64 (at9 M i).x)) ∧ (∀ W, Ints W W0.heap.size d (M.reverse.map Ent.x) → ∀ i, i < n → ∃ g, a4 = some ⟨g, 0, none⟩ ∧ g < W.heap.size ∧ W.cell? ⟨g, n - 1 - i, none⟩ = some (.int .i64 (at9 M i).x)) := by
  obtain ⟨a3, c3, rfl, f3⟩ := ints_form_at h.up (n := n) (by simp; exact hM)
  obtain ⟨a4, c4, rfl, f4⟩ := ints_form_at h.dn (n := n) (by simp; exact hM)
  refine ⟨a3, c3, a4, c4, rfl, rfl, fun W hW i hi => ?_, fun W hW i hi => ?_⟩
  · have := f3 W hW i hi
    rwa [List.getD_eq_getElem?_getD, List.getElem?_map, List.getElem?_eq_getElem (by omega), at9_eq (by omega)] at this
  · have := f4 W hW (n - 1 - i) (by omega)
    rw [List.getD_eq_getElem?_getD, List.getElem?_map, List.getElem?_eq_getElem (by rw [List.length_reverse]; omega), List.getElem_reverse, at9_eq (by omega)] at this
    rw [show M.length - 1 - (n - 1 - i) = i by omega] at this
    exact this
theorem Ends.minC {W0 w : World} {A B C : Nat} {room : Int} {n lo hi : Nat} {u d va vb vc : Value} {M : List (Ent Int)} (h : Ends W0 w A B C room n lo hi u d va vb vc M) (h1 : lo < hi) (h2 : hi ≤ M.length) :
    Calls Try.prog 47 #[.pointer (some ⟨C, 0, none⟩)] w fun e w' => e = .returned (.tuple #[.int .u64 (at9 M lo).rk, .int .i64 (at9 M lo).x, .bool true]) ∧ ∃ vc', Ends W0 w' A B C room n (lo + 1) hi u d va vb vc' M := by
  obtain ⟨t, up, dn⟩ := h
  have hc := t.c
  rw [List.drop_eq_getElem_cons (by rw [List.length_take]; omega), List.getElem_take, at9_eq (by omega)] at hc
  refine (popminXI hc).mono ?_
  rintro e w' ⟨rfl, v', h1, m⟩
  exact ⟨rfl, v', t.putC h1 m, up.kept hc m, dn.kept hc m⟩
theorem Ends.maxC {W0 w : World} {A B C : Nat} {room : Int} {n lo q : Nat} {u d va vb vc : Value} {M : List (Ent Int)} (h : Ends W0 w A B C room n lo (q + 1) u d va vb vc M) (h1 : lo ≤ q) (h2 : q < M.length) :
    Calls Try.prog 48 #[.pointer (some ⟨C, 0, none⟩)] w fun e w' => e = .returned (.tuple #[.int .u64 (at9 M q).rk, .int .i64 (at9 M q).x, .bool true]) ∧ ∃ vc', Ends W0 w' A B C room n lo q u d va vb vc' M := by
  obtain ⟨t, up, dn⟩ := h
  have hc := t.c
  rw [List.take_succ_eq_append_getElem h2, List.drop_append_of_le_length (by rw [List.length_take]; omega), at9_eq h2] at hc
  refine (popmaxXI hc).mono ?_
  rintro e w' ⟨rfl, v', h1, m⟩
  exact ⟨rfl, v', t.putC h1 m, up.kept hc m, dn.kept hc m⟩
set_option maxRecDepth 100000 in
set_option maxHeartbeats 4000000 in
theorem meets10_at (a : Option Addr) (c : Nat) (zs : List Int) (hn : zs.length ≤ 300) (b : Option Addr) (d : Nat) (ts : List Bool) (ht : ts.length ≤ 300) (w : World)
    (hc : ∀ i, i < zs.length → ∃ b off, a = some ⟨b, off, none⟩ ∧ b < w.heap.size ∧ w.cell? ⟨b, off + i, none⟩ = some (.int .u64 (zs.getD i 0)))
    (hd : ∀ i, i < ts.length → ∃ g off, b = some ⟨g, off, none⟩ ∧ g < w.heap.size ∧ w.cell? ⟨g, off + i, none⟩ = some (.bool (ts.getD i false))) :
    Calls Try.prog 9 #[.slice a zs.length c, .slice b ts.length d] w fun e w' => e = .returned (.bool true) ∧ Below w.heap.size w w' := by
  obtain ⟨i0, hi, hz0, hz1, hz2⟩ := info_parts infoInt
  have HC := Lib.hid hc; have HD := Lib.hid hd
  obtain ⟨n, hL⟩ : ∃ n, n = zs.length := ⟨_, rfl⟩
  have HLN := Lib.hid hL
  obtain ⟨tl, hT⟩ : ∃ tl, tl = ts.length := ⟨_, rfl⟩
  have HTN := Lib.hid hT
  rw [← hL] at hn ⊢
  rw [← hT] at ht ⊢
  clear hc hL hd hT
  have h300 : ¬ (300 : Int) < n := by omega
  have h301 : ¬ (300 : Int) < tl := by omega
  obtain ⟨R, hR⟩ : ∃ R : Int, max (n : Int) 1 = R := ⟨_, rfl⟩
  have HR := Lib.hid hR
  have hr1 : 1 ≤ R := by omega
  have hr2 : R ≤ 4096 := by omega
  have hr3 : (n : Int) ≤ R := by omega
  have NW := Lib.hid (newWI R hr1 hr2 w w (Below.refl _ _))
  have LV := Lib.hid (fun w => lives10 w)
  go_enter Try.func9, Try.ntmps9
  go_wp2_with (first
    | (go_at_call 39; refine NW.out.mono ?_; rintro e w1 ⟨rfl, h1, b1⟩; have N2 := Lib.hid (newWI R hr1 hr2 w w1 b1); have H1 := Lib.hid h1; have B1 := Lib.hid b1; clear h1 b1)
    | (go_at_call 39; refine N2.out.mono ?_; rintro e w2 ⟨rfl, h2, b2⟩; have N3 := Lib.hid (newWI R hr1 hr2 w w2 (B1.out.trans (b2.mono B1.out.size))); have H2 := Lib.hid h2; have B2 := Lib.hid b2; clear h2 b2)
    | (go_at_call 39; refine N3.out.mono ?_; rintro e w3 ⟨rfl, h3, b3⟩; have TR := Lib.hid (show Trip w w3 w.heap.size w1.heap.size w2.heap.size R zs 0 (.slice none 0 0) (.slice none 0 0) (.slice none 0 0) [] from ⟨Tri.start H1.out H2.out B2.out h3 b3, rfl, rfl⟩); clear h3 b3)
    | fail)
  clear NW N2 N3 H1 H2 B1 B2
  generalize w1.heap.size = B at *
  generalize w2.heap.size = C at *
  generalize hA : w.heap.size = A at *
  have HA := Lib.hid hA
  clear hA
  go_loopw [73] (fun z wr => ∃ (va vb vc : Value) (M : List (Ent Int)) (k : Nat), z = .int .i64 k ∧ k ≤ n ∧ Trip w wr A B C R zs k va vb vc M) (fun z _ => n - (intOf z).toNat)
  case atStart => exact ⟨_, _, _, [], 0, rfl, Nat.zero_le _, TR.out⟩
  case round =>
    clear TR
    obtain ⟨va, vb, vc, M, k, rfl, hk, hB⟩ := hrel
    by_cases hlt : k < n
    · obtain ⟨b0, off, rfl, hb, hcell⟩ := HC.out k (by rw [← HLN.out]; exact hlt)
      have hcell := (hB.t.a.b.cell (p := ⟨b0, off + k, none⟩) (by rw [HA.out]; exact hb)).trans hcell
      have g1 : (k : Int) < n := by omega
      have g0 : (0 : Int) ≤ k := by omega
      have HM := Lib.hid hB.same
      have HML := Lib.hid hB.len
      have PA := Lib.hid (tri_pushA hB.t (by rw [hB.len]; omega) (by omega) (zs.getD k 0) k)
      clear hB
      generalize hzz : zs.getD k 0 = z at *
      have HZ := Lib.hid hzz
      clear hzz
      go_wp2_with (first
        | (go_at_call 46; refine PC.out.mono ?_; rintro e w7 ⟨rfl, vc7, h7⟩; have H7 := Lib.hid (show Trip w w7 A B C R zs (k + 1) va5 vb6 vc7 (insR M ⟨z, k, k⟩) by rw [← HZ.out] at h7 ⊢; exact Trip.next HM.out HML.out h7); clear h7)
        | (go_at_call 46; refine PB.out.mono ?_; rintro e w6 ⟨rfl, vb6, h6⟩; have PC := Lib.hid (tri_pushC h6 (by rw [HML.out]; omega) (by omega) z k); clear h6)
        | (go_at_call 46; refine PA.out.mono ?_; rintro e w5 ⟨rfl, va5, h5⟩; have PB := Lib.hid (tri_pushB h5 (by rw [HML.out]; omega) (by omega) z k); clear h5)
        | fail)
      all_goals
        go_roundw
        case rel => exact ⟨va5, vb6, vc7, _, k + 1, by first | rfl | (congr 1; omega), by omega, H7.out⟩
        case measure => simp [intOf]; omega
    · obtain rfl : k = n := by omega
      have HM : Hid (M.length = k) := Lib.hid hB.len
      have ht := hB.t
      clear HLN
      clear hB hk hlt
      have D0 : Hid (Deuce w wr A B C R k 0 (.slice none 0 0) (.slice none 0 0) va vb vc M) := Lib.hid ⟨by rw [List.drop_zero, Nat.sub_zero, List.take_of_length_le (by rw [HM.out]; exact Nat.le_refl _)]; exact ht, Ints.nil _ _, Ints.nil _ _, Or.inl rfl⟩
      clear ht
      go_wp2
      go_loopw [14, 15, 100] (fun x y z wr => ∃ (u d0 va vb : Value) (i : Nat), u = x ∧ d0 = y ∧ z = .int .i64 i ∧ i ≤ k ∧ Deuce w wr A B C R k i u d0 va vb vc M) (fun _ _ z _ => k - (intOf z).toNat)
      case atStart => exact ⟨_, _, _, _, 0, rfl, rfl, rfl, Nat.zero_le _, D0.out⟩
      case round =>
        clear D0
        obtain ⟨u, d0, va, vb, i, rfl, rfl, rfl, hi5, hD⟩ := hrel
        by_cases hlt : i < k
        · have g1 : (i : Int) < k := by omega
          have hd := hD.dn
          have hu := hD.up
          have AP := Lib.hid hD.ap
          have LU : Hid (((M.take i).map Ent.x).length = i) := Lib.hid (by have := HM.out; simp; omega)
          have LD : Hid (((M.reverse.take i).map Ent.x).length = i) := Lib.hid (by have := HM.out; simp; omega)
          have PM := Lib.hid (tri_min hD.t (by have := HM.out; omega) hu hd)
          clear hu hd hD
          generalize hz : at9 M i = z at *
          generalize hz2' : at9 M (k - 1 - i) = z2 at *
          have HZ := Lib.hid hz
          have HZ2 := Lib.hid hz2'
          clear hz hz2'
          go_wp2_with (first
            | (go_at_call 47; refine PM.out.mono ?_; rintro e w5 ⟨rfl, va5, h5, u5, d5⟩; have PX := Lib.hid (tri_max (q := k - 1 - i) (by rw [show k - 1 - i + 1 = k - i by omega]; exact h5) (by have := HM.out; omega) u5 d5); rw [HZ2.out] at PX; clear h5 u5 d5)
            | (go_at_call 48; refine PX.out.mono ?_; rintro e w6 ⟨rfl, vb6, h6, u6, d6⟩; have H6 := Lib.hid h6; have U6 := Lib.hid u6; have D6 := Lib.hid d6; clear h6 u6 d6)
            | (at_builtin; refine wpList_append_own_at _ rfl _ _ 32 rfl w.heap.size 3 i0 (.int .i64 0) 1 8 Try.underlying32 hi hz0 hz1 hz2 rfl (by decide) d0 _ _ rfl (World.ownsRow.alloc D7.out _) ⟨w7.heap.size, 0, none⟩ 1 1 [.int .i64 z2.x] rfl rfl (cells_one6 _ _ _) (fun x hx => by simp at hx; subst hx; rfl) (by have := LD.out; unfold maxLen; omega) (by have := LD.out; omega) (by have := SZ7.out; simp; omega) ?_; intro v8 w8 ho8 hg8 hn8 hat8; clear hn8; have FIN := Lib.hid (Deuce.next HM.out hlt H6.out U6.out D6.out AP.out _ _ HG7.out (by have := HO7.out; rw [← HZ.out] at this; exact Ints.of_append this) HAT7.out hg8 (by have := ho8; rw [← HZ2.out] at this; exact Ints.of_append this) hat8); clear ho8 hg8 hat8)
            | (at_builtin; refine wpList_append_own_at _ rfl _ _ 32 rfl w.heap.size 3 i0 (.int .i64 0) 1 8 Try.underlying32 hi hz0 hz1 hz2 rfl (by decide) u _ _ rfl (World.ownsRow.alloc U6.out _) ⟨w6.heap.size, 0, none⟩ 1 1 [.int .i64 z.x] rfl rfl (cells_one6 _ _ _) (fun x hx => by simp at hx; subst hx; rfl) (by have := LU.out; unfold maxLen; omega) (by have := LU.out; omega) (by have := H6.out.a.b.size; simp; omega) ?_; intro v7 w7 ho7 hg7 hn7 hat7; clear hn7; have D7 := Lib.hid (ints_other D6.out AP.out.symm _ hg7); have SZ7 := Lib.hid (Nat.le_trans H6.out.a.b.size (Nat.le_trans (by simp) hg7.size : w6.heap.size ≤ w7.heap.size)); have HO7 := Lib.hid ho7; have HG7 := Lib.hid hg7; have HAT7 := Lib.hid hat7; clear ho7 hg7 hat7)
            | fail)
          all_goals
            go_roundw
            case rel => exact ⟨v7, v8, va5, vb6, i + 1, rfl, rfl, by first | rfl | (congr 1; omega), by omega, FIN.out⟩
            case measure => simp [intOf]; omega
        · obtain rfl : i = k := by omega
          have hE := hD.ends HM.out
          clear hD hi5 hlt
          obtain ⟨a3, c3, a4, c4, rfl, rfl, f3, f4⟩ := hE.forms HM.out
          have F3 := Lib.hid f3; have F4 := Lib.hid f4; have E0 := Lib.hid hE
          clear f3 f4 hE
          go_wp2
          go_loopw [124] (fun x wr => ∃ (k : Nat), x = .int .i64 k ∧ k ≤ i ∧ Ends w wr A B C R i 0 i (.slice a3 i c3) (.slice a4 i c4) va vb vc M) (fun x _ => i - (intOf x).toNat)
          case atStart => exact ⟨0, rfl, Nat.zero_le _, E0.out⟩
          case round =>
            clear E0
            obtain ⟨k, rfl, hk, hE⟩ := hrel
            by_cases hlt : k < i
            · have g1 : (k : Int) < i := by omega
              have g0 : (0 : Int) ≤ k := by omega
              obtain ⟨g3, rfl, hg3, hc3⟩ := F3.out _ hE.up k hlt
              obtain ⟨g4, rfl, hg4, hc4⟩ := F4.out _ hE.dn k hlt
              obtain ⟨q, hq⟩ : ∃ q, q = i - 1 - k := ⟨_, rfl⟩
              rw [← hq] at hc4
              have e1 : IntKind.i64.wrap ((i : Int) - 1) = (i : Int) - 1 := by rw [IntKind.wrap_i64]; omega
              have e2 : IntKind.i64.wrap ((i : Int) - 1 - k) = (q : Int) := by rw [IntKind.wrap_i64]; omega
              have g2 : (q : Int) < i := by omega
              have g3' : (0 : Int) ≤ q := by omega
              have HE := Lib.hid hE
              clear hE hq
              go_wp2
              go_quiet (fail)
              go_wp2
              go_roundw
              case rel => exact ⟨k + 1, by first | rfl | go_num, by omega, HE.out.below (below_drewN _ (Below.refl _ _))⟩
              case measure => simp [intOf]; omega
            · obtain rfl : k = i := by omega
              have HE := Lib.hid hE
              clear hE hk hlt
              go_wp2
              go_loopw [23, 24, 25] (fun x y z wr => ∃ (vc : Value) (lo hi2 tn : Nat), x = .int .i64 lo ∧ y = .int .i64 hi2 ∧ z = .int .i64 tn ∧ lo ≤ hi2 ∧ hi2 ≤ k ∧ lo + k = hi2 + 0 + lo + (k - hi2) ∧ tn + (hi2 - lo) = k ∧ Ends w wr A B C R k lo hi2 (.slice a3 k c3) (.slice a4 k c4) va vb vc M) (fun x y _ _ => (intOf y).toNat - (intOf x).toNat)
              case atStart => exact ⟨_, 0, k, 0, rfl, rfl, rfl, by omega, by omega, by omega, by omega, HE.out⟩
              case round =>
                clear HE
                obtain ⟨vc, lo, hi2, tn, rfl, rfl, rfl, hlo, hhi, -, htn, hE⟩ := hrel
                by_cases hlt : lo < hi2
                · have g1 : (lo : Int) < hi2 := by omega
                  have MC := Lib.hid (hE.minC hlt (by have := HM.out; omega))
                  obtain ⟨q, hq⟩ : ∃ q, hi2 = q + 1 := ⟨hi2 - 1, by omega⟩
                  have XC := Lib.hid (Ends.maxC (q := q) (by rw [← hq]; exact hE) (by omega) (by have := HM.out; omega))
                  have e1 : (hi2 : Int) - 1 = q := by omega
                  have g2 : (lo : Int) < k := by omega
                  have g3 : (0 : Int) ≤ lo := by omega
                  have g4 : (q : Int) < k := by omega
                  have g5 : (0 : Int) ≤ q := by omega
                  have g6 : (0 : Int) ≤ tn := by omega
                  have HQ := Lib.hid hq
                  have HBB := Lib.hid hE.t.a.b
                  clear hq hE
                  have hlo' : lo ≤ q := by have := HQ.out; omega
                  by_cases hti : tn < tl
                  · have g7 : (tn : Int) < tl := by omega
                    obtain ⟨gt, off, rfl, hgt, hct⟩ := HD.out tn (by rw [← HTN.out]; exact hti)
                    have hct := (HBB.out.cell (p := ⟨gt, off + tn, none⟩) (by rw [HA.out]; exact hgt)).trans hct
                    cases htt : ts.getD tn false with
                    | true =>
                      rw [htt] at hct
                      clear htt MC
                      go_wp2_with (first
                        | (go_at_call 48; refine XC.out.mono ?_; rintro e w5 ⟨rfl, vc6, h6⟩; obtain ⟨gl, rfl, hgl, hcl⟩ := F3.out _ h6.up q (by omega); have H6 := Lib.hid h6; clear h6)
                        | fail)
                      all_goals
                        go_roundw
                        case rel => exact ⟨vc6, lo, q, tn + 1, by first | rfl | go_num, by first | rfl | go_num, by first | rfl | go_num, by omega, by omega, by omega, by omega, H6.out⟩
                        case measure => simp [intOf]; omega
                    | false =>
                      rw [htt] at hct
                      clear htt XC
                      go_wp2_with (first
                        | (go_at_call 47; refine MC.out.mono ?_; rintro e w5 ⟨rfl, vc6, h6⟩; obtain ⟨gl, rfl, hgl, hcl⟩ := F3.out _ h6.up lo (by omega); have H6 := Lib.hid h6; clear h6)
                        | fail)
                      all_goals
                        go_roundw
                        case rel => exact ⟨vc6, lo + 1, hi2, tn + 1, by first | rfl | go_num, by first | rfl | go_num, by first | rfl | go_num, by omega, by omega, by omega, by omega, H6.out⟩
                        case measure => simp [intOf]; omega
                  · have g7 : ¬ (tn : Int) < tl := by omega
                    clear XC
                    go_wp2_with (first
                      | (go_at_call 47; refine MC.out.mono ?_; rintro e w5 ⟨rfl, vc6, h6⟩; obtain ⟨gl, rfl, hgl, hcl⟩ := F3.out _ h6.up lo (by omega); have H6 := Lib.hid h6; clear h6)
                      | fail)
                    all_goals
                      go_roundw
                      case rel => exact ⟨vc6, lo + 1, hi2, tn + 1, by first | rfl | go_num, by first | rfl | go_num, by first | rfl | go_num, by omega, by omega, by omega, by omega, H6.out⟩
                      case measure => simp [intOf]; omega
                · obtain rfl : lo = hi2 := by omega
                  have hc := hE.t.c
                  rw [List.drop_of_length_le (by rw [List.length_take]; omega)] at hc
                  have HE := Lib.hid hE
                  have LC := Lib.hid (lenWI hc.g)
                  have LA := Lib.hid (lenWI hE.t.a.g)
                  have LB := Lib.hid (lenWI hE.t.b.g)
                  clear hE hc
                  go_wp2_with (first
                    | (go_at_call 40; refine (LV.out _).mono ?_; rintro e w6 ⟨rfl, hb6⟩; have B6 := Lib.hid hb6; clear hb6)
                    | (go_at_call 45; refine LC2.out.mono ?_; rintro e w5 ⟨rfl, hw⟩; have hw := hw.symm; subst hw)
                    | (go_at_call 45; refine LB2.out.mono ?_; rintro e w5 ⟨rfl, hw⟩; have hw := hw.symm; subst hw; have LC2 := Lib.hid LC.out)
                    | (go_at_call 45; refine LA.out.mono ?_; rintro e w5 ⟨rfl, hw⟩; have hw := hw.symm; subst hw; have LB2 := Lib.hid LB.out)
                    | fail)
                  all_goals
                    go_ret
                    exact ⟨rfl, HE.out.t.a.b.trans (B6.out.mono HE.out.t.a.b.size)⟩
end Go.Proofs.Ytiijlfpkninmgaa
