/-
  Layer 7: a pool and the document's answer side by side in memory; each thing that is done, with both. No condition.
-/
import Derived.Test.YtmkgadndfiiacaaP7a
import Derived.Test.YtmkgadndfiiacaaR7c
namespace Go.Proofs.Ytmkgadndfiiacaa
set_option linter.unusedVariables false
set_option linter.unusedSimpArgs false
open Go.ChangeShapes Go.WideShapes Go.ChangeAt Go.RowKit

structure M7 (base : Nat) (w : World) (B M : Nat) (most queues : Int) (ve vf vq : Value) (es : List EntI) (fr : List Int) (qs : List (Int × Int × Int)) (Ls : List (List Int)) (vi vn vb : Value) (its ins : List (Int × Int)) (back : List Int) (nev : Int) : Prop where
  g : PoolG w base B most ve vf vq es fr qs Ls
  r : R7 base w M most queues vi vn vb its ins back nev
  ap : ∀ j, inR M vi vn vb j → ¬ inP B ve vf vq j
section
variable {base : Nat} {w w' : World} {B M : Nat} {most queues : Int} {ve vf vq ve' vf' vq' : Value} {es es' : List EntI} {fr fr' : List Int} {qs qs' : List (Int × Int × Int)} {Ls Ls' : List (List Int)} {vi vn vb vi' vn' vb' : Value} {its ins its' ins' : List (Int × Int)} {back back' : List Int} {nev nev' : Int}
theorem M7.on (h : M7 base w B M most queues ve vf vq es fr qs Ls vi vn vb its ins back nev) (hb : Below w.heap.size w w') : M7 base w' B M most queues ve vf vq es fr qs Ls vi vn vb its ins back nev := ⟨h.g.below hb, h.r.below hb, h.ap⟩
theorem M7.p (h : M7 base w B M most queues ve vf vq es fr qs Ls vi vn vb its ins back nev) (m : MvS w w' (inP B ve vf vq) (inP B ve' vf' vq')) (g' : PoolG w' base B most ve' vf' vq' es' fr' qs' Ls') : M7 base w' B M most queues ve' vf' vq' es' fr' qs' Ls' vi vn vb its ins back nev := by
  refine ⟨g', h.r.keep (fun j hj => m.block j (h.r.inlt hj).2 (h.ap j hj)), fun j hj hp => ?_⟩
  rcases m.own j hp with h1 | h1
  · have := (h.r.inlt hj).2; omega
  · exact h.ap j hj h1
theorem M7.q (h : M7 base w B M most queues ve vf vq es fr qs Ls vi vn vb its ins back nev) (m : MvS w w' (inR M vi vn vb) (inR M vi' vn' vb')) (r' : R7 base w' M most queues vi' vn' vb' its' ins' back' nev') : M7 base w' B M most queues ve vf vq es fr qs Ls vi' vn' vb' its' ins' back' nev' := by
  refine ⟨h.g.keep (fun j hj => m.block j (h.g.mem.inlt hj).2 (fun hr => h.ap j hr hj)), r', fun j hj hp => ?_⟩
  rcases m.own j hj with h1 | h1
  · have := (h.g.mem.inlt hp).2; omega
  · exact h.ap j h1 hp
/-- What a step keeps: the acts' cells, and what was there before both. -/
structure Fr7 (base : Nat) (w w' : World) : Prop where
  b : base ≤ w.heap.size → Below base w w'
  a : ∀ (j : Nat) (cs : Array Value), w.heap[j]? = some (.cells cs 106 (0, 0)) → w'.heap[j]? = some (.cells cs 106 (0, 0))
  s : w.heap.size ≤ w'.heap.size
theorem Fr7.trans {a b c : World} (h : Fr7 base a b) (k : Fr7 base b c) : Fr7 base a c := ⟨fun hb => (h.b hb).trans (k.b (Nat.le_trans hb h.s)), fun j cs hj => k.a j cs (h.a j cs hj), Nat.le_trans h.s k.s⟩
theorem Fr7.below {a b : World} (h : Below a.heap.size a b) : Fr7 base a b := ⟨fun hb => h.mono hb, fun j cs hj => blk_call h hj, h.size⟩
theorem M7.frP (h : M7 base w B M most queues ve vf vq es fr qs Ls vi vn vb its ins back nev) (m : MvS w w' (inP B ve vf vq) (inP B ve' vf' vq')) : Fr7 base w w' := by
  refine ⟨fun hb => m.below (Below.refl _ w) (fun j hj => (h.g.mem.inlt hj).1) hb, fun j cs hj => (m.block j (lt_blk hj) (fun hp => ?_)).trans hj, m.size⟩
  rcases hp with rfl | hp | hp | hp
  · rw [h.g.mem.blk] at hj; injection hj with hj; injection hj with _ ht _; revert ht; decide
  · exact own_ne_blk h.g.mem.oe hj (by decide) hp
  · exact own_ne_blk h.g.mem.of hj (by decide) hp
  · exact own_ne_blk h.g.mem.oq hj (by decide) hp
theorem M7.frR (h : M7 base w B M most queues ve vf vq es fr qs Ls vi vn vb its ins back nev) (m : MvS w w' (inR M vi vn vb) (inR M vi' vn' vb')) : Fr7 base w w' := by
  refine ⟨fun hb => m.below (Below.refl _ w) (fun j hj => (h.r.inlt hj).1) hb, fun j cs hj => (m.block j (lt_blk hj) (fun hp => ?_)).trans hj, m.size⟩
  rcases hp with rfl | hp | hp | hp
  · rw [h.r.blk] at hj; injection hj with hj; injection hj with _ ht _; revert ht; decide
  · exact own_ne_blk h.r.it hj (by decide) hp
  · exact own_ne_blk h.r.pl hj (by decide) hp
  · exact own_ne_blk h.r.bk hj (by decide) hp
end
/-- Both, whatever they hold. -/
def Pair7 (base : Nat) (w : World) (B M : Nat) (most queues : Int) : Prop :=
  ∃ ve vf vq es fr qs Ls vi vn vb its ins back nev, M7 base w B M most queues ve vf vq es fr qs Ls vi vn vb its ins back nev ∧ Rl7 es fr Ls its ins back nev ∧ (Ls.length : Int) = queues ∧ base ≤ w.heap.size
theorem Pair7.on {base : Nat} {w w' : World} {B M : Nat} {most queues : Int} (h : Pair7 base w B M most queues) (hb : Below w.heap.size w w') : Pair7 base w' B M most queues := by
  obtain ⟨ve, vf, vq, es, fr, qs, Ls, vi, vn, vb, its, ins, back, nev, h1, h2, h3, h4⟩ := h
  exact ⟨_, _, _, _, _, _, _, _, _, _, _, _, _, _, h1.on hb, h2, h3, Nat.le_trans h4 hb.size⟩
theorem ins_len {es : List EntI} {fr : List Int} {qs : List (Int × Int × Int)} {Ls : List (List Int)} {its ins : List (Int × Int)} {back : List Int} {nev : Int} (h : Rl7 es fr Ls its ins back nev) (hp : PInv es fr qs Ls) : ins.length ≤ es.length := by
  have := nodup_bound es.length (ins.map (·.2)) h.inn (fun x hx => by
    obtain ⟨i, rfl, hi, _⟩ := hp.qt x ((h.if_ x).1 hx)
    omega)
  rwa [List.length_map] at this
theorem fst_at (its : List (Int × Int)) : ∀ j, j < (its.map (·.1)).length → (its.map (·.1))[j]? = some (fst7 its j) := fun j hj => map_fst7 its j (by rwa [List.length_map] at hj)
theorem snd_at (ins : List (Int × Int)) : ∀ j, j < (ins.map (·.2)).length → (ins.map (·.2))[j]? = some (snd7 ins j) := fun j hj => map_snd7 ins j (by rwa [List.length_map] at hj)
section
variable {base : Nat} {w : World} {B M : Nat} {most queues : Int}
theorem take_pair (h : Pair7 base w B M most queues) (x : Int) :
    Calls Try.prog 109 #[.pointer (some ⟨B, 0, none⟩), .int .i64 x] w fun e w' => ∃ (a : Int) (d : Bool), e = .returned (.tuple #[.int .i64 a, .bool d]) ∧ Fr7 base w w' ∧
      Hid (∀ v, Below w'.heap.size w' v → Calls Try.prog 110 #[.pointer (some ⟨M, 0, none⟩), .int .i64 x] v fun e w'' => e = .returned (.tuple #[.int .i64 a, .bool d]) ∧ Pair7 base w'' B M most queues ∧ Fr7 base v w'') := by
  obtain ⟨ve, vf, vq, es, fr, qs, Ls, vi, vn, vb, its, ins, back, nev, h1, h2, h3, h4⟩ := h
  have hle := h1.g.mem.le; have hm1 := h1.g.mem.m1; have hil := h2.il
  refine (takeG h1.g x h4).mono ?_
  rintro e w' ⟨a, d, rfl, ⟨rfl, rfl, hf, n, rfl⟩ | ⟨rfl, hf, k, rfl, ve', vf', es', fr', t, g', m⟩⟩
  · refine ⟨0, false, rfl, Fr7.below (below_drewN _ (Below.refl _ w)), Lib.hid (fun v hb => ?_)⟩
    have hb' : Below w.heap.size w v := (below_drewN n (Below.refl _ w)).trans hb
    refine (take7_full (h1.on hb').r (by omega) (by omega) x).mono ?_
    rintro e w'' ⟨rfl, q, rfl⟩
    have hb2 := below_drewN q (Below.refl v.heap.size v)
    exact ⟨rfl, ⟨_, _, _, _, _, _, _, _, _, _, _, _, _, _, (h1.on hb').on hb2, h2, h3, Nat.le_trans h4 (hb'.trans (hb2.mono hb'.size)).size⟩, Fr7.below hb2⟩
  · have hmv := h1.p m g'
    obtain ⟨l', hcase⟩ := h2.tk h1.g.inv t
    refine ⟨k, true, rfl, h1.frP m, Lib.hid (fun v hb => ?_)⟩
    have hv := hmv.on hb
    have hsz : base ≤ v.heap.size := Nat.le_trans h4 (Nat.le_trans m.size hb.size)
    have hbk := h2.bk
    rcases hcase with ⟨e1, e2, e3, e4⟩ | ⟨e1, e2⟩
    · subst hbk
      subst e1
      refine (take7_new hv.r (by simp at hf hil; omega) (by simp at hil; omega) (by omega) (by have := h2.nv; omega) hsz x).mono ?_
      rintro e w'' ⟨rfl, vi', vb', r', m'⟩
      rw [← e2] at r'
      subst e3
      rw [e4, ← e2] at l'
      exact ⟨by rw [e2], ⟨_, _, _, _, _, _, _, _, _, _, _, _, _, _, hv.q m' r', l', h3, Nat.le_trans hsz m'.size⟩, hv.frR m'⟩
    · subst hbk
      subst e1
      refine (take7_back hv.r (by simp at hf hil ⊢; omega) (by simp at hil; omega) (by simp at hil; omega) hsz x).mono ?_
      rintro e w'' ⟨rfl, vi', vb', r', m'⟩
      rw [← e2] at r'
      exact ⟨rfl, ⟨_, _, _, _, _, _, _, _, _, _, _, _, _, _, hv.q m' r', l', h3, Nat.le_trans hsz m'.size⟩, hv.frR m'⟩
theorem give_pair (h : Pair7 base w B M most queues) (x : Int) :
    Calls Try.prog 111 #[.pointer (some ⟨B, 0, none⟩), .int .i64 x] w fun e w' => ∃ (a c : Int), e = .returned (.tuple #[.int .i64 a, .int .i64 c]) ∧ Fr7 base w w' ∧
      Hid (∀ v, Below w'.heap.size w' v → Calls Try.prog 112 #[.pointer (some ⟨M, 0, none⟩), .int .i64 x] v fun e w'' => e = .returned (.tuple #[.int .i64 a, .int .i64 c]) ∧ Pair7 base w'' B M most queues ∧ Fr7 base v w'') := by
  obtain ⟨ve, vf, vq, es, fr, qs, Ls, vi, vn, vb, its, ins, back, nev, h1, h2, h3, h4⟩ := h
  have hle := h1.g.mem.le; have hm1 := h1.g.mem.m1; have hil := h2.il
  have hins := ins_len h2 h1.g.inv
  have hf1 := first7 (its.map (·.1)) (fst7 its) (fst_at its) x
  have hf2 := first7 (ins.map (·.2)) (snd7 ins) (snd_at ins) x
  rw [List.length_map, h2.im] at hf1
  rw [List.length_map, h2.if_] at hf2
  refine (giveG h1.g x h4).mono ?_
  rintro e w' ⟨a, c, rfl, ⟨rfl, rfl, ht, rfl⟩ | ⟨rfl, rfl, ht, hq, rfl⟩ | ⟨rfl, hq, k, rfl, hk, htk, rfl, vf', g', m⟩⟩
  · rcases hf1 with ⟨h5, -⟩ | ⟨-, h5⟩
    · rw [ht] at h5; cases h5
    · refine ⟨0, 7, rfl, Fr7.below (Below.refl _ w'), Lib.hid (fun v hb => ?_)⟩
      refine (give7_none (h1.on hb).r (by omega) (by omega) x h5).mono ?_
      rintro e w'' ⟨rfl, rfl⟩
      exact ⟨rfl, ⟨_, _, _, _, _, _, _, _, _, _, _, _, _, _, h1.on hb, h2, h3, Nat.le_trans h4 hb.size⟩, Fr7.below (Below.refl _ w'')⟩
  · rcases hf1 with ⟨-, k, k1, k2, k3⟩ | ⟨h5, -⟩
    · rcases hf2 with ⟨-, m, m1, m2, m3⟩ | ⟨h6, -⟩
      · refine ⟨0, 9, rfl, Fr7.below (Below.refl _ w'), Lib.hid (fun v hb => ?_)⟩
        refine (give7_state (h1.on hb).r (by omega) (by omega) x k1 k2 k3 m1 m2 m3).mono ?_
        rintro e w'' ⟨rfl, rfl⟩
        exact ⟨rfl, ⟨_, _, _, _, _, _, _, _, _, _, _, _, _, _, h1.on hb, h2, h3, Nat.le_trans h4 hb.size⟩, Fr7.below (Below.refl _ w'')⟩
      · exact absurd hq h6
    · exact absurd ht h5
  · have htt : tkOfI es (k : Int) = true := by rw [tkOf_inI es k hk]; exact htk
    rcases hf1 with ⟨-, j, j1, j2, j3⟩ | ⟨h5, -⟩
    · rcases hf2 with ⟨h6, -⟩ | ⟨-, m3⟩
      · exact absurd h6 hq
      · have hmv := h1.p m g'
        have hxv : snd7 its j = (es[k]).x := by
          have h7 : ∃ p ∈ its, p = (fst7 its j, snd7 its j) := by
            refine ⟨its[j], List.getElem_mem j1, ?_⟩
            unfold fst7 snd7
            rw [List.getD_eq_getElem?_getD, List.getElem?_eq_getElem j1]
            rfl
          obtain ⟨p, hp, rfl⟩ := h7
          have := h2.ix _ hp
          dsimp only at this
          rw [this, j2, xOf_in es k hk]
        refine ⟨(es[k]).x, 0, rfl, h1.frP m, Lib.hid (fun v hb => ?_)⟩
        have hv := hmv.on hb
        have hsz : base ≤ v.heap.size := Nat.le_trans h4 (Nat.le_trans m.size hb.size)
        have hbk := h2.bk
        subst hbk
        refine (give7_ok hv.r (by omega) (by omega) (k : Int) j1 j2 j3 m3 hsz (by omega)).mono ?_
        rintro e w'' ⟨rfl, vi', vb', r', m'⟩
        exact ⟨by rw [hxv], ⟨_, _, _, _, _, _, _, _, _, _, _, _, _, _, hv.q m' r', h2.give hk htt j1 j2, h3, Nat.le_trans hsz m'.size⟩, hv.frR m'⟩
    · exact absurd htt h5
theorem app_pair (h : Pair7 base w B M most queues) (q x : Int) :
    Calls Try.prog 113 #[.pointer (some ⟨B, 0, none⟩), .int .i64 q, .int .i64 x] w fun e w' => ∃ (c : Int), e = .returned (.int .i64 c) ∧ Fr7 base w w' ∧
      Hid (∀ v, Below w'.heap.size w' v → Calls Try.prog 114 #[.pointer (some ⟨M, 0, none⟩), .int .i64 q, .int .i64 x] v fun e w'' => e = .returned (.int .i64 c) ∧ Pair7 base w'' B M most queues ∧ Fr7 base v w'') := by
  obtain ⟨ve, vf, vq, es, fr, qs, Ls, vi, vn, vb, its, ins, back, nev, h1, h2, h3, h4⟩ := h
  have hle := h1.g.mem.le; have hm1 := h1.g.mem.m1; have hil := h2.il
  have hins := ins_len h2 h1.g.inv
  have hll := h1.g.inv.ll
  have hf1 := first7 (its.map (·.1)) (fst7 its) (fst_at its) x
  have hf2 := first7 (ins.map (·.2)) (snd7 ins) (snd_at ins) x
  rw [List.length_map, h2.im] at hf1
  rw [List.length_map, h2.if_] at hf2
  refine (appendG h1.g q x).mono ?_
  rintro e w' ⟨c, rfl, ⟨rfl, hq, rfl⟩ | ⟨j, rfl, hj, hj', hcs⟩⟩
  · refine ⟨6, rfl, Fr7.below (Below.refl _ w'), Lib.hid (fun v hb => ?_)⟩
    refine (append7_arg (h1.on hb).r q x (by omega)).mono ?_
    rintro e w'' ⟨rfl, rfl⟩
    exact ⟨rfl, ⟨_, _, _, _, _, _, _, _, _, _, _, _, _, _, h1.on hb, h2, h3, Nat.le_trans h4 hb.size⟩, Fr7.below (Below.refl _ w'')⟩
  · rcases hcs with ⟨rfl, ht, rfl⟩ | ⟨rfl, ht, hy, rfl⟩ | ⟨rfl, ht, hy, es', qs', g', hl1, hl2, hh, m⟩
    · rcases hf1 with ⟨h5, -⟩ | ⟨-, h5⟩
      · rw [ht] at h5; cases h5
      · refine ⟨7, rfl, Fr7.below (Below.refl _ w'), Lib.hid (fun v hb => ?_)⟩
        refine (append7_none (h1.on hb).r (by omega) (by omega) (j : Int) x (by omega) (by omega) h5).mono ?_
        rintro e w'' ⟨rfl, rfl⟩
        exact ⟨rfl, ⟨_, _, _, _, _, _, _, _, _, _, _, _, _, _, h1.on hb, h2, h3, Nat.le_trans h4 hb.size⟩, Fr7.below (Below.refl _ w'')⟩
    · rcases hf1 with ⟨-, k, k1, k2, k3⟩ | ⟨h5, -⟩
      · rcases hf2 with ⟨-, m, m1, m2, m3⟩ | ⟨h6, -⟩
        · refine ⟨8, rfl, Fr7.below (Below.refl _ w'), Lib.hid (fun v hb => ?_)⟩
          refine (append7_there (h1.on hb).r (by omega) (by omega) (j : Int) x (by omega) (by omega) k1 k2 k3 m1 m2 m3).mono ?_
          rintro e w'' ⟨rfl, rfl⟩
          exact ⟨rfl, ⟨_, _, _, _, _, _, _, _, _, _, _, _, _, _, h1.on hb, h2, h3, Nat.le_trans h4 hb.size⟩, Fr7.below (Below.refl _ w'')⟩
        · exact absurd hy h6
      · exact absurd ht h5
    · rcases hf1 with ⟨-, k, k1, k2, k3⟩ | ⟨h5, -⟩
      · rcases hf2 with ⟨h6, -⟩ | ⟨-, m3⟩
        · exact absurd h6 hy
        · have hmv := h1.p m g'
          refine ⟨0, rfl, h1.frP m, Lib.hid (fun v hb => ?_)⟩
          have hv := hmv.on hb
          have hsz : base ≤ v.heap.size := Nat.le_trans h4 (Nat.le_trans m.size hb.size)
          refine (append7_ok hv.r (by omega) (by omega) (j : Int) x (by omega) (by omega) k1 k2 k3 m3 hsz).mono ?_
          rintro e w'' ⟨rfl, vn', r', m'⟩
          exact ⟨rfl, ⟨_, _, _, _, _, _, _, _, _, _, _, _, _, _, hv.q m' r', h2.app hj' hy hl2 hh, by rw [List.length_set]; exact h3, Nat.le_trans hsz m'.size⟩, hv.frR m'⟩
      · exact absurd ht h5
theorem pop_pair (h : Pair7 base w B M most queues) (q : Int) :
    Calls Try.prog 115 #[.pointer (some ⟨B, 0, none⟩), .int .i64 q] w fun e w' => ∃ (a : Int) (d : Bool), e = .returned (.tuple #[.int .i64 a, .bool d]) ∧ Fr7 base w w' ∧
      Hid (∀ v, Below w'.heap.size w' v → Calls Try.prog 116 #[.pointer (some ⟨M, 0, none⟩), .int .i64 q] v fun e w'' => e = .returned (.tuple #[.int .i64 a, .bool d]) ∧ Pair7 base w'' B M most queues ∧ Fr7 base v w'') := by
  obtain ⟨ve, vf, vq, es, fr, qs, Ls, vi, vn, vb, its, ins, back, nev, h1, h2, h3, h4⟩ := h
  have hle := h1.g.mem.le; have hm1 := h1.g.mem.m1; have hil := h2.il
  have hins := ins_len h2 h1.g.inv
  have hll := h1.g.inv.ll
  refine (popG h1.g q).mono ?_
  rintro e w' ⟨a, d, rfl, ⟨rfl, rfl, hn, n, rfl⟩ | ⟨rfl, j, rfl, hj, hj', k, rest, rfl, hL, hk, g', m⟩⟩
  · have hqn : qf7 ins q = [] := by
      rw [h2.iq]
      unfold inQ
      rcases hn with hn | ⟨j, rfl, hj, hL⟩
      · by_cases h0 : 0 ≤ q
        · rw [if_pos h0, List.getD_eq_getElem?_getD, List.getElem?_eq_none (by omega)]; rfl
        · rw [if_neg h0]
      · rw [if_pos (by omega), Int.toNat_natCast, List.getD_eq_getElem?_getD, List.getElem?_eq_getElem hj, hL]; rfl
    refine ⟨0, false, rfl, Fr7.below (below_drewN _ (Below.refl _ w)), Lib.hid (fun v hb => ?_)⟩
    have hb' : Below w.heap.size w v := (below_drewN n (Below.refl _ w)).trans hb
    refine (pop7_none (h1.on hb').r (by omega) q hqn).mono ?_
    rintro e w'' ⟨rfl, hb2⟩
    exact ⟨rfl, ⟨_, _, _, _, _, _, _, _, _, _, _, _, _, _, (h1.on hb').on hb2, h2, h3, Nat.le_trans h4 (Nat.le_trans hb'.size hb2.size)⟩, Fr7.below hb2⟩
  · have hqf : qf7 ins (j : Int) = (k : Int) :: rest := by
      rw [h2.iq]
      unfold inQ
      rw [if_pos (by omega), Int.toNat_natCast, List.getD_eq_getElem?_getD, List.getElem?_eq_getElem hj']
      exact hL
    have hmem : (k : Int) ∈ Ls.flatten := List.mem_flatten.2 ⟨Ls[j], List.getElem_mem hj', by rw [hL]; exact List.mem_cons_self⟩
    have hf2 := first7 (ins.map (·.2)) (snd7 ins) (snd_at ins) (k : Int)
    rw [List.length_map, h2.if_] at hf2
    rcases hf2 with ⟨-, i, i1, i2, i3⟩ | ⟨h6, -⟩
    · have hhead := h2.head (q := (j : Int)) (y := (k : Int)) (by rw [hqf]; exact List.mem_cons_self) i1 i2
      have hmv := h1.p m g'
      refine ⟨(k : Int), true, rfl, h1.frP m, Lib.hid (fun v hb => ?_)⟩
      have hv := hmv.on hb
      have hsz : base ≤ v.heap.size := Nat.le_trans h4 (Nat.le_trans m.size hb.size)
      refine (pop7_ok hv.r (by omega) (j : Int) hqf i1 i2 i3 hsz).mono ?_
      rintro e w'' ⟨rfl, vn', r', m'⟩
      refine ⟨rfl, ⟨_, _, _, _, _, _, _, _, _, _, _, _, _, _, hv.q m' r', h2.pop h1.g.inv hj' hL hhead (by rw [List.length_set]) (fun z hz hz' => ?_), by rw [List.length_set]; exact h3, Nat.le_trans hsz m'.size⟩, hv.frR m'⟩
      by_cases e : k = z
      · subst e; rw [List.getElem_set_self]; exact ⟨rfl, rfl⟩
      · rw [List.getElem_set_ne e]; exact ⟨rfl, rfl⟩
    · exact absurd hmem h6
end
end Go.Proofs.Ytmkgadndfiiacaa
