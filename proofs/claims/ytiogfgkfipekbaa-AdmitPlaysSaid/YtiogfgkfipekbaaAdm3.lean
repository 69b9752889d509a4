/-
  Package admit: whether a packet may come, what waits of a flow; a packet comes, is laid, goes. Nothing turns below 'base' but the heap's end grows. No condition but that New made the gate.
-/
import Derived.Test.YtiogfgkfipekbaaAdm2
namespace Go.Proofs.Ytiogfgkfipekbaa
set_option linter.unusedVariables false
set_option linter.unusedSimpArgs false
open Go.ChangeShapes Go.WideShapes Go.ChangeAt Go.RowKit
attribute [local go_sem] alloc_drewN setCell_drewN

theorem atadd {w : World} {b o : Nat} {p q n : Int} (c0 : w.cell? ⟨b, o, none⟩ = some (.int .i64 p)) (c1 : w.cell? ⟨b, o + 1, none⟩ = some (.int .u64 q)) (f0 : w.frozen? ⟨b, o, none⟩ = false) (f1 : w.frozen? ⟨b, o + 1, none⟩ = false) (p0 : -9223372036854775808 ≤ p) (p1 : p ≤ 9223372036854775806) (q0 : 0 ≤ q) (n0 : 0 ≤ n) (qn : q + n ≤ 18446744073709551615) :
    Calls Try.prog 57 #[.pointer (some ⟨b, o, none⟩), .int .u64 n] w fun e w' => e = .returned (.tuple #[]) ∧ w' = (w.setCell ⟨b, o, none⟩ (.int .i64 (p + 1))).setCell ⟨b, o + 1, none⟩ (.int .u64 (q + n)) := by
  go_enter Try.func57, Try.ntmps57
  go_wp2
  first | go_end0 | refine bodyPost_ret (results_none rfl _ _ _) rfl ?_
  exact ⟨rfl, rfl⟩
section
variable {w : World} {base G T : Nat} {room : Int} {v : Value} {es : List FeP} {bl : Int → Nat} {ds : Int → Dt} {c : Gc} {tp tb : Int}
/-- Why a packet may not come; 0: it may. -/
def mayC (c : Gc) (f : Bool) (tp tb : Int) (d : Dt) (n : Int) : Int := if roomC c f tp tb d n = 0 then fairC c tb d else roomC c f tp tb d n
theorem roomC_found {c : Gc} {f : Bool} {tp tb : Int} {d : Dt} {n : Int} (h : roomC c f tp tb d n = 0) : f = true ∧ 1 ≤ n ∧ n ≤ c.mtu ∧ tp < c.pk ∧ n ≤ sub0 c.by_ tb ∧ n ≤ sub0 d.most d.by_ := by
  unfold roomC at h
  by_cases h1 : n < 1
  · rw [if_pos h1] at h; cases h
  · rw [if_neg h1] at h
    by_cases h2 : c.mtu < n
    · rw [if_pos h2] at h; cases h
    · rw [if_neg h2] at h
      cases f with
      | false => cases h
      | true =>
        rw [if_neg (show ¬ (true = false) by decide)] at h
        by_cases h3 : c.pk ≤ tp
        · rw [if_pos h3] at h; cases h
        · rw [if_neg h3] at h
          by_cases h4 : sub0 c.by_ tb < n
          · rw [if_pos h4] at h; cases h
          · rw [if_neg h4] at h
            by_cases h5 : sub0 d.most d.by_ < n
            · rw [if_pos h5] at h; cases h
            · exact ⟨rfl, by omega, by omega, by omega, by omega, by omega⟩
set_option maxRecDepth 100000 in
set_option maxHeartbeats 1000000 in
theorem amay (h : AdAt w base G T room v es bl ds c tp tb) (id n : Int) (n0 : 0 ≤ n) (n1 : n ≤ 18446744073709551615) : Calls Try.prog 20 #[.pointer (some ⟨G, 0, none⟩), .int .u32 id, .int .u64 n] w fun e w' => e = .returned (.int .i64 (mayC c (isF (es.map FeP.id) id) tp tb (ds id) n)) ∧ Below w.heap.size w w' := by
  have RM := aroom h id n n0 n1
  unfold mayC
  by_cases hr : roomC c (isF (es.map FeP.id) id) tp tb (ds id) n = 0
  · rw [if_pos hr]
    obtain ⟨-, hd, -⟩ := h.find (roomC_found hr).1
    rw [hr, if_pos rfl] at RM
    have RH := Lib.hid RM
    have FR := Lib.hid (fun (u : World) (hu : Below w.heap.size w u) => afair (h.below hu).gk h.cok h.b0 h.b1 (b := bl id) (d := ds id) ((hu.block _ hd.lt).trans hd))
    clear h hr RM hd
    go_enter Try.func20, Try.ntmps20
    go_wp2_with fail
    refine RH.out.mono ?_
    rintro e w1 ⟨rfl, b1⟩
    have HB1 := Lib.hid b1
    clear b1
    go_wp2_with fail
    refine (FR.out _ HB1.out).mono ?_
    rintro e w2 ⟨rfl, q, rfl⟩
    go_wp2
    go_ret
    exact ⟨rfl, below_drewN _ HB1.out⟩
  · rw [if_neg hr]
    rw [if_neg hr] at RM
    generalize roomC c (isF (es.map FeP.id) id) tp tb (ds id) n = r at *
    have RH := Lib.hid RM
    have gr : (r == 0) = false := by simp [hr]
    have gr2 : (r != 0) = true := by simp [hr]
    clear h hr RM
    go_enter Try.func20, Try.ntmps20
    go_wp2_with fail
    refine RH.out.mono ?_
    rintro e w1 ⟨rfl, b1⟩
    have HB1 := Lib.hid b1
    clear b1
    go_wp2
    go_ret
    exact ⟨rfl, HB1.out⟩
theorem AdAt.ne (h : AdAt w base G T room v es bl ds c tp tb) {e : FeP} (he : e ∈ es) : bl e.id ≠ G ∧ bl e.id ≠ T ∧ v.ownBlock ≠ some (bl e.id) ∧ G ≠ T ∧ v.ownBlock ≠ some G := by
  have hd := (h.dat e he).2.2.1
  have hg := h.gk
  have ht := h.tab.blk
  unfold DtAt at hd
  unfold GkAt at hg
  refine ⟨fun x => ?_, fun x => ?_, ?_, fun x => ?_, ?_⟩
  · rw [x, hg] at hd; simp at hd
  · rw [x, ht] at hd; simp at hd
  · exact own_ne_blk (show w.ownsRow base 171 2 v es.length (fesP es) from h.tab.fe) hd (by decide)
  · rw [x, ht] at hg; simp at hg
  · exact own_ne_blk (show w.ownsRow base 171 2 v es.length (fesP es) from h.tab.fe) hg (by decide)
/-- What a flow has, and the totals, are others. -/
theorem AdAt.other (h : AdAt w base G T room v es bl ds c tp tb) {id : Int} (hf : isF (es.map FeP.id) id = true) (p' q' tp' tb' : Int) {w' : World} (hw : w'.heap[bl id]? = some (.cells #[.int .i64 p', .int .u64 q', .int .u64 (ds id).most] 118 (0, 0)))
    (hg : w'.heap[G]? = some (.cells #[.int .i64 c.pk, .int .u64 c.by_, .int .i64 c.sh, .int .u64 c.mtu, .int .i64 tp', .int .u64 tb', .pointer (some ⟨T, 0, none⟩)] 107 (0, 0)))
    (hk : ∀ j, j ≠ bl id → j ≠ G → w'.heap[j]? = w.heap[j]?) (hp' : 0 ≤ p' ∧ p' ≤ 9223372036854775807) (hq' : 0 ≤ q' ∧ q' ≤ 18446744073709551615) (htp : 0 ≤ tp' ∧ tp' ≤ 9223372036854775807) (htb : 0 ≤ tb' ∧ tb' ≤ 18446744073709551615) (e1 : tp' = tp + (p' - (ds id).pk)) (e2 : tb' = tb + (q' - (ds id).by_)) :
    AdAt w' base G T room v es bl (updD ds id ⟨p', q', (ds id).most⟩) c tp' tb' := by
  obtain ⟨e0, he0, hi0, -⟩ := entry_of hf
  obtain ⟨n1, n2, n3, n4, n5⟩ := h.ne he0
  rw [hi0] at n1 n2 n3
  refine ⟨hg, h.tab.keep (fun j hj => hk j ?_ ?_), fun e he => ?_, h.inj, h.low, h.cok, by omega, htp.2, htb.1, htb.2, fun e he => ?_, ?_, ?_⟩
  · rcases hj with rfl | hj
    · exact fun x => n2 x.symm
    · exact fun x => n3 (x ▸ hj)
  · rcases hj with rfl | hj
    · exact fun x => n4 x.symm
    · exact fun x => n5 (x ▸ hj)
  · obtain ⟨a, b, d, k⟩ := h.dat e he
    by_cases hi : e.id = id
    · rw [hi, updD_at]
      rw [hi] at a b k
      exact ⟨a, b, hw, ⟨Int.le_trans (by decide) hp'.1, hp'.2⟩, ⟨hq'.1, hq'.2⟩, k.2.2⟩
    · rw [updD_ne _ _ hi]
      refine ⟨a, b, (hk _ (fun x => hi ?_) (h.ne he).1).trans d, k⟩
      have := h.inj e he e0 he0 (by rw [hi0]; exact x)
      rw [this, hi0]
  · by_cases hi : e.id = id
    · rw [hi, updD_at]; exact hp'.1
    · rw [updD_ne _ _ hi]; exact h.nn e he
  · rw [sumD_upd Dt.pk es ds id _ h.tab.so ⟨e0, he0, hi0⟩, e1, h.sp]
  · rw [sumD_upd Dt.by_ es ds id _ h.tab.so ⟨e0, he0, hi0⟩, e2, h.sb]
end
end Go.Proofs.Ytiogfgkfipekbaa
