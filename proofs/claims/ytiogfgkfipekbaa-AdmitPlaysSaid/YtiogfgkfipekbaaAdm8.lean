/-
  Package admit: the table of any flows. Nothing turns below the heap's end. No condition but that there are one to 64 flows.
-/
import Derived.Test.YtiogfgkfipekbaaAdm4
import Derived.Test.YtiogfgkfipekbaaAdm7
import Derived.Test.YtiogfgkfipekbaaOpen16
namespace Go.Proofs.Ytiogfgkfipekbaa
set_option linter.unusedVariables false
set_option linter.unusedSimpArgs false
open Go.ChangeShapes Go.WideShapes Go.ChangeAt Go.RowKit
attribute [local go_sem] alloc_drewN setCell_drewN

theorem alloc_twoF (w : World) (X Y : Obj) : ((w.alloc X).alloc Y).heap[w.heap.size + 1]? = some Y := by
  have := heap_alloc_new (w.alloc X) Y
  simpa using this
theorem below_ontoF {w a b : World} {B : Nat} (h : Below B w a) (k : Below a.heap.size a b) (hB : B ≤ a.heap.size) : Below B w b := h.trans (k.mono hB)
/-- The table of the first i flows, with nothing waiting. -/
structure NtAt (w : World) (B : Nat) (n : Nat) (fs : List Fl) (i : Nat) (v : Value) (es : List FeP) (bl : Int → Nat) : Prop where
  tab : TbAtP w B B n v es
  len : es.length = i
  dat : ∀ e ∈ es, e.x = some ⟨bl e.id, 0, none⟩ ∧ B ≤ bl e.id ∧ ∃ j, j < i ∧ (fs.getD j Fl.nil).id = e.id ∧ DtAt w (bl e.id) ⟨0, 0, (fs.getD j Fl.nil).cp⟩
  all : ∀ j, j < i → ∃ e ∈ es, e.id = (fs.getD j Fl.nil).id
  inj : ∀ e ∈ es, ∀ e' ∈ es, bl e.id = bl e'.id → e.id = e'.id
  one : ∀ j, j < i → ∀ k, k < j → (fs.getD j Fl.nil).id ≠ (fs.getD k Fl.nil).id
theorem mem_isFP {es : List FeP} (hs : (es.map FeP.id).Pairwise (· < ·)) {e : FeP} (he : e ∈ es) : isF (es.map FeP.id) e.id = true ∧ es.getD (lessC (es.map FeP.id) e.id) FeP.nil = e := by
  obtain ⟨i, hi, rfl⟩ := List.getElem_of_mem he
  have hl : (es.map FeP.id).length = es.length := by simp
  obtain ⟨g1, g2⟩ := lessC_at (rise_le hs) (es[i]).id
  have gi : (es.map FeP.id)[i]'(by omega) = (es[i]).id := by simp
  have k : lessC (es.map FeP.id) (es[i]).id = i := by
    rcases Nat.lt_trichotomy i (lessC (es.map FeP.id) (es[i]).id) with h | h | h
    · have := g1 i (by omega) h
      omega
    · exact h.symm
    · have a := g2 (lessC (es.map FeP.id) (es[i]).id) (by omega) (Nat.le_refl _)
      have b := List.pairwise_iff_getElem.1 hs (lessC (es.map FeP.id) (es[i]).id) i (by omega) (by omega) h
      omega
  rw [k]
  have gd : (es.map FeP.id).getD i 0 = (es[i]).id := by rw [List.getD_eq_getElem?_getD, List.getElem?_eq_getElem (by omega), gi]; rfl
  refine ⟨by simp only [isF]; rw [k, gd]; simp [hi], by rw [List.getD_eq_getElem?_getD, List.getElem?_eq_getElem hi]; rfl⟩
set_option maxRecDepth 100000 in
set_option maxHeartbeats 2000000 in
theorem anewT (a : Option Addr) (n c : Nat) (fs : List Fl) (w : World) (hr : RowFl w a n fs) (h1 : 1 ≤ n) (h2 : n ≤ 64) :
    Calls Try.prog 48 #[.slice a n c] w fun e w' => Below w.heap.size w w' ∧ ((∃ j, j < n ∧ ∃ k, k < j ∧ (fs.getD j Fl.nil).id = (fs.getD k Fl.nil).id) ∧ e = .returned (.tuple #[.pointer none, .int .i64 30]) ∨ e = .returned (.tuple #[.pointer (some ⟨w.heap.size, 0, none⟩), .int .i64 0]) ∧ ∃ v es bl, NtAt w' w.heap.size n fs n v es bl) := by
  have NT := Lib.hid (tnewP n (by omega) (by omega) w)
  have HR := Lib.hid hr
  clear hr
  go_enter Try.func48, Try.ntmps48
  go_wp2_with fail
  refine NT.out.mono ?_
  rintro e w1 ⟨rfl, t1, b1⟩
  have T1 := Lib.hid t1
  have B1 := Lib.hid b1
  clear t1 b1 NT
  go_wp2
  go_loopw [27] (fun x wr => ∃ (i : Nat) (v : Value) (es : List FeP) (bl : Int → Nat), x = .int .i64 i ∧ i ≤ n ∧ NtAt wr w.heap.size n fs i v es bl ∧ Below w.heap.size w wr) (fun x _ => n - (intOf x).toNat)
  case atStart =>
    exact ⟨0, _, [], fun _ => 0, rfl, Nat.zero_le _, ⟨T1.out, rfl, fun e he => absurd he List.not_mem_nil, fun j hj => absurd hj (Nat.not_lt_zero _), fun e he => absurd he List.not_mem_nil, fun j hj => absurd hj (Nat.not_lt_zero _)⟩, B1.out⟩
  case round =>
    obtain ⟨i, v, es, bl, rfl, hi, hn, hb⟩ := hrel
    by_cases hlt : i < n
    · obtain ⟨hzl, hzm, hzw, hzc⟩ := HR.out
      obtain ⟨b, off, rfl, hb0, hc⟩ := hzc (by omega)
      obtain ⟨x0, x1, x2, x3, x4⟩ := hc i hlt
      have c0 := (hb.cell (p := ⟨b, off + i * 5, none⟩) hb0).trans x0
      have c1 := (hb.cell (p := ⟨b, off + i * 5 + 1, none⟩) hb0).trans x1
      have c2 := (hb.cell (p := ⟨b, off + i * 5 + 2, none⟩) hb0).trans x2
      have c3 := (hb.cell (p := ⟨b, off + i * 5 + 3, none⟩) hb0).trans x3
      have c4 := (hb.cell (p := ⟨b, off + i * 5 + 4, none⟩) hb0).trans x4
      obtain ⟨F, hF⟩ : ∃ F, fs.getD i Fl.nil = F := ⟨_, rfl⟩
      rw [hF] at c0 c1 c2 c3 c4
      have HF := Lib.hid hF
      obtain ⟨fid, fco, fbu, fsz, fcp⟩ := F
      dsimp only at c0 c1 c2 c3 c4
      have bb : Below wr.heap.size wr ((wr.alloc (.cells #[.int .u32 fid, .int .u64 fco, .int .u64 fbu, .int .u64 fsz, .int .u64 fcp] 100)).alloc (.cells #[.int .i64 0, .int .u64 0, .int .u64 fcp] 118)) := ((Below.refl _ wr).alloc (Nat.le_refl _) _).alloc (by simp) _
      have HN := Lib.hid hn; have HB := Lib.hid hb; have BB := Lib.hid bb
      have TT := hn.tab.below bb
      by_cases hf : isF (es.map FeP.id) fid = true
      · have PH := Lib.hid (tput_thereP TT fid (some ⟨wr.heap.size + 1, 0, none⟩) hf)
        have DUP := Lib.hid (show ∃ j, j < n ∧ ∃ k, k < j ∧ (fs.getD j Fl.nil).id = (fs.getD k Fl.nil).id by
          obtain ⟨e, he, hid, -⟩ := entry_of hf
          obtain ⟨-, -, k, hk, hkid, -⟩ := hn.dat e he
          exact ⟨i, hlt, k, hk, by rw [hF, hkid, hid]⟩)
        clear TT hf hn hb bb hF x0 x1 x2 x3 x4 hc hzc hzw hzl hzm
        go_wp2_with fail
        refine PH.out.mono ?_
        rintro e w3 ⟨rfl, b3⟩
        have B3 := Lib.hid (below_ontoF (below_ontoF HB.out BB.out HB.out.size) b3 (Nat.le_trans HB.out.size BB.out.size))
        clear b3 PH
        go_wp2
        go_ret2
        exact ⟨B3.out, Or.inl ⟨DUP.out, rfl⟩⟩
      · rw [Bool.not_eq_true] at hf
        have PH := Lib.hid (tput_okP TT (Nat.le_trans HB.out.size BB.out.size) fid (some ⟨wr.heap.size + 1, 0, none⟩) hf (by rw [hn.len]; omega))
        have HFF := Lib.hid hf
        clear TT hf hn hb bb hF x0 x1 x2 x3 x4 hc hzc hzw hzl hzm
        go_wp2_with fail
        refine PH.out.mono ?_
        rintro e w3 ⟨rfl, v', t3, m3⟩
        have T3 := Lib.hid t3; have M3 := Lib.hid m3
        clear t3 m3 PH
        go_wp2
        go_roundw
        case rel =>
          have hn := HN.out
          have hfl : (es.take (lessC (es.map FeP.id) fid) ++ ⟨fid, some ⟨wr.heap.size + 1, 0, none⟩⟩ :: es.drop (lessC (es.map FeP.id) fid)).length = i + 1 := by
            rw [List.length_append, List.length_cons, List.length_take, List.length_drop, ← hn.len]
            omega
          have hmem : ∀ e, e ∈ es.take (lessC (es.map FeP.id) fid) ++ ⟨fid, some ⟨wr.heap.size + 1, 0, none⟩⟩ :: es.drop (lessC (es.map FeP.id) fid) ↔ e = ⟨fid, some ⟨wr.heap.size + 1, 0, none⟩⟩ ∨ e ∈ es := by
            intro e
            rw [List.mem_append, List.mem_cons]
            constructor
            · rintro (h | rfl | h)
              · exact Or.inr (List.mem_of_mem_take h)
              · exact Or.inl rfl
              · exact Or.inr (List.mem_of_mem_drop h)
            · rintro (rfl | h)
              · exact Or.inr (Or.inl rfl)
              · rw [← List.take_append_drop (lessC (es.map FeP.id) fid) es, List.mem_append] at h
                rcases h with h | h
                · exact Or.inl h
                · exact Or.inr (Or.inr h)
          have hne : ∀ e ∈ es, e.id ≠ fid := fun e he x => by
            have := (mem_isFP hn.tab.so he).1
            rw [x, HFF.out] at this
            cases this
          have hB : w.heap.size < wr.heap.size := (hn.tab.inlt (Or.inl rfl)).2
          have hbl : ∀ e ∈ es, bl e.id < wr.heap.size ∧ ¬ inTb w.heap.size v (bl e.id) := fun e he => by
            obtain ⟨-, -, k, -, -, hd⟩ := hn.dat e he
            refine ⟨hd.lt, fun hj => ?_⟩
            have ht := hn.tab.blk
            unfold DtAt at hd
            rcases hj with hj | hj
            · rw [hj, ht] at hd; simp at hd
            · exact own_ne_blk (show wr.ownsRow w.heap.size 171 2 v es.length (fesP es) from hn.tab.fe) hd (by decide) hj
          have hnt : ¬ inTb w.heap.size v (wr.heap.size + 1) := fun hj => by
            have := (hn.tab.inlt hj).2
            omega
          have hnew : DtAt w3 (wr.heap.size + 1) ⟨0, 0, fcp⟩ := (M3.out.block (wr.heap.size + 1) (by simp) hnt).trans (alloc_twoF wr _ _)
          refine ⟨i + 1, v', _, fun x => if x = fid then wr.heap.size + 1 else bl x, by go_num, by omega, ⟨T3.out, hfl, fun e he => ?_, fun j hj => ?_, fun e he e' he' hx => ?_, fun j hj k hk => ?_⟩, ?_⟩
          · rcases (hmem e).1 he with rfl | he
            · refine ⟨by simp, ?_, i, by omega, by rw [HF.out], ?_⟩
              · show w.heap.size ≤ (if fid = fid then wr.heap.size + 1 else bl fid)
                rw [if_pos rfl]; omega
              · show DtAt w3 (if fid = fid then wr.heap.size + 1 else bl fid) _
                rw [if_pos rfl, HF.out]; exact hnew
            · obtain ⟨q1, q2, k, q3, q4, q5⟩ := hn.dat e he
              obtain ⟨l1, l2⟩ := hbl e he
              rw [show (if e.id = fid then wr.heap.size + 1 else bl e.id) = bl e.id from if_neg (hne e he)]
              exact ⟨q1, q2, k, by omega, q4, (M3.out.block _ (Nat.lt_of_lt_of_le l1 BB.out.size) l2).trans ((BB.out.block _ l1).trans q5)⟩
          · by_cases e : j = i
            · exact ⟨_, (hmem _).2 (Or.inl rfl), by rw [e, HF.out]⟩
            · obtain ⟨x, hx, hid⟩ := hn.all j (by omega)
              exact ⟨x, (hmem x).2 (Or.inr hx), hid⟩
          · rcases (hmem e).1 he with rfl | he <;> rcases (hmem e').1 he' with rfl | he'
            · rfl
            · rw [if_pos rfl, if_neg (hne e' he')] at hx
              have := (hbl e' he').1
              omega
            · rw [if_pos rfl, if_neg (hne e he)] at hx
              have := (hbl e he).1
              omega
            · rw [if_neg (hne e he), if_neg (hne e' he')] at hx
              exact hn.inj e he e' he' hx
          · by_cases e : j = i
            · subst e
              obtain ⟨x, hx, hid⟩ := hn.all k hk
              rw [HF.out, ← hid]
              exact fun h => hne x hx h.symm
            · exact hn.one j (by omega) k hk
          · exact M3.out.below (below_ontoF HB.out BB.out HB.out.size) (fun j hj => (hn.tab.inlt hj).1) (Nat.le_trans HB.out.size BB.out.size)
        case measure => simp [intOf] <;> omega
    · obtain rfl : i = n := by omega
      have HN := Lib.hid hn; have HB := Lib.hid hb
      clear hn hb
      go_wp2
      go_ret2
      exact ⟨HB.out, Or.inr ⟨rfl, v, es, bl, HN.out⟩⟩
end Go.Proofs.Ytiogfgkfipekbaa
